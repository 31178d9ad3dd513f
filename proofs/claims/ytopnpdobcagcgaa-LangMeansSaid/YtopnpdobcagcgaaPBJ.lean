/-
  The walk of LangMeans: what each kind has: words behind words, either's, any number. The given row lies in a text of its own.
-/
import Derived.Test.YtopnpdobcagcgaaPBI
namespace Go.Proofs.Ytopnpdobcagcgaa
open Go.RowKit
set_option linter.unusedSimpArgs false
set_option linter.unusedVariables false
noncomputable def catJ (x y : T) (W : List UInt8) : Nat → Bool
 | 0 => false
 | j + 1 => catJ x y W j || (lgB x (W.take j) && lgB y (W.drop j))
noncomputable def starJ (x : T) (W : List UInt8) : Nat → Bool
 | 0 => ((W.length : Int) == 0)
 | j + 1 => starJ x W j || ((decide (0 < (j : Int)) && lgB x (W.take j)) && lgB (starT x) (W.drop j))
theorem catJ_iff {x y : T} {W : List UInt8} : ∀ j, catJ x y W j = true ↔ ∃ i, i < j ∧ Lg x (W.take i) ∧ Lg y (W.drop i)
 | 0 => by simp [catJ]
 | j + 1 => by
  rw [catJ, Bool.or_eq_true, Bool.and_eq_true, catJ_iff j, lgB_iff, lgB_iff]
  constructor
  ·rintro (⟨i, h1, h2⟩ | h)
   ·exact ⟨i, by omega, h2⟩
   ·exact ⟨j, by omega, h⟩
  ·rintro ⟨i, h1, h2⟩
   rcases Nat.lt_or_ge i j with h | h
   ·exact .inl ⟨i, h, h2⟩
   ·obtain rfl : i = j := by omega
    exact .inr h2
theorem starJ_iff {x : T} {W : List UInt8} : ∀ j, starJ x W j = true ↔ W = [] ∨ ∃ i, i < j ∧ 0 < i ∧ Lg x (W.take i) ∧ Lg (starT x) (W.drop i)
 | 0 => by
  rw [starJ]
  cases W with
  | nil => simp
  | cons b r => simp; omega
 | j + 1 => by
  rw [starJ, Bool.or_eq_true, Bool.and_eq_true, Bool.and_eq_true, starJ_iff j, lgB_iff, lgB_iff, decide_eq_true_eq]
  constructor
  ·rintro ((h | ⟨i, h1, h2⟩) | ⟨⟨h0, h1⟩, h2⟩)
   ·exact .inl h
   ·exact .inr ⟨i, by omega, h2⟩
   ·exact .inr ⟨j, by omega, by omega, h1, h2⟩
  ·rintro (h | ⟨i, h1, h2, h3, h4⟩)
   ·exact .inl (.inl h)
   rcases Nat.lt_or_ge i j with h | h
   ·exact .inl (.inr ⟨i, h, h2, h3, h4⟩)
   ·obtain rfl : i = j := by omega
    exact .inr ⟨⟨by omega, h3⟩, h4⟩
theorem cat_means (x y : T) (W : List UInt8) : lgB (catT [x, y]) W = catJ x y W (W.length + 1) := by
 refine lgB_of ?_
 rw [catJ_iff, lg_catT]
 simp only [LgC]
 constructor
 ·rintro ⟨i, h1, h2, h3⟩
  exact ⟨W.take i, W.drop i, (List.take_append_drop i W).symm, h2, W.drop i, [], by simp, h3, rfl⟩
 ·rintro ⟨u, v, rfl, hu, a, b, rfl, ha, rfl⟩
  exact ⟨u.length, by simp only [List.length_append]; omega, by simpa using hu, by simpa using ha⟩
theorem alt_means {x y : T} (hx : good x) (hy : good y) (W : List UInt8) : lgB (altT [x, y]) W = (lgB x W || lgB y W) := by
 refine lgB_of ?_
 rw [lg_altT (by intro t ht; simp at ht; rcases ht with rfl | rfl <;> assumption), Bool.or_eq_true, lgB_iff, lgB_iff]
 simp only [LgA, or_false]
theorem starL_cut {P : List UInt8 → Prop} {W : List UInt8} (h : StarL P W) : W = [] ∨ ∃ i, i < W.length + 1 ∧ 0 < i ∧ P (W.take i) ∧ StarL P (W.drop i) := by
 induction h with
 | nil => exact .inl rfl
 | @app u v hu hv ih =>
  cases u with
  | nil => exact ih
  | cons b r => exact .inr ⟨(b :: r).length, by simp only [List.length_append]; omega, by simp, by simpa using hu, by simpa using hv⟩
theorem star_means {x : T} (hx : good x) (W : List UInt8) : lgB (starT x) W = starJ x W (W.length + 1) := by
 refine lgB_of ?_
 rw [starJ_iff, lg_starT hx]
 constructor
 ·rintro (rfl | ⟨i, h1, h2, h3, h4⟩)
  ·exact .nil
  ·rw [lg_starT hx] at h4
   have := StarL.app h3 h4
   rwa [List.take_append_drop] at this
 ·intro h
  rcases starL_cut h with h | ⟨i, h1, h2, h3, h4⟩
  ·exact .inl h
  ·exact .inr ⟨i, h1, h2, h3, (lg_starT hx _).2 h4⟩
theorem gt_at {ev : Operand → Value} {o : Oper} (x : Operand) (ho : o.op = .binOp .gtr 3 x (.const (.int .i64 0)) 3) {j : Nat} (hx : ev x = .int .i64 (j : Int)) (hc : ev (.const (.int .i64 0)) = .int .i64 0) {b : Bool} (hb : decide ((0 : Int) < (j : Int)) = b) (W : World) : (execOp ev o).run Try.prog W = .ok (.value (.bool b)) W := by
 subst hb
 simp only [execOp, ho, hx, hc]
 go_simp
set_option maxHeartbeats 16000000 in
set_option maxRecDepth 1000000 in
theorem langMeans_walk (V V2 V3 : Value) (ps qs rs : List UInt8) (w : World) (hr : Row w V (bvs ps)) (hr2 : Row w V2 (bvs qs)) (hr3 : Row w V3 (bvs rs)) :
  Calls Try.prog 4 #[V, V2, V3] w fun e w' => e = .returned (.bool true) ∧ Below w.heap.size w w' := by
 have R := Lib.hid hr
 have R2 := Lib.hid hr2
 have R3 := Lib.hid hr3
 obtain ⟨A, cap, rfl, _⟩ := hr
 obtain ⟨A2, cap2, rfl, _⟩ := hr2
 obtain ⟨A3, cap3, rfl, _⟩ := hr3
 have hbl : (bvs ps).length = ps.length := bvs_length ps
 have hbl2 : (bvs qs).length = qs.length := bvs_length qs
 have hbl3 : (bvs rs).length = rs.length := bvs_length rs
 rw [hbl] at R ⊢
 rw [hbl2] at R2 ⊢
 rw [hbl3] at R3 ⊢
 clear hbl hbl2 hbl3
 by_cases h40 : 40 < ps.length
 ·have i1 : (40 : Int) < (ps.length : Int) := by omega
  have d1 : decide ((40 : Int) < (ps.length : Int)) = true := decide_eq_true i1
  clear h40
  go_enter Try.func4, Try.ntmps4
  go_wp2_with fail
  refine (begun_any w).mono ?_
  rintro e w1 ⟨rfl, hb⟩
  have B1 := Lib.hid hb
  clear hb
  go_wp2_with fail
  go_ret
  exact ⟨rfl, B1.out⟩
 have i1 : ¬ ((40 : Int) < (ps.length : Int)) := by omega
 have d1 : decide ((40 : Int) < (ps.length : Int)) = false := decide_eq_false i1
 by_cases h41 : 40 < qs.length
 ·have i2 : (40 : Int) < (qs.length : Int) := by omega
  have d2 : decide ((40 : Int) < (qs.length : Int)) = true := decide_eq_true i2
  clear h41 h40
  go_enter Try.func4, Try.ntmps4
  go_wp2_with fail
  refine (begun_any w).mono ?_
  rintro e w1 ⟨rfl, hb⟩
  have B1 := Lib.hid hb
  clear hb
  go_wp2_with fail
  go_ret
  exact ⟨rfl, B1.out⟩
 have i2 : ¬ ((40 : Int) < (qs.length : Int)) := by omega
 have d2 : decide ((40 : Int) < (qs.length : Int)) = false := decide_eq_false i2
 by_cases h20 : 20 < rs.length
 ·have i3 : (20 : Int) < (rs.length : Int) := by omega
  have d3 : decide ((20 : Int) < (rs.length : Int)) = true := decide_eq_true i3
  clear h20 h40 h41
  go_enter Try.func4, Try.ntmps4
  go_wp2_with fail
  refine (begun_any w).mono ?_
  rintro e w1 ⟨rfl, hb⟩
  have B1 := Lib.hid hb
  clear hb
  go_wp2_with fail
  go_ret
  exact ⟨rfl, B1.out⟩
 have i3 : ¬ ((20 : Int) < (rs.length : Int)) := by omega
 have d3 : decide ((20 : Int) < (rs.length : Int)) = false := decide_eq_false i3
 have HL := Lib.hid (show ps.length ≤ 40 by omega)
 have HL2 := Lib.hid (show qs.length ≤ 40 by omega)
 have HL3 := Lib.hid (show rs.length ≤ 20 by omega)
 obtain ⟨x, hx⟩ : ∃ t, t = madeT ps := ⟨_, rfl⟩
 obtain ⟨y, hy⟩ : ∃ t, t = madeT qs := ⟨_, rfl⟩
 have HTX := Lib.hid hx
 have HTY := Lib.hid hy
 have HGX := Lib.hid (show good x by rw [hx]; exact madeT_good ps)
 have HGY := Lib.hid (show good y by rw [hy]; exact madeT_good qs)
 have HXF := Lib.hid (show x.nodes ≤ 161 by rw [hx]; have := madeT_few ps; omega)
 have HYF := Lib.hid (show y.nodes ≤ 161 by rw [hy]; have := madeT_few qs; omega)
 have HX2 := Lib.hid (show x.nodes ≤ 2000 from Nat.le_trans HXF.out (by decide))
 have HX3 := Lib.hid (show x.nodes ≤ 274877906944 from Nat.le_trans HXF.out (by decide))
 have HY2 := Lib.hid (show y.nodes ≤ 2000 from Nat.le_trans HYF.out (by decide))
 have hnl : nodesL [x, y] ≤ 322 := by have h1 := HXF.out; have h2 := HYF.out; simp only [nodesL]; omega
 have HN2 := Lib.hid (show nodesL [x, y] ≤ 549755813888 by omega)
 have HN3 := Lib.hid (show nodesL [x, y] ≤ 549755813887 by omega)
 have HCT := Lib.hid (show (catT [x, y]).nodes ≤ 2000 by have := catT_nodes [x, y]; omega)
 have HAT := Lib.hid (show (altT [x, y]).nodes ≤ 2000 by have := altT_nodes [x, y]; omega)
 have HST := Lib.hid (show (starT x).nodes ≤ 2000 by have h1 := star_nodes x; have h2 := HXF.out; omega)
 obtain ⟨i0, hi0, hz0, hz1, hz2⟩ := inf_rx'
 have HZ1 := Lib.hid hz0
 obtain ⟨z, hz⟩ : ∃ z, z = rxc 0 zeroS (.slice none 0 0) := ⟨_, rfl⟩
 have HZL := Lib.hid (show z.length = 6 by rw [hz]; rfl)
 have HZ0 := Lib.hid (show i0.zero = some (.agg z.toArray) by rw [hz]; exact hz0)
 clear hz hz0 h40 h41 h20 hx hy hnl
 go_enter Try.func4, Try.ntmps4
 go_wp2_with fail
 refine (begun_any w).mono ?_
 rintro e w1 ⟨rfl, hb⟩
 have B1 := Lib.hid hb
 clear hb
 go_wp2_with fail
 refine (made_any _ ps w1 (R.out.below B1.out) (by have := HL.out; omega)).mono ?_
 rintro e w2 ⟨rfl, hb, hp⟩
 have P2 := Lib.hid hp
 have B2 := Lib.hid (B1.out.trans (hb.mono B1.out.size))
 have S1w := Lib.hid B1.out.size
 clear hb hp
 go_wp2_with fail
 refine (pickRx_any w1.heap.size _ ps w2 P2.out).mono ?_
 rintro e w3 ⟨cs, rfl, hcs, hg⟩
 have B3 := Lib.hid (B2.out.trans ((grown_belowG hg P2.out.blk.lt).mono S1w.out))
 rw [← HTX.out] at hcs
 have X3 := Lib.hid (show RxV w3.heap.size w3 cs x from RxD.mono hcs fun k hk => hk.2)
 have C6 := Lib.hid hcs.length
 have C1 := Lib.hid (show cs.all (·.oneCell') = true from List.all_eq_true.2 (RxD.one hcs))
 clear hcs hg P2 S1w
 go_wp2_with fail
 refine (made_any _ qs w3 (R2.out.below B3.out) (by have := HL2.out; omega)).mono ?_
 rintro e w4 ⟨rfl, hb, hp⟩
 have P4 := Lib.hid hp
 have B4 := Lib.hid hb
 clear hb hp
 go_wp2_with fail
 refine (pickRx_any w3.heap.size _ qs w4 P4.out).mono ?_
 rintro e w5 ⟨ds, rfl, hds, hg⟩
 have G5 := Lib.hid (B4.out.trans (grown_belowG hg P4.out.blk.lt))
 have B5 := Lib.hid (B3.out.trans (G5.out.mono B3.out.size))
 rw [← HTY.out] at hds
 have D6 := Lib.hid hds.length
 have D1 := Lib.hid (show ds.all (·.oneCell') = true from List.all_eq_true.2 (RxD.one hds))
 have Y5 := Lib.hid (show RxV w5.heap.size w5 ds y from RxD.mono hds fun k hk => hk.2)
 have X5 := Lib.hid (RxV.mono (X3.out.stay G5.out) G5.out.size)
 clear hds hg P4 B4 G5 X3
 go_wp2_with fail
 refine (made_any _ rs w5 (R3.out.below B5.out) (by have := HL3.out; omega)).mono ?_
 rintro e w6 ⟨rfl, hb, hp⟩
 have P6 := Lib.hid hp
 have B6 := Lib.hid hb
 clear hb hp
 go_wp2_with fail
 refine (pickWord_any w5.heap.size _ rs 0 8 (by decide) w6 P6.out).mono ?_
 rintro e w7 ⟨v6, W, rfl, hr6, hw6, hg⟩
 have G7 := Lib.hid (B6.out.trans (grown_belowG hg P6.out.blk.lt))
 have B7 := Lib.hid (B5.out.trans (G7.out.mono B5.out.size))
 have X7 := Lib.hid (RxV.mono (X5.out.stay G7.out) G7.out.size)
 have Y7 := Lib.hid (RxV.mono (Y5.out.stay G7.out) G7.out.size)
 have R7 := Lib.hid hr6
 have HW := Lib.hid hw6
 have HW2 := Lib.hid (show W.length ≤ 200 by omega)
 clear hr6 hw6 hg P6 B6 G7
 obtain ⟨A6, cap6, rfl, e1, e2, e0, e3⟩ := R7.out
 have hbw : (bvs W).length = W.length := bvs_length W
 rw [hbw] at R7 e1 ⊢
 have HCAP := Lib.hid e1
 clear e1 e2 e0 e3 hbw
 go_wp2_with (first
  | ((with_reducible refine atDst 7 ?_); refine wpList_new rfl 27 rfl i0 _ z hi0 HZ0.out rfl (Below.refl w7.heap.size w7) (Nat.le_refl _) ?_; intro w8 hk hb hs ho; have L8 := Lib.hid hk; have B8 := Lib.hid hb; clear hk hb hs ho; (try simp only [Act.put, qA, qB, qC]))
  | ((with_reducible refine atDst 8 ?_); refine wpList_new rfl 27 rfl i0 _ z hi0 HZ0.out rfl (Below.refl w8.heap.size w8) (Nat.le_refl _) ?_; intro w9 hk hb hs ho; have M9 := Lib.hid hk; have L9 := Lib.hid (L8.out.below hb L8.out.lt); have B9 := Lib.hid (B8.out.trans (hb.mono B8.out.size)); have NE := Lib.hid (show w7.heap.size ≠ w8.heap.size from Nat.ne_of_lt L8.out.lt); clear hk hb hs ho; (try simp only [Act.put, qA, qB, qC]))
  | ((with_reducible refine atStore 27 7 31 ?_); refine wpList_stBlk rfl 27 _ _ rfl w7.heap.size cs rfl rfl 27 _ L9.out (size_rx C6.out) (by rw [HZL.out, C6.out]) C1.out B9.out (Nat.le_refl _) ?_; intro w10 hk hb hs ho; have L10 := Lib.hid hk; have B10 := Lib.hid hb; have M10 := Lib.hid (show Blk w10 w8.heap.size 27 z from (ho _ (Ne.symm NE.out)).trans M9.out); clear hk hb hs ho; (try simp only [Act.put, qA, qB, qC]))
  | ((with_reducible refine atStore 27 8 34 ?_); refine wpList_stBlk rfl 27 _ _ rfl w8.heap.size ds rfl rfl 27 _ M10.out (size_rx D6.out) (by rw [HZL.out, D6.out]) D1.out B10.out (Nat.le_of_lt L8.out.lt) ?_; intro w11 hk hb hs ho; have M11 := Lib.hid hk; have L11 := Lib.hid (show Blk w11 w7.heap.size 27 cs from (ho _ NE.out).trans L10.out); have B11 := Lib.hid (B7.out.trans (hb.mono B7.out.size)); have X11 := Lib.hid (RxV.mono (X7.out.stay hb) hb.size); have Y11 := Lib.hid (RxV.mono (Y7.out.stay hb) hb.size); have R11 := Lib.hid (R7.out.below hb); clear hk hb hs ho; (try simp only [Act.put, qA, qB, qC])))
 clear X7 Y7 R7 B7 B8 B9 B10 L9 L10 M9 M10 X5 Y5 B5 B3 B2
 go_loopw [10, 11, 12] (fun c s i wl => ∃ (j : Nat), j ≤ W.length + 1 ∧ i = .int .i64 (j : Int) ∧ c = .bool (catJ x y W j) ∧ s = .bool (starJ x W j) ∧ Below w11.heap.size w11 wl) (fun _ _ i _ => W.length + 1 - (intOf i).toNat)
 case atStart => exact ⟨0, Nat.zero_le _, by simp, rfl, rfl, Below.refl _ _⟩
 case round =>
  obtain ⟨j, hj, rfl, rfl, rfl, hb⟩ := hrel
  have BX := Lib.hid hb
  have LR := Lib.hid (L11.out.below hb L11.out.lt)
  have MR := Lib.hid (M11.out.below hb M11.out.lt)
  have XR := Lib.hid (RxV.mono (X11.out.stay hb) hb.size)
  have YR := Lib.hid (RxV.mono (Y11.out.stay hb) hb.size)
  have RR := Lib.hid (R11.out.below hb)
  have BRW := Lib.hid (B11.out.trans (hb.mono B11.out.size))
  clear hb
  by_cases hjl : j ≤ W.length
  ·have LX := LR
   have MX := MR
   have XX := XR
   have YX := YR
   have RX := RR
   clear LR MR XR YR RR
   have j1 : (j : Int) ≤ (W.length : Int) := Int.ofNat_le.2 hjl
   have HJL := Lib.hid hjl
   have HJ1 := Lib.hid (show j + 1 ≤ W.length + 1 by omega)
   have HMS := Lib.hid (sub_next (show j < W.length + 1 by omega))
   have HJC := Lib.hid (show j ≤ cap6 from Nat.le_trans hjl HCAP.out)
   have HWT := Lib.hid (show (W.take j).length ≤ 200 by rw [List.length_take]; have := HW2.out; omega)
   have HWD := Lib.hid (show (W.drop j).length ≤ 200 by rw [List.length_drop]; have := HW2.out; omega)
   have hj62 : j ≤ 4611686018427387904 := by have := HW2.out; omega
   have HE3 := Lib.hid (wrap_one j hj62)
   have HE4 := Lib.hid (wrap_one' j hj62)
   obtain ⟨c, hc⟩ : ∃ c, c = catJ x y W j := ⟨_, rfl⟩
   obtain ⟨s, hs⟩ : ∃ s, s = starJ x W j := ⟨_, rfl⟩
   obtain ⟨ix, hix⟩ : ∃ s, s = lgB x (W.take j) := ⟨_, rfl⟩
   obtain ⟨iy, hiy⟩ : ∃ s, s = lgB y (W.drop j) := ⟨_, rfl⟩
   obtain ⟨iz, hiz⟩ : ∃ s, s = lgB (starT x) (W.drop j) := ⟨_, rfl⟩
   have HC := Lib.hid hc
   have HS := Lib.hid hs
   have HIX := Lib.hid hix
   have HIY := Lib.hid hiy
   have HIZ := Lib.hid hiz
   rw [← hc, ← hs]
   clear hc hs hix hiy hiz hj hjl hj62
   go_wp2_with fail
   refine sg_start (S := fun V => wr.grownBy V none) (by kernel_rfl) (grown_start _ _) (fun wd hwd => ?_)
   have hX : wr.grownBy wd none := by rw [hwd]; exact grown_start _ _
   have hwb : Below wr.heap.size wr wd := by rw [hwd]; exact (Below.refl _ _).drew
   clear hwd
   have HRX := Lib.hid (show wr.rangeAt w7.heap.size 0 cs from fun i v hv => (LX.out.cell (0 + i)).trans (by rw [Nat.zero_add]; exact hv))
   have HRY := Lib.hid (show wr.rangeAt w8.heap.size 0 ds from fun i v hv => (MX.out.cell (0 + i)).trans (by rw [Nat.zero_add]; exact hv))
   by_cases hcc : c = true
   ·subst hcc
    have HCN := Lib.hid (show Value.bool true = Value.bool (catJ x y W (j + 1)) by rw [catJ, ← HC.out]; rfl)
    refine sg_take (i := 0) (oi := ⟨some 47, _, _, _, _, _⟩) (v := ?_) rfl (by kernel_rfl) (by kernel_rfl) (by kernel_rfl) (fun _ _ _ h => h) rfl hX ?_ ?_; rotate_left; (intro W hW; go_simp; try with_reducible rfl); simp only [Act.put, qA, qB, qC]
    refine sg_take (i := 1) (oi := ⟨some 48, _, _, _, _, _⟩) (v := ?_) rfl (by kernel_rfl) (by kernel_rfl) (by kernel_rfl) (fun _ _ _ h => h) rfl hX ?_ ?_; rotate_left; (intro W hW; go_simp; try with_reducible rfl); simp only [Act.put, qA, qB, qC]
    refine sg_skip (i := 2) (oi := ⟨some 49, _, _, _, _, _⟩) rfl (by kernel_rfl) (by kernel_rfl) (by kernel_rfl) (fun _ _ _ h => h) rfl hX ?_; simp only [Act.put, qA, qB, qC]
    refine sg_skip (i := 3) (oi := ⟨some 50, _, _, _, _, _⟩) rfl (by kernel_rfl) (by kernel_rfl) (by kernel_rfl) (fun _ _ _ h => h) rfl hX ?_; simp only [Act.put, qA, qB, qC]
    refine sg_skip (i := 4) (oi := ⟨some 51, _, _, _, _, _⟩) rfl (by kernel_rfl) (by kernel_rfl) (by kernel_rfl) (fun _ _ _ h => h) rfl hX ?_; simp only [Act.put, qA, qB, qC]
    refine sg_skip (i := 5) (oi := ⟨some 52, _, _, _, _, _⟩) rfl (by kernel_rfl) (by kernel_rfl) (by kernel_rfl) (fun _ _ _ h => h) rfl hX ?_; simp only [Act.put, qA, qB, qC]
    refine sg_skip (i := 6) (oi := ⟨some 53, _, _, _, _, _⟩) rfl (by kernel_rfl) (by kernel_rfl) (by kernel_rfl) (fun _ _ _ h => h) rfl hX ?_; simp only [Act.put, qA, qB, qC]
    refine sg_skip (i := 7) (oi := ⟨some 54, _, _, _, _, _⟩) rfl (by kernel_rfl) (by kernel_rfl) (by kernel_rfl) (fun _ _ _ h => h) rfl hX ?_; simp only [Act.put, qA, qB, qC]
    refine sg_skip (i := 8) (oi := ⟨some 55, _, _, _, _, _⟩) rfl (by kernel_rfl) (by kernel_rfl) (by kernel_rfl) (fun _ _ _ h => h) rfl hX ?_; simp only [Act.put, qA, qB, qC]
    refine sg_skip (i := 9) (oi := ⟨some 56, _, _, _, _, _⟩) rfl (by kernel_rfl) (by kernel_rfl) (by kernel_rfl) (fun _ _ _ h => h) rfl hX ?_; simp only [Act.put, qA, qB, qC]
    refine sg_skip (i := 10) (oi := ⟨some 57, _, _, _, _, _⟩) rfl (by kernel_rfl) (by kernel_rfl) (by kernel_rfl) (fun _ _ _ h => h) rfl hX ?_; simp only [Act.put, qA, qB, qC]
    refine sg_skip (i := 11) (oi := ⟨some 58, _, _, _, _, _⟩) rfl (by kernel_rfl) (by kernel_rfl) (by kernel_rfl) (fun _ _ _ h => h) rfl hX ?_; simp only [Act.put, qA, qB, qC]
    refine sg_skip (i := 12) (oi := ⟨some 59, _, _, _, _, _⟩) rfl (by kernel_rfl) (by kernel_rfl) (by kernel_rfl) (fun _ _ _ h => h) rfl hX ?_; simp only [Act.put, qA, qB, qC]
    refine sg_skip (i := 13) (oi := ⟨some 60, _, _, _, _, _⟩) rfl (by kernel_rfl) (by kernel_rfl) (by kernel_rfl) (fun _ _ _ h => h) rfl hX ?_; simp only [Act.put, qA, qB, qC]
    refine sg_take (i := 14) (oi := ⟨some 61, _, _, _, _, _⟩) (v := ?_) rfl (by kernel_rfl) (by kernel_rfl) (by kernel_rfl) (fun _ _ _ h => h) rfl hX ?_ ?_; rotate_left; (intro W hW; go_simp; try with_reducible rfl); simp only [Act.put, qA, qB, qC]
    refine sg_take (i := 15) (oi := ⟨some 10, _, _, _, _, _⟩) (v := ?_) rfl (by kernel_rfl) (by kernel_rfl) (by kernel_rfl) (fun _ _ _ h => h) rfl hX ?_ ?_; rotate_left; (intro W hW; go_simp; try with_reducible rfl); simp only [Act.put, qA, qB, qC]
    refine wpAnyH_done (by kernel_rfl) ?_ _
    have BV := Lib.hid hwb
    clear hX hwb
    have LV := Lib.hid (LX.out.below BV.out LX.out.lt)
    have XV := Lib.hid (RxV.mono (XX.out.stay BV.out) BV.out.size)
    have RV := Lib.hid (RX.out.below BV.out)
    have BXV := Lib.hid (BX.out.trans (BV.out.mono BX.out.size))
    go_wp2_with fail
    refine sg_start (S := fun V => wd.grownBy V none) (by kernel_rfl) (grown_start _ _) (fun we hwe => ?_)
    have hX : wd.grownBy we none := by rw [hwe]; exact grown_start _ _
    have hwb : Below wd.heap.size wd we := by rw [hwe]; exact (Below.refl _ _).drew
    clear hwe
    obtain ⟨iq, hiq⟩ : ∃ s, s = lgB x (W.take j) := ⟨_, rfl⟩
    have HIX := Lib.hid hiq
    clear hiq
    have HRE := Lib.hid (show wd.rangeAt w7.heap.size 0 cs from fun i v hv => (LV.out.cell (0 + i)).trans (by rw [Nat.zero_add]; exact hv))
    by_cases hs : s = true
    ·subst hs
     have HSN := Lib.hid (show Value.bool true = Value.bool (starJ x W (j + 1)) by rw [starJ, ← HS.out]; rfl)
     refine sg_take (i := 0) (oi := ⟨some 62, _, _, _, _, _⟩) (v := ?_) rfl (by kernel_rfl) (by kernel_rfl) (by kernel_rfl) (fun _ _ _ h => h) rfl hX ?_ ?_; rotate_left; (intro W hW; go_simp; try with_reducible rfl); simp only [Act.put, qA, qB, qC]
     refine sg_take (i := 1) (oi := ⟨some 63, _, _, _, _, _⟩) (v := ?_) rfl (by kernel_rfl) (by kernel_rfl) (by kernel_rfl) (fun _ _ _ h => h) rfl hX ?_ ?_; rotate_left; (intro W hW; go_simp; try with_reducible rfl); simp only [Act.put, qA, qB, qC]
     refine sg_skip (i := 2) (oi := ⟨some 64, _, _, _, _, _⟩) rfl (by kernel_rfl) (by kernel_rfl) (by kernel_rfl) (fun _ _ _ h => h) rfl hX ?_; simp only [Act.put, qA, qB, qC]
     refine sg_skip (i := 3) (oi := ⟨some 65, _, _, _, _, _⟩) rfl (by kernel_rfl) (by kernel_rfl) (by kernel_rfl) (fun _ _ _ h => h) rfl hX ?_; simp only [Act.put, qA, qB, qC]
     refine sg_skip (i := 4) (oi := ⟨some 66, _, _, _, _, _⟩) rfl (by kernel_rfl) (by kernel_rfl) (by kernel_rfl) (fun _ _ _ h => h) rfl hX ?_; simp only [Act.put, qA, qB, qC]
     refine sg_skip (i := 5) (oi := ⟨some 67, _, _, _, _, _⟩) rfl (by kernel_rfl) (by kernel_rfl) (by kernel_rfl) (fun _ _ _ h => h) rfl hX ?_; simp only [Act.put, qA, qB, qC]
     refine sg_skip (i := 6) (oi := ⟨some 68, _, _, _, _, _⟩) rfl (by kernel_rfl) (by kernel_rfl) (by kernel_rfl) (fun _ _ _ h => h) rfl hX ?_; simp only [Act.put, qA, qB, qC]
     refine sg_skip (i := 7) (oi := ⟨some 69, _, _, _, _, _⟩) rfl (by kernel_rfl) (by kernel_rfl) (by kernel_rfl) (fun _ _ _ h => h) rfl hX ?_; simp only [Act.put, qA, qB, qC]
     refine sg_skip (i := 8) (oi := ⟨some 70, _, _, _, _, _⟩) rfl (by kernel_rfl) (by kernel_rfl) (by kernel_rfl) (fun _ _ _ h => h) rfl hX ?_; simp only [Act.put, qA, qB, qC]
     refine sg_skip (i := 9) (oi := ⟨some 71, _, _, _, _, _⟩) rfl (by kernel_rfl) (by kernel_rfl) (by kernel_rfl) (fun _ _ _ h => h) rfl hX ?_; simp only [Act.put, qA, qB, qC]
     refine sg_skip (i := 10) (oi := ⟨some 72, _, _, _, _, _⟩) rfl (by kernel_rfl) (by kernel_rfl) (by kernel_rfl) (fun _ _ _ h => h) rfl hX ?_; simp only [Act.put, qA, qB, qC]
     refine sg_skip (i := 11) (oi := ⟨some 73, _, _, _, _, _⟩) rfl (by kernel_rfl) (by kernel_rfl) (by kernel_rfl) (fun _ _ _ h => h) rfl hX ?_; simp only [Act.put, qA, qB, qC]
     refine sg_skip (i := 12) (oi := ⟨some 74, _, _, _, _, _⟩) rfl (by kernel_rfl) (by kernel_rfl) (by kernel_rfl) (fun _ _ _ h => h) rfl hX ?_; simp only [Act.put, qA, qB, qC]
     refine sg_skip (i := 13) (oi := ⟨some 75, _, _, _, _, _⟩) rfl (by kernel_rfl) (by kernel_rfl) (by kernel_rfl) (fun _ _ _ h => h) rfl hX ?_; simp only [Act.put, qA, qB, qC]
     refine sg_skip (i := 14) (oi := ⟨some 76, _, _, _, _, _⟩) rfl (by kernel_rfl) (by kernel_rfl) (by kernel_rfl) (fun _ _ _ h => h) rfl hX ?_; simp only [Act.put, qA, qB, qC]
     refine sg_skip (i := 15) (oi := ⟨some 77, _, _, _, _, _⟩) rfl (by kernel_rfl) (by kernel_rfl) (by kernel_rfl) (fun _ _ _ h => h) rfl hX ?_; simp only [Act.put, qA, qB, qC]
     refine sg_skip (i := 16) (oi := ⟨some 78, _, _, _, _, _⟩) rfl (by kernel_rfl) (by kernel_rfl) (by kernel_rfl) (fun _ _ _ h => h) rfl hX ?_; simp only [Act.put, qA, qB, qC]
     refine sg_skip (i := 17) (oi := ⟨some 79, _, _, _, _, _⟩) rfl (by kernel_rfl) (by kernel_rfl) (by kernel_rfl) (fun _ _ _ h => h) rfl hX ?_; simp only [Act.put, qA, qB, qC]
     refine sg_skip (i := 18) (oi := ⟨some 80, _, _, _, _, _⟩) rfl (by kernel_rfl) (by kernel_rfl) (by kernel_rfl) (fun _ _ _ h => h) rfl hX ?_; simp only [Act.put, qA, qB, qC]
     refine sg_take (i := 19) (oi := ⟨some 81, _, _, _, _, _⟩) (v := ?_) rfl (by kernel_rfl) (by kernel_rfl) (by kernel_rfl) (fun _ _ _ h => h) rfl hX ?_ ?_; rotate_left; (intro W hW; go_simp; try with_reducible rfl); simp only [Act.put, qA, qB, qC]
     refine sg_take (i := 20) (oi := ⟨some 11, _, _, _, _, _⟩) (v := ?_) rfl (by kernel_rfl) (by kernel_rfl) (by kernel_rfl) (fun _ _ _ h => h) rfl hX ?_ ?_; rotate_left; (intro W hW; go_simp; try with_reducible rfl); simp only [Act.put, qA, qB, qC]
     refine wpAnyH_done (by kernel_rfl) ?_ _
     have BE := Lib.hid (BXV.out.trans (hwb.mono BXV.out.size))
     clear hX hwb
     have e3 := HE3.out
     have e4 := HE4.out
     go_wp2_with fail
     exact ⟨⟨j + 1, HJ1.out, by congr 1, HCN.out, HSN.out, BE.out⟩, by simpa [intOf] using HMS.out⟩
    obtain rfl : s = false := by simpa using hs
    clear hs
    by_cases hj0 : j = 0
    ·have z0 : decide ((0 : Int) < (j : Int)) = false := decide_eq_false (by omega)
     have HSN := Lib.hid (show Value.bool false = Value.bool (starJ x W (j + 1)) by rw [starJ, ← HS.out, z0]; rfl)
     clear hj0
     refine sg_take (i := 0) (oi := ⟨some 62, _, _, _, _, _⟩) (v := ?_) rfl (by kernel_rfl) (by kernel_rfl) (by kernel_rfl) (fun _ _ _ h => h) rfl hX ?_ ?_; rotate_left; (intro W hW; go_simp; try with_reducible rfl); simp only [Act.put, qA, qB, qC]
     refine sg_take (i := 1) (oi := ⟨some 63, _, _, _, _, _⟩) (v := ?_) rfl (by kernel_rfl) (by kernel_rfl) (by kernel_rfl) (fun _ _ _ h => h) rfl hX ?_ ?_; rotate_left; (intro W hW; go_simp; try with_reducible rfl); simp only [Act.put, qA, qB, qC]
     refine sg_take (i := 2) (oi := ⟨some 64, _, _, _, _, _⟩) (v := ?_) rfl (by kernel_rfl) (by kernel_rfl) (by kernel_rfl) (fun _ _ _ h => h) rfl hX ?_ ?_; rotate_left; (intro W hW; go_simp; try with_reducible rfl); simp only [Act.put, qA, qB, qC]
     refine sg_take (i := 3) (oi := ⟨some 65, _, _, _, _, _⟩) (v := .bool false) rfl (by kernel_rfl) (by kernel_rfl) (by kernel_rfl) (fun _ _ _ h => h) rfl hX (fun V _ => gt_at _ rfl rfl rfl z0 V) ?_; simp only [Act.put, qA, qB, qC]
     refine sg_take (i := 4) (oi := ⟨some 66, _, _, _, _, _⟩) (v := ?_) rfl (by kernel_rfl) (by kernel_rfl) (by kernel_rfl) (fun _ _ _ h => h) rfl hX ?_ ?_; rotate_left; (intro W hW; go_simp; try with_reducible rfl); simp only [Act.put, qA, qB, qC]
     refine sg_skip (i := 5) (oi := ⟨some 67, _, _, _, _, _⟩) rfl (by kernel_rfl) (by kernel_rfl) (by kernel_rfl) (fun _ _ _ h => h) rfl hX ?_; simp only [Act.put, qA, qB, qC]
     refine sg_skip (i := 6) (oi := ⟨some 68, _, _, _, _, _⟩) rfl (by kernel_rfl) (by kernel_rfl) (by kernel_rfl) (fun _ _ _ h => h) rfl hX ?_; simp only [Act.put, qA, qB, qC]
     refine sg_skip (i := 7) (oi := ⟨some 69, _, _, _, _, _⟩) rfl (by kernel_rfl) (by kernel_rfl) (by kernel_rfl) (fun _ _ _ h => h) rfl hX ?_; simp only [Act.put, qA, qB, qC]
     refine sg_skip (i := 8) (oi := ⟨some 70, _, _, _, _, _⟩) rfl (by kernel_rfl) (by kernel_rfl) (by kernel_rfl) (fun _ _ _ h => h) rfl hX ?_; simp only [Act.put, qA, qB, qC]
     refine sg_skip (i := 9) (oi := ⟨some 71, _, _, _, _, _⟩) rfl (by kernel_rfl) (by kernel_rfl) (by kernel_rfl) (fun _ _ _ h => h) rfl hX ?_; simp only [Act.put, qA, qB, qC]
     refine sg_take (i := 10) (oi := ⟨some 72, _, _, _, _, _⟩) (v := ?_) rfl (by kernel_rfl) (by kernel_rfl) (by kernel_rfl) (fun _ _ _ h => h) rfl hX ?_ ?_; rotate_left; (intro W hW; go_simp; try with_reducible rfl); simp only [Act.put, qA, qB, qC]
     refine sg_take (i := 11) (oi := ⟨some 73, _, _, _, _, _⟩) (v := ?_) rfl (by kernel_rfl) (by kernel_rfl) (by kernel_rfl) (fun _ _ _ h => h) rfl hX ?_ ?_; rotate_left; (intro W hW; go_simp; try with_reducible rfl); simp only [Act.put, qA, qB, qC]
     refine sg_skip (i := 12) (oi := ⟨some 74, _, _, _, _, _⟩) rfl (by kernel_rfl) (by kernel_rfl) (by kernel_rfl) (fun _ _ _ h => h) rfl hX ?_; simp only [Act.put, qA, qB, qC]
     refine sg_skip (i := 13) (oi := ⟨some 75, _, _, _, _, _⟩) rfl (by kernel_rfl) (by kernel_rfl) (by kernel_rfl) (fun _ _ _ h => h) rfl hX ?_; simp only [Act.put, qA, qB, qC]
     refine sg_skip (i := 14) (oi := ⟨some 76, _, _, _, _, _⟩) rfl (by kernel_rfl) (by kernel_rfl) (by kernel_rfl) (fun _ _ _ h => h) rfl hX ?_; simp only [Act.put, qA, qB, qC]
     refine sg_skip (i := 15) (oi := ⟨some 77, _, _, _, _, _⟩) rfl (by kernel_rfl) (by kernel_rfl) (by kernel_rfl) (fun _ _ _ h => h) rfl hX ?_; simp only [Act.put, qA, qB, qC]
     refine sg_skip (i := 16) (oi := ⟨some 78, _, _, _, _, _⟩) rfl (by kernel_rfl) (by kernel_rfl) (by kernel_rfl) (fun _ _ _ h => h) rfl hX ?_; simp only [Act.put, qA, qB, qC]
     refine sg_skip (i := 17) (oi := ⟨some 79, _, _, _, _, _⟩) rfl (by kernel_rfl) (by kernel_rfl) (by kernel_rfl) (fun _ _ _ h => h) rfl hX ?_; simp only [Act.put, qA, qB, qC]
     refine sg_take (i := 18) (oi := ⟨some 80, _, _, _, _, _⟩) (v := ?_) rfl (by kernel_rfl) (by kernel_rfl) (by kernel_rfl) (fun _ _ _ h => h) rfl hX ?_ ?_; rotate_left; (intro W hW; go_simp; try with_reducible rfl); simp only [Act.put, qA, qB, qC]
     refine sg_take (i := 19) (oi := ⟨some 81, _, _, _, _, _⟩) (v := ?_) rfl (by kernel_rfl) (by kernel_rfl) (by kernel_rfl) (fun _ _ _ h => h) rfl hX ?_ ?_; rotate_left; (intro W hW; go_simp; try with_reducible rfl); simp only [Act.put, qA, qB, qC]
     refine sg_take (i := 20) (oi := ⟨some 11, _, _, _, _, _⟩) (v := ?_) rfl (by kernel_rfl) (by kernel_rfl) (by kernel_rfl) (fun _ _ _ h => h) rfl hX ?_ ?_; rotate_left; (intro W hW; go_simp; try with_reducible rfl); simp only [Act.put, qA, qB, qC]
     refine wpAnyH_done (by kernel_rfl) ?_ _
     clear z0
     have BE := Lib.hid (BXV.out.trans (hwb.mono BXV.out.size))
     clear hX hwb
     have e3 := HE3.out
     have e4 := HE4.out
     go_wp2_with fail
     exact ⟨⟨j + 1, HJ1.out, by congr 1, HCN.out, HSN.out, BE.out⟩, by simpa [intOf] using HMS.out⟩
    have z0 : decide ((0 : Int) < (j : Int)) = true := decide_eq_true (by omega)
    have HZJ := Lib.hid z0
    clear hj0
    refine sg_take (i := 0) (oi := ⟨some 62, _, _, _, _, _⟩) (v := ?_) rfl (by kernel_rfl) (by kernel_rfl) (by kernel_rfl) (fun _ _ _ h => h) rfl hX ?_ ?_; rotate_left; (intro W hW; go_simp; try with_reducible rfl); simp only [Act.put, qA, qB, qC]
    refine sg_take (i := 1) (oi := ⟨some 63, _, _, _, _, _⟩) (v := ?_) rfl (by kernel_rfl) (by kernel_rfl) (by kernel_rfl) (fun _ _ _ h => h) rfl hX ?_ ?_; rotate_left; (intro W hW; go_simp; try with_reducible rfl); simp only [Act.put, qA, qB, qC]
    refine sg_take (i := 2) (oi := ⟨some 64, _, _, _, _, _⟩) (v := ?_) rfl (by kernel_rfl) (by kernel_rfl) (by kernel_rfl) (fun _ _ _ h => h) rfl hX ?_ ?_; rotate_left; (intro W hW; go_simp; try with_reducible rfl); simp only [Act.put, qA, qB, qC]
    refine sg_take (i := 3) (oi := ⟨some 65, _, _, _, _, _⟩) (v := .bool true) rfl (by kernel_rfl) (by kernel_rfl) (by kernel_rfl) (fun _ _ _ h => h) rfl hX (fun V _ => gt_at _ rfl rfl rfl HZJ.out V) ?_; simp only [Act.put, qA, qB, qC]
    refine sg_take (i := 4) (oi := ⟨some 66, _, _, _, _, _⟩) (v := ?_) rfl (by kernel_rfl) (by kernel_rfl) (by kernel_rfl) (fun _ _ _ h => h) rfl hX ?_ ?_; rotate_left; (intro W hW; go_simp; try with_reducible rfl); simp only [Act.put, qA, qB, qC]
    refine sg_take (i := 5) (oi := ⟨some 67, _, _, _, _, _⟩) (v := .agg cs.toArray) rfl (by kernel_rfl) (by kernel_rfl) (by kernel_rfl) (fun _ _ _ h => h) rfl hX (fun W hW => ld_keep 27 _ rfl w7.heap.size 0 rfl _ _ HRE.out (hW.block _ LV.out.lt (by simp)) Try.underlying27 rfl (size_rx C6.out)) ?_; simp only [Act.put, qA, qB, qC]
    refine sg_take (i := 6) (oi := ⟨some 68, _, _, _, _, _⟩) (v := ?_) rfl (by kernel_rfl) (by kernel_rfl) (by kernel_rfl) (fun _ _ _ h => h) rfl hX ?_ ?_; rotate_left; (intro W hW; go_simp; try with_reducible rfl); simp only [Act.put, qA, qB, qC]
    refine sg_take (i := 7) (oi := ⟨some 69, _, _, _, _, _⟩) (v := ?_) rfl (by kernel_rfl) (by kernel_rfl) (by kernel_rfl) (fun _ _ _ h => h) rfl hX ?_ ?_; rotate_left; (intro W hW; go_simp; try with_reducible rfl); simp only [Act.put, qA, qB, qC]
    refine sg_take (i := 8) (oi := ⟨some 70, _, _, _, _, _⟩) (v := slT A6 cap6 j) rfl (by kernel_rfl) (by kernel_rfl) (by kernel_rfl) (fun _ _ _ h => h) rfl hX (fun V _ => sl_to _ _ rfl rfl rfl HJC.out V) ?_; simp only [Act.put, qA, qB, qC]
    refine sg_actB (i := 9) (o := ⟨some 71, _, _, _, _, _⟩) rfl (by kernel_rfl) rfl hX (fun K hK => ?_)
    go_wp2_with fail
    refine (lIn_any x HX2.out (W.take j) HWT.out _ cs we (slT_row (RV.out.below hwb) j HJL.out) ((XV.out.stay hwb).mono hwb.size)).mono ?_
    rintro e wf ⟨rfl, hb⟩
    rw [← HIX.out]
    go_wp2_with fail
    refine hK _ _ (grown_then hX hb) ?_
    clear hK K
    (try simp only [Act.put, qA, qB, qC])
    replace hX := grown_then hX hb
    replace hwb := hwb.trans (hb.mono hwb.size)
    clear hb
    by_cases hxj : iq = true
    ·have HIX' := Lib.hid (show true = lgB x (W.take j) by rw [← hxj]; exact HIX.out)
     subst hxj
     have HSN := Lib.hid (show Value.bool iz = Value.bool (starJ x W (j + 1)) by rw [starJ, ← HS.out, HZJ.out, ← HIX.out, ← HIZ.out]; rfl)
     refine sg_take (i := 10) (oi := ⟨some 72, _, _, _, _, _⟩) (v := ?_) rfl (by kernel_rfl) (by kernel_rfl) (by kernel_rfl) (fun _ _ _ h => h) rfl hX ?_ ?_; rotate_left; (intro W hW; go_simp; try with_reducible rfl); simp only [Act.put, qA, qB, qC]
     refine sg_take (i := 11) (oi := ⟨some 73, _, _, _, _, _⟩) (v := ?_) rfl (by kernel_rfl) (by kernel_rfl) (by kernel_rfl) (fun _ _ _ h => h) rfl hX ?_ ?_; rotate_left; (intro W hW; go_simp; try with_reducible rfl); simp only [Act.put, qA, qB, qC]
     refine sg_take (i := 12) (oi := ⟨some 74, _, _, _, _, _⟩) (v := .agg cs.toArray) rfl (by kernel_rfl) (by kernel_rfl) (by kernel_rfl) (fun _ _ _ h => h) rfl hX (fun W hW => ld_keep 27 _ rfl w7.heap.size 0 rfl _ _ HRE.out (hW.block _ LV.out.lt (by simp)) Try.underlying27 rfl (size_rx C6.out)) ?_; simp only [Act.put, qA, qB, qC]
     refine sg_take (i := 14) (oi := ⟨some 76, _, _, _, _, _⟩) (v := ?_) rfl (by kernel_rfl) (by kernel_rfl) (by kernel_rfl) (fun _ _ _ h => h) rfl hX ?_ ?_; rotate_left; (intro W hW; go_simp; try with_reducible rfl); simp only [Act.put, qA, qB, qC]
     refine sg_take (i := 15) (oi := ⟨some 77, _, _, _, _, _⟩) (v := ?_) rfl (by kernel_rfl) (by kernel_rfl) (by kernel_rfl) (fun _ _ _ h => h) rfl hX ?_ ?_; rotate_left; (intro W hW; go_simp; try with_reducible rfl); simp only [Act.put, qA, qB, qC]
     refine sg_take (i := 16) (oi := ⟨some 78, _, _, _, _, _⟩) (v := slF A6 W.length cap6 j) rfl (by kernel_rfl) (by kernel_rfl) (by kernel_rfl) (fun _ _ _ h => h) rfl hX (fun V _ => sl_from _ _ rfl rfl rfl HJL.out V) ?_; simp only [Act.put, qA, qB, qC]
     refine sg_actB (i := 13) (o := ⟨some 75, _, _, _, _, _⟩) rfl (by kernel_rfl) rfl hX (fun K hK => ?_)
     go_wp2_with fail
     refine (refStar_any x cs wf (D := fun k => k < wf.heap.size) (fun k hk => hk) ((XV.out.stay hwb).mono hwb.size) HX3.out HGX.out).mono ?_
     rintro e wg ⟨es, rfl, hes, hb⟩
     have HES := Lib.hid (show RxV wg.heap.size wg es (starT x) from RxD.mono hes fun k hk => hk.2)
     clear hes
     go_wp2_with fail
     refine hK _ _ (grown_then hX hb) ?_
     clear hK K
     (try simp only [Act.put, qA, qB, qC])
     replace hX := grown_then hX hb
     replace hwb := hwb.trans (hb.mono hwb.size)
     clear hb
     refine sg_actB (i := 17) (o := ⟨some 79, _, _, _, _, _⟩) rfl (by kernel_rfl) rfl hX (fun K hK => ?_)
     go_wp2_with fail
     refine (lIn_any (starT x) HST.out (W.drop j) HWD.out _ es wg (slF_row (RV.out.below hwb) j HJL.out) HES.out).mono ?_
     rintro e wh ⟨rfl, hb⟩
     rw [← HIZ.out]
     go_wp2_with fail
     refine hK _ _ (grown_then hX hb) ?_
     clear hK K
     (try simp only [Act.put, qA, qB, qC])
     replace hX := grown_then hX hb
     replace hwb := hwb.trans (hb.mono hwb.size)
     clear hb
     refine sg_take (i := 18) (oi := ⟨some 80, _, _, _, _, _⟩) (v := ?_) rfl (by kernel_rfl) (by kernel_rfl) (by kernel_rfl) (fun _ _ _ h => h) rfl hX ?_ ?_; rotate_left; (intro W hW; go_simp; try with_reducible rfl); simp only [Act.put, qA, qB, qC]
     refine sg_take (i := 19) (oi := ⟨some 81, _, _, _, _, _⟩) (v := ?_) rfl (by kernel_rfl) (by kernel_rfl) (by kernel_rfl) (fun _ _ _ h => h) rfl hX ?_ ?_; rotate_left; (intro W hW; go_simp; try with_reducible rfl); simp only [Act.put, qA, qB, qC]
     refine sg_take (i := 20) (oi := ⟨some 11, _, _, _, _, _⟩) (v := ?_) rfl (by kernel_rfl) (by kernel_rfl) (by kernel_rfl) (fun _ _ _ h => h) rfl hX ?_ ?_; rotate_left; (intro W hW; go_simp; try with_reducible rfl); simp only [Act.put, qA, qB, qC]
     refine wpAnyH_done (by kernel_rfl) ?_ _
     have BE := Lib.hid (BXV.out.trans (hwb.mono BXV.out.size))
     clear hX hwb
     have e3 := HE3.out
     have e4 := HE4.out
     go_wp2_with fail
     exact ⟨⟨j + 1, HJ1.out, by congr 1, HCN.out, HSN.out, BE.out⟩, by simpa [intOf] using HMS.out⟩
    obtain rfl : iq = false := by simpa using hxj
    clear hxj
    have HSN := Lib.hid (show Value.bool false = Value.bool (starJ x W (j + 1)) by rw [starJ, ← HS.out, HZJ.out, ← HIX.out]; rfl)
    refine sg_take (i := 10) (oi := ⟨some 72, _, _, _, _, _⟩) (v := ?_) rfl (by kernel_rfl) (by kernel_rfl) (by kernel_rfl) (fun _ _ _ h => h) rfl hX ?_ ?_; rotate_left; (intro W hW; go_simp; try with_reducible rfl); simp only [Act.put, qA, qB, qC]
    refine sg_take (i := 11) (oi := ⟨some 73, _, _, _, _, _⟩) (v := ?_) rfl (by kernel_rfl) (by kernel_rfl) (by kernel_rfl) (fun _ _ _ h => h) rfl hX ?_ ?_; rotate_left; (intro W hW; go_simp; try with_reducible rfl); simp only [Act.put, qA, qB, qC]
    refine sg_skip (i := 12) (oi := ⟨some 74, _, _, _, _, _⟩) rfl (by kernel_rfl) (by kernel_rfl) (by kernel_rfl) (fun _ _ _ h => h) rfl hX ?_; simp only [Act.put, qA, qB, qC]
    refine sg_skip (i := 13) (oi := ⟨some 75, _, _, _, _, _⟩) rfl (by kernel_rfl) (by kernel_rfl) (by kernel_rfl) (fun _ _ _ h => h) rfl hX ?_; simp only [Act.put, qA, qB, qC]
    refine sg_skip (i := 14) (oi := ⟨some 76, _, _, _, _, _⟩) rfl (by kernel_rfl) (by kernel_rfl) (by kernel_rfl) (fun _ _ _ h => h) rfl hX ?_; simp only [Act.put, qA, qB, qC]
    refine sg_skip (i := 15) (oi := ⟨some 77, _, _, _, _, _⟩) rfl (by kernel_rfl) (by kernel_rfl) (by kernel_rfl) (fun _ _ _ h => h) rfl hX ?_; simp only [Act.put, qA, qB, qC]
    refine sg_skip (i := 16) (oi := ⟨some 78, _, _, _, _, _⟩) rfl (by kernel_rfl) (by kernel_rfl) (by kernel_rfl) (fun _ _ _ h => h) rfl hX ?_; simp only [Act.put, qA, qB, qC]
    refine sg_skip (i := 17) (oi := ⟨some 79, _, _, _, _, _⟩) rfl (by kernel_rfl) (by kernel_rfl) (by kernel_rfl) (fun _ _ _ h => h) rfl hX ?_; simp only [Act.put, qA, qB, qC]
    refine sg_take (i := 18) (oi := ⟨some 80, _, _, _, _, _⟩) (v := ?_) rfl (by kernel_rfl) (by kernel_rfl) (by kernel_rfl) (fun _ _ _ h => h) rfl hX ?_ ?_; rotate_left; (intro W hW; go_simp; try with_reducible rfl); simp only [Act.put, qA, qB, qC]
    refine sg_take (i := 19) (oi := ⟨some 81, _, _, _, _, _⟩) (v := ?_) rfl (by kernel_rfl) (by kernel_rfl) (by kernel_rfl) (fun _ _ _ h => h) rfl hX ?_ ?_; rotate_left; (intro W hW; go_simp; try with_reducible rfl); simp only [Act.put, qA, qB, qC]
    refine sg_take (i := 20) (oi := ⟨some 11, _, _, _, _, _⟩) (v := ?_) rfl (by kernel_rfl) (by kernel_rfl) (by kernel_rfl) (fun _ _ _ h => h) rfl hX ?_ ?_; rotate_left; (intro W hW; go_simp; try with_reducible rfl); simp only [Act.put, qA, qB, qC]
    refine wpAnyH_done (by kernel_rfl) ?_ _
    have BE := Lib.hid (BXV.out.trans (hwb.mono BXV.out.size))
    clear hX hwb
    have e3 := HE3.out
    have e4 := HE4.out
    go_wp2_with fail
    exact ⟨⟨j + 1, HJ1.out, by congr 1, HCN.out, HSN.out, BE.out⟩, by simpa [intOf] using HMS.out⟩
   obtain rfl : c = false := by simpa using hcc
   clear hcc
   refine sg_take (i := 0) (oi := ⟨some 47, _, _, _, _, _⟩) (v := ?_) rfl (by kernel_rfl) (by kernel_rfl) (by kernel_rfl) (fun _ _ _ h => h) rfl hX ?_ ?_; rotate_left; (intro W hW; go_simp; try with_reducible rfl); simp only [Act.put, qA, qB, qC]
   refine sg_take (i := 1) (oi := ⟨some 48, _, _, _, _, _⟩) (v := ?_) rfl (by kernel_rfl) (by kernel_rfl) (by kernel_rfl) (fun _ _ _ h => h) rfl hX ?_ ?_; rotate_left; (intro W hW; go_simp; try with_reducible rfl); simp only [Act.put, qA, qB, qC]
   refine sg_take (i := 2) (oi := ⟨some 49, _, _, _, _, _⟩) (v := .agg cs.toArray) rfl (by kernel_rfl) (by kernel_rfl) (by kernel_rfl) (fun _ _ _ h => h) rfl hX (fun W hW => ld_keep 27 _ rfl w7.heap.size 0 rfl _ _ HRX.out (hW.block _ LX.out.lt (by simp)) Try.underlying27 rfl (size_rx C6.out)) ?_; simp only [Act.put, qA, qB, qC]
   refine sg_take (i := 3) (oi := ⟨some 50, _, _, _, _, _⟩) (v := ?_) rfl (by kernel_rfl) (by kernel_rfl) (by kernel_rfl) (fun _ _ _ h => h) rfl hX ?_ ?_; rotate_left; (intro W hW; go_simp; try with_reducible rfl); simp only [Act.put, qA, qB, qC]
   refine sg_take (i := 4) (oi := ⟨some 51, _, _, _, _, _⟩) (v := ?_) rfl (by kernel_rfl) (by kernel_rfl) (by kernel_rfl) (fun _ _ _ h => h) rfl hX ?_ ?_; rotate_left; (intro W hW; go_simp; try with_reducible rfl); simp only [Act.put, qA, qB, qC]
   refine sg_take (i := 5) (oi := ⟨some 52, _, _, _, _, _⟩) (v := slT A6 cap6 j) rfl (by kernel_rfl) (by kernel_rfl) (by kernel_rfl) (fun _ _ _ h => h) rfl hX (fun V _ => sl_to _ _ rfl rfl rfl HJC.out V) ?_; simp only [Act.put, qA, qB, qC]
   refine sg_actB (i := 6) (o := ⟨some 53, _, _, _, _, _⟩) rfl (by kernel_rfl) rfl hX (fun K hK => ?_)
   go_wp2_with fail
   refine (lIn_any x HX2.out (W.take j) HWT.out _ cs wd (slT_row (RX.out.below hwb) j HJL.out) ((XX.out.stay hwb).mono hwb.size)).mono ?_
   rintro e wa ⟨rfl, hb⟩
   rw [← HIX.out]
   go_wp2_with fail
   refine hK _ _ (grown_then hX hb) ?_
   clear hK K
   (try simp only [Act.put, qA, qB, qC])
   replace hX := grown_then hX hb
   replace hwb := hwb.trans (hb.mono hwb.size)
   clear hb
   by_cases hxj : ix = true
   ·subst hxj
    have HCN := Lib.hid (show Value.bool iy = Value.bool (catJ x y W (j + 1)) by rw [catJ, ← HC.out, ← HIX.out, ← HIY.out]; rfl)
    refine sg_take (i := 7) (oi := ⟨some 54, _, _, _, _, _⟩) (v := ?_) rfl (by kernel_rfl) (by kernel_rfl) (by kernel_rfl) (fun _ _ _ h => h) rfl hX ?_ ?_; rotate_left; (intro W hW; go_simp; try with_reducible rfl); simp only [Act.put, qA, qB, qC]
    refine sg_take (i := 8) (oi := ⟨some 55, _, _, _, _, _⟩) (v := .agg ds.toArray) rfl (by kernel_rfl) (by kernel_rfl) (by kernel_rfl) (fun _ _ _ h => h) rfl hX (fun W hW => ld_keep 27 _ rfl w8.heap.size 0 rfl _ _ HRY.out (hW.block _ MX.out.lt (by simp)) Try.underlying27 rfl (size_rx D6.out)) ?_; simp only [Act.put, qA, qB, qC]
    refine sg_take (i := 9) (oi := ⟨some 56, _, _, _, _, _⟩) (v := ?_) rfl (by kernel_rfl) (by kernel_rfl) (by kernel_rfl) (fun _ _ _ h => h) rfl hX ?_ ?_; rotate_left; (intro W hW; go_simp; try with_reducible rfl); simp only [Act.put, qA, qB, qC]
    refine sg_take (i := 10) (oi := ⟨some 57, _, _, _, _, _⟩) (v := ?_) rfl (by kernel_rfl) (by kernel_rfl) (by kernel_rfl) (fun _ _ _ h => h) rfl hX ?_ ?_; rotate_left; (intro W hW; go_simp; try with_reducible rfl); simp only [Act.put, qA, qB, qC]
    refine sg_take (i := 11) (oi := ⟨some 58, _, _, _, _, _⟩) (v := slF A6 W.length cap6 j) rfl (by kernel_rfl) (by kernel_rfl) (by kernel_rfl) (fun _ _ _ h => h) rfl hX (fun V _ => sl_from _ _ rfl rfl rfl HJL.out V) ?_; simp only [Act.put, qA, qB, qC]
    refine sg_actB (i := 12) (o := ⟨some 59, _, _, _, _, _⟩) rfl (by kernel_rfl) rfl hX (fun K hK => ?_)
    go_wp2_with fail
    refine (lIn_any y HY2.out (W.drop j) HWD.out _ ds wa (slF_row (RX.out.below hwb) j HJL.out) ((YX.out.stay hwb).mono hwb.size)).mono ?_
    rintro e wb ⟨rfl, hb⟩
    rw [← HIY.out]
    go_wp2_with fail
    refine hK _ _ (grown_then hX hb) ?_
    clear hK K
    (try simp only [Act.put, qA, qB, qC])
    replace hX := grown_then hX hb
    replace hwb := hwb.trans (hb.mono hwb.size)
    clear hb
    refine sg_take (i := 13) (oi := ⟨some 60, _, _, _, _, _⟩) (v := ?_) rfl (by kernel_rfl) (by kernel_rfl) (by kernel_rfl) (fun _ _ _ h => h) rfl hX ?_ ?_; rotate_left; (intro W hW; go_simp; try with_reducible rfl); simp only [Act.put, qA, qB, qC]
    refine sg_take (i := 14) (oi := ⟨some 61, _, _, _, _, _⟩) (v := ?_) rfl (by kernel_rfl) (by kernel_rfl) (by kernel_rfl) (fun _ _ _ h => h) rfl hX ?_ ?_; rotate_left; (intro W hW; go_simp; try with_reducible rfl); simp only [Act.put, qA, qB, qC]
    refine sg_take (i := 15) (oi := ⟨some 10, _, _, _, _, _⟩) (v := ?_) rfl (by kernel_rfl) (by kernel_rfl) (by kernel_rfl) (fun _ _ _ h => h) rfl hX ?_ ?_; rotate_left; (intro W hW; go_simp; try with_reducible rfl); simp only [Act.put, qA, qB, qC]
    have hix : (true : Bool) = true := rfl
    refine wpAnyH_done (by kernel_rfl) ?_ _
    have BV := Lib.hid hwb
    clear hX hwb
    have LV := Lib.hid (LX.out.below BV.out LX.out.lt)
    have XV := Lib.hid (RxV.mono (XX.out.stay BV.out) BV.out.size)
    have RV := Lib.hid (RX.out.below BV.out)
    have BXV := Lib.hid (BX.out.trans (BV.out.mono BX.out.size))
    go_wp2_with fail
    refine sg_start (S := fun V => wb.grownBy V none) (by kernel_rfl) (grown_start _ _) (fun we hwe => ?_)
    have hX : wb.grownBy we none := by rw [hwe]; exact grown_start _ _
    have hwb : Below wb.heap.size wb we := by rw [hwe]; exact (Below.refl _ _).drew
    clear hwe
    obtain ⟨iq, hiq⟩ : ∃ s, s = lgB x (W.take j) := ⟨_, rfl⟩
    have HIX := Lib.hid hiq
    clear hiq
    have HRE := Lib.hid (show wb.rangeAt w7.heap.size 0 cs from fun i v hv => (LV.out.cell (0 + i)).trans (by rw [Nat.zero_add]; exact hv))
    by_cases hs : s = true
    ·subst hs
     have HSN := Lib.hid (show Value.bool true = Value.bool (starJ x W (j + 1)) by rw [starJ, ← HS.out]; rfl)
     refine sg_take (i := 0) (oi := ⟨some 62, _, _, _, _, _⟩) (v := ?_) rfl (by kernel_rfl) (by kernel_rfl) (by kernel_rfl) (fun _ _ _ h => h) rfl hX ?_ ?_; rotate_left; (intro W hW; go_simp; try with_reducible rfl); simp only [Act.put, qA, qB, qC]
     refine sg_take (i := 1) (oi := ⟨some 63, _, _, _, _, _⟩) (v := ?_) rfl (by kernel_rfl) (by kernel_rfl) (by kernel_rfl) (fun _ _ _ h => h) rfl hX ?_ ?_; rotate_left; (intro W hW; go_simp; try with_reducible rfl); simp only [Act.put, qA, qB, qC]
     refine sg_skip (i := 2) (oi := ⟨some 64, _, _, _, _, _⟩) rfl (by kernel_rfl) (by kernel_rfl) (by kernel_rfl) (fun _ _ _ h => h) rfl hX ?_; simp only [Act.put, qA, qB, qC]
     refine sg_skip (i := 3) (oi := ⟨some 65, _, _, _, _, _⟩) rfl (by kernel_rfl) (by kernel_rfl) (by kernel_rfl) (fun _ _ _ h => h) rfl hX ?_; simp only [Act.put, qA, qB, qC]
     refine sg_skip (i := 4) (oi := ⟨some 66, _, _, _, _, _⟩) rfl (by kernel_rfl) (by kernel_rfl) (by kernel_rfl) (fun _ _ _ h => h) rfl hX ?_; simp only [Act.put, qA, qB, qC]
     refine sg_skip (i := 5) (oi := ⟨some 67, _, _, _, _, _⟩) rfl (by kernel_rfl) (by kernel_rfl) (by kernel_rfl) (fun _ _ _ h => h) rfl hX ?_; simp only [Act.put, qA, qB, qC]
     refine sg_skip (i := 6) (oi := ⟨some 68, _, _, _, _, _⟩) rfl (by kernel_rfl) (by kernel_rfl) (by kernel_rfl) (fun _ _ _ h => h) rfl hX ?_; simp only [Act.put, qA, qB, qC]
     refine sg_skip (i := 7) (oi := ⟨some 69, _, _, _, _, _⟩) rfl (by kernel_rfl) (by kernel_rfl) (by kernel_rfl) (fun _ _ _ h => h) rfl hX ?_; simp only [Act.put, qA, qB, qC]
     refine sg_skip (i := 8) (oi := ⟨some 70, _, _, _, _, _⟩) rfl (by kernel_rfl) (by kernel_rfl) (by kernel_rfl) (fun _ _ _ h => h) rfl hX ?_; simp only [Act.put, qA, qB, qC]
     refine sg_skip (i := 9) (oi := ⟨some 71, _, _, _, _, _⟩) rfl (by kernel_rfl) (by kernel_rfl) (by kernel_rfl) (fun _ _ _ h => h) rfl hX ?_; simp only [Act.put, qA, qB, qC]
     refine sg_skip (i := 10) (oi := ⟨some 72, _, _, _, _, _⟩) rfl (by kernel_rfl) (by kernel_rfl) (by kernel_rfl) (fun _ _ _ h => h) rfl hX ?_; simp only [Act.put, qA, qB, qC]
     refine sg_skip (i := 11) (oi := ⟨some 73, _, _, _, _, _⟩) rfl (by kernel_rfl) (by kernel_rfl) (by kernel_rfl) (fun _ _ _ h => h) rfl hX ?_; simp only [Act.put, qA, qB, qC]
     refine sg_skip (i := 12) (oi := ⟨some 74, _, _, _, _, _⟩) rfl (by kernel_rfl) (by kernel_rfl) (by kernel_rfl) (fun _ _ _ h => h) rfl hX ?_; simp only [Act.put, qA, qB, qC]
     refine sg_skip (i := 13) (oi := ⟨some 75, _, _, _, _, _⟩) rfl (by kernel_rfl) (by kernel_rfl) (by kernel_rfl) (fun _ _ _ h => h) rfl hX ?_; simp only [Act.put, qA, qB, qC]
     refine sg_skip (i := 14) (oi := ⟨some 76, _, _, _, _, _⟩) rfl (by kernel_rfl) (by kernel_rfl) (by kernel_rfl) (fun _ _ _ h => h) rfl hX ?_; simp only [Act.put, qA, qB, qC]
     refine sg_skip (i := 15) (oi := ⟨some 77, _, _, _, _, _⟩) rfl (by kernel_rfl) (by kernel_rfl) (by kernel_rfl) (fun _ _ _ h => h) rfl hX ?_; simp only [Act.put, qA, qB, qC]
     refine sg_skip (i := 16) (oi := ⟨some 78, _, _, _, _, _⟩) rfl (by kernel_rfl) (by kernel_rfl) (by kernel_rfl) (fun _ _ _ h => h) rfl hX ?_; simp only [Act.put, qA, qB, qC]
     refine sg_skip (i := 17) (oi := ⟨some 79, _, _, _, _, _⟩) rfl (by kernel_rfl) (by kernel_rfl) (by kernel_rfl) (fun _ _ _ h => h) rfl hX ?_; simp only [Act.put, qA, qB, qC]
     refine sg_skip (i := 18) (oi := ⟨some 80, _, _, _, _, _⟩) rfl (by kernel_rfl) (by kernel_rfl) (by kernel_rfl) (fun _ _ _ h => h) rfl hX ?_; simp only [Act.put, qA, qB, qC]
     refine sg_take (i := 19) (oi := ⟨some 81, _, _, _, _, _⟩) (v := ?_) rfl (by kernel_rfl) (by kernel_rfl) (by kernel_rfl) (fun _ _ _ h => h) rfl hX ?_ ?_; rotate_left; (intro W hW; go_simp; try with_reducible rfl); simp only [Act.put, qA, qB, qC]
     refine sg_take (i := 20) (oi := ⟨some 11, _, _, _, _, _⟩) (v := ?_) rfl (by kernel_rfl) (by kernel_rfl) (by kernel_rfl) (fun _ _ _ h => h) rfl hX ?_ ?_; rotate_left; (intro W hW; go_simp; try with_reducible rfl); simp only [Act.put, qA, qB, qC]
     refine wpAnyH_done (by kernel_rfl) ?_ _
     have BE := Lib.hid (BXV.out.trans (hwb.mono BXV.out.size))
     clear hX hwb
     have e3 := HE3.out
     have e4 := HE4.out
     go_wp2_with fail
     exact ⟨⟨j + 1, HJ1.out, by congr 1, HCN.out, HSN.out, BE.out⟩, by simpa [intOf] using HMS.out⟩
    obtain rfl : s = false := by simpa using hs
    clear hs
    by_cases hj0 : j = 0
    ·have z0 : decide ((0 : Int) < (j : Int)) = false := decide_eq_false (by omega)
     have HSN := Lib.hid (show Value.bool false = Value.bool (starJ x W (j + 1)) by rw [starJ, ← HS.out, z0]; rfl)
     clear hj0
     refine sg_take (i := 0) (oi := ⟨some 62, _, _, _, _, _⟩) (v := ?_) rfl (by kernel_rfl) (by kernel_rfl) (by kernel_rfl) (fun _ _ _ h => h) rfl hX ?_ ?_; rotate_left; (intro W hW; go_simp; try with_reducible rfl); simp only [Act.put, qA, qB, qC]
     refine sg_take (i := 1) (oi := ⟨some 63, _, _, _, _, _⟩) (v := ?_) rfl (by kernel_rfl) (by kernel_rfl) (by kernel_rfl) (fun _ _ _ h => h) rfl hX ?_ ?_; rotate_left; (intro W hW; go_simp; try with_reducible rfl); simp only [Act.put, qA, qB, qC]
     refine sg_take (i := 2) (oi := ⟨some 64, _, _, _, _, _⟩) (v := ?_) rfl (by kernel_rfl) (by kernel_rfl) (by kernel_rfl) (fun _ _ _ h => h) rfl hX ?_ ?_; rotate_left; (intro W hW; go_simp; try with_reducible rfl); simp only [Act.put, qA, qB, qC]
     refine sg_take (i := 3) (oi := ⟨some 65, _, _, _, _, _⟩) (v := .bool false) rfl (by kernel_rfl) (by kernel_rfl) (by kernel_rfl) (fun _ _ _ h => h) rfl hX (fun V _ => gt_at _ rfl rfl rfl z0 V) ?_; simp only [Act.put, qA, qB, qC]
     refine sg_take (i := 4) (oi := ⟨some 66, _, _, _, _, _⟩) (v := ?_) rfl (by kernel_rfl) (by kernel_rfl) (by kernel_rfl) (fun _ _ _ h => h) rfl hX ?_ ?_; rotate_left; (intro W hW; go_simp; try with_reducible rfl); simp only [Act.put, qA, qB, qC]
     refine sg_skip (i := 5) (oi := ⟨some 67, _, _, _, _, _⟩) rfl (by kernel_rfl) (by kernel_rfl) (by kernel_rfl) (fun _ _ _ h => h) rfl hX ?_; simp only [Act.put, qA, qB, qC]
     refine sg_skip (i := 6) (oi := ⟨some 68, _, _, _, _, _⟩) rfl (by kernel_rfl) (by kernel_rfl) (by kernel_rfl) (fun _ _ _ h => h) rfl hX ?_; simp only [Act.put, qA, qB, qC]
     refine sg_skip (i := 7) (oi := ⟨some 69, _, _, _, _, _⟩) rfl (by kernel_rfl) (by kernel_rfl) (by kernel_rfl) (fun _ _ _ h => h) rfl hX ?_; simp only [Act.put, qA, qB, qC]
     refine sg_skip (i := 8) (oi := ⟨some 70, _, _, _, _, _⟩) rfl (by kernel_rfl) (by kernel_rfl) (by kernel_rfl) (fun _ _ _ h => h) rfl hX ?_; simp only [Act.put, qA, qB, qC]
     refine sg_skip (i := 9) (oi := ⟨some 71, _, _, _, _, _⟩) rfl (by kernel_rfl) (by kernel_rfl) (by kernel_rfl) (fun _ _ _ h => h) rfl hX ?_; simp only [Act.put, qA, qB, qC]
     refine sg_take (i := 10) (oi := ⟨some 72, _, _, _, _, _⟩) (v := ?_) rfl (by kernel_rfl) (by kernel_rfl) (by kernel_rfl) (fun _ _ _ h => h) rfl hX ?_ ?_; rotate_left; (intro W hW; go_simp; try with_reducible rfl); simp only [Act.put, qA, qB, qC]
     refine sg_take (i := 11) (oi := ⟨some 73, _, _, _, _, _⟩) (v := ?_) rfl (by kernel_rfl) (by kernel_rfl) (by kernel_rfl) (fun _ _ _ h => h) rfl hX ?_ ?_; rotate_left; (intro W hW; go_simp; try with_reducible rfl); simp only [Act.put, qA, qB, qC]
     refine sg_skip (i := 12) (oi := ⟨some 74, _, _, _, _, _⟩) rfl (by kernel_rfl) (by kernel_rfl) (by kernel_rfl) (fun _ _ _ h => h) rfl hX ?_; simp only [Act.put, qA, qB, qC]
     refine sg_skip (i := 13) (oi := ⟨some 75, _, _, _, _, _⟩) rfl (by kernel_rfl) (by kernel_rfl) (by kernel_rfl) (fun _ _ _ h => h) rfl hX ?_; simp only [Act.put, qA, qB, qC]
     refine sg_skip (i := 14) (oi := ⟨some 76, _, _, _, _, _⟩) rfl (by kernel_rfl) (by kernel_rfl) (by kernel_rfl) (fun _ _ _ h => h) rfl hX ?_; simp only [Act.put, qA, qB, qC]
     refine sg_skip (i := 15) (oi := ⟨some 77, _, _, _, _, _⟩) rfl (by kernel_rfl) (by kernel_rfl) (by kernel_rfl) (fun _ _ _ h => h) rfl hX ?_; simp only [Act.put, qA, qB, qC]
     refine sg_skip (i := 16) (oi := ⟨some 78, _, _, _, _, _⟩) rfl (by kernel_rfl) (by kernel_rfl) (by kernel_rfl) (fun _ _ _ h => h) rfl hX ?_; simp only [Act.put, qA, qB, qC]
     refine sg_skip (i := 17) (oi := ⟨some 79, _, _, _, _, _⟩) rfl (by kernel_rfl) (by kernel_rfl) (by kernel_rfl) (fun _ _ _ h => h) rfl hX ?_; simp only [Act.put, qA, qB, qC]
     refine sg_take (i := 18) (oi := ⟨some 80, _, _, _, _, _⟩) (v := ?_) rfl (by kernel_rfl) (by kernel_rfl) (by kernel_rfl) (fun _ _ _ h => h) rfl hX ?_ ?_; rotate_left; (intro W hW; go_simp; try with_reducible rfl); simp only [Act.put, qA, qB, qC]
     refine sg_take (i := 19) (oi := ⟨some 81, _, _, _, _, _⟩) (v := ?_) rfl (by kernel_rfl) (by kernel_rfl) (by kernel_rfl) (fun _ _ _ h => h) rfl hX ?_ ?_; rotate_left; (intro W hW; go_simp; try with_reducible rfl); simp only [Act.put, qA, qB, qC]
     refine sg_take (i := 20) (oi := ⟨some 11, _, _, _, _, _⟩) (v := ?_) rfl (by kernel_rfl) (by kernel_rfl) (by kernel_rfl) (fun _ _ _ h => h) rfl hX ?_ ?_; rotate_left; (intro W hW; go_simp; try with_reducible rfl); simp only [Act.put, qA, qB, qC]
     refine wpAnyH_done (by kernel_rfl) ?_ _
     clear z0
     have BE := Lib.hid (BXV.out.trans (hwb.mono BXV.out.size))
     clear hX hwb
     have e3 := HE3.out
     have e4 := HE4.out
     go_wp2_with fail
     exact ⟨⟨j + 1, HJ1.out, by congr 1, HCN.out, HSN.out, BE.out⟩, by simpa [intOf] using HMS.out⟩
    have z0 : decide ((0 : Int) < (j : Int)) = true := decide_eq_true (by omega)
    have HZJ := Lib.hid z0
    clear hj0
    refine sg_take (i := 0) (oi := ⟨some 62, _, _, _, _, _⟩) (v := ?_) rfl (by kernel_rfl) (by kernel_rfl) (by kernel_rfl) (fun _ _ _ h => h) rfl hX ?_ ?_; rotate_left; (intro W hW; go_simp; try with_reducible rfl); simp only [Act.put, qA, qB, qC]
    refine sg_take (i := 1) (oi := ⟨some 63, _, _, _, _, _⟩) (v := ?_) rfl (by kernel_rfl) (by kernel_rfl) (by kernel_rfl) (fun _ _ _ h => h) rfl hX ?_ ?_; rotate_left; (intro W hW; go_simp; try with_reducible rfl); simp only [Act.put, qA, qB, qC]
    refine sg_take (i := 2) (oi := ⟨some 64, _, _, _, _, _⟩) (v := ?_) rfl (by kernel_rfl) (by kernel_rfl) (by kernel_rfl) (fun _ _ _ h => h) rfl hX ?_ ?_; rotate_left; (intro W hW; go_simp; try with_reducible rfl); simp only [Act.put, qA, qB, qC]
    refine sg_take (i := 3) (oi := ⟨some 65, _, _, _, _, _⟩) (v := .bool true) rfl (by kernel_rfl) (by kernel_rfl) (by kernel_rfl) (fun _ _ _ h => h) rfl hX (fun V _ => gt_at _ rfl rfl rfl HZJ.out V) ?_; simp only [Act.put, qA, qB, qC]
    refine sg_take (i := 4) (oi := ⟨some 66, _, _, _, _, _⟩) (v := ?_) rfl (by kernel_rfl) (by kernel_rfl) (by kernel_rfl) (fun _ _ _ h => h) rfl hX ?_ ?_; rotate_left; (intro W hW; go_simp; try with_reducible rfl); simp only [Act.put, qA, qB, qC]
    refine sg_take (i := 5) (oi := ⟨some 67, _, _, _, _, _⟩) (v := .agg cs.toArray) rfl (by kernel_rfl) (by kernel_rfl) (by kernel_rfl) (fun _ _ _ h => h) rfl hX (fun W hW => ld_keep 27 _ rfl w7.heap.size 0 rfl _ _ HRE.out (hW.block _ LV.out.lt (by simp)) Try.underlying27 rfl (size_rx C6.out)) ?_; simp only [Act.put, qA, qB, qC]
    refine sg_take (i := 6) (oi := ⟨some 68, _, _, _, _, _⟩) (v := ?_) rfl (by kernel_rfl) (by kernel_rfl) (by kernel_rfl) (fun _ _ _ h => h) rfl hX ?_ ?_; rotate_left; (intro W hW; go_simp; try with_reducible rfl); simp only [Act.put, qA, qB, qC]
    refine sg_take (i := 7) (oi := ⟨some 69, _, _, _, _, _⟩) (v := ?_) rfl (by kernel_rfl) (by kernel_rfl) (by kernel_rfl) (fun _ _ _ h => h) rfl hX ?_ ?_; rotate_left; (intro W hW; go_simp; try with_reducible rfl); simp only [Act.put, qA, qB, qC]
    refine sg_take (i := 8) (oi := ⟨some 70, _, _, _, _, _⟩) (v := slT A6 cap6 j) rfl (by kernel_rfl) (by kernel_rfl) (by kernel_rfl) (fun _ _ _ h => h) rfl hX (fun V _ => sl_to _ _ rfl rfl rfl HJC.out V) ?_; simp only [Act.put, qA, qB, qC]
    refine sg_actB (i := 9) (o := ⟨some 71, _, _, _, _, _⟩) rfl (by kernel_rfl) rfl hX (fun K hK => ?_)
    go_wp2_with fail
    refine (lIn_any x HX2.out (W.take j) HWT.out _ cs we (slT_row (RV.out.below hwb) j HJL.out) ((XV.out.stay hwb).mono hwb.size)).mono ?_
    rintro e wf ⟨rfl, hb⟩
    rw [← HIX.out]
    go_wp2_with fail
    refine hK _ _ (grown_then hX hb) ?_
    clear hK K
    (try simp only [Act.put, qA, qB, qC])
    replace hX := grown_then hX hb
    replace hwb := hwb.trans (hb.mono hwb.size)
    clear hb
    by_cases hxj : iq = true
    ·have HIX' := Lib.hid (show true = lgB x (W.take j) by rw [← hxj]; exact HIX.out)
     subst hxj
     have HSN := Lib.hid (show Value.bool iz = Value.bool (starJ x W (j + 1)) by rw [starJ, ← HS.out, HZJ.out, ← HIX.out, ← HIZ.out]; rfl)
     refine sg_take (i := 10) (oi := ⟨some 72, _, _, _, _, _⟩) (v := ?_) rfl (by kernel_rfl) (by kernel_rfl) (by kernel_rfl) (fun _ _ _ h => h) rfl hX ?_ ?_; rotate_left; (intro W hW; go_simp; try with_reducible rfl); simp only [Act.put, qA, qB, qC]
     refine sg_take (i := 11) (oi := ⟨some 73, _, _, _, _, _⟩) (v := ?_) rfl (by kernel_rfl) (by kernel_rfl) (by kernel_rfl) (fun _ _ _ h => h) rfl hX ?_ ?_; rotate_left; (intro W hW; go_simp; try with_reducible rfl); simp only [Act.put, qA, qB, qC]
     refine sg_take (i := 12) (oi := ⟨some 74, _, _, _, _, _⟩) (v := .agg cs.toArray) rfl (by kernel_rfl) (by kernel_rfl) (by kernel_rfl) (fun _ _ _ h => h) rfl hX (fun W hW => ld_keep 27 _ rfl w7.heap.size 0 rfl _ _ HRE.out (hW.block _ LV.out.lt (by simp)) Try.underlying27 rfl (size_rx C6.out)) ?_; simp only [Act.put, qA, qB, qC]
     refine sg_take (i := 14) (oi := ⟨some 76, _, _, _, _, _⟩) (v := ?_) rfl (by kernel_rfl) (by kernel_rfl) (by kernel_rfl) (fun _ _ _ h => h) rfl hX ?_ ?_; rotate_left; (intro W hW; go_simp; try with_reducible rfl); simp only [Act.put, qA, qB, qC]
     refine sg_take (i := 15) (oi := ⟨some 77, _, _, _, _, _⟩) (v := ?_) rfl (by kernel_rfl) (by kernel_rfl) (by kernel_rfl) (fun _ _ _ h => h) rfl hX ?_ ?_; rotate_left; (intro W hW; go_simp; try with_reducible rfl); simp only [Act.put, qA, qB, qC]
     refine sg_take (i := 16) (oi := ⟨some 78, _, _, _, _, _⟩) (v := slF A6 W.length cap6 j) rfl (by kernel_rfl) (by kernel_rfl) (by kernel_rfl) (fun _ _ _ h => h) rfl hX (fun V _ => sl_from _ _ rfl rfl rfl HJL.out V) ?_; simp only [Act.put, qA, qB, qC]
     refine sg_actB (i := 13) (o := ⟨some 75, _, _, _, _, _⟩) rfl (by kernel_rfl) rfl hX (fun K hK => ?_)
     go_wp2_with fail
     refine (refStar_any x cs wf (D := fun k => k < wf.heap.size) (fun k hk => hk) ((XV.out.stay hwb).mono hwb.size) HX3.out HGX.out).mono ?_
     rintro e wg ⟨es, rfl, hes, hb⟩
     have HES := Lib.hid (show RxV wg.heap.size wg es (starT x) from RxD.mono hes fun k hk => hk.2)
     clear hes
     go_wp2_with fail
     refine hK _ _ (grown_then hX hb) ?_
     clear hK K
     (try simp only [Act.put, qA, qB, qC])
     replace hX := grown_then hX hb
     replace hwb := hwb.trans (hb.mono hwb.size)
     clear hb
     refine sg_actB (i := 17) (o := ⟨some 79, _, _, _, _, _⟩) rfl (by kernel_rfl) rfl hX (fun K hK => ?_)
     go_wp2_with fail
     refine (lIn_any (starT x) HST.out (W.drop j) HWD.out _ es wg (slF_row (RV.out.below hwb) j HJL.out) HES.out).mono ?_
     rintro e wh ⟨rfl, hb⟩
     rw [← HIZ.out]
     go_wp2_with fail
     refine hK _ _ (grown_then hX hb) ?_
     clear hK K
     (try simp only [Act.put, qA, qB, qC])
     replace hX := grown_then hX hb
     replace hwb := hwb.trans (hb.mono hwb.size)
     clear hb
     refine sg_take (i := 18) (oi := ⟨some 80, _, _, _, _, _⟩) (v := ?_) rfl (by kernel_rfl) (by kernel_rfl) (by kernel_rfl) (fun _ _ _ h => h) rfl hX ?_ ?_; rotate_left; (intro W hW; go_simp; try with_reducible rfl); simp only [Act.put, qA, qB, qC]
     refine sg_take (i := 19) (oi := ⟨some 81, _, _, _, _, _⟩) (v := ?_) rfl (by kernel_rfl) (by kernel_rfl) (by kernel_rfl) (fun _ _ _ h => h) rfl hX ?_ ?_; rotate_left; (intro W hW; go_simp; try with_reducible rfl); simp only [Act.put, qA, qB, qC]
     refine sg_take (i := 20) (oi := ⟨some 11, _, _, _, _, _⟩) (v := ?_) rfl (by kernel_rfl) (by kernel_rfl) (by kernel_rfl) (fun _ _ _ h => h) rfl hX ?_ ?_; rotate_left; (intro W hW; go_simp; try with_reducible rfl); simp only [Act.put, qA, qB, qC]
     refine wpAnyH_done (by kernel_rfl) ?_ _
     have BE := Lib.hid (BXV.out.trans (hwb.mono BXV.out.size))
     clear hX hwb
     have e3 := HE3.out
     have e4 := HE4.out
     go_wp2_with fail
     exact ⟨⟨j + 1, HJ1.out, by congr 1, HCN.out, HSN.out, BE.out⟩, by simpa [intOf] using HMS.out⟩
    obtain rfl : iq = false := by simpa using hxj
    clear hxj
    have HSN := Lib.hid (show Value.bool false = Value.bool (starJ x W (j + 1)) by rw [starJ, ← HS.out, HZJ.out, ← HIX.out]; rfl)
    refine sg_take (i := 10) (oi := ⟨some 72, _, _, _, _, _⟩) (v := ?_) rfl (by kernel_rfl) (by kernel_rfl) (by kernel_rfl) (fun _ _ _ h => h) rfl hX ?_ ?_; rotate_left; (intro W hW; go_simp; try with_reducible rfl); simp only [Act.put, qA, qB, qC]
    refine sg_take (i := 11) (oi := ⟨some 73, _, _, _, _, _⟩) (v := ?_) rfl (by kernel_rfl) (by kernel_rfl) (by kernel_rfl) (fun _ _ _ h => h) rfl hX ?_ ?_; rotate_left; (intro W hW; go_simp; try with_reducible rfl); simp only [Act.put, qA, qB, qC]
    refine sg_skip (i := 12) (oi := ⟨some 74, _, _, _, _, _⟩) rfl (by kernel_rfl) (by kernel_rfl) (by kernel_rfl) (fun _ _ _ h => h) rfl hX ?_; simp only [Act.put, qA, qB, qC]
    refine sg_skip (i := 13) (oi := ⟨some 75, _, _, _, _, _⟩) rfl (by kernel_rfl) (by kernel_rfl) (by kernel_rfl) (fun _ _ _ h => h) rfl hX ?_; simp only [Act.put, qA, qB, qC]
    refine sg_skip (i := 14) (oi := ⟨some 76, _, _, _, _, _⟩) rfl (by kernel_rfl) (by kernel_rfl) (by kernel_rfl) (fun _ _ _ h => h) rfl hX ?_; simp only [Act.put, qA, qB, qC]
    refine sg_skip (i := 15) (oi := ⟨some 77, _, _, _, _, _⟩) rfl (by kernel_rfl) (by kernel_rfl) (by kernel_rfl) (fun _ _ _ h => h) rfl hX ?_; simp only [Act.put, qA, qB, qC]
    refine sg_skip (i := 16) (oi := ⟨some 78, _, _, _, _, _⟩) rfl (by kernel_rfl) (by kernel_rfl) (by kernel_rfl) (fun _ _ _ h => h) rfl hX ?_; simp only [Act.put, qA, qB, qC]
    refine sg_skip (i := 17) (oi := ⟨some 79, _, _, _, _, _⟩) rfl (by kernel_rfl) (by kernel_rfl) (by kernel_rfl) (fun _ _ _ h => h) rfl hX ?_; simp only [Act.put, qA, qB, qC]
    refine sg_take (i := 18) (oi := ⟨some 80, _, _, _, _, _⟩) (v := ?_) rfl (by kernel_rfl) (by kernel_rfl) (by kernel_rfl) (fun _ _ _ h => h) rfl hX ?_ ?_; rotate_left; (intro W hW; go_simp; try with_reducible rfl); simp only [Act.put, qA, qB, qC]
    refine sg_take (i := 19) (oi := ⟨some 81, _, _, _, _, _⟩) (v := ?_) rfl (by kernel_rfl) (by kernel_rfl) (by kernel_rfl) (fun _ _ _ h => h) rfl hX ?_ ?_; rotate_left; (intro W hW; go_simp; try with_reducible rfl); simp only [Act.put, qA, qB, qC]
    refine sg_take (i := 20) (oi := ⟨some 11, _, _, _, _, _⟩) (v := ?_) rfl (by kernel_rfl) (by kernel_rfl) (by kernel_rfl) (fun _ _ _ h => h) rfl hX ?_ ?_; rotate_left; (intro W hW; go_simp; try with_reducible rfl); simp only [Act.put, qA, qB, qC]
    refine wpAnyH_done (by kernel_rfl) ?_ _
    have BE := Lib.hid (BXV.out.trans (hwb.mono BXV.out.size))
    clear hX hwb
    have e3 := HE3.out
    have e4 := HE4.out
    go_wp2_with fail
    exact ⟨⟨j + 1, HJ1.out, by congr 1, HCN.out, HSN.out, BE.out⟩, by simpa [intOf] using HMS.out⟩
   obtain rfl : ix = false := by simpa using hxj
   clear hxj
   have HCN := Lib.hid (show Value.bool false = Value.bool (catJ x y W (j + 1)) by rw [catJ, ← HC.out, ← HIX.out]; rfl)
   refine sg_take (i := 7) (oi := ⟨some 54, _, _, _, _, _⟩) (v := ?_) rfl (by kernel_rfl) (by kernel_rfl) (by kernel_rfl) (fun _ _ _ h => h) rfl hX ?_ ?_; rotate_left; (intro W hW; go_simp; try with_reducible rfl); simp only [Act.put, qA, qB, qC]
   refine sg_skip (i := 8) (oi := ⟨some 55, _, _, _, _, _⟩) rfl (by kernel_rfl) (by kernel_rfl) (by kernel_rfl) (fun _ _ _ h => h) rfl hX ?_; simp only [Act.put, qA, qB, qC]
   refine sg_skip (i := 9) (oi := ⟨some 56, _, _, _, _, _⟩) rfl (by kernel_rfl) (by kernel_rfl) (by kernel_rfl) (fun _ _ _ h => h) rfl hX ?_; simp only [Act.put, qA, qB, qC]
   refine sg_skip (i := 10) (oi := ⟨some 57, _, _, _, _, _⟩) rfl (by kernel_rfl) (by kernel_rfl) (by kernel_rfl) (fun _ _ _ h => h) rfl hX ?_; simp only [Act.put, qA, qB, qC]
   refine sg_skip (i := 11) (oi := ⟨some 58, _, _, _, _, _⟩) rfl (by kernel_rfl) (by kernel_rfl) (by kernel_rfl) (fun _ _ _ h => h) rfl hX ?_; simp only [Act.put, qA, qB, qC]
   refine sg_skip (i := 12) (oi := ⟨some 59, _, _, _, _, _⟩) rfl (by kernel_rfl) (by kernel_rfl) (by kernel_rfl) (fun _ _ _ h => h) rfl hX ?_; simp only [Act.put, qA, qB, qC]
   refine sg_take (i := 13) (oi := ⟨some 60, _, _, _, _, _⟩) (v := ?_) rfl (by kernel_rfl) (by kernel_rfl) (by kernel_rfl) (fun _ _ _ h => h) rfl hX ?_ ?_; rotate_left; (intro W hW; go_simp; try with_reducible rfl); simp only [Act.put, qA, qB, qC]
   refine sg_take (i := 14) (oi := ⟨some 61, _, _, _, _, _⟩) (v := ?_) rfl (by kernel_rfl) (by kernel_rfl) (by kernel_rfl) (fun _ _ _ h => h) rfl hX ?_ ?_; rotate_left; (intro W hW; go_simp; try with_reducible rfl); simp only [Act.put, qA, qB, qC]
   refine sg_take (i := 15) (oi := ⟨some 10, _, _, _, _, _⟩) (v := ?_) rfl (by kernel_rfl) (by kernel_rfl) (by kernel_rfl) (fun _ _ _ h => h) rfl hX ?_ ?_; rotate_left; (intro W hW; go_simp; try with_reducible rfl); simp only [Act.put, qA, qB, qC]
   refine wpAnyH_done (by kernel_rfl) ?_ _
   have BV := Lib.hid hwb
   clear hX hwb
   have LV := Lib.hid (LX.out.below BV.out LX.out.lt)
   have XV := Lib.hid (RxV.mono (XX.out.stay BV.out) BV.out.size)
   have RV := Lib.hid (RX.out.below BV.out)
   have BXV := Lib.hid (BX.out.trans (BV.out.mono BX.out.size))
   go_wp2_with fail
   refine sg_start (S := fun V => wa.grownBy V none) (by kernel_rfl) (grown_start _ _) (fun we hwe => ?_)
   have hX : wa.grownBy we none := by rw [hwe]; exact grown_start _ _
   have hwb : Below wa.heap.size wa we := by rw [hwe]; exact (Below.refl _ _).drew
   clear hwe
   obtain ⟨iq, hiq⟩ : ∃ s, s = lgB x (W.take j) := ⟨_, rfl⟩
   have HIX := Lib.hid hiq
   clear hiq
   have HRE := Lib.hid (show wa.rangeAt w7.heap.size 0 cs from fun i v hv => (LV.out.cell (0 + i)).trans (by rw [Nat.zero_add]; exact hv))
   by_cases hs : s = true
   ·subst hs
    have HSN := Lib.hid (show Value.bool true = Value.bool (starJ x W (j + 1)) by rw [starJ, ← HS.out]; rfl)
    refine sg_take (i := 0) (oi := ⟨some 62, _, _, _, _, _⟩) (v := ?_) rfl (by kernel_rfl) (by kernel_rfl) (by kernel_rfl) (fun _ _ _ h => h) rfl hX ?_ ?_; rotate_left; (intro W hW; go_simp; try with_reducible rfl); simp only [Act.put, qA, qB, qC]
    refine sg_take (i := 1) (oi := ⟨some 63, _, _, _, _, _⟩) (v := ?_) rfl (by kernel_rfl) (by kernel_rfl) (by kernel_rfl) (fun _ _ _ h => h) rfl hX ?_ ?_; rotate_left; (intro W hW; go_simp; try with_reducible rfl); simp only [Act.put, qA, qB, qC]
    refine sg_skip (i := 2) (oi := ⟨some 64, _, _, _, _, _⟩) rfl (by kernel_rfl) (by kernel_rfl) (by kernel_rfl) (fun _ _ _ h => h) rfl hX ?_; simp only [Act.put, qA, qB, qC]
    refine sg_skip (i := 3) (oi := ⟨some 65, _, _, _, _, _⟩) rfl (by kernel_rfl) (by kernel_rfl) (by kernel_rfl) (fun _ _ _ h => h) rfl hX ?_; simp only [Act.put, qA, qB, qC]
    refine sg_skip (i := 4) (oi := ⟨some 66, _, _, _, _, _⟩) rfl (by kernel_rfl) (by kernel_rfl) (by kernel_rfl) (fun _ _ _ h => h) rfl hX ?_; simp only [Act.put, qA, qB, qC]
    refine sg_skip (i := 5) (oi := ⟨some 67, _, _, _, _, _⟩) rfl (by kernel_rfl) (by kernel_rfl) (by kernel_rfl) (fun _ _ _ h => h) rfl hX ?_; simp only [Act.put, qA, qB, qC]
    refine sg_skip (i := 6) (oi := ⟨some 68, _, _, _, _, _⟩) rfl (by kernel_rfl) (by kernel_rfl) (by kernel_rfl) (fun _ _ _ h => h) rfl hX ?_; simp only [Act.put, qA, qB, qC]
    refine sg_skip (i := 7) (oi := ⟨some 69, _, _, _, _, _⟩) rfl (by kernel_rfl) (by kernel_rfl) (by kernel_rfl) (fun _ _ _ h => h) rfl hX ?_; simp only [Act.put, qA, qB, qC]
    refine sg_skip (i := 8) (oi := ⟨some 70, _, _, _, _, _⟩) rfl (by kernel_rfl) (by kernel_rfl) (by kernel_rfl) (fun _ _ _ h => h) rfl hX ?_; simp only [Act.put, qA, qB, qC]
    refine sg_skip (i := 9) (oi := ⟨some 71, _, _, _, _, _⟩) rfl (by kernel_rfl) (by kernel_rfl) (by kernel_rfl) (fun _ _ _ h => h) rfl hX ?_; simp only [Act.put, qA, qB, qC]
    refine sg_skip (i := 10) (oi := ⟨some 72, _, _, _, _, _⟩) rfl (by kernel_rfl) (by kernel_rfl) (by kernel_rfl) (fun _ _ _ h => h) rfl hX ?_; simp only [Act.put, qA, qB, qC]
    refine sg_skip (i := 11) (oi := ⟨some 73, _, _, _, _, _⟩) rfl (by kernel_rfl) (by kernel_rfl) (by kernel_rfl) (fun _ _ _ h => h) rfl hX ?_; simp only [Act.put, qA, qB, qC]
    refine sg_skip (i := 12) (oi := ⟨some 74, _, _, _, _, _⟩) rfl (by kernel_rfl) (by kernel_rfl) (by kernel_rfl) (fun _ _ _ h => h) rfl hX ?_; simp only [Act.put, qA, qB, qC]
    refine sg_skip (i := 13) (oi := ⟨some 75, _, _, _, _, _⟩) rfl (by kernel_rfl) (by kernel_rfl) (by kernel_rfl) (fun _ _ _ h => h) rfl hX ?_; simp only [Act.put, qA, qB, qC]
    refine sg_skip (i := 14) (oi := ⟨some 76, _, _, _, _, _⟩) rfl (by kernel_rfl) (by kernel_rfl) (by kernel_rfl) (fun _ _ _ h => h) rfl hX ?_; simp only [Act.put, qA, qB, qC]
    refine sg_skip (i := 15) (oi := ⟨some 77, _, _, _, _, _⟩) rfl (by kernel_rfl) (by kernel_rfl) (by kernel_rfl) (fun _ _ _ h => h) rfl hX ?_; simp only [Act.put, qA, qB, qC]
    refine sg_skip (i := 16) (oi := ⟨some 78, _, _, _, _, _⟩) rfl (by kernel_rfl) (by kernel_rfl) (by kernel_rfl) (fun _ _ _ h => h) rfl hX ?_; simp only [Act.put, qA, qB, qC]
    refine sg_skip (i := 17) (oi := ⟨some 79, _, _, _, _, _⟩) rfl (by kernel_rfl) (by kernel_rfl) (by kernel_rfl) (fun _ _ _ h => h) rfl hX ?_; simp only [Act.put, qA, qB, qC]
    refine sg_skip (i := 18) (oi := ⟨some 80, _, _, _, _, _⟩) rfl (by kernel_rfl) (by kernel_rfl) (by kernel_rfl) (fun _ _ _ h => h) rfl hX ?_; simp only [Act.put, qA, qB, qC]
    refine sg_take (i := 19) (oi := ⟨some 81, _, _, _, _, _⟩) (v := ?_) rfl (by kernel_rfl) (by kernel_rfl) (by kernel_rfl) (fun _ _ _ h => h) rfl hX ?_ ?_; rotate_left; (intro W hW; go_simp; try with_reducible rfl); simp only [Act.put, qA, qB, qC]
    refine sg_take (i := 20) (oi := ⟨some 11, _, _, _, _, _⟩) (v := ?_) rfl (by kernel_rfl) (by kernel_rfl) (by kernel_rfl) (fun _ _ _ h => h) rfl hX ?_ ?_; rotate_left; (intro W hW; go_simp; try with_reducible rfl); simp only [Act.put, qA, qB, qC]
    refine wpAnyH_done (by kernel_rfl) ?_ _
    have BE := Lib.hid (BXV.out.trans (hwb.mono BXV.out.size))
    clear hX hwb
    have e3 := HE3.out
    have e4 := HE4.out
    go_wp2_with fail
    exact ⟨⟨j + 1, HJ1.out, by congr 1, HCN.out, HSN.out, BE.out⟩, by simpa [intOf] using HMS.out⟩
   obtain rfl : s = false := by simpa using hs
   clear hs
   by_cases hj0 : j = 0
   ·have z0 : decide ((0 : Int) < (j : Int)) = false := decide_eq_false (by omega)
    have HSN := Lib.hid (show Value.bool false = Value.bool (starJ x W (j + 1)) by rw [starJ, ← HS.out, z0]; rfl)
    clear hj0
    refine sg_take (i := 0) (oi := ⟨some 62, _, _, _, _, _⟩) (v := ?_) rfl (by kernel_rfl) (by kernel_rfl) (by kernel_rfl) (fun _ _ _ h => h) rfl hX ?_ ?_; rotate_left; (intro W hW; go_simp; try with_reducible rfl); simp only [Act.put, qA, qB, qC]
    refine sg_take (i := 1) (oi := ⟨some 63, _, _, _, _, _⟩) (v := ?_) rfl (by kernel_rfl) (by kernel_rfl) (by kernel_rfl) (fun _ _ _ h => h) rfl hX ?_ ?_; rotate_left; (intro W hW; go_simp; try with_reducible rfl); simp only [Act.put, qA, qB, qC]
    refine sg_take (i := 2) (oi := ⟨some 64, _, _, _, _, _⟩) (v := ?_) rfl (by kernel_rfl) (by kernel_rfl) (by kernel_rfl) (fun _ _ _ h => h) rfl hX ?_ ?_; rotate_left; (intro W hW; go_simp; try with_reducible rfl); simp only [Act.put, qA, qB, qC]
    refine sg_take (i := 3) (oi := ⟨some 65, _, _, _, _, _⟩) (v := .bool false) rfl (by kernel_rfl) (by kernel_rfl) (by kernel_rfl) (fun _ _ _ h => h) rfl hX (fun V _ => gt_at _ rfl rfl rfl z0 V) ?_; simp only [Act.put, qA, qB, qC]
    refine sg_take (i := 4) (oi := ⟨some 66, _, _, _, _, _⟩) (v := ?_) rfl (by kernel_rfl) (by kernel_rfl) (by kernel_rfl) (fun _ _ _ h => h) rfl hX ?_ ?_; rotate_left; (intro W hW; go_simp; try with_reducible rfl); simp only [Act.put, qA, qB, qC]
    refine sg_skip (i := 5) (oi := ⟨some 67, _, _, _, _, _⟩) rfl (by kernel_rfl) (by kernel_rfl) (by kernel_rfl) (fun _ _ _ h => h) rfl hX ?_; simp only [Act.put, qA, qB, qC]
    refine sg_skip (i := 6) (oi := ⟨some 68, _, _, _, _, _⟩) rfl (by kernel_rfl) (by kernel_rfl) (by kernel_rfl) (fun _ _ _ h => h) rfl hX ?_; simp only [Act.put, qA, qB, qC]
    refine sg_skip (i := 7) (oi := ⟨some 69, _, _, _, _, _⟩) rfl (by kernel_rfl) (by kernel_rfl) (by kernel_rfl) (fun _ _ _ h => h) rfl hX ?_; simp only [Act.put, qA, qB, qC]
    refine sg_skip (i := 8) (oi := ⟨some 70, _, _, _, _, _⟩) rfl (by kernel_rfl) (by kernel_rfl) (by kernel_rfl) (fun _ _ _ h => h) rfl hX ?_; simp only [Act.put, qA, qB, qC]
    refine sg_skip (i := 9) (oi := ⟨some 71, _, _, _, _, _⟩) rfl (by kernel_rfl) (by kernel_rfl) (by kernel_rfl) (fun _ _ _ h => h) rfl hX ?_; simp only [Act.put, qA, qB, qC]
    refine sg_take (i := 10) (oi := ⟨some 72, _, _, _, _, _⟩) (v := ?_) rfl (by kernel_rfl) (by kernel_rfl) (by kernel_rfl) (fun _ _ _ h => h) rfl hX ?_ ?_; rotate_left; (intro W hW; go_simp; try with_reducible rfl); simp only [Act.put, qA, qB, qC]
    refine sg_take (i := 11) (oi := ⟨some 73, _, _, _, _, _⟩) (v := ?_) rfl (by kernel_rfl) (by kernel_rfl) (by kernel_rfl) (fun _ _ _ h => h) rfl hX ?_ ?_; rotate_left; (intro W hW; go_simp; try with_reducible rfl); simp only [Act.put, qA, qB, qC]
    refine sg_skip (i := 12) (oi := ⟨some 74, _, _, _, _, _⟩) rfl (by kernel_rfl) (by kernel_rfl) (by kernel_rfl) (fun _ _ _ h => h) rfl hX ?_; simp only [Act.put, qA, qB, qC]
    refine sg_skip (i := 13) (oi := ⟨some 75, _, _, _, _, _⟩) rfl (by kernel_rfl) (by kernel_rfl) (by kernel_rfl) (fun _ _ _ h => h) rfl hX ?_; simp only [Act.put, qA, qB, qC]
    refine sg_skip (i := 14) (oi := ⟨some 76, _, _, _, _, _⟩) rfl (by kernel_rfl) (by kernel_rfl) (by kernel_rfl) (fun _ _ _ h => h) rfl hX ?_; simp only [Act.put, qA, qB, qC]
    refine sg_skip (i := 15) (oi := ⟨some 77, _, _, _, _, _⟩) rfl (by kernel_rfl) (by kernel_rfl) (by kernel_rfl) (fun _ _ _ h => h) rfl hX ?_; simp only [Act.put, qA, qB, qC]
    refine sg_skip (i := 16) (oi := ⟨some 78, _, _, _, _, _⟩) rfl (by kernel_rfl) (by kernel_rfl) (by kernel_rfl) (fun _ _ _ h => h) rfl hX ?_; simp only [Act.put, qA, qB, qC]
    refine sg_skip (i := 17) (oi := ⟨some 79, _, _, _, _, _⟩) rfl (by kernel_rfl) (by kernel_rfl) (by kernel_rfl) (fun _ _ _ h => h) rfl hX ?_; simp only [Act.put, qA, qB, qC]
    refine sg_take (i := 18) (oi := ⟨some 80, _, _, _, _, _⟩) (v := ?_) rfl (by kernel_rfl) (by kernel_rfl) (by kernel_rfl) (fun _ _ _ h => h) rfl hX ?_ ?_; rotate_left; (intro W hW; go_simp; try with_reducible rfl); simp only [Act.put, qA, qB, qC]
    refine sg_take (i := 19) (oi := ⟨some 81, _, _, _, _, _⟩) (v := ?_) rfl (by kernel_rfl) (by kernel_rfl) (by kernel_rfl) (fun _ _ _ h => h) rfl hX ?_ ?_; rotate_left; (intro W hW; go_simp; try with_reducible rfl); simp only [Act.put, qA, qB, qC]
    refine sg_take (i := 20) (oi := ⟨some 11, _, _, _, _, _⟩) (v := ?_) rfl (by kernel_rfl) (by kernel_rfl) (by kernel_rfl) (fun _ _ _ h => h) rfl hX ?_ ?_; rotate_left; (intro W hW; go_simp; try with_reducible rfl); simp only [Act.put, qA, qB, qC]
    refine wpAnyH_done (by kernel_rfl) ?_ _
    clear z0
    have BE := Lib.hid (BXV.out.trans (hwb.mono BXV.out.size))
    clear hX hwb
    have e3 := HE3.out
    have e4 := HE4.out
    go_wp2_with fail
    exact ⟨⟨j + 1, HJ1.out, by congr 1, HCN.out, HSN.out, BE.out⟩, by simpa [intOf] using HMS.out⟩
   have z0 : decide ((0 : Int) < (j : Int)) = true := decide_eq_true (by omega)
   have HZJ := Lib.hid z0
   clear hj0
   refine sg_take (i := 0) (oi := ⟨some 62, _, _, _, _, _⟩) (v := ?_) rfl (by kernel_rfl) (by kernel_rfl) (by kernel_rfl) (fun _ _ _ h => h) rfl hX ?_ ?_; rotate_left; (intro W hW; go_simp; try with_reducible rfl); simp only [Act.put, qA, qB, qC]
   refine sg_take (i := 1) (oi := ⟨some 63, _, _, _, _, _⟩) (v := ?_) rfl (by kernel_rfl) (by kernel_rfl) (by kernel_rfl) (fun _ _ _ h => h) rfl hX ?_ ?_; rotate_left; (intro W hW; go_simp; try with_reducible rfl); simp only [Act.put, qA, qB, qC]
   refine sg_take (i := 2) (oi := ⟨some 64, _, _, _, _, _⟩) (v := ?_) rfl (by kernel_rfl) (by kernel_rfl) (by kernel_rfl) (fun _ _ _ h => h) rfl hX ?_ ?_; rotate_left; (intro W hW; go_simp; try with_reducible rfl); simp only [Act.put, qA, qB, qC]
   refine sg_take (i := 3) (oi := ⟨some 65, _, _, _, _, _⟩) (v := .bool true) rfl (by kernel_rfl) (by kernel_rfl) (by kernel_rfl) (fun _ _ _ h => h) rfl hX (fun V _ => gt_at _ rfl rfl rfl HZJ.out V) ?_; simp only [Act.put, qA, qB, qC]
   refine sg_take (i := 4) (oi := ⟨some 66, _, _, _, _, _⟩) (v := ?_) rfl (by kernel_rfl) (by kernel_rfl) (by kernel_rfl) (fun _ _ _ h => h) rfl hX ?_ ?_; rotate_left; (intro W hW; go_simp; try with_reducible rfl); simp only [Act.put, qA, qB, qC]
   refine sg_take (i := 5) (oi := ⟨some 67, _, _, _, _, _⟩) (v := .agg cs.toArray) rfl (by kernel_rfl) (by kernel_rfl) (by kernel_rfl) (fun _ _ _ h => h) rfl hX (fun W hW => ld_keep 27 _ rfl w7.heap.size 0 rfl _ _ HRE.out (hW.block _ LV.out.lt (by simp)) Try.underlying27 rfl (size_rx C6.out)) ?_; simp only [Act.put, qA, qB, qC]
   refine sg_take (i := 6) (oi := ⟨some 68, _, _, _, _, _⟩) (v := ?_) rfl (by kernel_rfl) (by kernel_rfl) (by kernel_rfl) (fun _ _ _ h => h) rfl hX ?_ ?_; rotate_left; (intro W hW; go_simp; try with_reducible rfl); simp only [Act.put, qA, qB, qC]
   refine sg_take (i := 7) (oi := ⟨some 69, _, _, _, _, _⟩) (v := ?_) rfl (by kernel_rfl) (by kernel_rfl) (by kernel_rfl) (fun _ _ _ h => h) rfl hX ?_ ?_; rotate_left; (intro W hW; go_simp; try with_reducible rfl); simp only [Act.put, qA, qB, qC]
   refine sg_take (i := 8) (oi := ⟨some 70, _, _, _, _, _⟩) (v := slT A6 cap6 j) rfl (by kernel_rfl) (by kernel_rfl) (by kernel_rfl) (fun _ _ _ h => h) rfl hX (fun V _ => sl_to _ _ rfl rfl rfl HJC.out V) ?_; simp only [Act.put, qA, qB, qC]
   refine sg_actB (i := 9) (o := ⟨some 71, _, _, _, _, _⟩) rfl (by kernel_rfl) rfl hX (fun K hK => ?_)
   go_wp2_with fail
   refine (lIn_any x HX2.out (W.take j) HWT.out _ cs we (slT_row (RV.out.below hwb) j HJL.out) ((XV.out.stay hwb).mono hwb.size)).mono ?_
   rintro e wf ⟨rfl, hb⟩
   rw [← HIX.out]
   go_wp2_with fail
   refine hK _ _ (grown_then hX hb) ?_
   clear hK K
   (try simp only [Act.put, qA, qB, qC])
   replace hX := grown_then hX hb
   replace hwb := hwb.trans (hb.mono hwb.size)
   clear hb
   by_cases hxj : iq = true
   ·have HIX' := Lib.hid (show true = lgB x (W.take j) by rw [← hxj]; exact HIX.out)
    subst hxj
    have HSN := Lib.hid (show Value.bool iz = Value.bool (starJ x W (j + 1)) by rw [starJ, ← HS.out, HZJ.out, ← HIX.out, ← HIZ.out]; rfl)
    refine sg_take (i := 10) (oi := ⟨some 72, _, _, _, _, _⟩) (v := ?_) rfl (by kernel_rfl) (by kernel_rfl) (by kernel_rfl) (fun _ _ _ h => h) rfl hX ?_ ?_; rotate_left; (intro W hW; go_simp; try with_reducible rfl); simp only [Act.put, qA, qB, qC]
    refine sg_take (i := 11) (oi := ⟨some 73, _, _, _, _, _⟩) (v := ?_) rfl (by kernel_rfl) (by kernel_rfl) (by kernel_rfl) (fun _ _ _ h => h) rfl hX ?_ ?_; rotate_left; (intro W hW; go_simp; try with_reducible rfl); simp only [Act.put, qA, qB, qC]
    refine sg_take (i := 12) (oi := ⟨some 74, _, _, _, _, _⟩) (v := .agg cs.toArray) rfl (by kernel_rfl) (by kernel_rfl) (by kernel_rfl) (fun _ _ _ h => h) rfl hX (fun W hW => ld_keep 27 _ rfl w7.heap.size 0 rfl _ _ HRE.out (hW.block _ LV.out.lt (by simp)) Try.underlying27 rfl (size_rx C6.out)) ?_; simp only [Act.put, qA, qB, qC]
    refine sg_take (i := 14) (oi := ⟨some 76, _, _, _, _, _⟩) (v := ?_) rfl (by kernel_rfl) (by kernel_rfl) (by kernel_rfl) (fun _ _ _ h => h) rfl hX ?_ ?_; rotate_left; (intro W hW; go_simp; try with_reducible rfl); simp only [Act.put, qA, qB, qC]
    refine sg_take (i := 15) (oi := ⟨some 77, _, _, _, _, _⟩) (v := ?_) rfl (by kernel_rfl) (by kernel_rfl) (by kernel_rfl) (fun _ _ _ h => h) rfl hX ?_ ?_; rotate_left; (intro W hW; go_simp; try with_reducible rfl); simp only [Act.put, qA, qB, qC]
    refine sg_take (i := 16) (oi := ⟨some 78, _, _, _, _, _⟩) (v := slF A6 W.length cap6 j) rfl (by kernel_rfl) (by kernel_rfl) (by kernel_rfl) (fun _ _ _ h => h) rfl hX (fun V _ => sl_from _ _ rfl rfl rfl HJL.out V) ?_; simp only [Act.put, qA, qB, qC]
    refine sg_actB (i := 13) (o := ⟨some 75, _, _, _, _, _⟩) rfl (by kernel_rfl) rfl hX (fun K hK => ?_)
    go_wp2_with fail
    refine (refStar_any x cs wf (D := fun k => k < wf.heap.size) (fun k hk => hk) ((XV.out.stay hwb).mono hwb.size) HX3.out HGX.out).mono ?_
    rintro e wg ⟨es, rfl, hes, hb⟩
    have HES := Lib.hid (show RxV wg.heap.size wg es (starT x) from RxD.mono hes fun k hk => hk.2)
    clear hes
    go_wp2_with fail
    refine hK _ _ (grown_then hX hb) ?_
    clear hK K
    (try simp only [Act.put, qA, qB, qC])
    replace hX := grown_then hX hb
    replace hwb := hwb.trans (hb.mono hwb.size)
    clear hb
    refine sg_actB (i := 17) (o := ⟨some 79, _, _, _, _, _⟩) rfl (by kernel_rfl) rfl hX (fun K hK => ?_)
    go_wp2_with fail
    refine (lIn_any (starT x) HST.out (W.drop j) HWD.out _ es wg (slF_row (RV.out.below hwb) j HJL.out) HES.out).mono ?_
    rintro e wh ⟨rfl, hb⟩
    rw [← HIZ.out]
    go_wp2_with fail
    refine hK _ _ (grown_then hX hb) ?_
    clear hK K
    (try simp only [Act.put, qA, qB, qC])
    replace hX := grown_then hX hb
    replace hwb := hwb.trans (hb.mono hwb.size)
    clear hb
    refine sg_take (i := 18) (oi := ⟨some 80, _, _, _, _, _⟩) (v := ?_) rfl (by kernel_rfl) (by kernel_rfl) (by kernel_rfl) (fun _ _ _ h => h) rfl hX ?_ ?_; rotate_left; (intro W hW; go_simp; try with_reducible rfl); simp only [Act.put, qA, qB, qC]
    refine sg_take (i := 19) (oi := ⟨some 81, _, _, _, _, _⟩) (v := ?_) rfl (by kernel_rfl) (by kernel_rfl) (by kernel_rfl) (fun _ _ _ h => h) rfl hX ?_ ?_; rotate_left; (intro W hW; go_simp; try with_reducible rfl); simp only [Act.put, qA, qB, qC]
    refine sg_take (i := 20) (oi := ⟨some 11, _, _, _, _, _⟩) (v := ?_) rfl (by kernel_rfl) (by kernel_rfl) (by kernel_rfl) (fun _ _ _ h => h) rfl hX ?_ ?_; rotate_left; (intro W hW; go_simp; try with_reducible rfl); simp only [Act.put, qA, qB, qC]
    refine wpAnyH_done (by kernel_rfl) ?_ _
    have BE := Lib.hid (BXV.out.trans (hwb.mono BXV.out.size))
    clear hX hwb
    have e3 := HE3.out
    have e4 := HE4.out
    go_wp2_with fail
    exact ⟨⟨j + 1, HJ1.out, by congr 1, HCN.out, HSN.out, BE.out⟩, by simpa [intOf] using HMS.out⟩
   obtain rfl : iq = false := by simpa using hxj
   clear hxj
   have HSN := Lib.hid (show Value.bool false = Value.bool (starJ x W (j + 1)) by rw [starJ, ← HS.out, HZJ.out, ← HIX.out]; rfl)
   refine sg_take (i := 10) (oi := ⟨some 72, _, _, _, _, _⟩) (v := ?_) rfl (by kernel_rfl) (by kernel_rfl) (by kernel_rfl) (fun _ _ _ h => h) rfl hX ?_ ?_; rotate_left; (intro W hW; go_simp; try with_reducible rfl); simp only [Act.put, qA, qB, qC]
   refine sg_take (i := 11) (oi := ⟨some 73, _, _, _, _, _⟩) (v := ?_) rfl (by kernel_rfl) (by kernel_rfl) (by kernel_rfl) (fun _ _ _ h => h) rfl hX ?_ ?_; rotate_left; (intro W hW; go_simp; try with_reducible rfl); simp only [Act.put, qA, qB, qC]
   refine sg_skip (i := 12) (oi := ⟨some 74, _, _, _, _, _⟩) rfl (by kernel_rfl) (by kernel_rfl) (by kernel_rfl) (fun _ _ _ h => h) rfl hX ?_; simp only [Act.put, qA, qB, qC]
   refine sg_skip (i := 13) (oi := ⟨some 75, _, _, _, _, _⟩) rfl (by kernel_rfl) (by kernel_rfl) (by kernel_rfl) (fun _ _ _ h => h) rfl hX ?_; simp only [Act.put, qA, qB, qC]
   refine sg_skip (i := 14) (oi := ⟨some 76, _, _, _, _, _⟩) rfl (by kernel_rfl) (by kernel_rfl) (by kernel_rfl) (fun _ _ _ h => h) rfl hX ?_; simp only [Act.put, qA, qB, qC]
   refine sg_skip (i := 15) (oi := ⟨some 77, _, _, _, _, _⟩) rfl (by kernel_rfl) (by kernel_rfl) (by kernel_rfl) (fun _ _ _ h => h) rfl hX ?_; simp only [Act.put, qA, qB, qC]
   refine sg_skip (i := 16) (oi := ⟨some 78, _, _, _, _, _⟩) rfl (by kernel_rfl) (by kernel_rfl) (by kernel_rfl) (fun _ _ _ h => h) rfl hX ?_; simp only [Act.put, qA, qB, qC]
   refine sg_skip (i := 17) (oi := ⟨some 79, _, _, _, _, _⟩) rfl (by kernel_rfl) (by kernel_rfl) (by kernel_rfl) (fun _ _ _ h => h) rfl hX ?_; simp only [Act.put, qA, qB, qC]
   refine sg_take (i := 18) (oi := ⟨some 80, _, _, _, _, _⟩) (v := ?_) rfl (by kernel_rfl) (by kernel_rfl) (by kernel_rfl) (fun _ _ _ h => h) rfl hX ?_ ?_; rotate_left; (intro W hW; go_simp; try with_reducible rfl); simp only [Act.put, qA, qB, qC]
   refine sg_take (i := 19) (oi := ⟨some 81, _, _, _, _, _⟩) (v := ?_) rfl (by kernel_rfl) (by kernel_rfl) (by kernel_rfl) (fun _ _ _ h => h) rfl hX ?_ ?_; rotate_left; (intro W hW; go_simp; try with_reducible rfl); simp only [Act.put, qA, qB, qC]
   refine sg_take (i := 20) (oi := ⟨some 11, _, _, _, _, _⟩) (v := ?_) rfl (by kernel_rfl) (by kernel_rfl) (by kernel_rfl) (fun _ _ _ h => h) rfl hX ?_ ?_; rotate_left; (intro W hW; go_simp; try with_reducible rfl); simp only [Act.put, qA, qB, qC]
   refine wpAnyH_done (by kernel_rfl) ?_ _
   have BE := Lib.hid (BXV.out.trans (hwb.mono BXV.out.size))
   clear hX hwb
   have e3 := HE3.out
   have e4 := HE4.out
   go_wp2_with fail
   exact ⟨⟨j + 1, HJ1.out, by congr 1, HCN.out, HSN.out, BE.out⟩, by simpa [intOf] using HMS.out⟩
  ·obtain rfl : j = W.length + 1 := by omega
   have j1 : ¬ (((W.length + 1 : Nat) : Int) ≤ (W.length : Int)) := by omega
   have HCM := Lib.hid (cat_means x y W)
   have HSM := Lib.hid (star_means HGX.out W)
   have HAM := Lib.hid (alt_means HGX.out HGY.out W)
   obtain ⟨cv, hcv⟩ : ∃ c, c = catJ x y W (W.length + 1) := ⟨_, rfl⟩
   obtain ⟨sv, hsv⟩ : ∃ c, c = starJ x W (W.length + 1) := ⟨_, rfl⟩
   obtain ⟨xi, hxi⟩ : ∃ c, c = lgB x W := ⟨_, rfl⟩
   obtain ⟨yi, hyi⟩ : ∃ c, c = lgB y W := ⟨_, rfl⟩
   rw [← hcv, ← hsv]
   rw [← hcv] at HCM
   rw [← hsv] at HSM
   rw [← hxi, ← hyi] at HAM
   have HXI := Lib.hid hxi
   have HYI := Lib.hid hyi
   clear hcv hsv hxi hyi hj hjl
   cases xi with
   | true =>
    replace HAM := Lib.hid (HAM.out.trans (Bool.true_or yi))
    go_wp2_with (first
     | ((with_reducible refine atDst 82 ?_); refine wpList_ldArr rfl 27 _ rfl w7.heap.size rfl 27 _ _ LR.out Try.underlying27 rfl (size_rx C6.out) ?_; (try simp only [Act.put, qA, qB, qC]))
     | ((with_reducible refine atDst 83 ?_); refine wpList_ldArr rfl 27 _ rfl w8.heap.size rfl 27 _ _ MR.out Try.underlying27 rfl (size_rx D6.out) ?_; (try simp only [Act.put, qA, qB, qC]))
     | ((with_reducible refine atDst 84 ?_); refine wpList_bldT2 rfl 25 27 (.tmp 82) (.tmp 83) rfl i0 Try.underlying25 hi0 HZ1.out hz1 cs ds C6.out D6.out rfl rfl ?_; intro wt hk hb hs; have KT := Lib.hid hk; have BT := Lib.hid hb; clear hk hb hs; (try simp only [Act.put, qA, qB, qC])))
    have XX := Lib.hid (RxV.mono (XR.out.stay BT.out) BT.out.size)
    have YX := Lib.hid (RxV.mono (YR.out.stay BT.out) BT.out.size)
    have RX := Lib.hid (RR.out.below BT.out)
    have LX := Lib.hid (LR.out.below BT.out LR.out.lt)
    have MX := Lib.hid (MR.out.below BT.out MR.out.lt)
    have BXW := Lib.hid (BRW.out.trans (BT.out.mono BRW.out.size))
    have H2T := Lib.hid (row_two KT.out XX.out YX.out KT.out.lt)
    have HRX := Lib.hid (show wt.rangeAt w7.heap.size 0 cs from fun i v hv => (LX.out.cell (0 + i)).trans (by rw [Nat.zero_add]; exact hv))
    have HRY := Lib.hid (show wt.rangeAt w8.heap.size 0 ds from fun i v hv => (MX.out.cell (0 + i)).trans (by rw [Nat.zero_add]; exact hv))
    refine sg_start (S := fun V => wt.grownBy V none) (by kernel_rfl) (grown_start _ _) (fun wd hwd => ?_)
    have hX : wt.grownBy wd none := by rw [hwd]; exact grown_start _ _
    have hwb : Below wt.heap.size wt wd := by rw [hwd]; exact (Below.refl _ _).drew
    clear hwd
    refine sg_take (i := 0) (oi := ⟨some 85, _, _, _, _, _⟩) (v := ?_) rfl (by kernel_rfl) (by kernel_rfl) (by kernel_rfl) (fun _ _ _ h => h) rfl hX ?_ ?_; rotate_left; (intro W hW; go_simp; try with_reducible rfl); simp only [Act.put, qA, qB, qC]
    refine sg_take (i := 2) (oi := ⟨some 87, _, _, _, _, _⟩) (v := ?_) rfl (by kernel_rfl) (by kernel_rfl) (by kernel_rfl) (fun _ _ _ h => h) rfl hX ?_ ?_; rotate_left; (intro W hW; go_simp; try with_reducible rfl); simp only [Act.put, qA, qB, qC]
    refine sg_take (i := 4) (oi := ⟨some 89, _, _, _, _, _⟩) (v := ?_) rfl (by kernel_rfl) (by kernel_rfl) (by kernel_rfl) (fun _ _ _ h => h) rfl hX ?_ ?_; rotate_left; (intro W hW; go_simp; try with_reducible rfl); simp only [Act.put, qA, qB, qC]
    refine sg_actB (i := 1) (o := ⟨some 86, _, _, _, _, _⟩) rfl (by kernel_rfl) rfl hX (fun K hK => ?_)
    go_wp2_with fail
    refine (refCat_any [x, y] _ wd ((H2T.out.below hwb).monoX hwb.size) HN2.out).mono ?_
    rintro e wa ⟨es, rfl, hes, hb⟩
    have HES := Lib.hid (show RxV wa.heap.size wa es (catT [x, y]) from RxD.mono hes fun k hk => hk.2)
    clear hes
    go_wp2_with fail
    refine hK _ _ (grown_then hX hb) ?_
    clear hK K
    (try simp only [Act.put, qA, qB, qC])
    replace hX := grown_then hX hb
    replace hwb := hwb.trans (hb.mono hwb.size)
    clear hb
    refine sg_actB (i := 3) (o := ⟨some 88, _, _, _, _, _⟩) rfl (by kernel_rfl) rfl hX (fun K hK => ?_)
    go_wp2_with fail
    refine (lIn_any (catT [x, y]) HCT.out W HW2.out _ es wa (RX.out.below hwb) HES.out).mono ?_
    rintro e wb ⟨rfl, hb⟩
    rw [HCM.out]
    go_wp2_with fail
    refine hK _ _ (grown_then hX hb) ?_
    clear hK K
    (try simp only [Act.put, qA, qB, qC])
    replace hX := grown_then hX hb
    replace hwb := hwb.trans (hb.mono hwb.size)
    clear hb
    have hs1 : (cv == cv) = true := by simp
    refine sg_take (i := 5) (oi := ⟨some 90, _, _, _, _, _⟩) (v := ?_) rfl (by kernel_rfl) (by kernel_rfl) (by kernel_rfl) (fun _ _ _ h => h) rfl hX ?_ ?_; rotate_left; (intro W hW; go_simp; try with_reducible rfl); simp only [Act.put, qA, qB, qC]
    refine sg_take (i := 6) (oi := ⟨some 91, _, _, _, _, _⟩) (v := ?_) rfl (by kernel_rfl) (by kernel_rfl) (by kernel_rfl) (fun _ _ _ h => h) rfl hX ?_ ?_; rotate_left; (intro W hW; go_simp; try with_reducible rfl); simp only [Act.put, qA, qB, qC]
    refine sg_take (i := 7) (oi := ⟨some 92, _, _, _, _, _⟩) (v := ?_) rfl (by kernel_rfl) (by kernel_rfl) (by kernel_rfl) (fun _ _ _ h => h) rfl hX ?_ ?_; rotate_left; (intro W hW; go_simp; try with_reducible rfl); simp only [Act.put, qA, qB, qC]
    refine sg_take (i := 9) (oi := ⟨some 94, _, _, _, _, _⟩) (v := ?_) rfl (by kernel_rfl) (by kernel_rfl) (by kernel_rfl) (fun _ _ _ h => h) rfl hX ?_ ?_; rotate_left; (intro W hW; go_simp; try with_reducible rfl); simp only [Act.put, qA, qB, qC]
    refine sg_take (i := 11) (oi := ⟨some 96, _, _, _, _, _⟩) (v := .agg cs.toArray) rfl (by kernel_rfl) (by kernel_rfl) (by kernel_rfl) (fun _ _ _ h => h) rfl hX (fun W hW => ld_keep 27 _ rfl w7.heap.size 0 rfl _ _ HRX.out (hW.block _ LX.out.lt (by simp)) Try.underlying27 rfl (size_rx C6.out)) ?_; simp only [Act.put, qA, qB, qC]
    refine sg_take (i := 12) (oi := ⟨some 97, _, _, _, _, _⟩) (v := ?_) rfl (by kernel_rfl) (by kernel_rfl) (by kernel_rfl) (fun _ _ _ h => h) rfl hX ?_ ?_; rotate_left; (intro W hW; go_simp; try with_reducible rfl); simp only [Act.put, qA, qB, qC]
    refine sg_actB (i := 8) (o := ⟨some 93, _, _, _, _, _⟩) rfl (by kernel_rfl) rfl hX (fun K hK => ?_)
    clear hs1
    go_wp2_with fail
    refine (refAlt_any [x, y] _ wb ((H2T.out.below hwb).monoX hwb.size) HN3.out).mono ?_
    rintro e wc ⟨fs, rfl, hfs, hb⟩
    have HFS := Lib.hid (show RxV wc.heap.size wc fs (altT [x, y]) from RxD.mono hfs fun k hk => hk.2)
    clear hfs
    go_wp2_with fail
    refine hK _ _ (grown_then hX hb) ?_
    clear hK K
    (try simp only [Act.put, qA, qB, qC])
    replace hX := grown_then hX hb
    replace hwb := hwb.trans (hb.mono hwb.size)
    clear hb
    refine sg_actB (i := 10) (o := ⟨some 95, _, _, _, _, _⟩) rfl (by kernel_rfl) rfl hX (fun K hK => ?_)
    go_wp2_with fail
    refine (lIn_any (altT [x, y]) HAT.out W HW2.out _ fs wc (RX.out.below hwb) HFS.out).mono ?_
    rintro e we ⟨rfl, hb⟩
    rw [HAM.out]
    go_wp2_with fail
    refine hK _ _ (grown_then hX hb) ?_
    clear hK K
    (try simp only [Act.put, qA, qB, qC])
    replace hX := grown_then hX hb
    replace hwb := hwb.trans (hb.mono hwb.size)
    clear hb
    refine sg_actB (i := 13) (o := ⟨some 98, _, _, _, _, _⟩) rfl (by kernel_rfl) rfl hX (fun K hK => ?_)
    go_wp2_with fail
    refine (lIn_any x HX2.out W HW2.out _ cs we (RX.out.below hwb) ((XX.out.stay hwb).mono hwb.size)).mono ?_
    rintro e wf ⟨rfl, hb⟩
    rw [← HXI.out]
    go_wp2_with fail
    refine hK _ _ (grown_then hX hb) ?_
    clear hK K
    (try simp only [Act.put, qA, qB, qC])
    replace hX := grown_then hX hb
    replace hwb := hwb.trans (hb.mono hwb.size)
    clear hb
    have hs3 : (true == true) = true := rfl
    refine sg_take (i := 14) (oi := ⟨some 99, _, _, _, _, _⟩) (v := ?_) rfl (by kernel_rfl) (by kernel_rfl) (by kernel_rfl) (fun _ _ _ h => h) rfl hX ?_ ?_; rotate_left; (intro W hW; go_simp; try with_reducible rfl); simp only [Act.put, qA, qB, qC]
    refine sg_skip (i := 15) (oi := ⟨some 100, _, _, _, _, _⟩) rfl (by kernel_rfl) (by kernel_rfl) (by kernel_rfl) (fun _ _ _ h => h) rfl hX ?_; simp only [Act.put, qA, qB, qC]
    refine sg_skip (i := 16) (oi := ⟨some 101, _, _, _, _, _⟩) rfl (by kernel_rfl) (by kernel_rfl) (by kernel_rfl) (fun _ _ _ h => h) rfl hX ?_; simp only [Act.put, qA, qB, qC]
    refine sg_skip (i := 17) (oi := ⟨some 102, _, _, _, _, _⟩) rfl (by kernel_rfl) (by kernel_rfl) (by kernel_rfl) (fun _ _ _ h => h) rfl hX ?_; simp only [Act.put, qA, qB, qC]
    refine sg_take (i := 18) (oi := ⟨some 103, _, _, _, _, _⟩) (v := ?_) rfl (by kernel_rfl) (by kernel_rfl) (by kernel_rfl) (fun _ _ _ h => h) rfl hX ?_ ?_; rotate_left; (intro W hW; go_simp; try with_reducible rfl); simp only [Act.put, qA, qB, qC]
    refine sg_take (i := 19) (oi := ⟨some 104, _, _, _, _, _⟩) (v := ?_) rfl (by kernel_rfl) (by kernel_rfl) (by kernel_rfl) (fun _ _ _ h => h) rfl hX ?_ ?_; rotate_left; (intro W hW; go_simp; try with_reducible rfl); simp only [Act.put, qA, qB, qC]
    refine sg_take (i := 20) (oi := ⟨some 105, _, _, _, _, _⟩) (v := ?_) rfl (by kernel_rfl) (by kernel_rfl) (by kernel_rfl) (fun _ _ _ h => h) rfl hX ?_ ?_; rotate_left; (intro W hW; go_simp; try with_reducible rfl); simp only [Act.put, qA, qB, qC]
    refine sg_take (i := 21) (oi := ⟨some 106, _, _, _, _, _⟩) (v := ?_) rfl (by kernel_rfl) (by kernel_rfl) (by kernel_rfl) (fun _ _ _ h => h) rfl hX ?_ ?_; rotate_left; (intro W hW; go_simp; try with_reducible rfl); simp only [Act.put, qA, qB, qC]
    refine sg_take (i := 22) (oi := ⟨some 107, _, _, _, _, _⟩) (v := .agg cs.toArray) rfl (by kernel_rfl) (by kernel_rfl) (by kernel_rfl) (fun _ _ _ h => h) rfl hX (fun W hW => ld_keep 27 _ rfl w7.heap.size 0 rfl _ _ HRX.out (hW.block _ LX.out.lt (by simp)) Try.underlying27 rfl (size_rx C6.out)) ?_; simp only [Act.put, qA, qB, qC]
    refine sg_take (i := 24) (oi := ⟨some 109, _, _, _, _, _⟩) (v := ?_) rfl (by kernel_rfl) (by kernel_rfl) (by kernel_rfl) (fun _ _ _ h => h) rfl hX ?_ ?_; rotate_left; (intro W hW; go_simp; try with_reducible rfl); simp only [Act.put, qA, qB, qC]
    refine sg_take (i := 26) (oi := ⟨some 111, _, _, _, _, _⟩) (v := ?_) rfl (by kernel_rfl) (by kernel_rfl) (by kernel_rfl) (fun _ _ _ h => h) rfl hX ?_ ?_; rotate_left; (intro W hW; go_simp; try with_reducible rfl); simp only [Act.put, qA, qB, qC]
    refine sg_actB (i := 23) (o := ⟨some 108, _, _, _, _, _⟩) rfl (by kernel_rfl) rfl hX (fun K hK => ?_)
    go_wp2_with fail
    refine (refStar_any x cs wf (D := fun k => k < wf.heap.size) (fun k hk => hk) ((XX.out.stay hwb).mono hwb.size) HX3.out HGX.out).mono ?_
    rintro e wi ⟨es, rfl, hes, hb⟩
    have HES := Lib.hid (show RxV wi.heap.size wi es (starT x) from RxD.mono hes fun k hk => hk.2)
    clear hes
    go_wp2_with fail
    refine hK _ _ (grown_then hX hb) ?_
    clear hK K
    (try simp only [Act.put, qA, qB, qC])
    replace hX := grown_then hX hb
    replace hwb := hwb.trans (hb.mono hwb.size)
    clear hb
    refine sg_actB (i := 25) (o := ⟨some 110, _, _, _, _, _⟩) rfl (by kernel_rfl) rfl hX (fun K hK => ?_)
    go_wp2_with fail
    refine (lIn_any (starT x) HST.out W HW2.out _ es wi (RX.out.below hwb) HES.out).mono ?_
    rintro e wj ⟨rfl, hb⟩
    rw [HSM.out]
    go_wp2_with fail
    refine hK _ _ (grown_then hX hb) ?_
    clear hK K
    (try simp only [Act.put, qA, qB, qC])
    replace hX := grown_then hX hb
    replace hwb := hwb.trans (hb.mono hwb.size)
    clear hb
    have hs2 : (sv == sv) = true := by simp
    refine sg_take (i := 27) (oi := ⟨some 112, _, _, _, _, _⟩) (v := ?_) rfl (by kernel_rfl) (by kernel_rfl) (by kernel_rfl) (fun _ _ _ h => h) rfl hX ?_ ?_; rotate_left; (intro W hW; go_simp; try with_reducible rfl); simp only [Act.put, qA, qB, qC]
    refine sg_take (i := 28) (oi := ⟨some 113, _, _, _, _, _⟩) (v := ?_) rfl (by kernel_rfl) (by kernel_rfl) (by kernel_rfl) (fun _ _ _ h => h) rfl hX ?_ ?_; rotate_left; (intro W hW; go_simp; try with_reducible rfl); simp only [Act.put, qA, qB, qC]
    refine sg_take (i := 29) (oi := ⟨some 6, _, _, _, _, _⟩) (v := ?_) rfl (by kernel_rfl) (by kernel_rfl) (by kernel_rfl) (fun _ _ _ h => h) rfl hX ?_ ?_; rotate_left; (intro W hW; go_simp; try with_reducible rfl); simp only [Act.put, qA, qB, qC]
    refine wpAnyH_done (by kernel_rfl) ?_ _
    have BZ := Lib.hid (BXW.out.trans (hwb.mono BXW.out.size))
    clear hX hwb
    go_wp2_with fail
    go_ret
    exact ⟨rfl, BZ.out⟩
   | false =>
    replace HAM := Lib.hid (HAM.out.trans (Bool.false_or yi))
    go_wp2_with (first
     | ((with_reducible refine atDst 82 ?_); refine wpList_ldArr rfl 27 _ rfl w7.heap.size rfl 27 _ _ LR.out Try.underlying27 rfl (size_rx C6.out) ?_; (try simp only [Act.put, qA, qB, qC]))
     | ((with_reducible refine atDst 83 ?_); refine wpList_ldArr rfl 27 _ rfl w8.heap.size rfl 27 _ _ MR.out Try.underlying27 rfl (size_rx D6.out) ?_; (try simp only [Act.put, qA, qB, qC]))
     | ((with_reducible refine atDst 84 ?_); refine wpList_bldT2 rfl 25 27 (.tmp 82) (.tmp 83) rfl i0 Try.underlying25 hi0 HZ1.out hz1 cs ds C6.out D6.out rfl rfl ?_; intro wt hk hb hs; have KT := Lib.hid hk; have BT := Lib.hid hb; clear hk hb hs; (try simp only [Act.put, qA, qB, qC])))
    have XX := Lib.hid (RxV.mono (XR.out.stay BT.out) BT.out.size)
    have YX := Lib.hid (RxV.mono (YR.out.stay BT.out) BT.out.size)
    have RX := Lib.hid (RR.out.below BT.out)
    have LX := Lib.hid (LR.out.below BT.out LR.out.lt)
    have MX := Lib.hid (MR.out.below BT.out MR.out.lt)
    have BXW := Lib.hid (BRW.out.trans (BT.out.mono BRW.out.size))
    have H2T := Lib.hid (row_two KT.out XX.out YX.out KT.out.lt)
    have HRX := Lib.hid (show wt.rangeAt w7.heap.size 0 cs from fun i v hv => (LX.out.cell (0 + i)).trans (by rw [Nat.zero_add]; exact hv))
    have HRY := Lib.hid (show wt.rangeAt w8.heap.size 0 ds from fun i v hv => (MX.out.cell (0 + i)).trans (by rw [Nat.zero_add]; exact hv))
    refine sg_start (S := fun V => wt.grownBy V none) (by kernel_rfl) (grown_start _ _) (fun wd hwd => ?_)
    have hX : wt.grownBy wd none := by rw [hwd]; exact grown_start _ _
    have hwb : Below wt.heap.size wt wd := by rw [hwd]; exact (Below.refl _ _).drew
    clear hwd
    refine sg_take (i := 0) (oi := ⟨some 85, _, _, _, _, _⟩) (v := ?_) rfl (by kernel_rfl) (by kernel_rfl) (by kernel_rfl) (fun _ _ _ h => h) rfl hX ?_ ?_; rotate_left; (intro W hW; go_simp; try with_reducible rfl); simp only [Act.put, qA, qB, qC]
    refine sg_take (i := 2) (oi := ⟨some 87, _, _, _, _, _⟩) (v := ?_) rfl (by kernel_rfl) (by kernel_rfl) (by kernel_rfl) (fun _ _ _ h => h) rfl hX ?_ ?_; rotate_left; (intro W hW; go_simp; try with_reducible rfl); simp only [Act.put, qA, qB, qC]
    refine sg_take (i := 4) (oi := ⟨some 89, _, _, _, _, _⟩) (v := ?_) rfl (by kernel_rfl) (by kernel_rfl) (by kernel_rfl) (fun _ _ _ h => h) rfl hX ?_ ?_; rotate_left; (intro W hW; go_simp; try with_reducible rfl); simp only [Act.put, qA, qB, qC]
    refine sg_actB (i := 1) (o := ⟨some 86, _, _, _, _, _⟩) rfl (by kernel_rfl) rfl hX (fun K hK => ?_)
    go_wp2_with fail
    refine (refCat_any [x, y] _ wd ((H2T.out.below hwb).monoX hwb.size) HN2.out).mono ?_
    rintro e wa ⟨es, rfl, hes, hb⟩
    have HES := Lib.hid (show RxV wa.heap.size wa es (catT [x, y]) from RxD.mono hes fun k hk => hk.2)
    clear hes
    go_wp2_with fail
    refine hK _ _ (grown_then hX hb) ?_
    clear hK K
    (try simp only [Act.put, qA, qB, qC])
    replace hX := grown_then hX hb
    replace hwb := hwb.trans (hb.mono hwb.size)
    clear hb
    refine sg_actB (i := 3) (o := ⟨some 88, _, _, _, _, _⟩) rfl (by kernel_rfl) rfl hX (fun K hK => ?_)
    go_wp2_with fail
    refine (lIn_any (catT [x, y]) HCT.out W HW2.out _ es wa (RX.out.below hwb) HES.out).mono ?_
    rintro e wb ⟨rfl, hb⟩
    rw [HCM.out]
    go_wp2_with fail
    refine hK _ _ (grown_then hX hb) ?_
    clear hK K
    (try simp only [Act.put, qA, qB, qC])
    replace hX := grown_then hX hb
    replace hwb := hwb.trans (hb.mono hwb.size)
    clear hb
    have hs1 : (cv == cv) = true := by simp
    refine sg_take (i := 5) (oi := ⟨some 90, _, _, _, _, _⟩) (v := ?_) rfl (by kernel_rfl) (by kernel_rfl) (by kernel_rfl) (fun _ _ _ h => h) rfl hX ?_ ?_; rotate_left; (intro W hW; go_simp; try with_reducible rfl); simp only [Act.put, qA, qB, qC]
    refine sg_take (i := 6) (oi := ⟨some 91, _, _, _, _, _⟩) (v := ?_) rfl (by kernel_rfl) (by kernel_rfl) (by kernel_rfl) (fun _ _ _ h => h) rfl hX ?_ ?_; rotate_left; (intro W hW; go_simp; try with_reducible rfl); simp only [Act.put, qA, qB, qC]
    refine sg_take (i := 7) (oi := ⟨some 92, _, _, _, _, _⟩) (v := ?_) rfl (by kernel_rfl) (by kernel_rfl) (by kernel_rfl) (fun _ _ _ h => h) rfl hX ?_ ?_; rotate_left; (intro W hW; go_simp; try with_reducible rfl); simp only [Act.put, qA, qB, qC]
    refine sg_take (i := 9) (oi := ⟨some 94, _, _, _, _, _⟩) (v := ?_) rfl (by kernel_rfl) (by kernel_rfl) (by kernel_rfl) (fun _ _ _ h => h) rfl hX ?_ ?_; rotate_left; (intro W hW; go_simp; try with_reducible rfl); simp only [Act.put, qA, qB, qC]
    refine sg_take (i := 11) (oi := ⟨some 96, _, _, _, _, _⟩) (v := .agg cs.toArray) rfl (by kernel_rfl) (by kernel_rfl) (by kernel_rfl) (fun _ _ _ h => h) rfl hX (fun W hW => ld_keep 27 _ rfl w7.heap.size 0 rfl _ _ HRX.out (hW.block _ LX.out.lt (by simp)) Try.underlying27 rfl (size_rx C6.out)) ?_; simp only [Act.put, qA, qB, qC]
    refine sg_take (i := 12) (oi := ⟨some 97, _, _, _, _, _⟩) (v := ?_) rfl (by kernel_rfl) (by kernel_rfl) (by kernel_rfl) (fun _ _ _ h => h) rfl hX ?_ ?_; rotate_left; (intro W hW; go_simp; try with_reducible rfl); simp only [Act.put, qA, qB, qC]
    refine sg_actB (i := 8) (o := ⟨some 93, _, _, _, _, _⟩) rfl (by kernel_rfl) rfl hX (fun K hK => ?_)
    clear hs1
    go_wp2_with fail
    refine (refAlt_any [x, y] _ wb ((H2T.out.below hwb).monoX hwb.size) HN3.out).mono ?_
    rintro e wc ⟨fs, rfl, hfs, hb⟩
    have HFS := Lib.hid (show RxV wc.heap.size wc fs (altT [x, y]) from RxD.mono hfs fun k hk => hk.2)
    clear hfs
    go_wp2_with fail
    refine hK _ _ (grown_then hX hb) ?_
    clear hK K
    (try simp only [Act.put, qA, qB, qC])
    replace hX := grown_then hX hb
    replace hwb := hwb.trans (hb.mono hwb.size)
    clear hb
    refine sg_actB (i := 10) (o := ⟨some 95, _, _, _, _, _⟩) rfl (by kernel_rfl) rfl hX (fun K hK => ?_)
    go_wp2_with fail
    refine (lIn_any (altT [x, y]) HAT.out W HW2.out _ fs wc (RX.out.below hwb) HFS.out).mono ?_
    rintro e we ⟨rfl, hb⟩
    rw [HAM.out]
    go_wp2_with fail
    refine hK _ _ (grown_then hX hb) ?_
    clear hK K
    (try simp only [Act.put, qA, qB, qC])
    replace hX := grown_then hX hb
    replace hwb := hwb.trans (hb.mono hwb.size)
    clear hb
    refine sg_actB (i := 13) (o := ⟨some 98, _, _, _, _, _⟩) rfl (by kernel_rfl) rfl hX (fun K hK => ?_)
    go_wp2_with fail
    refine (lIn_any x HX2.out W HW2.out _ cs we (RX.out.below hwb) ((XX.out.stay hwb).mono hwb.size)).mono ?_
    rintro e wf ⟨rfl, hb⟩
    rw [← HXI.out]
    go_wp2_with fail
    refine hK _ _ (grown_then hX hb) ?_
    clear hK K
    (try simp only [Act.put, qA, qB, qC])
    replace hX := grown_then hX hb
    replace hwb := hwb.trans (hb.mono hwb.size)
    clear hb
    refine sg_take (i := 14) (oi := ⟨some 99, _, _, _, _, _⟩) (v := ?_) rfl (by kernel_rfl) (by kernel_rfl) (by kernel_rfl) (fun _ _ _ h => h) rfl hX ?_ ?_; rotate_left; (intro W hW; go_simp; try with_reducible rfl); simp only [Act.put, qA, qB, qC]
    refine sg_take (i := 15) (oi := ⟨some 100, _, _, _, _, _⟩) (v := .agg ds.toArray) rfl (by kernel_rfl) (by kernel_rfl) (by kernel_rfl) (fun _ _ _ h => h) rfl hX (fun W hW => ld_keep 27 _ rfl w8.heap.size 0 rfl _ _ HRY.out (hW.block _ MX.out.lt (by simp)) Try.underlying27 rfl (size_rx D6.out)) ?_; simp only [Act.put, qA, qB, qC]
    refine sg_take (i := 16) (oi := ⟨some 101, _, _, _, _, _⟩) (v := ?_) rfl (by kernel_rfl) (by kernel_rfl) (by kernel_rfl) (fun _ _ _ h => h) rfl hX ?_ ?_; rotate_left; (intro W hW; go_simp; try with_reducible rfl); simp only [Act.put, qA, qB, qC]
    refine sg_actB (i := 17) (o := ⟨some 102, _, _, _, _, _⟩) rfl (by kernel_rfl) rfl hX (fun K hK => ?_)
    go_wp2_with fail
    refine (lIn_any y HY2.out W HW2.out _ ds wf (RX.out.below hwb) ((YX.out.stay hwb).mono hwb.size)).mono ?_
    rintro e wg ⟨rfl, hb⟩
    rw [← HYI.out]
    go_wp2_with fail
    refine hK _ _ (grown_then hX hb) ?_
    clear hK K
    (try simp only [Act.put, qA, qB, qC])
    replace hX := grown_then hX hb
    replace hwb := hwb.trans (hb.mono hwb.size)
    clear hb
    have hs3 : (yi == yi) = true := by simp
    refine sg_take (i := 18) (oi := ⟨some 103, _, _, _, _, _⟩) (v := ?_) rfl (by kernel_rfl) (by kernel_rfl) (by kernel_rfl) (fun _ _ _ h => h) rfl hX ?_ ?_; rotate_left; (intro W hW; go_simp; try with_reducible rfl); simp only [Act.put, qA, qB, qC]
    refine sg_take (i := 19) (oi := ⟨some 104, _, _, _, _, _⟩) (v := ?_) rfl (by kernel_rfl) (by kernel_rfl) (by kernel_rfl) (fun _ _ _ h => h) rfl hX ?_ ?_; rotate_left; (intro W hW; go_simp; try with_reducible rfl); simp only [Act.put, qA, qB, qC]
    refine sg_take (i := 20) (oi := ⟨some 105, _, _, _, _, _⟩) (v := ?_) rfl (by kernel_rfl) (by kernel_rfl) (by kernel_rfl) (fun _ _ _ h => h) rfl hX ?_ ?_; rotate_left; (intro W hW; go_simp; try with_reducible rfl); simp only [Act.put, qA, qB, qC]
    refine sg_take (i := 21) (oi := ⟨some 106, _, _, _, _, _⟩) (v := ?_) rfl (by kernel_rfl) (by kernel_rfl) (by kernel_rfl) (fun _ _ _ h => h) rfl hX ?_ ?_; rotate_left; (intro W hW; go_simp; try with_reducible rfl); simp only [Act.put, qA, qB, qC]
    refine sg_take (i := 22) (oi := ⟨some 107, _, _, _, _, _⟩) (v := .agg cs.toArray) rfl (by kernel_rfl) (by kernel_rfl) (by kernel_rfl) (fun _ _ _ h => h) rfl hX (fun W hW => ld_keep 27 _ rfl w7.heap.size 0 rfl _ _ HRX.out (hW.block _ LX.out.lt (by simp)) Try.underlying27 rfl (size_rx C6.out)) ?_; simp only [Act.put, qA, qB, qC]
    refine sg_take (i := 24) (oi := ⟨some 109, _, _, _, _, _⟩) (v := ?_) rfl (by kernel_rfl) (by kernel_rfl) (by kernel_rfl) (fun _ _ _ h => h) rfl hX ?_ ?_; rotate_left; (intro W hW; go_simp; try with_reducible rfl); simp only [Act.put, qA, qB, qC]
    refine sg_take (i := 26) (oi := ⟨some 111, _, _, _, _, _⟩) (v := ?_) rfl (by kernel_rfl) (by kernel_rfl) (by kernel_rfl) (fun _ _ _ h => h) rfl hX ?_ ?_; rotate_left; (intro W hW; go_simp; try with_reducible rfl); simp only [Act.put, qA, qB, qC]
    refine sg_actB (i := 23) (o := ⟨some 108, _, _, _, _, _⟩) rfl (by kernel_rfl) rfl hX (fun K hK => ?_)
    go_wp2_with fail
    refine (refStar_any x cs wg (D := fun k => k < wg.heap.size) (fun k hk => hk) ((XX.out.stay hwb).mono hwb.size) HX3.out HGX.out).mono ?_
    rintro e wi ⟨es, rfl, hes, hb⟩
    have HES := Lib.hid (show RxV wi.heap.size wi es (starT x) from RxD.mono hes fun k hk => hk.2)
    clear hes
    go_wp2_with fail
    refine hK _ _ (grown_then hX hb) ?_
    clear hK K
    (try simp only [Act.put, qA, qB, qC])
    replace hX := grown_then hX hb
    replace hwb := hwb.trans (hb.mono hwb.size)
    clear hb
    refine sg_actB (i := 25) (o := ⟨some 110, _, _, _, _, _⟩) rfl (by kernel_rfl) rfl hX (fun K hK => ?_)
    go_wp2_with fail
    refine (lIn_any (starT x) HST.out W HW2.out _ es wi (RX.out.below hwb) HES.out).mono ?_
    rintro e wj ⟨rfl, hb⟩
    rw [HSM.out]
    go_wp2_with fail
    refine hK _ _ (grown_then hX hb) ?_
    clear hK K
    (try simp only [Act.put, qA, qB, qC])
    replace hX := grown_then hX hb
    replace hwb := hwb.trans (hb.mono hwb.size)
    clear hb
    have hs2 : (sv == sv) = true := by simp
    refine sg_take (i := 27) (oi := ⟨some 112, _, _, _, _, _⟩) (v := ?_) rfl (by kernel_rfl) (by kernel_rfl) (by kernel_rfl) (fun _ _ _ h => h) rfl hX ?_ ?_; rotate_left; (intro W hW; go_simp; try with_reducible rfl); simp only [Act.put, qA, qB, qC]
    refine sg_take (i := 28) (oi := ⟨some 113, _, _, _, _, _⟩) (v := ?_) rfl (by kernel_rfl) (by kernel_rfl) (by kernel_rfl) (fun _ _ _ h => h) rfl hX ?_ ?_; rotate_left; (intro W hW; go_simp; try with_reducible rfl); simp only [Act.put, qA, qB, qC]
    refine sg_take (i := 29) (oi := ⟨some 6, _, _, _, _, _⟩) (v := ?_) rfl (by kernel_rfl) (by kernel_rfl) (by kernel_rfl) (fun _ _ _ h => h) rfl hX ?_ ?_; rotate_left; (intro W hW; go_simp; try with_reducible rfl); simp only [Act.put, qA, qB, qC]
    refine wpAnyH_done (by kernel_rfl) ?_ _
    have BZ := Lib.hid (BXW.out.trans (hwb.mono BXW.out.size))
    clear hX hwb
    go_wp2_with fail
    go_ret
    exact ⟨rfl, BZ.out⟩
end Go.Proofs.Ytopnpdobcagcgaa
