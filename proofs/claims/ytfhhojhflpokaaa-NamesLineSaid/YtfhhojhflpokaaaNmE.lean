/-
  What the statements' own begun, less and Place answer and leave. No statement is proved here.
-/
import Derived.Test.YtfhhojhflpokaaaNmD
namespace Go.Proofs.Ytfhhojhflpokaaa
open Go.RowKit
set_option linter.unusedSimpArgs false
set_option linter.unusedVariables false

theorem begun_key : keyE 1 [97] [98] = 0 := by decide +kernel
theorem begun_took : took (keyV 1 [97] [98]) = .tuple #[.int .u8 1, str [97], str [98], .int .i64 0] := by
  have h : isKey (keyV 1 [97] [98]) := by decide +kernel
  unfold took
  rw [if_pos h]
  have h1 : kK (keyV 1 [97] [98]) = 1 := by decide +kernel
  have h2 : kA (keyV 1 [97] [98]) = [97] := by decide +kernel
  have h3 : kB (keyV 1 [97] [98]) = [98] := by decide +kernel
  rw [h1, h2, h3]
  rfl

set_option maxHeartbeats 4000000 in
set_option maxRecDepth 1000000 in
theorem begun_any (w : World) :
    Calls Try.prog 9 #[] w fun e w' => e = .returned (.bool true) ∧ Below w.heap.size w w' := by
  obtain ⟨i0, hi0, hz0⟩ := info_key
  obtain ⟨z, hz⟩ : ∃ z, z = zs 32 := ⟨_, rfl⟩
  have hzl : z.length = 32 := by rw [hz]; exact zs_length 32
  rw [← hz] at hz0
  have HZL := Lib.hid hzl
  clear hz hzl
  obtain ⟨v, hv⟩ : ∃ v, v = keyV 1 [97] [98] := ⟨_, rfl⟩
  have hvl : v.length = 32 := by rw [hv]; exact keyV_length _ _ _
  have hv0 : v[0]? = some 1 := by rw [hv]; decide +kernel
  have hv2 : v[2]? = some 97 := by rw [hv]; decide +kernel
  have hv17 : v[17]? = some 98 := by rw [hv]; decide +kernel
  have htk : took v = .tuple #[.int .u8 1, str [97], str [98], .int .i64 0] := by rw [hv]; exact begun_took
  have HV := Lib.hid hvl
  have H0 := Lib.hid hv0
  have H2 := Lib.hid hv2
  have H17 := Lib.hid hv17
  have HT := Lib.hid htk
  have HK := Lib.hid hv
  clear hv hvl hv0 hv2 hv17 htk
  go_enter Try.func9, Try.ntmps9
  go_wp2_with fail
  refine (key_any 1 [97] [98] w (by simp) (by simp)).mono ?_
  rintro e w1 ⟨rfl, hb1⟩
  rw [← HK.out, begun_key]
  have B1 := Lib.hid hb1
  clear hb1
  go_wp2_with (first
    | ((with_reducible refine atDst 1 ?_); refine wpList_new rfl 23 rfl i0 _ (bvs z) hi0 hz0 rfl B1.out B1.out.size ?_; intro w5 hk5 hb5 hs5 ho5; have K5 := Lib.hid hk5; have B5 := Lib.hid hb5; clear hk5 hb5 hs5 ho5)
    | ((with_reducible refine atStore 23 1 9 ?_); refine wpList_stBlk rfl 23 _ _ rfl w1.heap.size (bvs v) rfl rfl 23 _ K5.out (size_key32 HV.out) (len_bvs2 HZL.out HV.out) (bvs_all _) B5.out B1.out.size ?_; intro w6 hk6 hb6 hs6 ho6; have K6 := Lib.hid hk6; have B6 := Lib.hid hb6; clear hk6 hb6 hs6 ho6)
    | ((with_reducible refine atDst 12 ?_); refine wpList_ldArr rfl 23 _ rfl w1.heap.size rfl 23 _ _ K6.out Try.underlying23 rfl (size_key32 HV.out) ?_))
  refine (takeKey_any v HV.out w6).mono ?_
  rintro e w7 ⟨rfl, hb7⟩
  rw [HT.out]
  have K7 := K6.out.below hb7 K6.out.lt
  have c0 := K7.cell 0
  have c2 := K7.cell 2
  have c17 := K7.cell 17
  rw [bvs_get _ _ _ H0.out] at c0
  rw [bvs_get _ _ _ H2.out] at c2
  rw [bvs_get _ _ _ H17.out] at c17
  have B7 := Lib.hid (B6.out.trans (hb7.mono B6.out.size))
  clear K7 hb7
  go_wp2_with fail
  refine (may_any [122, 45, 57] w7 (by simp)).mono ?_
  rintro e w8 ⟨rfl, hb8⟩
  rw [show decide (Nm [122, 45, 57]) = true from by decide +kernel]
  have B8 := Lib.hid (B7.out.trans (hb8.mono B7.out.size))
  clear hb8 c0 c2 c17
  go_wp2_with fail
  refine (may_any [57] w8 (by simp)).mono ?_
  rintro e w9 ⟨rfl, hb9⟩
  rw [show decide (Nm [57]) = false from by decide +kernel]
  have B9 := Lib.hid (B8.out.trans (hb9.mono B8.out.size))
  clear hb9
  go_wp2_with fail
  refine (less_any [97] [97, 98] w9).mono ?_
  rintro e w10 ⟨rfl, rfl⟩
  rw [show Op.bytesLess [97] [97, 98] = true from by decide +kernel]
  go_wp2_with fail
  go_ret
  exact ⟨rfl, B9.out⟩

/-! ### less -/
theorem bl_app (p x y : List UInt8) : Op.bytesLess (p ++ x) (p ++ y) = Op.bytesLess x y := by
  induction p with
  | nil => rfl
  | cons a p ih =>
    simp only [List.cons_append, Op.bytesLess, ih]
    simp
theorem bl_drop {x y : List UInt8} {j : Nat} (h : x.take j = y.take j) : Op.bytesLess x y = Op.bytesLess (x.drop j) (y.drop j) := by
  have := bl_app (x.take j) (x.drop j) (y.drop j)
  rw [List.take_append_drop] at this
  rw [h, List.take_append_drop] at this
  exact this
theorem bl_at {x y : List UInt8} {j : Nat} (h : x.take j = y.take j) (hx : j < x.length) (hy : j < y.length) (hne : x[j] ≠ y[j]) : Op.bytesLess x y = decide (x[j].toNat < y[j].toNat) := by
  rw [bl_drop h, List.drop_eq_getElem_cons hx, List.drop_eq_getElem_cons hy]
  simp only [Op.bytesLess]
  have : (x[j] == y[j]) = false := by simpa using hne
  rw [this]
  simp [UInt8.lt_iff_toNat_lt]
theorem bl_short {x y : List UInt8} {j : Nat} (h : x.take j = y.take j) (hx : x.length = j) : Op.bytesLess x y = decide (j < y.length) := by
  rw [bl_drop h, List.drop_eq_nil_of_le (by omega)]
  cases hd : y.drop j with
  | nil =>
    have := List.drop_eq_nil_iff.1 hd
    rw [decide_eq_false (by omega)]
    rfl
  | cons a r =>
    have : (y.drop j).length = r.length + 1 := by rw [hd]; rfl
    rw [List.length_drop] at this
    rw [decide_eq_true (by omega)]
    rfl
theorem bl_long {x y : List UInt8} {j : Nat} (h : x.take j = y.take j) (hy : y.length = j) : Op.bytesLess x y = false := by
  rw [bl_drop h, List.drop_eq_nil_of_le (show y.length ≤ j by omega)]
  cases x.drop j <;> rfl
theorem take_succ_eq {x y : List UInt8} {j : Nat} (h : x.take j = y.take j) (hx : j < x.length) (hy : j < y.length) (he : x[j] = y[j]) : x.take (j + 1) = y.take (j + 1) := by
  rw [List.take_succ_eq_append_getElem hx, List.take_succ_eq_append_getElem hy, h, he]

set_option maxHeartbeats 4000000 in
set_option maxRecDepth 1000000 in
theorem arrLess_any (x y : List UInt8) (hx : x.length = 32) (hy : y.length = 32) (w : World) :
    Calls Try.prog 18 #[.agg (bvs x).toArray, .agg (bvs y).toArray] w fun e w' => e = .returned (.bool (Op.bytesLess x y)) ∧ Below w.heap.size w w' := by
  have HX := Lib.hid hx
  have HY := Lib.hid hy
  clear hx hy
  go_enter Try.func18, Try.ntmps18
  go_wp2_with (first
    | ((with_reducible refine atDst 2 ?_); refine wpList_box rfl 23 _ rfl (bvs x) rfl (Below.refl w.heap.size w) (Nat.le_refl _) ?_; intro w1 hk1 hb1 hs1 _; have K1 := Lib.hid hk1; have B1 := Lib.hid hb1; have S1 := Lib.hid hs1; clear hk1 hb1 hs1)
    | ((with_reducible refine atDst 3 ?_); refine wpList_box rfl 23 _ rfl (bvs y) rfl B1.out B1.out.size ?_; intro w2 hk2 hb2 hs2 ho2; have K2 := Lib.hid hk2; have B2 := Lib.hid hb2; have K1a := Lib.hid ((ho2 _ K1.out.lt).trans K1.out); clear hk2 hb2 hs2 ho2))
  go_loopw [5] (fun i wl => ∃ j n : Nat, j ≤ 32 ∧ i = .int .i64 (j : Int) ∧ wl = w2.drewN n ∧ x.take j = y.take j) (fun i _ => 32 - (intOf i).toNat)
  case atStart => exact ⟨0, 0, by omega, by simp, rfl, by simp⟩
  case round =>
    obtain ⟨j, n, hj, rfl, hwl, hrel⟩ := hrel
    have HREL := Lib.hid hrel
    clear hrel
    obtain ⟨BW, hBW⟩ : ∃ p : Prop, p = Below w.heap.size w wr := ⟨_, rfl⟩
    have bw : BW := by rw [hBW, hwl]; exact below_drewN' B2.out n
    have ka : Blk wr w.heap.size 23 (bvs x) := by rw [hwl]; exact K1a.out
    have kb : Blk wr w1.heap.size 23 (bvs y) := by rw [hwl]; exact K2.out
    have HWL := Lib.hid hwl
    clear hwl
    by_cases hjl : j < 32
    · have i1 : (j : Int) < 32 := by omega
      have hxj : j < x.length := by rw [HX.out]; exact hjl
      have hyj : j < y.length := by rw [HY.out]; exact hjl
      obtain ⟨p, hp⟩ : ∃ p : UInt8, p = x[j] := ⟨_, rfl⟩
      obtain ⟨q, hq⟩ : ∃ q : UInt8, q = y[j] := ⟨_, rfl⟩
      have ca := ka.cell j
      have cb := kb.cell j
      rw [bvs_get x j p (by rw [hp]; exact List.getElem?_eq_getElem hxj)] at ca
      rw [bvs_get y j q (by rw [hq]; exact List.getElem?_eq_getElem hyj)] at cb
      have HP := Lib.hid hp
      have HQ := Lib.hid hq
      clear hp hq ka kb
      by_cases hpq : p = q
      · have hne : ((p.toNat : Int) != (q.toNat : Int)) = false := by rw [hpq]; simp
        have HE := Lib.hid hpq
        clear hpq
        go_wp2_with fail
        go_quiet (fail)
        go_wp2_with fail
        refine ⟨⟨j + 1, n + nq, by omega, by congr 1, by rw [HWL.out, World.drewN_drewN], take_succ_eq HREL.out hxj hyj (by rw [← HP.out, ← HQ.out, HE.out])⟩, by simp [intOf] <;> omega⟩
      · have hne : ((p.toNat : Int) != (q.toNat : Int)) = true := by
          rw [bne_iff_ne]
          intro h
          exact hpq (UInt8.toNat_inj.1 (by omega))
        have hr := bl_at HREL.out hxj hyj (by rw [← HP.out, ← HQ.out]; exact hpq)
        rw [← HP.out, ← HQ.out] at hr
        have HR := Lib.hid hr
        clear hpq hr
        go_wp2_with fail
        go_quiet (fail)
        go_wp2_with fail
        go_quiet (fail)
        go_wp2_with fail
        go_ret
        refine ⟨?_, ?_⟩
        · rw [HR.out]
          refine congrArg (fun b => Ending.returned (.bool b)) ?_
          exact decide_eq_decide.2 (by omega)
        · have := bw
          rw [hBW] at this
          exact below_drewN' (below_drewN' this _) _
    · obtain rfl : j = 32 := by omega
      have i1 : ¬ ((32 : Int) < 32) := by omega
      have hr : Op.bytesLess x y = false := bl_long HREL.out HY.out
      have HR := Lib.hid hr
      clear hr ka kb
      go_wp2_with fail
      go_ret
      rw [HR.out]
      rw [hBW] at bw
      exact ⟨rfl, bw⟩

/-! ### Place -/
set_option maxHeartbeats 400000 in
theorem place_any (n : Int) (w : World) (h1 : -9223372036854775808 ≤ n) (h2 : n ≤ 9223372036854775807) :
    Calls Try.prog 19 #[.int .i64 n, .int .i64 32] w fun e w' => ∃ j : Nat, j < 32 ∧ e = .returned (.int .i64 (j : Int)) ∧ w' = w := by
  obtain ⟨r, hr⟩ : ∃ r, r = n.tmod 32 := ⟨_, rfl⟩
  have b1 : -32 < r ∧ r < 32 := by
    rw [hr, Int.tmod_eq_emod]
    have a1 := Int.emod_nonneg n (b := 32) (by omega)
    have a2 := Int.emod_lt_of_pos n (b := 32) (by omega)
    split <;> omega
  have hr' : n.tmod 32 = r := hr.symm
  clear hr
  by_cases h0 : r < 0
  · have e1 : IntKind.i64.wrap (r + 32) = r + 32 := IntWalk.i64_in _ (by omega)
    go_enter Try.func19, Try.ntmps19
    go_wp2
    go_ret
    refine ⟨(r + 32).toNat, by omega, ?_, rfl⟩
    rw [Int.toNat_of_nonneg (by omega)]
    rfl
  · go_enter Try.func19, Try.ntmps19
    go_wp2
    go_ret
    refine ⟨r.toNat, by omega, ?_, rfl⟩
    rw [Int.toNat_of_nonneg (by omega)]
    rfl
end Go.Proofs.Ytfhhojhflpokaaa
