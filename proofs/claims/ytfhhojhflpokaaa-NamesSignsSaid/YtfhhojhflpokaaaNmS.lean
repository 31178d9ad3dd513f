/-
  What the document's answer to names (Less, Key) answers and leaves. No statement is proved here.
-/
import Derived.Test.YtfhhojhflpokaaaNmR
namespace Go.Proofs.Ytfhhojhflpokaaa
open Go.RowKit
set_option linter.unusedSimpArgs false
set_option linter.unusedVariables false

set_option maxHeartbeats 4000000 in
set_option maxRecDepth 1000000 in
theorem refLess_any (x y : List UInt8) (w : World) (hx : x.length ≤ 1048576) (hy : y.length ≤ 1048576) :
    Calls Try.prog 15 #[str x, str y] w fun e w' => e = .returned (.bool (Op.bytesLess x y)) ∧ Below w.heap.size w w' := by
  obtain ⟨S, hS⟩ : ∃ S : ByteArray, S = ⟨x.toArray⟩ := ⟨_, rfl⟩
  have hsz : S.size = x.length := by rw [hS, str_size]
  obtain ⟨T, hT⟩ : ∃ T : ByteArray, T = ⟨y.toArray⟩ := ⟨_, rfl⟩
  have htz : T.size = y.length := by rw [hT, str_size]
  show Calls _ _ #[.string ⟨x.toArray⟩, .string ⟨y.toArray⟩] _ _
  rw [← hS, ← hT]
  have HS := Lib.hid hS
  have HSZ := Lib.hid hsz
  have HT := Lib.hid hT
  have HTZ := Lib.hid htz
  clear hS hsz hT htz
  go_enter Try.func15, Try.ntmps15
  go_wp2_with fail
  go_loopw [5] (fun i wl => ∃ j n : Nat, j ≤ x.length ∧ j ≤ y.length ∧ i = .int .i64 (j : Int) ∧ wl = w.drewN n ∧ x.take j = y.take j) (fun i _ => x.length - (intOf i).toNat)
  case atStart => exact ⟨0, 0, by omega, by omega, by simp, rfl, by simp⟩
  case round =>
    obtain ⟨j, n, hj, hj2, rfl, hwl, hrel⟩ := hrel
    have HREL := Lib.hid hrel
    have HWL := Lib.hid hwl
    clear hrel hwl
    have BW : Below w.heap.size w wr := by rw [HWL.out]; exact below_drewN' (Below.refl _ _) n
    by_cases hjx : j < x.length
    · have i1 : (j : Int) < (S.size : Int) := by have := HSZ.out; omega
      by_cases hjy : j < y.length
      · have i2 : (j : Int) < (T.size : Int) := by have := HTZ.out; omega
        have hix := ix_str (P := Try.prog) 9 Try.underlying9 x S HS.out j hjx
        have hiy := ix_str (P := Try.prog) 9 Try.underlying9 y T HT.out j hjy
        obtain ⟨p, hp⟩ : ∃ p : UInt8, p = x[j] := ⟨_, rfl⟩
        obtain ⟨q, hq⟩ : ∃ q : UInt8, q = y[j] := ⟨_, rfl⟩
        rw [← hp] at hix
        rw [← hq] at hiy
        have HP := Lib.hid hp
        have HQ := Lib.hid hq
        clear hp hq
        by_cases hpq : p = q
        · have hne : ((p.toNat : Int) != (q.toNat : Int)) = false := by rw [hpq]; simp
          have HE := Lib.hid hpq
          clear hpq
          go_wp2_with fail
          go_quiet (fail)
          go_wp2_with fail
          refine ⟨⟨j + 1, n + nq, by omega, by omega, by congr 1, by rw [HWL.out, World.drewN_drewN], take_succ_eq HREL.out hjx hjy (by rw [← HP.out, ← HQ.out, HE.out])⟩, by simp [intOf] <;> omega⟩
        · have hne : ((p.toNat : Int) != (q.toNat : Int)) = true := by
            rw [bne_iff_ne]
            intro h
            exact hpq (UInt8.toNat_inj.1 (by omega))
          have hr := bl_at HREL.out hjx hjy (by rw [← HP.out, ← HQ.out]; exact hpq)
          rw [← HP.out, ← HQ.out] at hr
          have HR := Lib.hid hr
          clear hpq hr
          go_wp2_with fail
          go_quiet (fail)
          go_wp2_with fail
          go_quiet (fail)
          go_wp2_with fail
          go_ret
          refine ⟨?_, below_drewN' (below_drewN' BW _) _⟩
          rw [HR.out]
          refine congrArg (fun b => Ending.returned (.bool b)) ?_
          exact decide_eq_decide.2 (by omega)
      · obtain rfl : j = y.length := by omega
        have i2 : ¬ ((y.length : Int) < (T.size : Int)) := by have := HTZ.out; omega
        have i3 : ¬ ((S.size : Int) < (T.size : Int)) := by have := HTZ.out; have := HSZ.out; omega
        have hr := bl_long HREL.out rfl
        have HR := Lib.hid hr
        clear hr
        go_wp2_with fail
        go_ret
        rw [HR.out]
        exact ⟨rfl, BW⟩
    · obtain rfl : j = x.length := by omega
      have i1 : ¬ ((x.length : Int) < (S.size : Int)) := by have := HSZ.out; omega
      have hr := bl_short HREL.out rfl
      have HR := Lib.hid hr
      clear hr
      go_wp2_with fail
      go_ret
      rw [HR.out]
      refine ⟨?_, BW⟩
      refine congrArg (fun b => Ending.returned (.bool b)) ?_
      have := HTZ.out; have := HSZ.out
      exact decide_eq_decide.2 (by omega)

/-! ### Key -/
theorem set_next (p : List UInt8) (n : Nat) (c : UInt8) (hn : 0 < n) : (p ++ zs n).set p.length c = p ++ [c] ++ zs (n - 1) := by
  obtain ⟨m, rfl⟩ : ∃ m, n = m + 1 := ⟨n - 1, by omega⟩
  rw [← zs_succ, List.set_append_right _ _ (Nat.le_refl _), Nat.sub_self, List.set_cons_zero]
  simp
theorem bvs_set (l : List UInt8) (i : Nat) (c : UInt8) : (bvs l).set i (bv c) = bvs (l.set i c) := by
  unfold bvs
  rw [List.map_set]
/-- The array behind j rounds of the first loop. -/
def arr1 (k : UInt8) (a : List UInt8) (j : Nat) : List UInt8 := [k, 0] ++ a.take j ++ zs (30 - j)
/-- .. of the second one. -/
def arr2 (k : UInt8) (a b : List UInt8) (j : Nat) : List UInt8 := ([k, 0] ++ (a ++ zs (15 - a.length))) ++ b.take j ++ zs (15 - j)
theorem arr1_len {k : UInt8} {a : List UInt8} {j : Nat} (hj : j ≤ a.length) (ha : a.length ≤ 15) : (arr1 k a j).length = 32 := by
  simp only [arr1, List.length_append, List.length_take, zs_length, List.length_cons, List.length_nil]; omega
theorem arr2_len {k : UInt8} {a b : List UInt8} {j : Nat} (hj : j ≤ b.length) (ha : a.length ≤ 15) (hb : b.length ≤ 15) : (arr2 k a b j).length = 32 := by
  simp only [arr2, List.length_append, List.length_take, zs_length, List.length_cons, List.length_nil]; omega
theorem arr1_next {k : UInt8} {a : List UInt8} {j : Nat} (hj : j < a.length) (ha : a.length ≤ 15) : (arr1 k a j).set (2 + j) a[j] = arr1 k a (j + 1) := by
  have hl : ([k, 0] ++ a.take j).length = 2 + j := by simp only [List.length_append, List.length_take, List.length_cons, List.length_nil]; omega
  unfold arr1
  rw [← hl, set_next _ _ _ (by omega), List.take_succ_eq_append_getElem hj, ← List.append_assoc [k, 0]]
  rfl
theorem arr2_next {k : UInt8} {a b : List UInt8} {j : Nat} (hj : j < b.length) (ha : a.length ≤ 15) (hb : b.length ≤ 15) : (arr2 k a b j).set (17 + j) b[j] = arr2 k a b (j + 1) := by
  have hl : (([k, 0] ++ (a ++ zs (15 - a.length))) ++ b.take j).length = 17 + j := by simp only [List.length_append, List.length_take, zs_length, List.length_cons, List.length_nil]; omega
  unfold arr2
  rw [← hl, set_next _ _ _ (by omega), List.take_succ_eq_append_getElem hj, ← List.append_assoc _ (b.take j)]
  rfl
theorem arr1_end {k : UInt8} {a b : List UInt8} (ha : a.length ≤ 15) : arr1 k a a.length = arr2 k a b 0 := by
  simp only [arr1, arr2, List.take_length, List.take_zero, List.append_nil, List.append_assoc, zs_add]
  congr 3
  omega
theorem arr2_end {k : UInt8} {a b : List UInt8} : arr2 k a b b.length = keyB k a b := by
  simp only [arr2, keyB, List.take_length, List.append_assoc]

set_option maxHeartbeats 4000000 in
set_option maxRecDepth 1000000 in
theorem refKey_any (k : UInt8) (a b : List UInt8) (w : World) (hla : a.length ≤ 1048576) (hlb : b.length ≤ 1048576) :
    Calls Try.prog 11 #[.int .u8 (k.toNat : Int), str a, str b] w fun e w' => e = .returned (.tuple #[.agg (bvs (keyV k a b)).toArray, .int .i64 (keyE k a b)]) ∧ Below w.heap.size w w' := by
  obtain ⟨z, hz, hzl, ⟨i0, hi0, hz0⟩, hbz⟩ := key_zero
  clear hbz
  have HZ := Lib.hid hz
  have HZL := Lib.hid hzl
  clear hz hzl
  obtain ⟨v, hv⟩ : ∃ v, v = keyV k a b := ⟨_, rfl⟩
  obtain ⟨er, her⟩ : ∃ er, er = keyE k a b := ⟨_, rfl⟩
  have hvl : v.length = 32 := by rw [hv]; exact keyV_length k a b
  rw [← hv, ← her]
  have HV := Lib.hid hv
  have HE := Lib.hid her
  have HVL := Lib.hid hvl
  clear hv her hvl
  obtain ⟨S, hS⟩ : ∃ S : ByteArray, S = ⟨a.toArray⟩ := ⟨_, rfl⟩
  have hsz : S.size = a.length := by rw [hS, str_size]
  obtain ⟨T, hT⟩ : ∃ T : ByteArray, T = ⟨b.toArray⟩ := ⟨_, rfl⟩
  have htz : T.size = b.length := by rw [hT, str_size]
  have hTl : T.toList = b := by rw [hT]; exact ByteArray.toList_mk b
  show Calls _ _ #[_, .string ⟨a.toArray⟩, .string ⟨b.toArray⟩] _ _
  rw [← hS, ← hT]
  have HS := Lib.hid hS
  have HSZ := Lib.hid hsz
  have HT := Lib.hid hT
  have HTZ := Lib.hid htz
  clear hS hsz hT htz
  by_cases hk : k = 0
  · subst hk
    have h1 : er = 1 := by rw [HE.out]; simp [keyE]
    have h2 : z = v := by rw [HV.out, HZ.out]; unfold keyV; rw [← HE.out, h1]; rfl
    subst h1
    subst h2
    go_enter Try.func11, Try.ntmps11
    go_wp2_with (first
      | ((with_reducible refine atDst 6 ?_); refine wpList_new rfl 23 rfl i0 _ (bvs z) hi0 hz0 rfl (Below.refl w.heap.size w) (Nat.le_refl _) ?_; intro w1 hk1 hb1 hs1 _; have K1 := Lib.hid hk1; have B1 := Lib.hid hb1; have S1 := Lib.hid hs1; clear hk1 hb1 hs1)
      | ((with_reducible refine atDst 8 ?_); refine wpList_new rfl 23 rfl i0 _ (bvs z) hi0 hz0 rfl (Below.refl w1.heap.size w1) (Nat.le_refl _) ?_; intro w2 hk2 hb2 hs2 ho2; have K2 := Lib.hid hk2; have B2a := Lib.hid hb2; have B2 := Lib.hid (B1.out.trans (hb2.mono B1.out.size)); have S2 := Lib.hid hs2; have K1a := Lib.hid ((ho2 _ K1.out.lt).trans K1.out); clear hk2 hb2 hs2 ho2)
      | ((with_reducible refine atDst 13 ?_); refine wpList_ldArr rfl 23 _ rfl w1.heap.size rfl 23 _ _ K2.out Try.underlying23 rfl (size_key32 HZL.out) ?_)
      | ((with_reducible refine atStore 23 6 13 ?_); refine wpList_stBlk rfl 23 _ _ rfl w.heap.size _ rfl rfl 23 _ K1a.out (size_key32 HZL.out) rfl (bvs_all _) B2.out (Nat.le_refl _) ?_; intro w3 hk3 hb3 hs3 _; have K3 := Lib.hid hk3; have B3 := Lib.hid hb3; clear hk3 hb3))
    refine bodyPost_ret (results_blk2 rfl _ _ w.heap.size 23 _ _ _ rfl rfl K3.out Try.underlying23 rfl (size_key32 HZL.out)) rfl ?_
    exact ⟨rfl, B3.out⟩
  have hk0 : ((k.toNat : Int) == 0) = false := by
    rw [beq_eq_false_iff_ne]
    intro h
    exact hk (UInt8.toNat_inj.1 (by simpa using h))
  go_enter Try.func11, Try.ntmps11
  go_wp2_with (first
    | ((with_reducible refine atDst 6 ?_); refine wpList_new rfl 23 rfl i0 _ (bvs z) hi0 hz0 rfl (Below.refl w.heap.size w) (Nat.le_refl _) ?_; intro w1 hk1 hb1 hs1 _; have K1 := Lib.hid hk1; have B1 := Lib.hid hb1; have S1 := Lib.hid hs1; clear hk1 hb1 hs1)
    | ((with_reducible refine atDst 8 ?_); refine wpList_new rfl 23 rfl i0 _ (bvs z) hi0 hz0 rfl (Below.refl w1.heap.size w1) (Nat.le_refl _) ?_; intro w2 hk2 hb2 hs2 ho2; have K2 := Lib.hid hk2; have B2a := Lib.hid hb2; have B2 := Lib.hid (B1.out.trans (hb2.mono B1.out.size)); have S2 := Lib.hid hs2; have K1a := Lib.hid ((ho2 _ K1.out.lt).trans K1.out); clear hk2 hb2 hs2 ho2)
    | ((with_reducible refine atDst 13 ?_); refine wpList_ldArr rfl 23 _ rfl w1.heap.size rfl 23 _ _ K2.out Try.underlying23 rfl (size_key32 HZL.out) ?_)
    | ((with_reducible refine atStore 23 6 13 ?_); refine wpList_stBlk rfl 23 _ _ rfl w.heap.size _ rfl rfl 23 _ K1a.out (size_key32 HZL.out) rfl (bvs_all _) B2.out (Nat.le_refl _) ?_; intro w3 hk3 hb3 hs3 _; have K3 := Lib.hid hk3; have B3 := Lib.hid hb3; clear hk3 hb3))
  rw [HS.out]
  refine (refName_any a w2 hla).mono ?_
  rintro e w' ⟨rfl, hw'⟩
  have hw2 := hw'.symm
  subst hw2
  clear hw'
  rw [← HS.out]
  have HTL := Lib.hid hTl
  clear hTl
  by_cases hna : Nm a
  · rw [decide_eq_true hna]
    have hl14 := hna.2.1
    by_cases hbe : b = []
    · have he0 : er = 0 := by rw [HE.out]; simp [keyE, hk, Nm2, hna, hbe]
      have hm14 : b.length ≤ 15 := by rw [hbe]; simp
      have hTl : (T.toList == []) = true := by rw [HTL.out, hbe]; rfl
      clear hbe
      have hv2 : v = keyB k a b := by rw [HV.out]; unfold keyV; rw [← HE.out, he0]; rfl
      have HE0 := Lib.hid he0
      have HV2 := Lib.hid hv2
      clear he0 hv2
      have c0 : w2.cell? ⟨w1.heap.size, 0, none⟩ = some (.int .u8 0) := by
        rw [K2.out.cell 0, HZ.out]
        rfl
      have hf : ∀ i, w2.frozen? ⟨w1.heap.size, i, none⟩ = false := fun i => K2.out.frozen i
      go_wp2_with fail
      go_loopw [9] (fun i wl => ∃ j : Nat, j ≤ a.length ∧ i = .int .i64 (j : Int) ∧ Blk wl w1.heap.size 23 (bvs (arr1 k a j)) ∧ Below w1.heap.size w1 wl) (fun i _ => a.length - (intOf i).toNat)
      case atStart =>
        refine ⟨0, by omega, by simp, ?_, ?_⟩
        · have := K2.out.set 0 (bv k)
          rw [bvs_set, HZ.out] at this
          exact this
        · exact B2a.out.setCell (p := ⟨w1.heap.size, 0, none⟩) (Nat.le_refl _) _
      case round =>
        clear c0 hf
        obtain ⟨j, hj, rfl, hkr, hbr⟩ := hrel
        have KR := Lib.hid hkr
        have BR := Lib.hid hbr
        clear hkr hbr
        by_cases hjl : j < a.length
        · have i1 : (j : Int) < (S.size : Int) := by have := HSZ.out; omega
          have hix := ix_str (P := Try.prog) 9 Try.underlying9 a S HS.out j hjl
          obtain ⟨c, hc⟩ : ∃ c : UInt8, c = a[j] := ⟨_, rfl⟩
          rw [← hc] at hix
          have HC := Lib.hid hc
          clear hc
          have hw : IntKind.i64.wrap (2 + (j : Int)) = 2 + (j : Int) := IntWalk.i64_in _ (by omega)
          have l1 := arr1_len (k := k) (Nat.le_of_lt hjl) (show a.length ≤ 15 by omega)
          obtain ⟨u, hu⟩ : ∃ u, (arr1 k a j)[2 + j]? = some u := ⟨_, List.getElem?_eq_getElem (by omega)⟩
          have hcj := KR.out.cell (2 + j)
          rw [bvs_get _ _ _ hu] at hcj
          have hfj := KR.out.frozen (2 + j)
          have i2 : 2 + (j : Int) < 32 := by omega
          clear hu l1
          go_wp2_with fail
          refine ⟨⟨j + 1, by omega, by congr 1, ?_, BR.out.setCell (p := ⟨w1.heap.size, 2 + j, none⟩) (Nat.le_refl _) _⟩, by simp [intOf] <;> omega⟩
          have := KR.out.set (2 + j) (bv c)
          rw [bvs_set, HC.out, arr1_next hjl (by omega)] at this
          rw [HC.out]
          exact this
        · obtain rfl : j = a.length := by omega
          have i1 : ¬ ((a.length : Int) < (S.size : Int)) := by have := HSZ.out; omega
          have k9 := KR.out
          rw [arr1_end (b := b) (by omega)] at k9
          have K9 := Lib.hid k9
          have HA0 := Lib.hid hjl
          clear k9 KR hjl hj
          go_wp2_with fail
          go_loopw [10] (fun i wl => ∃ j : Nat, j ≤ b.length ∧ i = .int .i64 (j : Int) ∧ Blk wl w1.heap.size 23 (bvs (arr2 k a b j)) ∧ Below w1.heap.size w1 wl) (fun i _ => b.length - (intOf i).toNat)
          case atStart => exact ⟨0, by omega, by simp, K9.out, BR.out⟩
          case round =>
            clear K9 BR i1
            obtain ⟨j, hj, rfl, hkr, hbr⟩ := hrel
            have KR := Lib.hid hkr
            have BR := Lib.hid hbr
            clear hkr hbr
            by_cases hjl : j < b.length
            · have i1 : (j : Int) < (T.size : Int) := by have := HTZ.out; omega
              have hix := ix_str (P := Try.prog) 9 Try.underlying9 b T HT.out j hjl
              obtain ⟨c, hc⟩ : ∃ c : UInt8, c = b[j] := ⟨_, rfl⟩
              rw [← hc] at hix
              have HC := Lib.hid hc
              clear hc
              have hw : IntKind.i64.wrap (17 + (j : Int)) = 17 + (j : Int) := IntWalk.i64_in _ (by omega)
              have l1 := arr2_len (k := k) (Nat.le_of_lt hjl) (show a.length ≤ 15 by omega) hm14
              obtain ⟨u, hu⟩ : ∃ u, (arr2 k a b j)[17 + j]? = some u := ⟨_, List.getElem?_eq_getElem (by omega)⟩
              have hcj := KR.out.cell (17 + j)
              rw [bvs_get _ _ _ hu] at hcj
              have hfj := KR.out.frozen (17 + j)
              have i2 : 17 + (j : Int) < 32 := by omega
              clear hu l1
              go_wp2_with fail
              refine ⟨⟨j + 1, by omega, by congr 1, ?_, BR.out.setCell (p := ⟨w1.heap.size, 17 + j, none⟩) (Nat.le_refl _) _⟩, by simp [intOf] <;> omega⟩
              have := KR.out.set (17 + j) (bv c)
              rw [bvs_set, HC.out, arr2_next hjl (by omega) hm14] at this
              rw [HC.out]
              exact this
            · obtain rfl : j = b.length := by omega
              have i1 : ¬ ((b.length : Int) < (T.size : Int)) := by have := HTZ.out; omega
              have k9 := KR.out
              rw [arr2_end, ← HV2.out] at k9
              have K9 := Lib.hid k9
              have KA := Lib.hid (K1.out.below BR.out K1.out.lt)
              have B9 := Lib.hid (B1.out.trans (BR.out.mono B1.out.size))
              clear k9 KR
              go_wp2_with (first
                | ((with_reducible refine atDst 53 ?_); refine wpList_ldArr rfl 23 _ rfl w1.heap.size rfl 23 _ _ K9.out Try.underlying23 rfl (size_key32 HVL.out) ?_)
                | ((with_reducible refine atStore 23 6 53 ?_); refine wpList_stBlk rfl 23 _ _ rfl w.heap.size (bvs v) rfl rfl 23 _ KA.out (size_key32 HVL.out) (len_bvs2 HZL.out HVL.out) (bvs_all _) B9.out (Nat.le_refl _) ?_; intro w3 hk3 hb3 hs3 _; have K3 := Lib.hid hk3; have B3 := Lib.hid hb3; clear hk3 hb3))
              refine bodyPost_ret (results_blk2 rfl _ _ w.heap.size 23 _ _ _ rfl rfl K3.out Try.underlying23 rfl (size_key32 HVL.out)) rfl ?_
              exact ⟨by rw [HE0.out]; rfl, B3.out⟩
    · have hTl : (T.toList == []) = false := by rw [HTL.out]; simpa using hbe
      have hbe' : (b == []) = false := by simpa using hbe
      go_wp2_with fail
      rw [HT.out]
      refine (refName_any b w2 hlb).mono ?_
      rintro e w' ⟨rfl, hw'⟩
      have hw2 := hw'.symm
      subst hw2
      clear hw'
      rw [← HT.out]
      by_cases hnb : Nm b
      · rw [decide_eq_true hnb]
        have hm14 : b.length ≤ 15 := by have := hnb.2.1; omega
        have he0 : er = 0 := by rw [HE.out]; simp [keyE, hk, Nm2, hna, hnb]
        clear hbe hbe'
        have hv2 : v = keyB k a b := by rw [HV.out]; unfold keyV; rw [← HE.out, he0]; rfl
        have HE0 := Lib.hid he0
        have HV2 := Lib.hid hv2
        clear he0 hv2
        have c0 : w2.cell? ⟨w1.heap.size, 0, none⟩ = some (.int .u8 0) := by
          rw [K2.out.cell 0, HZ.out]
          rfl
        have hf : ∀ i, w2.frozen? ⟨w1.heap.size, i, none⟩ = false := fun i => K2.out.frozen i
        go_wp2_with fail
        go_loopw [9] (fun i wl => ∃ j : Nat, j ≤ a.length ∧ i = .int .i64 (j : Int) ∧ Blk wl w1.heap.size 23 (bvs (arr1 k a j)) ∧ Below w1.heap.size w1 wl) (fun i _ => a.length - (intOf i).toNat)
        case atStart =>
          refine ⟨0, by omega, by simp, ?_, ?_⟩
          · have := K2.out.set 0 (bv k)
            rw [bvs_set, HZ.out] at this
            exact this
          · exact B2a.out.setCell (p := ⟨w1.heap.size, 0, none⟩) (Nat.le_refl _) _
        case round =>
          clear c0 hf
          obtain ⟨j, hj, rfl, hkr, hbr⟩ := hrel
          have KR := Lib.hid hkr
          have BR := Lib.hid hbr
          clear hkr hbr
          by_cases hjl : j < a.length
          · have i1 : (j : Int) < (S.size : Int) := by have := HSZ.out; omega
            have hix := ix_str (P := Try.prog) 9 Try.underlying9 a S HS.out j hjl
            obtain ⟨c, hc⟩ : ∃ c : UInt8, c = a[j] := ⟨_, rfl⟩
            rw [← hc] at hix
            have HC := Lib.hid hc
            clear hc
            have hw : IntKind.i64.wrap (2 + (j : Int)) = 2 + (j : Int) := IntWalk.i64_in _ (by omega)
            have l1 := arr1_len (k := k) (Nat.le_of_lt hjl) (show a.length ≤ 15 by omega)
            obtain ⟨u, hu⟩ : ∃ u, (arr1 k a j)[2 + j]? = some u := ⟨_, List.getElem?_eq_getElem (by omega)⟩
            have hcj := KR.out.cell (2 + j)
            rw [bvs_get _ _ _ hu] at hcj
            have hfj := KR.out.frozen (2 + j)
            have i2 : 2 + (j : Int) < 32 := by omega
            clear hu l1
            go_wp2_with fail
            refine ⟨⟨j + 1, by omega, by congr 1, ?_, BR.out.setCell (p := ⟨w1.heap.size, 2 + j, none⟩) (Nat.le_refl _) _⟩, by simp [intOf] <;> omega⟩
            have := KR.out.set (2 + j) (bv c)
            rw [bvs_set, HC.out, arr1_next hjl (by omega)] at this
            rw [HC.out]
            exact this
          · obtain rfl : j = a.length := by omega
            have i1 : ¬ ((a.length : Int) < (S.size : Int)) := by have := HSZ.out; omega
            have k9 := KR.out
            rw [arr1_end (b := b) (by omega)] at k9
            have K9 := Lib.hid k9
            have HA0 := Lib.hid hjl
            clear k9 KR hjl hj
            go_wp2_with fail
            go_loopw [10] (fun i wl => ∃ j : Nat, j ≤ b.length ∧ i = .int .i64 (j : Int) ∧ Blk wl w1.heap.size 23 (bvs (arr2 k a b j)) ∧ Below w1.heap.size w1 wl) (fun i _ => b.length - (intOf i).toNat)
            case atStart => exact ⟨0, by omega, by simp, K9.out, BR.out⟩
            case round =>
              clear K9 BR i1
              obtain ⟨j, hj, rfl, hkr, hbr⟩ := hrel
              have KR := Lib.hid hkr
              have BR := Lib.hid hbr
              clear hkr hbr
              by_cases hjl : j < b.length
              · have i1 : (j : Int) < (T.size : Int) := by have := HTZ.out; omega
                have hix := ix_str (P := Try.prog) 9 Try.underlying9 b T HT.out j hjl
                obtain ⟨c, hc⟩ : ∃ c : UInt8, c = b[j] := ⟨_, rfl⟩
                rw [← hc] at hix
                have HC := Lib.hid hc
                clear hc
                have hw : IntKind.i64.wrap (17 + (j : Int)) = 17 + (j : Int) := IntWalk.i64_in _ (by omega)
                have l1 := arr2_len (k := k) (Nat.le_of_lt hjl) (show a.length ≤ 15 by omega) hm14
                obtain ⟨u, hu⟩ : ∃ u, (arr2 k a b j)[17 + j]? = some u := ⟨_, List.getElem?_eq_getElem (by omega)⟩
                have hcj := KR.out.cell (17 + j)
                rw [bvs_get _ _ _ hu] at hcj
                have hfj := KR.out.frozen (17 + j)
                have i2 : 17 + (j : Int) < 32 := by omega
                clear hu l1
                go_wp2_with fail
                refine ⟨⟨j + 1, by omega, by congr 1, ?_, BR.out.setCell (p := ⟨w1.heap.size, 17 + j, none⟩) (Nat.le_refl _) _⟩, by simp [intOf] <;> omega⟩
                have := KR.out.set (17 + j) (bv c)
                rw [bvs_set, HC.out, arr2_next hjl (by omega) hm14] at this
                rw [HC.out]
                exact this
              · obtain rfl : j = b.length := by omega
                have i1 : ¬ ((b.length : Int) < (T.size : Int)) := by have := HTZ.out; omega
                have k9 := KR.out
                rw [arr2_end, ← HV2.out] at k9
                have K9 := Lib.hid k9
                have KA := Lib.hid (K1.out.below BR.out K1.out.lt)
                have B9 := Lib.hid (B1.out.trans (BR.out.mono B1.out.size))
                clear k9 KR
                go_wp2_with (first
                  | ((with_reducible refine atDst 53 ?_); refine wpList_ldArr rfl 23 _ rfl w1.heap.size rfl 23 _ _ K9.out Try.underlying23 rfl (size_key32 HVL.out) ?_)
                  | ((with_reducible refine atStore 23 6 53 ?_); refine wpList_stBlk rfl 23 _ _ rfl w.heap.size (bvs v) rfl rfl 23 _ KA.out (size_key32 HVL.out) (len_bvs2 HZL.out HVL.out) (bvs_all _) B9.out (Nat.le_refl _) ?_; intro w3 hk3 hb3 hs3 _; have K3 := Lib.hid hk3; have B3 := Lib.hid hb3; clear hk3 hb3))
                refine bodyPost_ret (results_blk2 rfl _ _ w.heap.size 23 _ _ _ rfl rfl K3.out Try.underlying23 rfl (size_key32 HVL.out)) rfl ?_
                exact ⟨by rw [HE0.out]; rfl, B3.out⟩
      · rw [decide_eq_false hnb]
        have he0 : er = 14 := by rw [HE.out]; simp [keyE, hk, Nm2, hna, hnb, hbe]
        have hv2 : v = z := by rw [HV.out, HZ.out]; unfold keyV; rw [← HE.out, he0]; rfl
        have HE0 := Lib.hid he0
        have HV2 := Lib.hid hv2
        clear he0 hv2
        go_wp2_with (first
          | ((with_reducible refine atDst 26 ?_); refine wpList_ldArr rfl 23 _ rfl w1.heap.size rfl 23 _ _ K2.out Try.underlying23 rfl (size_key32 HZL.out) ?_)
          | ((with_reducible refine atStore 23 6 26 ?_); refine wpList_stBlk rfl 23 _ _ rfl w.heap.size _ rfl rfl 23 _ K1a.out (size_key32 HZL.out) rfl (bvs_all _) B2.out (Nat.le_refl _) ?_; intro w3 hk3 hb3 hs3 _; have K3 := Lib.hid hk3; have B3 := Lib.hid hb3; clear hk3 hb3))
        refine bodyPost_ret (results_blk2 rfl _ _ w.heap.size 23 _ _ _ rfl rfl K3.out Try.underlying23 rfl (size_key32 HZL.out)) rfl ?_
        exact ⟨by rw [HE0.out, HV2.out]; rfl, B3.out⟩
  · rw [decide_eq_false hna]
    have he0 : er = 14 := by rw [HE.out]; simp [keyE, hk, Nm2, hna]
    have hv2 : v = z := by rw [HV.out, HZ.out]; unfold keyV; rw [← HE.out, he0]; rfl
    have HE0 := Lib.hid he0
    have HV2 := Lib.hid hv2
    clear he0 hv2
    go_wp2_with (first
      | ((with_reducible refine atDst 26 ?_); refine wpList_ldArr rfl 23 _ rfl w1.heap.size rfl 23 _ _ K2.out Try.underlying23 rfl (size_key32 HZL.out) ?_)
      | ((with_reducible refine atStore 23 6 26 ?_); refine wpList_stBlk rfl 23 _ _ rfl w.heap.size _ rfl rfl 23 _ K1a.out (size_key32 HZL.out) rfl (bvs_all _) B2.out (Nat.le_refl _) ?_; intro w3 hk3 hb3 hs3 _; have K3 := Lib.hid hk3; have B3 := Lib.hid hb3; clear hk3 hb3))
    refine bodyPost_ret (results_blk2 rfl _ _ w.heap.size 23 _ _ _ rfl rfl K3.out Try.underlying23 rfl (size_key32 HZL.out)) rfl ?_
    exact ⟨by rw [HE0.out, HV2.out]; rfl, B3.out⟩
end Go.Proofs.Ytfhhojhflpokaaa
