/-
  What the document's answer to names (text, TakeKey) answers and leaves. No statement is proved here.
-/
import Derived.Test.YtfhhojhflpokaaaNmS
import Derived.Test.YtfhhojhflpokaaaReg
namespace Go.Proofs.Ytfhhojhflpokaaa
open Go.RowKit
set_option linter.unusedSimpArgs false
set_option linter.unusedVariables false

theorem ahead_cons (c : UInt8) (r : List UInt8) : ahead (c :: r) = if c = 0 then [] else c :: ahead r := by
  by_cases h : c = 0 <;> simp [ahead, h]
theorem ahead_next : ∀ {l : List UInt8} {j : Nat} (hj : j ≤ (ahead l).length) (hl : j < l.length), l[j] ≠ 0 → j + 1 ≤ (ahead l).length
  | [], j, _, hl, _ => by simp at hl
  | c :: r, 0, _, _, h => by
    rw [ahead_cons, if_neg (by simpa using h)]
    simp
  | c :: r, j + 1, hj, hl, h => by
    rw [ahead_cons] at hj ⊢
    split at hj
    · simp at hj
    · rename_i hc
      rw [if_neg hc]
      simp only [List.length_cons] at hj hl ⊢
      have := ahead_next (l := r) (j := j) (by omega) (by omega) (by simpa using h)
      omega
theorem ahead_stop : ∀ {l : List UInt8} {j : Nat} (hj : j ≤ (ahead l).length) (hl : j < l.length), l[j] = 0 → (ahead l).length = j
  | [], j, _, hl, _ => by simp at hl
  | c :: r, 0, _, _, h => by
    rw [ahead_cons, if_pos (by simpa using h)]
    rfl
  | c :: r, j + 1, hj, hl, h => by
    rw [ahead_cons] at hj ⊢
    split at hj
    · simp at hj
    · rename_i hc
      rw [if_neg hc]
      simp only [List.length_cons] at hj hl ⊢
      have := ahead_stop (l := r) (j := j) (by omega) (by omega) (by simpa using h)
      omega

section
variable (b off cap : Nat) (l : List UInt8) (w : World) (hl : 0 < l.length) (hr : Row w (.slice (some ⟨b, off, none⟩) l.length cap) (bvs l))
include hr hl
set_option maxHeartbeats 4000000 in
set_option maxRecDepth 1000000 in
theorem refText_any (hl2 : l.length ≤ 1048576) :
    Calls Try.prog 22 #[.slice (some ⟨b, off, none⟩) l.length cap] w fun e w' => e = .returned (str (ahead l)) ∧ w' = w := by
  have hcell := row_ints b off cap l w hl hr
  have hcp := hr.len.2.1
  rw [← bvs_length l] at hr
  have R0 := Lib.hid hr
  clear hr
  have HC := Lib.hid hcell
  clear hcell
  go_enter Try.func22, Try.ntmps22
  go_wp2_with fail
  go_loopw [3] (fun i wl => ∃ j : Nat, j ≤ (ahead l).length ∧ i = .int .i64 (j : Int) ∧ wl = w) (fun i _ => l.length - (intOf i).toNat)
  case atStart => exact ⟨0, by omega, by simp, rfl⟩
  case round =>
    obtain ⟨j, hj, rfl, hwl⟩ := hrel
    have hw2 := hwl.symm
    subst hw2
    clear hwl
    have hle := ahead_len l
    by_cases hjl : j < l.length
    · have i1 : (j : Int) < (l.length : Int) := by omega
      have hcj := HC.out j hjl
      obtain ⟨c, hc⟩ : ∃ c : UInt8, c = l[j] := ⟨_, rfl⟩
      rw [show (l.map fun c => (c.toNat : Int)).getD j 0 = (c.toNat : Int) from by simp [List.getD, hjl, hc]] at hcj
      have HCJ := Lib.hid hc
      clear hc
      by_cases h0 : c = 0
      · have hne : ((c.toNat : Int) != 0) = false := by rw [h0]; rfl
        have hst := ahead_stop hj hjl (by rw [← HCJ.out, h0])
        have R3 := R0.out.take j (by rw [bvs_length]; omega)
        rw [show (bvs l).take j = bvs (ahead l) from by unfold bvs; rw [← List.map_take, ← hst, take_ahead]] at R3
        have c3 := conv_row (P := Try.prog) R3 38 5 9 Try.underlying38 Try.underlying5 Try.underlying9
        have i2 : (j : Int) ≤ (cap : Int) := by omega
        clear R3 hst h0 hle hj
        go_wp2_with fail
        go_ret
        exact ⟨rfl, rfl⟩
      · have hne : ((c.toNat : Int) != 0) = true := by
          rw [bne_iff_ne]
          intro h
          exact h0 (UInt8.toNat_inj.1 (by simpa using h))
        have hnx := ahead_next hj hjl (by rw [← HCJ.out]; exact h0)
        have HN := Lib.hid hnx
        clear hnx h0 hle hj
        go_wp2_with fail
        refine ⟨⟨j + 1, HN.out, by congr 1, trivial⟩, by simp [intOf] <;> omega⟩
    · obtain rfl : j = l.length := by omega
      have i1 : ¬ ((l.length : Int) < (l.length : Int)) := by omega
      have i2 : (l.length : Int) ≤ (cap : Int) := by omega
      have R3 := R0.out
      rw [bvs_length, show bvs l = bvs (ahead l) from by rw [ahead_full (by omega)]] at R3
      have c3 := conv_row (P := Try.prog) R3 38 5 9 Try.underlying38 Try.underlying5 Try.underlying9
      clear R3 hle hj
      go_wp2_with fail
      go_ret
      exact ⟨rfl, rfl⟩
end
theorem refText_key {w : World} {g : Nat} {t : TypeId} {k : List UInt8} (h : Blk w g t (bvs k)) (hk : k.length = 32) (i n cap : Nat) (hn : 0 < n) (hi : i + n ≤ 32) (hc : cap = 32 - i) (a : List UInt8) (ha : a = ahead ((k.drop i).take n)) :
    Calls Try.prog 22 #[.slice (some ⟨g, i, none⟩) n cap] w fun e w' => e = .returned (str a) ∧ w' = w := by
  have hl : ((k.drop i).take n).length = n := by rw [List.length_take, List.length_drop]; omega
  have := refText_any g i (32 - i) ((k.drop i).take n) w (by omega) (row_key h hk i n hn hi) (by omega)
  rw [hl, ← ha] at this
  rw [hc]
  exact this

/-! ### TakeKey -/
set_option maxHeartbeats 4000000 in
set_option maxRecDepth 1000000 in
theorem refTakeKey_any (k : List UInt8) (hk : k.length = 32) (w : World) :
    Calls Try.prog 17 #[.agg (bvs k).toArray] w fun e w' => e = .returned (took k) ∧ Below w.heap.size w w' := by
  have HK := Lib.hid hk
  have la := kA_len (k := k)
  have lb := kB_len hk
  obtain ⟨a, ha⟩ : ∃ a, a = kA k := ⟨_, rfl⟩
  obtain ⟨b, hb⟩ : ∃ b, b = kB k := ⟨_, rfl⟩
  obtain ⟨c, hc⟩ : ∃ c, c = kK k := ⟨_, rfl⟩
  rw [← ha] at la
  rw [← hb] at lb
  have hg0 : k[0]? = some c := by rw [hc, kK, List.getD_eq_getElem?_getD, List.getElem?_eq_getElem (by omega)]; rfl
  have ba : bvs a = bvs (ahead ((k.drop 2).take 15)) := by rw [ha]; rfl
  have HA := Lib.hid ha
  have HB := Lib.hid hb
  have HC := Lib.hid hc
  have HG := Lib.hid hg0
  clear ha hb hc hg0 hk ba
  go_enter Try.func17, Try.ntmps17
  go_wp2_with (first
    | ((with_reducible refine atDst 1 ?_); refine wpList_box rfl 23 _ rfl (bvs k) rfl (Below.refl w.heap.size w) (Nat.le_refl _) ?_; intro w1 hk1 hb1 hs1 _; have K1 := Lib.hid hk1; have B1 := Lib.hid hb1; have S1 := Lib.hid hs1; clear hk1 hb1 hs1))
  refine sx_start (by kernel_rfl) (fun wS hS hSz => ?_)
  have hX := Below.refl wS.heap.size wS
  have KS := Lib.hid (K1.out.below hS K1.out.lt)
  have BS := Lib.hid (B1.out.trans (hS.mono B1.out.size))
  have hc0 : ∀ W, Below wS.heap.size wS W → W.cell? ⟨w.heap.size, 0, none⟩ = some (.int .u8 (c.toNat : Int)) := fun W hW => by
    rw [((KS.out.below hW KS.out.lt).cell 0)]
    exact bvs_get k 0 c HG.out
  clear hS hSz
  refine sx_take (i := 0) (oi := ⟨some 10, _, _, _, _, _⟩) (v := ?_) rfl (by kernel_rfl) (by kernel_rfl) (by kernel_rfl) (fun _ _ _ h => h) rfl hX ?_ ?_; rotate_left; (intro W hW; go_simp; try with_reducible rfl); simp only [Act.put, List.setIfInBounds_toArray, List.set_cons_zero, List.set_cons_succ]
  refine sx_take (i := 2) (oi := ⟨some 12, _, _, _, _, _⟩) (v := ?_) rfl (by kernel_rfl) (by kernel_rfl) (by kernel_rfl) (fun _ _ _ h => h) rfl hX ?_ ?_; rotate_left; (intro W hW; go_simp; try with_reducible rfl); simp only [Act.put, List.setIfInBounds_toArray, List.set_cons_zero, List.set_cons_succ]
  refine sx_act (i := 1) (o := ⟨some 11, _, _, _, _, _⟩) rfl (by kernel_rfl) rfl hX (Nat.le_refl _) (fun K hK => ?_)
  go_wp2_with fail
  refine (refText_key KS.out HK.out 2 15 30 (by omega) (by omega) (by omega) a HA.out).mono ?_
  rintro e w2 ⟨rfl, hw2⟩
  have hw3 := hw2.symm
  subst hw3
  clear hw2
  refine hK _ _ (Below.refl _ _) ?_
  clear hK K
  refine sx_act (i := 3) (o := ⟨some 13, _, _, _, _, _⟩) rfl (by kernel_rfl) rfl hX (Nat.le_refl _) (fun K hK => ?_)
  go_wp2_with fail
  refine (refText_key KS.out HK.out 17 15 15 (by omega) (by omega) (by omega) b (by rw [HB.out, kB, List.take_of_length_le (by rw [List.length_drop, HK.out]; omega)])).mono ?_
  rintro e w2 ⟨rfl, hw2⟩
  have hw3 := hw2.symm
  subst hw3
  clear hw2
  refine hK _ _ (Below.refl _ _) ?_
  clear hK K
  refine sx_take (i := 4) (oi := ⟨some 6, _, _, _, _, _⟩) (v := ?_) rfl (by kernel_rfl) (by kernel_rfl) (by kernel_rfl) (fun _ _ _ h => h) rfl hX ?_ ?_; rotate_left; (intro W hW; go_simp; try with_reducible rfl); simp only [Act.put, List.setIfInBounds_toArray, List.set_cons_zero, List.set_cons_succ]
  refine sx_take (i := 5) (oi := ⟨some 7, _, _, _, _, _⟩) (v := ?_) rfl (by kernel_rfl) (by kernel_rfl) (by kernel_rfl) (fun _ _ _ h => h) rfl hX ?_ ?_; rotate_left; (intro W hW; go_simp; try with_reducible rfl); simp only [Act.put, List.setIfInBounds_toArray, List.set_cons_zero, List.set_cons_succ]
  refine wpAnyH_done (by kernel_rfl) ?_ _
  have c0S := hc0 _ (Below.refl _ _)
  clear hX hc0
  go_wp2_with fail
  refine (refKey_any c a b wS (by omega) (by omega)).mono ?_
  rintro e w4 ⟨rfl, hb4⟩
  obtain ⟨v, hv⟩ : ∃ v, v = keyV c a b := ⟨_, rfl⟩
  obtain ⟨er, her⟩ : ∃ er, er = keyE c a b := ⟨_, rfl⟩
  have hvl : v.length = 32 := by rw [hv]; exact keyV_length _ _ _
  have htk : took k = if er = 0 ∧ v = k then .tuple #[.int .u8 (c.toNat : Int), str a, str b, .int .i64 0] else .tuple #[.int .u8 0, str [], str [], .int .i64 3] := by
    unfold took isKey
    rw [hv, her, HA.out, HB.out, HC.out]
  rw [← hv, ← her]
  have K4 := Lib.hid (KS.out.below hb4 KS.out.lt)
  have B4 := Lib.hid (BS.out.trans (hb4.mono BS.out.size))
  have HV := Lib.hid hvl
  have HT := Lib.hid htk
  clear hv her hvl htk hb4 la lb c0S
  by_cases h0 : er = 0
  · subst h0
    by_cases hvk : v = k
    · have hd : decide (v = k) = true := decide_eq_true hvk
      rw [if_pos ⟨rfl, hvk⟩] at HT
      have HD := Lib.hid hd
      clear hd hvk
      obtain ⟨i0, hi0, hz0⟩ := info_key
      obtain ⟨z, hz⟩ : ∃ z, z = zs 32 := ⟨_, rfl⟩
      have hzl : z.length = 32 := by rw [hz]; exact zs_length 32
      rw [← hz] at hz0
      have HZL := Lib.hid hzl
      clear hz hzl
      go_wp2_with (first
        | ((with_reducible refine atDst 8 ?_); refine wpList_new rfl 23 rfl i0 _ (bvs z) hi0 hz0 rfl B4.out B4.out.size ?_; intro w5 hk5 hb5 hs5 ho5; have K5 := Lib.hid hk5; have B5 := Lib.hid hb5; have K5a := Lib.hid ((ho5 _ K4.out.lt).trans K4.out); clear hk5 hb5 hs5 ho5)
        | ((with_reducible refine atStore 23 8 20 ?_); refine wpList_stBlk rfl 23 _ _ rfl w4.heap.size (bvs v) rfl rfl 23 _ K5.out (size_key32 HV.out) (len_bvs2 HZL.out HV.out) (bvs_all _) B5.out B4.out.size ?_; intro w6 hk6 hb6 hs6 ho6; have K6 := Lib.hid hk6; replace B5 := Lib.hid hb6; have K6a := Lib.hid (show Blk w6 w.heap.size 23 (bvs k) from (ho6 _ (Nat.ne_of_lt K4.out.lt)).trans K5a.out); have c06 := K6a.out.cell 0; rw [bvs_get k 0 c HG.out] at c06; clear hk6 hb6 hs6 ho6)
        | ((with_reducible refine atDst 25 ?_); refine wpList_ldArr rfl 23 _ rfl w4.heap.size rfl 23 _ _ K6.out Try.underlying23 rfl (size_key32 HV.out) ?_)
        | ((with_reducible refine atDst 26 ?_); refine wpList_ldArr rfl 23 _ rfl w.heap.size rfl 23 _ _ K6a.out Try.underlying23 rfl (size_key32 HK.out) ?_)
        | ((with_reducible refine atDst 27 ?_); refine wpList_neArr rfl 23 5 32 (.tmp 25) (.tmp 26) 23 rfl guard_key Try.underlying23 Try.underlying5 size_u8 v k HV.out HK.out rfl rfl ?_; rw [HD.out]))
      refine bodyPost_ret (results_tmp4 rfl _ _ _) rfl ?_
      exact ⟨by rw [HT.out]; rfl, B5.out⟩
    · have hd : decide (v = k) = false := decide_eq_false hvk
      rw [if_neg (fun h => hvk h.2)] at HT
      have HD := Lib.hid hd
      clear hd hvk
      obtain ⟨i0, hi0, hz0⟩ := info_key
      obtain ⟨z, hz⟩ : ∃ z, z = zs 32 := ⟨_, rfl⟩
      have hzl : z.length = 32 := by rw [hz]; exact zs_length 32
      rw [← hz] at hz0
      have HZL := Lib.hid hzl
      clear hz hzl
      go_wp2_with (first
        | ((with_reducible refine atDst 8 ?_); refine wpList_new rfl 23 rfl i0 _ (bvs z) hi0 hz0 rfl B4.out B4.out.size ?_; intro w5 hk5 hb5 hs5 ho5; have K5 := Lib.hid hk5; have B5 := Lib.hid hb5; have K5a := Lib.hid ((ho5 _ K4.out.lt).trans K4.out); clear hk5 hb5 hs5 ho5)
        | ((with_reducible refine atStore 23 8 20 ?_); refine wpList_stBlk rfl 23 _ _ rfl w4.heap.size (bvs v) rfl rfl 23 _ K5.out (size_key32 HV.out) (len_bvs2 HZL.out HV.out) (bvs_all _) B5.out B4.out.size ?_; intro w6 hk6 hb6 hs6 ho6; have K6 := Lib.hid hk6; replace B5 := Lib.hid hb6; have K6a := Lib.hid (show Blk w6 w.heap.size 23 (bvs k) from (ho6 _ (Nat.ne_of_lt K4.out.lt)).trans K5a.out); have c06 := K6a.out.cell 0; rw [bvs_get k 0 c HG.out] at c06; clear hk6 hb6 hs6 ho6)
        | ((with_reducible refine atDst 25 ?_); refine wpList_ldArr rfl 23 _ rfl w4.heap.size rfl 23 _ _ K6.out Try.underlying23 rfl (size_key32 HV.out) ?_)
        | ((with_reducible refine atDst 26 ?_); refine wpList_ldArr rfl 23 _ rfl w.heap.size rfl 23 _ _ K6a.out Try.underlying23 rfl (size_key32 HK.out) ?_)
        | ((with_reducible refine atDst 27 ?_); refine wpList_neArr rfl 23 5 32 (.tmp 25) (.tmp 26) 23 rfl guard_key Try.underlying23 Try.underlying5 size_u8 v k HV.out HK.out rfl rfl ?_; rw [HD.out]))
      refine bodyPost_ret (results_tmp4 rfl _ _ _) rfl ?_
      exact ⟨by rw [HT.out]; rfl, B5.out⟩
  · have hne : (er != 0) = true := by simpa using h0
    rw [if_neg (fun h => h0 h.1)] at HT
    clear h0
    obtain ⟨i0, hi0, hz0⟩ := info_key
    obtain ⟨z, hz⟩ : ∃ z, z = zs 32 := ⟨_, rfl⟩
    have hzl : z.length = 32 := by rw [hz]; exact zs_length 32
    rw [← hz] at hz0
    have HZL := Lib.hid hzl
    clear hz hzl
    go_wp2_with (first
      | ((with_reducible refine atDst 8 ?_); refine wpList_new rfl 23 rfl i0 _ (bvs z) hi0 hz0 rfl B4.out B4.out.size ?_; intro w5 hk5 hb5 hs5 ho5; have K5 := Lib.hid hk5; have B5 := Lib.hid hb5; have K5a := Lib.hid ((ho5 _ K4.out.lt).trans K4.out); clear hk5 hb5 hs5 ho5)
      | ((with_reducible refine atStore 23 8 20 ?_); refine wpList_stBlk rfl 23 _ _ rfl w4.heap.size (bvs v) rfl rfl 23 _ K5.out (size_key32 HV.out) (len_bvs2 HZL.out HV.out) (bvs_all _) B5.out B4.out.size ?_; intro w6 hk6 hb6 hs6 ho6; have K6 := Lib.hid hk6; replace B5 := Lib.hid hb6; have K6a := Lib.hid (show Blk w6 w.heap.size 23 (bvs k) from (ho6 _ (Nat.ne_of_lt K4.out.lt)).trans K5a.out); have c06 := K6a.out.cell 0; rw [bvs_get k 0 c HG.out] at c06; clear hk6 hb6 hs6 ho6)
      | ((with_reducible refine atDst 25 ?_); refine wpList_ldArr rfl 23 _ rfl w4.heap.size rfl 23 _ _ K6.out Try.underlying23 rfl (size_key32 HV.out) ?_)
      | ((with_reducible refine atDst 26 ?_); refine wpList_ldArr rfl 23 _ rfl w.heap.size rfl 23 _ _ K6a.out Try.underlying23 rfl (size_key32 HK.out) ?_)
      | ((with_reducible refine atDst 27 ?_); refine wpList_neArr rfl 23 5 32 (.tmp 25) (.tmp 26) 23 rfl guard_key Try.underlying23 Try.underlying5 size_u8 v k HV.out HK.out rfl rfl ?_; rw [HD.out]))
    refine bodyPost_ret (results_tmp4 rfl _ _ _) rfl ?_
    exact ⟨by rw [HT.out]; rfl, B5.out⟩
end Go.Proofs.Ytfhhojhflpokaaa
