/-
  What package names' Key answers and leaves. No statement is proved here.
-/
import Derived.Test.YtfhhojhflpokaaaNmA
namespace Go.Proofs.Ytfhhojhflpokaaa
open Go.RowKit
set_option linter.unusedSimpArgs false
set_option linter.unusedVariables false

def zs (n : Nat) : List UInt8 := List.replicate n 0
theorem zs_length (n : Nat) : (zs n).length = n := by simp [zs]
/-- The key of a kind and two names. -/
def keyB (k : UInt8) (a b : List UInt8) : List UInt8 := [k, 0] ++ (a ++ zs (15 - a.length)) ++ (b ++ zs (15 - b.length))
/-- A second name may be empty. -/
def Nm2 (a b : List UInt8) : Prop := Nm a ∧ (b = [] ∨ Nm b)
instance (a b : List UInt8) : Decidable (Nm2 a b) := by unfold Nm2; exact inferInstance
def keyE (k : UInt8) (a b : List UInt8) : Int := if k = 0 then 1 else if Nm2 a b then 0 else 14
def keyV (k : UInt8) (a b : List UInt8) : List UInt8 := if keyE k a b = 0 then keyB k a b else zs 32
theorem nm2_len {a b : List UInt8} (h : Nm2 a b) : a.length ≤ 14 ∧ b.length ≤ 14 := by
  refine ⟨h.1.2.1, ?_⟩
  rcases h.2 with rfl | h
  · simp
  · exact h.2.1
theorem keyB_length {k : UInt8} {a b : List UInt8} (ha : a.length ≤ 15) (hb : b.length ≤ 15) : (keyB k a b).length = 32 := by
  simp only [keyB, List.length_append, zs_length, List.length_cons, List.length_nil]
  omega
theorem keyE_ok {k : UInt8} {a b : List UInt8} (h : keyE k a b = 0) : k ≠ 0 ∧ Nm2 a b := by
  unfold keyE at h
  split at h
  · cases h
  · rename_i hk
    split at h
    · exact ⟨hk, by assumption⟩
    · cases h
theorem keyV_length (k : UInt8) (a b : List UInt8) : (keyV k a b).length = 32 := by
  unfold keyV
  split
  · rename_i h
    have := nm2_len (keyE_ok h).2
    exact keyB_length (by omega) (by omega)
  · exact zs_length 32
theorem zs_drop (n m : Nat) : (zs n).drop m = zs (n - m) := by simp [zs]
theorem zs_add (n m : Nat) : zs n ++ zs m = zs (n + m) := by simp [zs]
theorem zs_succ (n : Nat) : (0 : UInt8) :: zs n = zs (n + 1) := by simp [zs, List.replicate_succ]
theorem splice_bvs (l m : List UInt8) (i : Nat) : splice (bvs l) i (bvs m) = bvs (l.take i ++ m ++ l.drop (i + m.length)) := by
  unfold splice
  rw [bvs_length]
  simp only [bvs, List.map_append, List.map_take, List.map_drop, List.append_assoc]
theorem splice_key {k : UInt8} {a b : List UInt8} (ha : a.length ≤ 15) (hb : b.length ≤ 15) :
    splice (splice (bvs (k :: zs 31)) 2 (bvs a)) 17 (bvs b) = bvs (keyB k a b) := by
  have e0 : k :: zs 31 = [k, 0] ++ zs 30 := by
    show k :: zs (30 + 1) = k :: 0 :: zs 30
    rw [zs_succ]
  have e1 : splice (bvs (k :: zs 31)) 2 (bvs a) = bvs ([k, 0] ++ (a ++ zs (15 - a.length)) ++ zs 15) := by
    rw [splice_bvs, e0, List.take_left' (show [k, 0].length = 2 from rfl), List.drop_append]
    rw [List.drop_eq_nil_of_le (by simp), zs_drop, List.nil_append]
    congr 1
    simp only [List.append_assoc, zs_add]
    congr 3
    simp
    omega
  rw [e1]
  have hlen : ([k, 0] ++ (a ++ zs (15 - a.length))).length = 17 := by simp [zs_length]; omega
  rw [splice_bvs, List.take_left' hlen, List.drop_append, List.drop_eq_nil_of_le (by rw [hlen]; omega), zs_drop, hlen, List.nil_append]
  congr 1
  simp only [keyB, List.append_assoc]
  congr 5
  omega
theorem hsz1 : (Try.prog.info? 5).map (·.size) = some 1 := by kernel_rfl
theorem info_key : ∃ i : TypeInfo, Try.prog.info? 23 = some i ∧ i.zero = some (.agg (bvs (zs 32)).toArray) := by
  have h : ((Try.prog.info? 23).map (·.zero)) = some (some (.agg (bvs (zs 32)).toArray)) := by kernel_rfl
  cases hi : Try.prog.info? 23 with
  | none => rw [hi] at h; cases h
  | some i =>
    rw [hi] at h
    exact ⟨i, rfl, by simpa using h⟩
theorem built_one (k : UInt8) : Try.prog.built 23 [(0, .int .u8 (k.toNat : Int))] = some (bvs (k :: zs 31)).toArray := by kernel_rfl
/-- The zero key, by a name that the walk does not look into. -/
theorem key_zero : ∃ z : List UInt8, z = zs 32 ∧ z.length = 32 ∧ (∃ i : TypeInfo, Try.prog.info? 23 = some i ∧ i.zero = some (.agg (bvs z).toArray)) ∧ Try.prog.built 23 [] = some (bvs z).toArray :=
  ⟨zs 32, rfl, zs_length 32, info_key, by kernel_rfl⟩
theorem size_key32 {l : List UInt8} (h : l.length = 32) : (Try.prog.info? 23).map (·.size) = some (bvs l).length := by
  rw [bvs_length, h]
  kernel_rfl
theorem bvs_all (l : List UInt8) : (bvs l).all (·.oneCell') = true := by
  rw [List.all_eq_true]
  exact bvs_one l
theorem len_bvs2 {l m : List UInt8} (h : l.length = 32) (h' : m.length = 32) : (bvs l).length = (bvs m).length := by rw [bvs_length, bvs_length, h, h']
theorem size_key : (Try.prog.info? 23).map (·.size) = some 32 := by kernel_rfl

set_option maxHeartbeats 4000000 in
theorem key_any (k : UInt8) (a b : List UInt8) (w : World) (hla : a.length ≤ 1048576) (hlb : b.length ≤ 1048576) :
    Calls Try.prog 10 #[.int .u8 (k.toNat : Int), str a, str b] w fun e w' => e = .returned (.tuple #[.agg (bvs (keyV k a b)).toArray, .int .i64 (keyE k a b)]) ∧ Below w.heap.size w w' := by
  obtain ⟨z, hz, hzl, ⟨i0, hi0, hz0⟩, hbz⟩ := key_zero
  have HZ := Lib.hid hz
  have HZL := Lib.hid hzl
  clear hz hzl
  obtain ⟨v, hv⟩ : ∃ v, v = keyV k a b := ⟨_, rfl⟩
  obtain ⟨er, her⟩ : ∃ er, er = keyE k a b := ⟨_, rfl⟩
  have hvl : v.length = 32 := by rw [hv]; exact keyV_length k a b
  rw [← hv, ← her]
  have HV := Lib.hid hv
  have HE := Lib.hid her
  have HVL := Lib.hid hvl
  clear hv her hvl
  by_cases hk : k = 0
  · subst hk
    have h1 : er = 1 := by rw [HE.out]; simp [keyE]
    have h2 : v = z := by rw [HV.out, HZ.out]; unfold keyV; rw [← HE.out, h1]; rfl
    subst h1
    subst h2
    go_enter Try.func10, Try.ntmps10
    go_wp2_with (first
      | ((with_reducible refine atDst 6 ?_); refine wpList_new rfl 23 rfl i0 _ (bvs v) hi0 hz0 rfl (Below.refl w.heap.size w) (Nat.le_refl _) ?_; intro w1 hk1 hb1 hs1 _; have K1 := Lib.hid hk1; have B1 := Lib.hid hb1; clear hk1 hb1)
      | ((with_reducible refine atDst 11 ?_); refine wpList_bld rfl 23 #[] rfl (bvs v) hbz ?_)
      | ((with_reducible refine atStore 23 6 11 ?_); refine wpList_stBlk rfl 23 _ _ rfl w.heap.size _ rfl rfl 23 _ K1.out (size_key32 HVL.out) rfl (bvs_all _) B1.out (Nat.le_refl _) ?_; intro w2 hk2 hb2 hs2 _; have K2 := Lib.hid hk2; have B2 := Lib.hid hb2; clear hk2 hb2))

    refine bodyPost_ret (results_blk2 rfl _ _ w.heap.size 23 _ _ _ rfl rfl K2.out Try.underlying23 rfl (size_key32 HVL.out)) rfl ?_
    exact ⟨rfl, B2.out⟩
  have hk0 : ((k.toNat : Int) == 0) = false := by
    rw [beq_eq_false_iff_ne]
    intro h
    exact hk (UInt8.toNat_inj.1 (by simpa using h))
  go_enter Try.func10, Try.ntmps10
  go_wp2_with (first
    | ((with_reducible refine atDst 6 ?_); refine wpList_new rfl 23 rfl i0 _ (bvs z) hi0 hz0 rfl (Below.refl w.heap.size w) (Nat.le_refl _) ?_; intro w1 hk1 hb1 hs1 _; have K1 := Lib.hid hk1; have B1 := Lib.hid hb1; clear hk1 hb1))
  refine (may_any a w1 hla).mono ?_
  rintro e w2 ⟨rfl, hb2⟩
  have B2 := Lib.hid hb2
  clear hb2
  have S1 := Lib.hid hs1
  clear hs1
  by_cases hna : Nm a
  · rw [decide_eq_true hna]
    have hl14 := hna.2.1
    by_cases hbe : b = []
    · subst hbe
      have he0 : er = 0 := by rw [HE.out]; simp [keyE, hk, Nm2, hna]
      have hv2 : v = keyB k a [] := by rw [HV.out]; unfold keyV; rw [← HE.out, he0]; rfl
      have HE0 := Lib.hid he0
      have HV2 := Lib.hid hv2
      clear he0 hv2
      have hm14 : ([] : List UInt8).length ≤ 15 := by simp
      go_wp2_with (first
        | ((with_reducible refine atDst 26 ?_); refine wpList_bld rfl 23 #[(0, .tmp 25)] rfl (bvs (k :: zs 31)) (built_one k) ?_)
        | ((with_reducible refine atDst 8 ?_); refine wpList_new rfl 23 rfl i0 _ (bvs z) hi0 hz0 rfl B2.out B2.out.size ?_; intro w4 hk4 hb4 hs4 _; have K4 := Lib.hid hk4; have B4 := Lib.hid hb4; have S4 := Lib.hid hs4; clear hk4 hb4 hs4)
        | ((with_reducible refine atStore 23 8 26 ?_); refine wpList_stBlk rfl 23 _ _ rfl w2.heap.size (bvs (k :: zs 31)) rfl rfl 23 _ K4.out (size_key32 rfl) (len_bvs2 HZL.out rfl) (bvs_all _) B4.out B2.out.size ?_; intro w5 hk5 hb5 hs5 _; have K5 := Lib.hid hk5; have B5 := Lib.hid hb5; have S5 := Lib.hid hs5; clear hk5 hb5 hs5)
        | ((with_reducible refine atDst 29 ?_); refine wpList_toBytes rfl 9 38 5 (.tmp 28) rfl a rfl Try.underlying9 Try.underlying38 Try.underlying5 hla B5.out B5.out.size ?_; intro cap6 w6 hr6 hb6 hs6 ho6; have R6 := Lib.hid hr6; have B6 := Lib.hid hb6; have K6 := Lib.hid ((ho6 _ K5.out.lt).trans K5.out); clear hr6 hb6 hs6 ho6)
        | ((with_reducible refine atDst 30 ?_); refine wpList_cp rfl (.tmp 27) (.tmp 29) 38 38 rfl 5 Try.underlying38 hsz1 w2.heap.size 2 _ _ rfl 23 _ K6.out _ (bvs a) rfl R6.out (by rw [bvs_length]; omega) (by rw [bvs_length, bvs_length, List.length_cons, zs_length]; omega) (bvs_one a) w1.heap.size w1 B6.out B2.out.size ?_; intro w7 hk7 hb7 hs7; have K7 := Lib.hid hk7; have B7 := Lib.hid hb7; have S7 := Lib.hid hs7; clear hk7 hb7 hs7)
        | ((with_reducible refine atDst 33 ?_); refine wpList_toBytes rfl 9 38 5 (.tmp 32) rfl ([] : List UInt8) rfl Try.underlying9 Try.underlying38 Try.underlying5 hlb B7.out B7.out.size ?_; intro cap8 w8 hr8 hb8 hs8 ho8; have R8 := Lib.hid hr8; have B8 := Lib.hid hb8; have K8 := Lib.hid ((ho8 _ K7.out.lt).trans K7.out); clear hr8 hb8 hs8 ho8)
        | ((with_reducible refine atDst 34 ?_); refine wpList_cp rfl (.tmp 31) (.tmp 33) 38 38 rfl 5 Try.underlying38 hsz1 w2.heap.size 17 _ _ rfl 23 _ K8.out _ (bvs ([] : List UInt8)) rfl R8.out (by rw [bvs_length]; omega) (by rw [splice_bvs, bvs_length, bvs_length, List.length_append, List.length_append, List.length_drop, List.length_take, List.length_cons, zs_length]; omega) (bvs_one _) w1.heap.size w1 B8.out B2.out.size ?_; intro w9 hk9 hb9 hs9; rw [splice_key (by omega) (by omega), ← HV2.out] at hk9; have K9 := Lib.hid hk9; have B9 := Lib.hid (B1.out.trans (hb9.mono B1.out.size)); have K6a := Lib.hid (K1.out.below hb9 K1.out.lt); clear hk9 hb9 hs9)
        | ((with_reducible refine atDst 35 ?_); refine wpList_ldArr rfl 23 _ rfl w2.heap.size rfl 23 _ _ K9.out Try.underlying23 rfl (size_key32 HVL.out) ?_)
        | ((with_reducible refine atStore 23 6 35 ?_); refine wpList_stBlk rfl 23 _ _ rfl w.heap.size (bvs v) rfl rfl 23 _ K6a.out (size_key32 HVL.out) (len_bvs2 HZL.out HVL.out) (bvs_all _) B9.out (Nat.le_refl _) ?_; intro wz hkz hbz2 hsz2 _; have KZ := Lib.hid hkz; have BZ := Lib.hid hbz2; clear hkz hbz2 hsz2))
      refine bodyPost_ret (results_blk2 rfl _ _ w.heap.size 23 _ _ _ rfl rfl KZ.out Try.underlying23 rfl (size_key32 HVL.out)) rfl ?_
      exact ⟨by rw [HE0.out]; rfl, BZ.out⟩
    · have hbe' : (b == []) = false := by simpa using hbe
      go_wp2_with fail
      refine (may_any b w2 hlb).mono ?_
      rintro e w3 ⟨rfl, hb3⟩
      have B3 := Lib.hid (B2.out.trans (hb3.mono B2.out.size))
      clear hb3
      by_cases hnb : Nm b
      · rw [decide_eq_true hnb]
        have hm14 : b.length ≤ 15 := by have := hnb.2.1; omega
        have he0 : er = 0 := by rw [HE.out]; simp [keyE, hk, Nm2, hna, hnb]
        have hv2 : v = keyB k a b := by rw [HV.out]; unfold keyV; rw [← HE.out, he0]; rfl
        have HE0 := Lib.hid he0
        have HV2 := Lib.hid hv2
        clear he0 hv2
        go_wp2_with (first
          | ((with_reducible refine atDst 26 ?_); refine wpList_bld rfl 23 #[(0, .tmp 25)] rfl (bvs (k :: zs 31)) (built_one k) ?_)
          | ((with_reducible refine atDst 8 ?_); refine wpList_new rfl 23 rfl i0 _ (bvs z) hi0 hz0 rfl B3.out B3.out.size ?_; intro w4 hk4 hb4 hs4 _; have K4 := Lib.hid hk4; have B4 := Lib.hid hb4; have S4 := Lib.hid hs4; clear hk4 hb4 hs4)
          | ((with_reducible refine atStore 23 8 26 ?_); refine wpList_stBlk rfl 23 _ _ rfl w3.heap.size (bvs (k :: zs 31)) rfl rfl 23 _ K4.out (size_key32 rfl) (len_bvs2 HZL.out rfl) (bvs_all _) B4.out B3.out.size ?_; intro w5 hk5 hb5 hs5 _; have K5 := Lib.hid hk5; have B5 := Lib.hid hb5; have S5 := Lib.hid hs5; clear hk5 hb5 hs5)
          | ((with_reducible refine atDst 29 ?_); refine wpList_toBytes rfl 9 38 5 (.tmp 28) rfl a rfl Try.underlying9 Try.underlying38 Try.underlying5 hla B5.out B5.out.size ?_; intro cap6 w6 hr6 hb6 hs6 ho6; have R6 := Lib.hid hr6; have B6 := Lib.hid hb6; have K6 := Lib.hid ((ho6 _ K5.out.lt).trans K5.out); clear hr6 hb6 hs6 ho6)
          | ((with_reducible refine atDst 30 ?_); refine wpList_cp rfl (.tmp 27) (.tmp 29) 38 38 rfl 5 Try.underlying38 hsz1 w3.heap.size 2 _ _ rfl 23 _ K6.out _ (bvs a) rfl R6.out (by rw [bvs_length]; omega) (by rw [bvs_length, bvs_length, List.length_cons, zs_length]; omega) (bvs_one a) w1.heap.size w1 B6.out B3.out.size ?_; intro w7 hk7 hb7 hs7; have K7 := Lib.hid hk7; have B7 := Lib.hid hb7; have S7 := Lib.hid hs7; clear hk7 hb7 hs7)
          | ((with_reducible refine atDst 33 ?_); refine wpList_toBytes rfl 9 38 5 (.tmp 32) rfl b rfl Try.underlying9 Try.underlying38 Try.underlying5 hlb B7.out B7.out.size ?_; intro cap8 w8 hr8 hb8 hs8 ho8; have R8 := Lib.hid hr8; have B8 := Lib.hid hb8; have K8 := Lib.hid ((ho8 _ K7.out.lt).trans K7.out); clear hr8 hb8 hs8 ho8)
          | ((with_reducible refine atDst 34 ?_); refine wpList_cp rfl (.tmp 31) (.tmp 33) 38 38 rfl 5 Try.underlying38 hsz1 w3.heap.size 17 _ _ rfl 23 _ K8.out _ (bvs b) rfl R8.out (by rw [bvs_length]; omega) (by rw [splice_bvs, bvs_length, bvs_length, List.length_append, List.length_append, List.length_drop, List.length_take, List.length_cons, zs_length]; omega) (bvs_one _) w1.heap.size w1 B8.out B3.out.size ?_; intro w9 hk9 hb9 hs9; rw [splice_key (by omega) (by omega), ← HV2.out] at hk9; have K9 := Lib.hid hk9; have B9 := Lib.hid (B1.out.trans (hb9.mono B1.out.size)); have K6a := Lib.hid (K1.out.below hb9 K1.out.lt); clear hk9 hb9 hs9)
          | ((with_reducible refine atDst 35 ?_); refine wpList_ldArr rfl 23 _ rfl w3.heap.size rfl 23 _ _ K9.out Try.underlying23 rfl (size_key32 HVL.out) ?_)
          | ((with_reducible refine atStore 23 6 35 ?_); refine wpList_stBlk rfl 23 _ _ rfl w.heap.size (bvs v) rfl rfl 23 _ K6a.out (size_key32 HVL.out) (len_bvs2 HZL.out HVL.out) (bvs_all _) B9.out (Nat.le_refl _) ?_; intro wz hkz hbz2 hsz2 _; have KZ := Lib.hid hkz; have BZ := Lib.hid hbz2; clear hkz hbz2 hsz2))
        refine bodyPost_ret (results_blk2 rfl _ _ w.heap.size 23 _ _ _ rfl rfl KZ.out Try.underlying23 rfl (size_key32 HVL.out)) rfl ?_
        exact ⟨by rw [HE0.out]; rfl, BZ.out⟩
      · rw [decide_eq_false hnb]
        have he0 : er = 14 := by rw [HE.out]; simp [keyE, hk, Nm2, hna, hnb, hbe]
        have hv2 : v = z := by rw [HV.out, HZ.out]; unfold keyV; rw [← HE.out, he0]; rfl
        have HE0 := Lib.hid he0
        have HV2 := Lib.hid hv2
        clear he0 hv2
        go_wp2_with (first
          | ((with_reducible refine atDst 24 ?_); refine wpList_bld rfl 23 #[] rfl (bvs z) hbz ?_)
          | ((with_reducible refine atStore 23 6 24 ?_); refine wpList_stBlk rfl 23 _ _ rfl w.heap.size _ rfl rfl 23 _ (K1.out.below B3.out K1.out.lt) (size_key32 HZL.out) rfl (bvs_all _) (B1.out.trans (B3.out.mono B1.out.size)) (Nat.le_refl _) ?_; intro w5 hk5 hb5 hs5 _; have K5 := Lib.hid hk5; have B5 := Lib.hid hb5; clear hk5 hb5 hs5))
        refine bodyPost_ret (results_blk2 rfl _ _ w.heap.size 23 _ _ _ rfl rfl K5.out Try.underlying23 rfl (size_key32 HZL.out)) rfl ?_
        exact ⟨by rw [HE0.out, HV2.out]; rfl, B5.out⟩
  · rw [decide_eq_false hna]
    have he0 : er = 14 := by rw [HE.out]; simp [keyE, hk, Nm2, hna]
    have hv2 : v = z := by rw [HV.out, HZ.out]; unfold keyV; rw [← HE.out, he0]; rfl
    have HE0 := Lib.hid he0
    have HV2 := Lib.hid hv2
    clear he0 hv2
    go_wp2_with (first
      | ((with_reducible refine atDst 24 ?_); refine wpList_bld rfl 23 #[] rfl (bvs z) hbz ?_)
      | ((with_reducible refine atStore 23 6 24 ?_); refine wpList_stBlk rfl 23 _ _ rfl w.heap.size _ rfl rfl 23 _ (K1.out.below B2.out K1.out.lt) (size_key32 HZL.out) rfl (bvs_all _) (B1.out.trans (B2.out.mono B1.out.size)) (Nat.le_refl _) ?_; intro w5 hk5 hb5 hs5 _; have K5 := Lib.hid hk5; have B5 := Lib.hid hb5; clear hk5 hb5 hs5))
    refine bodyPost_ret (results_blk2 rfl _ _ w.heap.size 23 _ _ _ rfl rfl K5.out Try.underlying23 rfl (size_key32 HZL.out)) rfl ?_
    exact ⟨by rw [HE0.out, HV2.out]; rfl, B5.out⟩
end Go.Proofs.Ytfhhojhflpokaaa
