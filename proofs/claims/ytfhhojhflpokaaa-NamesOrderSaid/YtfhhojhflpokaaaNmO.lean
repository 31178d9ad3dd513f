/-
  How keys stand, and what they name; the walk of the statement NamesOrder: the Go text returns true and turns nothing that was there. Condition: the byte fits its kind.
-/
import Derived.Test.YtfhhojhflpokaaaNmL
namespace Go.Proofs.Ytfhhojhflpokaaa
open Go.RowKit
set_option linter.unusedSimpArgs false
set_option linter.unusedVariables false

/-- A text without a zero. -/
def NZ (a : List UInt8) : Prop := ∀ c ∈ a, c ≠ 0
theorem nz_tail {c : UInt8} {a : List UInt8} (h : NZ (c :: a)) : c ≠ 0 ∧ NZ a := ⟨h c (by simp), fun d hd => h d (by simp [hd])⟩
theorem nz_nm {a : List UInt8} (h : Nm a) : NZ a := by
  intro c hc h0
  obtain ⟨i, hi, rfl⟩ := List.getElem_of_mem hc
  have := h.2.2 i hi
  rw [h0] at this
  revert this
  cases decide (i = 0) <;> decide
theorem nz_two {a b : List UInt8} (h : Nm2 a b) : NZ a ∧ NZ b := by
  refine ⟨nz_nm h.1, ?_⟩
  rcases h.2 with rfl | h
  · intro c hc; simp at hc
  · exact nz_nm h
theorem bl_pad : ∀ (n : Nat) (a c u v : List UInt8), NZ a → NZ c → a.length < n → c.length < n →
    Op.bytesLess (a ++ zs (n - a.length) ++ u) (c ++ zs (n - c.length) ++ v) = (Op.bytesLess a c || (decide (a = c) && Op.bytesLess u v))
  | n, [], [], u, v, _, _, _, _ => by
    simp only [List.nil_append, List.length_nil, bl_app]
    simp [Op.bytesLess]
  | n, [], y :: c, u, v, _, hc, hn, _ => by
    obtain ⟨m, rfl⟩ : ∃ m, n = m + 1 := ⟨n - 1, by have := hn; omega⟩
    have hy := (nz_tail hc).1
    have hlt : (0 : UInt8) < y := by
      rw [UInt8.lt_iff_toNat_lt]
      have : y.toNat ≠ 0 := fun h => hy (UInt8.toNat_inj.1 (by simpa using h))
      simp; omega
    simp only [List.nil_append, List.length_nil, Nat.sub_zero, ← zs_succ, List.cons_append, Op.bytesLess]
    simp [hlt]
  | n, x :: a, [], u, v, ha, _, _, hn => by
    obtain ⟨m, rfl⟩ : ∃ m, n = m + 1 := ⟨n - 1, by have := hn; simp at this; omega⟩
    have hx := (nz_tail ha).1
    simp only [List.nil_append, List.length_nil, Nat.sub_zero, ← zs_succ, List.cons_append, Op.bytesLess]
    have h1 : (x == 0) = false := by simpa using hx
    have h2 : ¬ x < 0 := by rw [UInt8.lt_iff_toNat_lt]; simp
    simp [h1, h2]
  | n, x :: a, y :: c, u, v, ha, hc, hn, hm => by
    obtain ⟨m, rfl⟩ : ∃ m, n = m + 1 := ⟨n - 1, by have := hn; simp at this; omega⟩
    have ih := bl_pad m a c u v (nz_tail ha).2 (nz_tail hc).2 (by simpa using hn) (by simpa using hm)
    simp only [List.length_cons, List.cons_append, Nat.add_sub_add_right, Op.bytesLess, ih]
    by_cases hxy : x = y
    · subst hxy
      simp
    · have h1 : (x == y) = false := by simpa using hxy
      simp [h1, hxy]
theorem keyB_less {k : UInt8} {a b c d : List UInt8} (h : Nm2 a b) (g : Nm2 c d) :
    Op.bytesLess (keyB k a b) (keyB k c d) = (Op.bytesLess a c || (decide (a = c) && Op.bytesLess b d)) := by
  have l1 := nm2_len h
  have l2 := nm2_len g
  have n1 := nz_two h
  have n2 := nz_two g
  unfold keyB
  rw [List.append_assoc [k, 0], List.append_assoc [k, 0], bl_app, bl_pad 15 a c _ _ n1.1 n2.1 (by omega) (by omega)]
  have := bl_pad 15 b d [] [] n1.2 n2.2 (by omega) (by omega)
  rw [List.append_nil, List.append_nil] at this
  rw [this]
  simp [Op.bytesLess]
theorem ahead_nz : ∀ {a : List UInt8} (r : List UInt8), NZ a → ahead (a ++ 0 :: r) = a
  | [], r, _ => by simp [ahead]
  | c :: a, r, h => by
    rw [List.cons_append, ahead_cons, if_neg (nz_tail h).1, ahead_nz r (nz_tail h).2]
theorem ahead_pad {a : List UInt8} (h : NZ a) (hl : a.length < 15) : ahead (a ++ zs (15 - a.length)) = a := by
  obtain ⟨m, hm⟩ : ∃ m, 15 - a.length = m + 1 := ⟨14 - a.length, by omega⟩
  rw [hm, ← zs_succ]
  exact ahead_nz _ h
theorem kA_keyB {k : UInt8} {a b : List UInt8} (h : Nm2 a b) : kA (keyB k a b) = a := by
  have l1 := nm2_len h
  unfold kA keyB
  rw [List.append_assoc [k, 0], List.drop_left' (show [k, 0].length = 2 from rfl), List.take_left' (by simp [zs_length]; omega)]
  exact ahead_pad (nz_two h).1 (by omega)
theorem kB_keyB {k : UInt8} {a b : List UInt8} (h : Nm2 a b) : kB (keyB k a b) = b := by
  have l1 := nm2_len h
  unfold kB keyB
  rw [List.drop_left' (by simp [zs_length]; omega)]
  exact ahead_pad (nz_two h).2 (by omega)
theorem kK_keyB {k : UInt8} {a b : List UInt8} : kK (keyB k a b) = k := rfl
theorem keyB_eq {k : UInt8} {a b c d : List UInt8} (h : Nm2 a b) (g : Nm2 c d) : decide (keyB k a b = keyB k c d) = (decide (a = c) && decide (b = d)) := by
  rw [Bool.eq_iff_iff, Bool.and_eq_true, decide_eq_true_iff, decide_eq_true_iff, decide_eq_true_iff]
  constructor
  · intro e
    have e1 := congrArg kA e
    have e2 := congrArg kB e
    rw [kA_keyB h, kA_keyB g] at e1
    rw [kB_keyB h, kB_keyB g] at e2
    exact ⟨e1, e2⟩
  · rintro ⟨rfl, rfl⟩
    rfl
theorem keyV_ok {k : UInt8} {a b : List UInt8} (h : keyE k a b = 0) : keyV k a b = keyB k a b ∧ Nm2 a b := by
  unfold keyV
  rw [if_pos h]
  exact ⟨rfl, (keyE_ok h).2⟩

set_option maxHeartbeats 4000000 in
set_option maxRecDepth 1000000 in
theorem namesOrder_walk (k : UInt8) (S T U V : ByteArray) (a b c d : List UInt8) (hS : S = ⟨a.toArray⟩) (hT : T = ⟨b.toArray⟩) (hU : U = ⟨c.toArray⟩) (hV : V = ⟨d.toArray⟩) (w : World) :
    Calls Try.prog 5 #[.int .u8 (k.toNat : Int), .string S, .string T, .string U, .string V] w fun e w' => e = .returned (.bool true) ∧ Below w.heap.size w w' := by
  have s1 : S.size = a.length := by rw [hS, str_size]
  have s2 : T.size = b.length := by rw [hT, str_size]
  have s3 : U.size = c.length := by rw [hU, str_size]
  have s4 : V.size = d.length := by rw [hV, str_size]
  have HS := Lib.hid hS
  have HT := Lib.hid hT
  have HU := Lib.hid hU
  have HW := Lib.hid hV
  clear hS hT hU hV
  by_cases h1 : 40 < a.length
  · have i1 : 40 < (S.size : Int) := by omega
    clear s1 s2 s3 s4
    go_enter Try.func5, Try.ntmps5
    go_wp2_with fail
    refine (begun_any w).mono ?_
    rintro e w1 ⟨rfl, hB1⟩
    go_wp2_with fail
    go_ret
    exact ⟨rfl, hB1⟩
  have i1 : ¬ (40 < (S.size : Int)) := by omega
  by_cases h2 : 40 < b.length
  · have i2 : 40 < (T.size : Int) := by omega
    clear s1 s2 s3 s4
    go_enter Try.func5, Try.ntmps5
    go_wp2_with fail
    refine (begun_any w).mono ?_
    rintro e w1 ⟨rfl, hB1⟩
    go_wp2_with fail
    go_ret
    exact ⟨rfl, hB1⟩
  have i2 : ¬ (40 < (T.size : Int)) := by omega
  by_cases h3 : 40 < c.length
  · have i3 : 40 < (U.size : Int) := by omega
    clear s1 s2 s3 s4
    go_enter Try.func5, Try.ntmps5
    go_wp2_with fail
    refine (begun_any w).mono ?_
    rintro e w1 ⟨rfl, hB1⟩
    go_wp2_with fail
    go_ret
    exact ⟨rfl, hB1⟩
  have i3 : ¬ (40 < (U.size : Int)) := by omega
  by_cases h4 : 40 < d.length
  · have i4 : 40 < (V.size : Int) := by omega
    clear s1 s2 s3 s4
    go_enter Try.func5, Try.ntmps5
    go_wp2_with fail
    refine (begun_any w).mono ?_
    rintro e w1 ⟨rfl, hB1⟩
    go_wp2_with fail
    go_ret
    exact ⟨rfl, hB1⟩
  have i4 : ¬ (40 < (V.size : Int)) := by omega
  clear s1 s2 s3 s4
  obtain ⟨i0, hi0, hz0⟩ := info_key
  obtain ⟨z, hz⟩ : ∃ z, z = zs 32 := ⟨_, rfl⟩
  have hzl : z.length = 32 := by rw [hz]; exact zs_length 32
  rw [← hz] at hz0
  have HZL := Lib.hid hzl
  clear hz hzl
  obtain ⟨v1, hv1⟩ : ∃ v, v = keyV k a b := ⟨_, rfl⟩
  obtain ⟨e1, he1⟩ : ∃ er, er = keyE k a b := ⟨_, rfl⟩
  obtain ⟨v2, hv2⟩ : ∃ v, v = keyV k c d := ⟨_, rfl⟩
  obtain ⟨e2, he2⟩ : ∃ er, er = keyE k c d := ⟨_, rfl⟩
  have HL1 := Lib.hid (show v1.length = 32 by rw [hv1]; exact keyV_length k a b)
  have HL2 := Lib.hid (show v2.length = 32 by rw [hv2]; exact keyV_length k c d)
  have HV1 := Lib.hid hv1
  have HE1 := Lib.hid he1
  have HV2 := Lib.hid hv2
  have HE2 := Lib.hid he2
  clear hv1 he1 hv2 he2
  by_cases hz1 : e1 = 0
  · by_cases hz2 : e2 = 0
    · subst hz1
      subst hz2
      have o1 := keyV_ok HE1.out.symm
      have o2 := keyV_ok HE2.out.symm
      have hle := keyB_less (k := k) o1.2 o2.2
      have heq := keyB_eq (k := k) o1.2 o2.2
      rw [← o1.1, ← o2.1, ← HV1.out, ← HV2.out] at hle heq
      clear o1 o2
      have est := str_eq HS.out HU.out
      have est2 := str_eq HT.out HW.out
      cases hp : Op.bytesLess a c with
      | true =>
        have hab : decide (a = c) = false := decide_eq_false fun h => by rw [h, bl_irrefl] at hp; cases hp
        rw [hab] at est heq hle
        rw [hp] at hle
        have HP := Lib.hid hp
        have HLE := Lib.hid (show Op.bytesLess v1 v2 = true from hle)
        have HEQ := Lib.hid (show decide (v1 = v2) = false from heq)
        clear hp hab hle heq est2
        go_enter Try.func5, Try.ntmps5
        go_wp2_with fail
        refine (begun_any w).mono ?_
        rintro e w1 ⟨rfl, hB1⟩
        go_wp2_with fail
        refine (keyS HS.out HT.out w1 k (by omega) (by omega)).mono ?_
        rintro e w2 ⟨rfl, hB2⟩
        rw [← HV1.out, ← HE1.out]
        have B2 := Lib.hid (hB1.trans (hB2.mono hB1.size))
        clear hB1 hB2
        go_wp2_with (first
          | ((with_reducible refine atDst 11 ?_); refine wpList_new rfl 23 rfl i0 _ (bvs z) hi0 hz0 rfl B2.out B2.out.size ?_; intro w3 hk3 hb3 hs3 ho3; have K3 := Lib.hid hk3; have B3 := Lib.hid hb3; clear hk3 hb3 hs3 ho3)
          | ((with_reducible refine atStore 23 11 41 ?_); refine wpList_stBlk rfl 23 _ _ rfl w2.heap.size (bvs v1) rfl rfl 23 _ K3.out (size_key32 HL1.out) (len_bvs2 HZL.out HL1.out) (bvs_all _) B3.out B2.out.size ?_; intro w4 hk4 hb4 hs4 ho4; have K4 := Lib.hid hk4; have B4 := Lib.hid hb4; clear hk4 hb4 hs4 ho4))
        refine (keyS HU.out HW.out w4 k (by omega) (by omega)).mono ?_
        rintro e w5 ⟨rfl, hB5⟩
        rw [← HV2.out, ← HE2.out]
        have B5 := Lib.hid (B4.out.trans (hB5.mono B4.out.size))
        have K5 := Lib.hid (K4.out.below hB5 K4.out.lt)
        clear hB5
        go_wp2_with (first
          | ((with_reducible refine atDst 13 ?_); refine wpList_new rfl 23 rfl i0 _ (bvs z) hi0 hz0 rfl B5.out B5.out.size ?_; intro w6 hk6 hb6 hs6 ho6; have K6 := Lib.hid hk6; have B6 := Lib.hid hb6; have K6a := Lib.hid ((ho6 _ K5.out.lt).trans K5.out); clear hk6 hb6 hs6 ho6)
          | ((with_reducible refine atStore 23 13 48 ?_); refine wpList_stBlk rfl 23 _ _ rfl w5.heap.size (bvs v2) rfl rfl 23 _ K6.out (size_key32 HL2.out) (len_bvs2 HZL.out HL2.out) (bvs_all _) B6.out B5.out.size ?_; intro w7 hk7 hb7 hs7 ho7; have K7 := Lib.hid hk7; have B7 := Lib.hid hb7; have K7a := Lib.hid (show Blk w7 w2.heap.size 23 (bvs v1) from (ho7 _ (Nat.ne_of_lt K5.out.lt)).trans K6a.out); clear hk7 hb7 hs7 ho7))
        refine (lessS HS.out HU.out w7).mono ?_
        rintro e w' ⟨rfl, hw'⟩
        have hw2 := hw'.symm
        subst hw2
        clear hw'
        rw [HP.out]
        go_wp2_with (first
          | ((with_reducible refine atDst 69 ?_); refine wpList_ldArr rfl 23 _ rfl w2.heap.size rfl 23 _ _ K7a.out Try.underlying23 rfl (size_key32 HL1.out) ?_)
          | ((with_reducible refine atDst 70 ?_); refine wpList_ldArr rfl 23 _ rfl w5.heap.size rfl 23 _ _ K7.out Try.underlying23 rfl (size_key32 HL2.out) ?_))
        refine (arrLess_any v1 v2 HL1.out HL2.out w7).mono ?_
        rintro e w8 ⟨rfl, hB8⟩
        rw [HLE.out]
        have B8 := Lib.hid (B7.out.trans (hB8.mono B7.out.size))
        have K8 := Lib.hid (K7.out.below hB8 K7.out.lt)
        have K8a := Lib.hid (K7a.out.below hB8 K7a.out.lt)
        clear hB8
        go_wp2_with (first
          | ((with_reducible refine atDst 75 ?_); refine wpList_ldArr rfl 23 _ rfl w2.heap.size rfl 23 _ _ K8a.out Try.underlying23 rfl (size_key32 HL1.out) ?_)
          | ((with_reducible refine atDst 76 ?_); refine wpList_ldArr rfl 23 _ rfl w5.heap.size rfl 23 _ _ K8.out Try.underlying23 rfl (size_key32 HL2.out) ?_)
          | ((with_reducible refine atDst 77 ?_); refine wpList_eqArr rfl 23 5 32 (.tmp 75) (.tmp 76) 23 rfl guard_key Try.underlying23 Try.underlying5 size_u8 v1 v2 HL1.out HL2.out rfl rfl ?_; rw [HEQ.out]))
        go_ret
        exact ⟨by simp, B8.out⟩
      | false =>
        rw [hp] at hle
        have HP := Lib.hid hp
        clear hp
        cases hab : decide (a = c) with
        | true =>
          obtain ⟨q, hq⟩ : ∃ q : Bool, q = Op.bytesLess b d := ⟨_, rfl⟩
          obtain ⟨t, ht⟩ : ∃ t : Bool, t = decide (b = d) := ⟨_, rfl⟩
          rw [hab] at est heq hle
          rw [← ht] at est2 heq
          rw [← hq] at hle
          have HLE := Lib.hid (show Op.bytesLess v1 v2 = q from hle)
          have HEQ := Lib.hid (show decide (v1 = v2) = t from heq)
          have HQ := Lib.hid hq
          clear hab hle heq ht hq
          go_enter Try.func5, Try.ntmps5
          go_wp2_with fail
          refine (begun_any w).mono ?_
          rintro e w1 ⟨rfl, hB1⟩
          go_wp2_with fail
          refine (keyS HS.out HT.out w1 k (by omega) (by omega)).mono ?_
          rintro e w2 ⟨rfl, hB2⟩
          rw [← HV1.out, ← HE1.out]
          have B2 := Lib.hid (hB1.trans (hB2.mono hB1.size))
          clear hB1 hB2
          go_wp2_with (first
            | ((with_reducible refine atDst 11 ?_); refine wpList_new rfl 23 rfl i0 _ (bvs z) hi0 hz0 rfl B2.out B2.out.size ?_; intro w3 hk3 hb3 hs3 ho3; have K3 := Lib.hid hk3; have B3 := Lib.hid hb3; clear hk3 hb3 hs3 ho3)
            | ((with_reducible refine atStore 23 11 41 ?_); refine wpList_stBlk rfl 23 _ _ rfl w2.heap.size (bvs v1) rfl rfl 23 _ K3.out (size_key32 HL1.out) (len_bvs2 HZL.out HL1.out) (bvs_all _) B3.out B2.out.size ?_; intro w4 hk4 hb4 hs4 ho4; have K4 := Lib.hid hk4; have B4 := Lib.hid hb4; clear hk4 hb4 hs4 ho4))
          refine (keyS HU.out HW.out w4 k (by omega) (by omega)).mono ?_
          rintro e w5 ⟨rfl, hB5⟩
          rw [← HV2.out, ← HE2.out]
          have B5 := Lib.hid (B4.out.trans (hB5.mono B4.out.size))
          have K5 := Lib.hid (K4.out.below hB5 K4.out.lt)
          clear hB5
          go_wp2_with (first
            | ((with_reducible refine atDst 13 ?_); refine wpList_new rfl 23 rfl i0 _ (bvs z) hi0 hz0 rfl B5.out B5.out.size ?_; intro w6 hk6 hb6 hs6 ho6; have K6 := Lib.hid hk6; have B6 := Lib.hid hb6; have K6a := Lib.hid ((ho6 _ K5.out.lt).trans K5.out); clear hk6 hb6 hs6 ho6)
            | ((with_reducible refine atStore 23 13 48 ?_); refine wpList_stBlk rfl 23 _ _ rfl w5.heap.size (bvs v2) rfl rfl 23 _ K6.out (size_key32 HL2.out) (len_bvs2 HZL.out HL2.out) (bvs_all _) B6.out B5.out.size ?_; intro w7 hk7 hb7 hs7 ho7; have K7 := Lib.hid hk7; have B7 := Lib.hid hb7; have K7a := Lib.hid (show Blk w7 w2.heap.size 23 (bvs v1) from (ho7 _ (Nat.ne_of_lt K5.out.lt)).trans K6a.out); clear hk7 hb7 hs7 ho7))
          refine (lessS HS.out HU.out w7).mono ?_
          rintro e w' ⟨rfl, hw'⟩
          have hw2 := hw'.symm
          subst hw2
          clear hw'
          rw [HP.out]
          go_wp2_with fail
          refine (lessS HT.out HW.out w7).mono ?_
          rintro e w' ⟨rfl, hw'⟩
          have hw2 := hw'.symm
          subst hw2
          clear hw'
          rw [← HQ.out]
          go_wp2_with (first
            | ((with_reducible refine atDst 69 ?_); refine wpList_ldArr rfl 23 _ rfl w2.heap.size rfl 23 _ _ K7a.out Try.underlying23 rfl (size_key32 HL1.out) ?_)
            | ((with_reducible refine atDst 70 ?_); refine wpList_ldArr rfl 23 _ rfl w5.heap.size rfl 23 _ _ K7.out Try.underlying23 rfl (size_key32 HL2.out) ?_))
          refine (arrLess_any v1 v2 HL1.out HL2.out w7).mono ?_
          rintro e w8 ⟨rfl, hB8⟩
          rw [HLE.out]
          have B8 := Lib.hid (B7.out.trans (hB8.mono B7.out.size))
          have K8 := Lib.hid (K7.out.below hB8 K7.out.lt)
          have K8a := Lib.hid (K7a.out.below hB8 K7a.out.lt)
          clear hB8
          go_wp2_with (first
            | ((with_reducible refine atDst 75 ?_); refine wpList_ldArr rfl 23 _ rfl w2.heap.size rfl 23 _ _ K8a.out Try.underlying23 rfl (size_key32 HL1.out) ?_)
            | ((with_reducible refine atDst 76 ?_); refine wpList_ldArr rfl 23 _ rfl w5.heap.size rfl 23 _ _ K8.out Try.underlying23 rfl (size_key32 HL2.out) ?_)
            | ((with_reducible refine atDst 77 ?_); refine wpList_eqArr rfl 23 5 32 (.tmp 75) (.tmp 76) 23 rfl guard_key Try.underlying23 Try.underlying5 size_u8 v1 v2 HL1.out HL2.out rfl rfl ?_; rw [HEQ.out]))
          go_ret
          exact ⟨by simp, B8.out⟩
        | false =>
          rw [hab] at est heq hle
          have HLE := Lib.hid (show Op.bytesLess v1 v2 = false from hle)
          have HEQ := Lib.hid (show decide (v1 = v2) = false from heq)
          clear hab hle heq est2
          go_enter Try.func5, Try.ntmps5
          go_wp2_with fail
          refine (begun_any w).mono ?_
          rintro e w1 ⟨rfl, hB1⟩
          go_wp2_with fail
          refine (keyS HS.out HT.out w1 k (by omega) (by omega)).mono ?_
          rintro e w2 ⟨rfl, hB2⟩
          rw [← HV1.out, ← HE1.out]
          have B2 := Lib.hid (hB1.trans (hB2.mono hB1.size))
          clear hB1 hB2
          go_wp2_with (first
            | ((with_reducible refine atDst 11 ?_); refine wpList_new rfl 23 rfl i0 _ (bvs z) hi0 hz0 rfl B2.out B2.out.size ?_; intro w3 hk3 hb3 hs3 ho3; have K3 := Lib.hid hk3; have B3 := Lib.hid hb3; clear hk3 hb3 hs3 ho3)
            | ((with_reducible refine atStore 23 11 41 ?_); refine wpList_stBlk rfl 23 _ _ rfl w2.heap.size (bvs v1) rfl rfl 23 _ K3.out (size_key32 HL1.out) (len_bvs2 HZL.out HL1.out) (bvs_all _) B3.out B2.out.size ?_; intro w4 hk4 hb4 hs4 ho4; have K4 := Lib.hid hk4; have B4 := Lib.hid hb4; clear hk4 hb4 hs4 ho4))
          refine (keyS HU.out HW.out w4 k (by omega) (by omega)).mono ?_
          rintro e w5 ⟨rfl, hB5⟩
          rw [← HV2.out, ← HE2.out]
          have B5 := Lib.hid (B4.out.trans (hB5.mono B4.out.size))
          have K5 := Lib.hid (K4.out.below hB5 K4.out.lt)
          clear hB5
          go_wp2_with (first
            | ((with_reducible refine atDst 13 ?_); refine wpList_new rfl 23 rfl i0 _ (bvs z) hi0 hz0 rfl B5.out B5.out.size ?_; intro w6 hk6 hb6 hs6 ho6; have K6 := Lib.hid hk6; have B6 := Lib.hid hb6; have K6a := Lib.hid ((ho6 _ K5.out.lt).trans K5.out); clear hk6 hb6 hs6 ho6)
            | ((with_reducible refine atStore 23 13 48 ?_); refine wpList_stBlk rfl 23 _ _ rfl w5.heap.size (bvs v2) rfl rfl 23 _ K6.out (size_key32 HL2.out) (len_bvs2 HZL.out HL2.out) (bvs_all _) B6.out B5.out.size ?_; intro w7 hk7 hb7 hs7 ho7; have K7 := Lib.hid hk7; have B7 := Lib.hid hb7; have K7a := Lib.hid (show Blk w7 w2.heap.size 23 (bvs v1) from (ho7 _ (Nat.ne_of_lt K5.out.lt)).trans K6a.out); clear hk7 hb7 hs7 ho7))
          refine (lessS HS.out HU.out w7).mono ?_
          rintro e w' ⟨rfl, hw'⟩
          have hw2 := hw'.symm
          subst hw2
          clear hw'
          rw [HP.out]
          go_wp2_with (first
            | ((with_reducible refine atDst 69 ?_); refine wpList_ldArr rfl 23 _ rfl w2.heap.size rfl 23 _ _ K7a.out Try.underlying23 rfl (size_key32 HL1.out) ?_)
            | ((with_reducible refine atDst 70 ?_); refine wpList_ldArr rfl 23 _ rfl w5.heap.size rfl 23 _ _ K7.out Try.underlying23 rfl (size_key32 HL2.out) ?_))
          refine (arrLess_any v1 v2 HL1.out HL2.out w7).mono ?_
          rintro e w8 ⟨rfl, hB8⟩
          rw [HLE.out]
          have B8 := Lib.hid (B7.out.trans (hB8.mono B7.out.size))
          have K8 := Lib.hid (K7.out.below hB8 K7.out.lt)
          have K8a := Lib.hid (K7a.out.below hB8 K7a.out.lt)
          clear hB8
          go_wp2_with (first
            | ((with_reducible refine atDst 75 ?_); refine wpList_ldArr rfl 23 _ rfl w2.heap.size rfl 23 _ _ K8a.out Try.underlying23 rfl (size_key32 HL1.out) ?_)
            | ((with_reducible refine atDst 76 ?_); refine wpList_ldArr rfl 23 _ rfl w5.heap.size rfl 23 _ _ K8.out Try.underlying23 rfl (size_key32 HL2.out) ?_)
            | ((with_reducible refine atDst 77 ?_); refine wpList_eqArr rfl 23 5 32 (.tmp 75) (.tmp 76) 23 rfl guard_key Try.underlying23 Try.underlying5 size_u8 v1 v2 HL1.out HL2.out rfl rfl ?_; rw [HEQ.out]))
          go_ret
          exact ⟨by simp, B8.out⟩
    · have hn2 : (e2 != 0) = true := by simpa using hz2
      subst hz1
      clear hz2
      go_enter Try.func5, Try.ntmps5
      go_wp2_with fail
      refine (begun_any w).mono ?_
      rintro e w1 ⟨rfl, hB1⟩
      go_wp2_with fail
      refine (keyS HS.out HT.out w1 k (by omega) (by omega)).mono ?_
      rintro e w2 ⟨rfl, hB2⟩
      rw [← HV1.out, ← HE1.out]
      have B2 := Lib.hid (hB1.trans (hB2.mono hB1.size))
      clear hB1 hB2
      go_wp2_with (first
        | ((with_reducible refine atDst 11 ?_); refine wpList_new rfl 23 rfl i0 _ (bvs z) hi0 hz0 rfl B2.out B2.out.size ?_; intro w3 hk3 hb3 hs3 ho3; have K3 := Lib.hid hk3; have B3 := Lib.hid hb3; clear hk3 hb3 hs3 ho3)
        | ((with_reducible refine atStore 23 11 41 ?_); refine wpList_stBlk rfl 23 _ _ rfl w2.heap.size (bvs v1) rfl rfl 23 _ K3.out (size_key32 HL1.out) (len_bvs2 HZL.out HL1.out) (bvs_all _) B3.out B2.out.size ?_; intro w4 hk4 hb4 hs4 ho4; have K4 := Lib.hid hk4; have B4 := Lib.hid hb4; clear hk4 hb4 hs4 ho4))
      refine (keyS HU.out HW.out w4 k (by omega) (by omega)).mono ?_
      rintro e w5 ⟨rfl, hB5⟩
      rw [← HV2.out, ← HE2.out]
      have B5 := Lib.hid (B4.out.trans (hB5.mono B4.out.size))
      have K5 := Lib.hid (K4.out.below hB5 K4.out.lt)
      clear hB5
      go_wp2_with (first
        | ((with_reducible refine atDst 13 ?_); refine wpList_new rfl 23 rfl i0 _ (bvs z) hi0 hz0 rfl B5.out B5.out.size ?_; intro w6 hk6 hb6 hs6 ho6; have K6 := Lib.hid hk6; have B6 := Lib.hid hb6; have K6a := Lib.hid ((ho6 _ K5.out.lt).trans K5.out); clear hk6 hb6 hs6 ho6)
        | ((with_reducible refine atStore 23 13 48 ?_); refine wpList_stBlk rfl 23 _ _ rfl w5.heap.size (bvs v2) rfl rfl 23 _ K6.out (size_key32 HL2.out) (len_bvs2 HZL.out HL2.out) (bvs_all _) B6.out B5.out.size ?_; intro w7 hk7 hb7 hs7 ho7; have K7 := Lib.hid hk7; have B7 := Lib.hid hb7; have K7a := Lib.hid (show Blk w7 w2.heap.size 23 (bvs v1) from (ho7 _ (Nat.ne_of_lt K5.out.lt)).trans K6a.out); clear hk7 hb7 hs7 ho7))
      go_ret
      exact ⟨rfl, B7.out⟩
  · have hn1 : (e1 != 0) = true := by simpa using hz1
    clear hz1
    go_enter Try.func5, Try.ntmps5
    go_wp2_with fail
    refine (begun_any w).mono ?_
    rintro e w1 ⟨rfl, hB1⟩
    go_wp2_with fail
    refine (keyS HS.out HT.out w1 k (by omega) (by omega)).mono ?_
    rintro e w2 ⟨rfl, hB2⟩
    rw [← HV1.out, ← HE1.out]
    have B2 := Lib.hid (hB1.trans (hB2.mono hB1.size))
    clear hB1 hB2
    go_wp2_with (first
      | ((with_reducible refine atDst 11 ?_); refine wpList_new rfl 23 rfl i0 _ (bvs z) hi0 hz0 rfl B2.out B2.out.size ?_; intro w3 hk3 hb3 hs3 ho3; have K3 := Lib.hid hk3; have B3 := Lib.hid hb3; clear hk3 hb3 hs3 ho3)
      | ((with_reducible refine atStore 23 11 41 ?_); refine wpList_stBlk rfl 23 _ _ rfl w2.heap.size (bvs v1) rfl rfl 23 _ K3.out (size_key32 HL1.out) (len_bvs2 HZL.out HL1.out) (bvs_all _) B3.out B2.out.size ?_; intro w4 hk4 hb4 hs4 ho4; have K4 := Lib.hid hk4; have B4 := Lib.hid hb4; clear hk4 hb4 hs4 ho4))
    refine (keyS HU.out HW.out w4 k (by omega) (by omega)).mono ?_
    rintro e w5 ⟨rfl, hB5⟩
    rw [← HV2.out, ← HE2.out]
    have B5 := Lib.hid (B4.out.trans (hB5.mono B4.out.size))
    have K5 := Lib.hid (K4.out.below hB5 K4.out.lt)
    clear hB5
    go_wp2_with (first
      | ((with_reducible refine atDst 13 ?_); refine wpList_new rfl 23 rfl i0 _ (bvs z) hi0 hz0 rfl B5.out B5.out.size ?_; intro w6 hk6 hb6 hs6 ho6; have K6 := Lib.hid hk6; have B6 := Lib.hid hb6; have K6a := Lib.hid ((ho6 _ K5.out.lt).trans K5.out); clear hk6 hb6 hs6 ho6)
      | ((with_reducible refine atStore 23 13 48 ?_); refine wpList_stBlk rfl 23 _ _ rfl w5.heap.size (bvs v2) rfl rfl 23 _ K6.out (size_key32 HL2.out) (len_bvs2 HZL.out HL2.out) (bvs_all _) B6.out B5.out.size ?_; intro w7 hk7 hb7 hs7 ho7; have K7 := Lib.hid hk7; have B7 := Lib.hid hb7; have K7a := Lib.hid (show Blk w7 w2.heap.size 23 (bvs v1) from (ho7 _ (Nat.ne_of_lt K5.out.lt)).trans K6a.out); clear hk7 hb7 hs7 ho7))
    go_ret
    exact ⟨rfl, B7.out⟩
end Go.Proofs.Ytfhhojhflpokaaa
