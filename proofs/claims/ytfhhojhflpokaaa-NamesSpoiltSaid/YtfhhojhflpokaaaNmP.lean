/-
  The walk of the statement NamesSpoilt: the Go text returns true and turns nothing that was there. Conditions: the numbers fit their kinds.
-/
import Derived.Test.YtfhhojhflpokaaaNmO
namespace Go.Proofs.Ytfhhojhflpokaaa
open Go.RowKit
set_option linter.unusedSimpArgs false
set_option linter.unusedVariables false

theorem xor_zero_iff (p x : UInt8) : p ^^^ x = p ↔ x = 0 := by
  constructor
  · intro h
    have : p ^^^ (p ^^^ x) = p ^^^ p := by rw [h]
    rwa [← UInt8.xor_assoc, UInt8.xor_self, UInt8.zero_xor] at this
  · rintro rfl
    exact UInt8.xor_zero
theorem set_same {l : List UInt8} {j : Nat} {p x : UInt8} (hj : l[j]? = some p) : l.set j (p ^^^ x) = l ↔ x = 0 := by
  have hjl : j < l.length := (List.getElem?_eq_some_iff.1 hj).1
  have hp : l[j] = p := (List.getElem?_eq_some_iff.1 hj).2
  constructor
  · intro h
    have h1 : (l.set j (p ^^^ x))[j]'(by simpa using hjl) = p ^^^ x := by simp
    have h2 : (l.set j (p ^^^ x))[j]'(by simpa using hjl) = l[j] := by simp only [h]
    rw [h1, hp] at h2
    exact (xor_zero_iff p x).1 h2
  · rintro rfl
    rw [UInt8.xor_zero, ← hp]
    exact List.set_getElem_self hjl
theorem isKey_keyB {k : UInt8} {a b : List UInt8} (hk : k ≠ 0) (h : Nm2 a b) : isKey (keyB k a b) := by
  have he : keyE k a b = 0 := by simp [keyE, hk, h]
  unfold isKey
  rw [kA_keyB h, kB_keyB h, kK_keyB]
  exact ⟨he, by unfold keyV; rw [if_pos he]⟩
/-- What a key of which a byte is turned says. -/
theorem turned_three {k : UInt8} {a b t : List UInt8} (h : Nm2 a b) (ht : isKey t) :
    (((((kK t).toNat : Int) == (k.toNat : Int)) && decide (kA t = a)) && decide (kB t = b)) = decide (t = keyB k a b) := by
  rw [Bool.eq_iff_iff, Bool.and_eq_true, Bool.and_eq_true, decide_eq_true_iff, decide_eq_true_iff, decide_eq_true_iff, beq_iff_eq]
  constructor
  · rintro ⟨⟨h1, h2⟩, h3⟩
    have h1' : kK t = k := UInt8.toNat_inj.1 (by omega)
    have := ht.2
    rw [h1', h2, h3, (keyV_ok (by rw [← h1', ← h2, ← h3]; exact ht.1)).1] at this
    exact this.symm
  · rintro rfl
    exact ⟨⟨rfl, kA_keyB h⟩, kB_keyB h⟩

set_option maxHeartbeats 4000000 in
set_option maxRecDepth 1000000 in
theorem namesSpoilt_walk (k x : UInt8) (S T : ByteArray) (a b : List UInt8) (n : Int) (h1 : -9223372036854775808 ≤ n) (h2 : n ≤ 9223372036854775807) (hS : S = ⟨a.toArray⟩) (hT : T = ⟨b.toArray⟩) (w : World) :
    Calls Try.prog 7 #[.int .u8 (k.toNat : Int), .string S, .string T, .int .i64 n, .int .u8 (x.toNat : Int)] w fun e w' => e = .returned (.bool true) ∧ Below w.heap.size w w' := by
  have s1 : S.size = a.length := by rw [hS, str_size]
  have s2 : T.size = b.length := by rw [hT, str_size]
  have HS := Lib.hid hS
  have HT := Lib.hid hT
  clear hS hT
  by_cases h3 : 40 < a.length
  · have i1 : 40 < (S.size : Int) := by omega
    clear s1 s2
    go_enter Try.func7, Try.ntmps7
    go_wp2_with fail
    refine (begun_any w).mono ?_
    rintro e w1 ⟨rfl, hB1⟩
    go_wp2_with fail
    go_ret
    exact ⟨rfl, hB1⟩
  have i1 : ¬ (40 < (S.size : Int)) := by omega
  by_cases h4 : 40 < b.length
  · have i2 : 40 < (T.size : Int) := by omega
    clear s1 s2
    go_enter Try.func7, Try.ntmps7
    go_wp2_with fail
    refine (begun_any w).mono ?_
    rintro e w1 ⟨rfl, hB1⟩
    go_wp2_with fail
    go_ret
    exact ⟨rfl, hB1⟩
  have i2 : ¬ (40 < (T.size : Int)) := by omega
  clear s1 s2
  obtain ⟨z, hz, hzl, ⟨i0, hi0, hz0⟩, hbz⟩ := key_zero
  have HZ := Lib.hid hz
  have HZL := Lib.hid hzl
  clear hz hzl
  obtain ⟨v, hv⟩ : ∃ v, v = keyV k a b := ⟨_, rfl⟩
  obtain ⟨er, her⟩ : ∃ er, er = keyE k a b := ⟨_, rfl⟩
  have HL1 := Lib.hid (show v.length = 32 by rw [hv]; exact keyV_length k a b)
  have HV1 := Lib.hid hv
  have HE1 := Lib.hid her
  clear hv her
  by_cases hz1 : er = 0
  · subst hz1
    have o1 := keyV_ok HE1.out.symm
    have hkk := (keyE_ok HE1.out.symm).1
    have hvk : v = keyB k a b := by rw [HV1.out]; exact o1.1
    have HVK := Lib.hid hvk
    have HN2 := Lib.hid o1.2
    have HKK := Lib.hid hkk
    clear o1 hkk hvk
    go_enter Try.func7, Try.ntmps7
    go_wp2_with fail
    refine (begun_any w).mono ?_
    rintro e w1 ⟨rfl, hB1⟩
    go_wp2_with fail
    refine (keyS HS.out HT.out w1 k (by omega) (by omega)).mono ?_
    rintro e w2 ⟨rfl, hB2⟩
    rw [← HV1.out, ← HE1.out]
    have B2 := Lib.hid (hB1.trans (hB2.mono hB1.size))
    clear hB1 hB2
    go_wp2_with (first
      | ((with_reducible refine atDst 11 ?_); refine wpList_new rfl 23 rfl i0 _ (bvs z) hi0 hz0 rfl B2.out B2.out.size ?_; intro w3 hk3 hb3 hs3 ho3; have K3 := Lib.hid hk3; have B3 := Lib.hid hb3; clear hk3 hb3 hs3 ho3)
      | ((with_reducible refine atStore 23 11 33 ?_); refine wpList_stBlk rfl 23 _ _ rfl w2.heap.size (bvs v) rfl rfl 23 _ K3.out (size_key32 HL1.out) (len_bvs2 HZL.out HL1.out) (bvs_all _) B3.out B2.out.size ?_; intro w4 hk4 hb4 hs4 ho4; have K4 := Lib.hid hk4; have B4 := Lib.hid hb4; clear hk4 hb4 hs4 ho4)
      | ((with_reducible refine atDst 40 ?_); refine wpList_ldArr rfl 23 _ rfl w2.heap.size rfl 23 _ _ K4.out Try.underlying23 rfl (size_key32 HL1.out) ?_)
      | ((with_reducible refine atDst 13 ?_); refine wpList_new rfl 23 rfl i0 _ (bvs z) hi0 hz0 rfl B4.out B4.out.size ?_; intro w5 hk5 hb5 hs5 ho5; have K5 := Lib.hid hk5; have B5 := Lib.hid hb5; clear hk5 hb5 hs5 ho5)
      | ((with_reducible refine atStore 23 13 40 ?_); refine wpList_stBlk rfl 23 _ _ rfl w4.heap.size (bvs v) rfl rfl 23 _ K5.out (size_key32 HL1.out) (len_bvs2 HZL.out HL1.out) (bvs_all _) B5.out B4.out.size ?_; intro w6 hk6 hb6 hs6 ho6; have K6 := Lib.hid hk6; have B6 := Lib.hid hb6; clear hk6 hb6 hs6 ho6))
    refine (place_any n w6 h1 h2).mono ?_
    rintro e w' ⟨j, hj, rfl, hw'⟩
    have hw2 := hw'.symm
    subst hw2
    clear hw'
    have hjl : j < v.length := by rw [HL1.out]; exact hj
    obtain ⟨p, hp⟩ : ∃ p : UInt8, v[j]? = some p := ⟨v[j], List.getElem?_eq_getElem hjl⟩
    have cj := K6.out.cell j
    rw [bvs_get v j p hp] at cj
    have fj := K6.out.frozen j
    obtain ⟨y, hy⟩ : ∃ y : UInt8, y = p ^^^ x := ⟨_, rfl⟩
    have hxor : bits .xor .u8 (p.toNat : Int) (x.toNat : Int) = (y.toNat : Int) := by
      rw [u8_xor_nat _ _ p.toNat_lt x.toNat_lt, hy, UInt8.toNat_xor]
    obtain ⟨t, ht⟩ : ∃ t, t = v.set j y := ⟨_, rfl⟩
    have HTL := Lib.hid (show t.length = 32 by rw [ht, List.length_set]; exact HL1.out)
    have k7 := K6.out.set j (bv y)
    rw [bvs_set, ← ht] at k7
    have K7 := Lib.hid (show Blk (w6.setCell ⟨w4.heap.size, j, none⟩ (.int .u8 (y.toNat : Int))) w4.heap.size 23 (bvs t) from k7)
    have B7 := Lib.hid (B6.out.setCell (p := ⟨w4.heap.size, j, none⟩) B4.out.size (.int .u8 (y.toNat : Int)))
    have HTX := Lib.hid (show t = v ↔ x = 0 by rw [ht, hy]; exact set_same hp)
    have i3 : (j : Int) < 32 := by omega
    clear k7 ht hy hp hjl
    have hx0 : ((x.toNat : Int) == 0) = decide (x = 0) := by
      rw [Bool.eq_iff_iff, beq_iff_eq, decide_eq_true_iff]
      exact ⟨fun h => UInt8.toNat_inj.1 (by simpa using h), fun h => by rw [h]; rfl⟩
    by_cases hik : isKey t
    · obtain ⟨S2, hS2⟩ : ∃ S : ByteArray, S = ⟨(kA t).toArray⟩ := ⟨_, rfl⟩
      obtain ⟨T2, hT2⟩ : ∃ T : ByteArray, T = ⟨(kB t).toArray⟩ := ⟨_, rfl⟩
      obtain ⟨c, hc⟩ : ∃ c : UInt8, c = kK t := ⟨_, rfl⟩
      have hdx : decide (t = v) = decide (x = 0) := decide_eq_decide.2 HTX.out
      have hthree := turned_three (k := k) HN2.out hik
      rw [← HVK.out, hdx, ← hc] at hthree
      have htk : took t = .tuple #[.int .u8 (c.toNat : Int), .string S2, .string T2, .int .i64 0] := by unfold took; rw [if_pos hik, hS2, hT2, hc]
      clear hdx
      have hn := (keyE_ok hik.1).2
      have la := kA_len (k := t)
      have lb := kB_len HTL.out
      have eqA := str_eq hS2 HS.out
      have eqB := str_eq hT2 HT.out
      have eqE := str_eq hT2 (show (⟨#[]⟩ : ByteArray) = ⟨([] : List UInt8).toArray⟩ from rfl)
      have e2 : T2.toList = kB t := by rw [hT2]; exact ByteArray.toList_mk _
      have HTK := Lib.hid htk
      have HS2 := Lib.hid hS2
      have HT2 := Lib.hid hT2
      have HNA := Lib.hid (decide_eq_true hn.1)
      have HNB := Lib.hid hn.2
      clear htk hS2 hT2 hc hn hik eqE
      obtain ⟨r1, hr1⟩ : ∃ r : Bool, ((c.toNat : Int) == (k.toNat : Int)) = r := ⟨_, rfl⟩
      obtain ⟨r2, hr2⟩ : ∃ r : Bool, decide (kA t = a) = r := ⟨_, rfl⟩
      obtain ⟨r3, hr3⟩ : ∃ r : Bool, decide (kB t = b) = r := ⟨_, rfl⟩
      obtain ⟨rx, hrx⟩ : ∃ r : Bool, decide (x = 0) = r := ⟨_, rfl⟩
      rw [hr1, hr2, hr3, hrx] at hthree
      rw [hr2] at eqA
      rw [hr3] at eqB
      rw [hrx] at hx0
      clear hr2 hr3 hrx
      by_cases hbe : kB t = []
      · have hem : (T2.toList == []) = true := by rw [e2, hbe]; rfl
        clear hbe e2
        cases r1 with
        | false =>
          obtain rfl : rx = false := hthree.symm
          clear hthree
          go_wp2_with ((with_reducible refine atDst 49 ?_); refine wpList_ldArr rfl 23 _ rfl w4.heap.size rfl 23 _ _ K7.out Try.underlying23 rfl (size_key32 HTL.out) ?_)
          refine (takeKey_any t HTL.out _).mono ?_
          rintro e w8 ⟨rfl, hb8⟩
          rw [HTK.out]
          have B8 := Lib.hid (B7.out.trans (hb8.mono B7.out.size))
          clear hb8
          go_wp2_with fail
          refine (mayS HS2.out w8 (by omega)).mono ?_
          rintro e w9 ⟨rfl, hb9⟩
          rw [HNA.out]
          have B9 := Lib.hid (B8.out.trans (hb9.mono B8.out.size))
          clear hb9
          go_wp2_with fail
          go_ret
          exact ⟨by simp, B9.out⟩
        | true =>
          cases r2 with
          | false =>
            obtain rfl : rx = false := hthree.symm
            clear hthree
            go_wp2_with ((with_reducible refine atDst 49 ?_); refine wpList_ldArr rfl 23 _ rfl w4.heap.size rfl 23 _ _ K7.out Try.underlying23 rfl (size_key32 HTL.out) ?_)
            refine (takeKey_any t HTL.out _).mono ?_
            rintro e w8 ⟨rfl, hb8⟩
            rw [HTK.out]
            have B8 := Lib.hid (B7.out.trans (hb8.mono B7.out.size))
            clear hb8
            go_wp2_with fail
            refine (mayS HS2.out w8 (by omega)).mono ?_
            rintro e w9 ⟨rfl, hb9⟩
            rw [HNA.out]
            have B9 := Lib.hid (B8.out.trans (hb9.mono B8.out.size))
            clear hb9
            go_wp2_with fail
            go_ret
            exact ⟨by simp, B9.out⟩
          | true =>
            obtain rfl : r3 = rx := by simpa using hthree
            have hqq : (r3 == r3) = true := by simp
            clear hthree
            go_wp2_with ((with_reducible refine atDst 49 ?_); refine wpList_ldArr rfl 23 _ rfl w4.heap.size rfl 23 _ _ K7.out Try.underlying23 rfl (size_key32 HTL.out) ?_)
            refine (takeKey_any t HTL.out _).mono ?_
            rintro e w8 ⟨rfl, hb8⟩
            rw [HTK.out]
            have B8 := Lib.hid (B7.out.trans (hb8.mono B7.out.size))
            clear hb8
            go_wp2_with fail
            refine (mayS HS2.out w8 (by omega)).mono ?_
            rintro e w9 ⟨rfl, hb9⟩
            rw [HNA.out]
            have B9 := Lib.hid (B8.out.trans (hb9.mono B8.out.size))
            clear hb9
            go_wp2_with fail
            go_ret
            exact ⟨by simp, B9.out⟩
      · have hem : (T2.toList == []) = false := by rw [e2]; simpa using hbe
        have HNB2 := Lib.hid (decide_eq_true (HNB.out.resolve_left hbe))
        clear hbe e2
        cases r1 with
        | false =>
          obtain rfl : rx = false := hthree.symm
          clear hthree
          go_wp2_with ((with_reducible refine atDst 49 ?_); refine wpList_ldArr rfl 23 _ rfl w4.heap.size rfl 23 _ _ K7.out Try.underlying23 rfl (size_key32 HTL.out) ?_)
          refine (takeKey_any t HTL.out _).mono ?_
          rintro e w8 ⟨rfl, hb8⟩
          rw [HTK.out]
          have B8 := Lib.hid (B7.out.trans (hb8.mono B7.out.size))
          clear hb8
          go_wp2_with fail
          refine (mayS HS2.out w8 (by omega)).mono ?_
          rintro e w9 ⟨rfl, hb9⟩
          rw [HNA.out]
          have B9 := Lib.hid (B8.out.trans (hb9.mono B8.out.size))
          clear hb9
          go_wp2_with fail
          refine (mayS HT2.out w9 (by omega)).mono ?_
          rintro e w10 ⟨rfl, hb10⟩
          rw [HNB2.out]
          have B10 := Lib.hid (B9.out.trans (hb10.mono B9.out.size))
          clear hb10
          go_wp2_with fail
          go_ret
          exact ⟨by simp, B10.out⟩
        | true =>
          cases r2 with
          | false =>
            obtain rfl : rx = false := hthree.symm
            clear hthree
            go_wp2_with ((with_reducible refine atDst 49 ?_); refine wpList_ldArr rfl 23 _ rfl w4.heap.size rfl 23 _ _ K7.out Try.underlying23 rfl (size_key32 HTL.out) ?_)
            refine (takeKey_any t HTL.out _).mono ?_
            rintro e w8 ⟨rfl, hb8⟩
            rw [HTK.out]
            have B8 := Lib.hid (B7.out.trans (hb8.mono B7.out.size))
            clear hb8
            go_wp2_with fail
            refine (mayS HS2.out w8 (by omega)).mono ?_
            rintro e w9 ⟨rfl, hb9⟩
            rw [HNA.out]
            have B9 := Lib.hid (B8.out.trans (hb9.mono B8.out.size))
            clear hb9
            go_wp2_with fail
            refine (mayS HT2.out w9 (by omega)).mono ?_
            rintro e w10 ⟨rfl, hb10⟩
            rw [HNB2.out]
            have B10 := Lib.hid (B9.out.trans (hb10.mono B9.out.size))
            clear hb10
            go_wp2_with fail
            go_ret
            exact ⟨by simp, B10.out⟩
          | true =>
            obtain rfl : r3 = rx := by simpa using hthree
            have hqq : (r3 == r3) = true := by simp
            clear hthree
            go_wp2_with ((with_reducible refine atDst 49 ?_); refine wpList_ldArr rfl 23 _ rfl w4.heap.size rfl 23 _ _ K7.out Try.underlying23 rfl (size_key32 HTL.out) ?_)
            refine (takeKey_any t HTL.out _).mono ?_
            rintro e w8 ⟨rfl, hb8⟩
            rw [HTK.out]
            have B8 := Lib.hid (B7.out.trans (hb8.mono B7.out.size))
            clear hb8
            go_wp2_with fail
            refine (mayS HS2.out w8 (by omega)).mono ?_
            rintro e w9 ⟨rfl, hb9⟩
            rw [HNA.out]
            have B9 := Lib.hid (B8.out.trans (hb9.mono B8.out.size))
            clear hb9
            go_wp2_with fail
            refine (mayS HT2.out w9 (by omega)).mono ?_
            rintro e w10 ⟨rfl, hb10⟩
            rw [HNB2.out]
            have B10 := Lib.hid (B9.out.trans (hb10.mono B9.out.size))
            clear hb10
            go_wp2_with fail
            go_ret
            exact ⟨by simp, B10.out⟩
    · have hxn : x ≠ 0 := by
        intro h
        exact hik (by rw [HTX.out.2 h, HVK.out]; exact isKey_keyB HKK.out HN2.out)
      have htk : took t = .tuple #[.int .u8 0, str [], str [], .int .i64 3] := by unfold took; rw [if_neg hik]
      have HTK := Lib.hid htk
      have hxn' : ((x.toNat : Int) != 0) = true := by
        rw [bne_iff_ne]
        intro h
        exact hxn (UInt8.toNat_inj.1 (by simpa using h))
      clear htk hik hxn hx0
      go_wp2_with ((with_reducible refine atDst 49 ?_); refine wpList_ldArr rfl 23 _ rfl w4.heap.size rfl 23 _ _ K7.out Try.underlying23 rfl (size_key32 HTL.out) ?_)
      refine (takeKey_any t HTL.out _).mono ?_
      rintro e w8 ⟨rfl, hb8⟩
      rw [HTK.out]
      have B8 := Lib.hid (B7.out.trans (hb8.mono B7.out.size))
      clear hb8
      go_wp2_with fail
      go_ret
      exact ⟨by simp, B8.out⟩
  · have hn1 : (er != 0) = true := by simpa using hz1
    have hvz : v = z := by rw [HV1.out, HZ.out]; unfold keyV; rw [← HE1.out, if_neg hz1]
    have HD := Lib.hid (decide_eq_true hvz)
    clear hz1 hvz
    go_enter Try.func7, Try.ntmps7
    go_wp2_with fail
    refine (begun_any w).mono ?_
    rintro e w1 ⟨rfl, hB1⟩
    go_wp2_with fail
    refine (keyS HS.out HT.out w1 k (by omega) (by omega)).mono ?_
    rintro e w2 ⟨rfl, hB2⟩
    rw [← HV1.out, ← HE1.out]
    have B2 := Lib.hid (hB1.trans (hB2.mono hB1.size))
    clear hB1 hB2
    go_wp2_with (first
      | ((with_reducible refine atDst 11 ?_); refine wpList_new rfl 23 rfl i0 _ (bvs z) hi0 hz0 rfl B2.out B2.out.size ?_; intro w3 hk3 hb3 hs3 ho3; have K3 := Lib.hid hk3; have B3 := Lib.hid hb3; clear hk3 hb3 hs3 ho3)
      | ((with_reducible refine atStore 23 11 33 ?_); refine wpList_stBlk rfl 23 _ _ rfl w2.heap.size (bvs v) rfl rfl 23 _ K3.out (size_key32 HL1.out) (len_bvs2 HZL.out HL1.out) (bvs_all _) B3.out B2.out.size ?_; intro w4 hk4 hb4 hs4 ho4; have K4 := Lib.hid hk4; have B4 := Lib.hid hb4; clear hk4 hb4 hs4 ho4)
      | ((with_reducible refine atDst 37 ?_); refine wpList_ldArr rfl 23 _ rfl w2.heap.size rfl 23 _ _ K4.out Try.underlying23 rfl (size_key32 HL1.out) ?_)
      | ((with_reducible refine atDst 38 ?_); refine wpList_bld rfl 23 #[] rfl (bvs z) hbz ?_)
      | ((with_reducible refine atDst 39 ?_); refine wpList_eqArr rfl 23 5 32 (.tmp 37) (.tmp 38) 23 rfl guard_key Try.underlying23 Try.underlying5 size_u8 v z HL1.out HZL.out rfl rfl ?_; rw [HD.out]))
    go_ret
    exact ⟨rfl, B4.out⟩
end Go.Proofs.Ytfhhojhflpokaaa
