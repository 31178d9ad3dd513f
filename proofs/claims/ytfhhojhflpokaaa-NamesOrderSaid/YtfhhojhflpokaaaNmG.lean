/-
  The walk of the statement NamesSigns: the Go text returns true and turns nothing that was there. Conditions: the byte fits its kind.
-/
import Derived.Test.YtfhhojhflpokaaaNmW
namespace Go.Proofs.Ytfhhojhflpokaaa
open Go.RowKit
set_option linter.unusedSimpArgs false
set_option linter.unusedVariables false

theorem str_add {S X : ByteArray} {a b : List UInt8} (hS : S = ⟨a.toArray⟩) (hX : X = ⟨b.toArray⟩) (ha : a.length ≤ 1048576) (hb : b.length ≤ 1048576) :
    Op.stringOp .add S X = pure (.string ⟨(a ++ b).toArray⟩) := by
  subst hS
  subst hX
  unfold Op.stringOp
  simp only [str_size]
  rw [if_neg (by rw [IntKind.max_i64]; omega)]
  have h : (⟨a.toArray⟩ : ByteArray) ++ ⟨b.toArray⟩ = ⟨(a ++ b).toArray⟩ := by
    apply ByteArray.ext
    simp
  rw [h]
theorem nm_snoc {a : List UInt8} (ha : Nm a) (x : UInt8) : decide (Nm (a ++ [x])) = ((low x.toNat || oth x.toNat) && decide (a.length < 14)) := by
  rw [Bool.eq_iff_iff, decide_eq_true_iff, Bool.and_eq_true, decide_eq_true_iff]
  have hl : (a ++ [x]).length = a.length + 1 := by simp
  constructor
  · rintro ⟨h1, h2, h3⟩
    have := h3 a.length (by omega)
    rw [List.getElem_append_right (Nat.le_refl _)] at this
    simp only [Nat.sub_self, List.getElem_cons_zero, sign, decide_eq_false (show ¬ a.length = 0 by have := ha.1; omega), Bool.not_false, Bool.true_and] at this
    exact ⟨this, by omega⟩
  · rintro ⟨h1, h2⟩
    refine ⟨by omega, by omega, fun i hi => ?_⟩
    by_cases hi' : i < a.length
    · rw [List.getElem_append_left hi']
      exact ha.2.2 i hi'
    · obtain rfl : i = a.length := by omega
      rw [List.getElem_append_right (Nat.le_refl _)]
      simp only [Nat.sub_self, List.getElem_cons_zero, sign, decide_eq_false (show ¬ a.length = 0 by have := ha.1; omega), Bool.not_false, Bool.true_and]
      exact h1
theorem nm_one (x : UInt8) : decide (Nm [x]) = low x.toNat := by
  rw [Bool.eq_iff_iff, decide_eq_true_iff]
  constructor
  · rintro ⟨_, _, h3⟩
    have := h3 0 (by simp)
    simpa [sign] using this
  · intro h
    refine ⟨by simp, by simp, fun i hi => ?_⟩
    obtain rfl : i = 0 := by simpa using hi
    simpa [sign] using h
theorem nm_cons {a : List UInt8} (ha : Nm a) (x : UInt8) : decide (Nm ([x] ++ a)) = (low x.toNat && decide (a.length < 14)) := by
  rw [Bool.eq_iff_iff, decide_eq_true_iff, Bool.and_eq_true, decide_eq_true_iff]
  have hl : ([x] ++ a).length = a.length + 1 := by simp
  constructor
  · rintro ⟨h1, h2, h3⟩
    have := h3 0 (by omega)
    simp only [List.cons_append, List.getElem_cons_zero, sign, decide_true, Bool.not_true, Bool.false_and, Bool.or_false] at this
    exact ⟨this, by omega⟩
  · rintro ⟨h1, h2⟩
    refine ⟨by omega, by omega, fun i hi => ?_⟩
    cases i with
    | zero => simp [sign, h1]
    | succ i =>
      have hi' : i < a.length := by omega
      simp only [List.cons_append, List.nil_append, List.getElem_cons_succ]
      have h := ha.2.2 i hi'
      unfold sign at h ⊢
      rw [decide_eq_false (by omega)]
      revert h
      cases low a[i].toNat <;> simp

set_option maxHeartbeats 4000000 in
set_option maxRecDepth 1000000 in
theorem namesSigns_walk (x : UInt8) (S : ByteArray) (a : List UInt8) (hS : S = ⟨a.toArray⟩) (w : World) :
    Calls Try.prog 8 #[.string S, .int .u8 (x.toNat : Int)] w fun e w' => e = .returned (.bool true) ∧ Below w.heap.size w w' := by
  have hsz : S.size = a.length := by rw [hS, str_size]
  have HS := Lib.hid hS
  clear hS
  by_cases h20 : 20 < a.length
  · have i1 : 20 < (S.size : Int) := by omega
    clear hsz
    go_enter Try.func8, Try.ntmps8
    go_wp2_with fail
    refine (begun_any w).mono ?_
    rintro e w1 ⟨rfl, hB1⟩
    go_wp2_with fail
    go_ret
    exact ⟨rfl, hB1⟩
  have i1 : ¬ (20 < (S.size : Int)) := by omega
  by_cases hna : ¬ Nm a
  · clear hsz
    go_enter Try.func8, Try.ntmps8
    go_wp2_with fail
    refine (begun_any w).mono ?_
    rintro e w1 ⟨rfl, hB1⟩
    go_wp2_with fail
    refine (mayS HS.out w1 (by omega)).mono ?_
    rintro e w2 ⟨rfl, hB2⟩
    rw [decide_eq_false hna]
    go_wp2_with fail
    go_ret
    exact ⟨rfl, hB1.trans (hB2.mono hB1.size)⟩
  replace hna : Nm a := Decidable.not_not.1 hna
  obtain ⟨X, hX⟩ : ∃ X : ByteArray, X = ⟨[x].toArray⟩ := ⟨_, rfl⟩
  obtain ⟨Y, hY⟩ : ∃ Y : ByteArray, Y = ⟨(a ++ [x]).toArray⟩ := ⟨_, rfl⟩
  obtain ⟨Z, hZ⟩ : ∃ Z : ByteArray, Z = ⟨([x] ++ a).toArray⟩ := ⟨_, rfl⟩
  have add1 := str_add HS.out hX (by omega) (by simp)
  have add2 := str_add hX HS.out (by simp) (by omega)
  rw [← hY] at add1
  rw [← hZ] at add2
  have HY := Lib.hid hY
  have HZ := Lib.hid hZ
  clear hY hZ
  obtain ⟨s14, h14⟩ : ∃ s : Bool, s = decide (a.length < 14) := ⟨_, rfl⟩
  have i14 : decide ((S.size : Int) < 14) = s14 := by rw [h14]; exact decide_eq_decide.2 (by omega)
  have q1 := nm_snoc hna x
  have q2 := nm_one x
  have q3 := nm_cons hna x
  rw [← h14] at q1 q3
  clear h14 hsz
  by_cases hA : 97 ≤ x.toNat ∧ x.toNat ≤ 122
  · have f1 : (97 : Int) ≤ (x.toNat : Int) := by omega
    have f2 : (x.toNat : Int) ≤ 122 := by omega
    have HL := Lib.hid (show low x.toNat = true by simp [low, hA])
    have HO := Lib.hid (show oth x.toNat = oth x.toNat from rfl)
    have HZX := Lib.hid hX
    have Q1 := Lib.hid (show decide (Nm (a ++ [x])) = s14 by rw [q1, HL.out, HO.out]; rfl)
    have Q2 := Lib.hid (show decide (Nm [x]) = true by rw [q2, HL.out])
    have Q3 := Lib.hid (show decide (Nm ([x] ++ a)) = s14 by rw [q3, HL.out]; rfl)
    clear hX q1 q2 q3
    go_enter Try.func8, Try.ntmps8
    go_wp2_with fail
    refine (begun_any w).mono ?_
    rintro e w1 ⟨rfl, hB1⟩
    go_wp2_with fail
    refine (mayS HS.out w1 (by omega)).mono ?_
    rintro e w2 ⟨rfl, hB2⟩
    rw [decide_eq_true hna]
    have B2 := Lib.hid (hB1.trans (hB2.mono hB1.size))
    have B3 := Lib.hid (B2.out.alloc B2.out.size (.cells #[.int .u8 (x.toNat : Int)] 5))
    have c3 := conv_row (P := Try.prog) (w := w2.alloc (.cells #[.int .u8 (x.toNat : Int)] 5)) (v := .slice (some ⟨w2.heap.size, 0, none⟩) 1 1) (l := [x]) (by
      have := Row.of_own ((Blk.new w2 5 (bvs [x])).own (Nat.zero_le _) (by simp [bvs, maxLen]))
      exact this) 38 5 9 Try.underlying38 Try.underlying5 Try.underlying9
    rw [← HZX.out] at c3
    clear hB1 hB2
    go_wp2_with fail
    refine (mayS HY.out _ (by simp; omega)).mono ?_
    rintro e w4 ⟨rfl, hB4⟩
    rw [Q1.out]
    have B4 := Lib.hid (B3.out.trans (hB4.mono B3.out.size))
    clear hB4 c3
    go_wp2_with fail
    refine (mayS HZX.out w4 (by simp)).mono ?_
    rintro e w5 ⟨rfl, hB5⟩
    rw [Q2.out]
    have B5 := Lib.hid (B4.out.trans (hB5.mono B4.out.size))
    clear hB5
    go_wp2_with fail
    refine (mayS HZ.out w5 (by simp; omega)).mono ?_
    rintro e w6 ⟨rfl, hB6⟩
    rw [Q3.out]
    have B6 := Lib.hid (B5.out.trans (hB6.mono B5.out.size))
    clear hB6
    go_wp2_with fail
    go_ret
    exact ⟨by simp, B6.out⟩
  have HL := Lib.hid (show low x.toNat = false by unfold low; simp; omega)
  by_cases hD : 48 ≤ x.toNat ∧ x.toNat ≤ 57
  · have f1 : ¬ ((97 : Int) ≤ (x.toNat : Int)) := by omega
    have f3 : (48 : Int) ≤ (x.toNat : Int) := by omega
    have f4 : (x.toNat : Int) ≤ 57 := by omega
    have HO := Lib.hid (show oth x.toNat = true by simp [oth, hD])
    have HZX := Lib.hid hX
    have Q1 := Lib.hid (show decide (Nm (a ++ [x])) = s14 by rw [q1, HL.out, HO.out]; rfl)
    have Q2 := Lib.hid (show decide (Nm [x]) = false by rw [q2, HL.out])
    have Q3 := Lib.hid (show decide (Nm ([x] ++ a)) = false by rw [q3, HL.out]; rfl)
    clear hX q1 q2 q3
    go_enter Try.func8, Try.ntmps8
    go_wp2_with fail
    refine (begun_any w).mono ?_
    rintro e w1 ⟨rfl, hB1⟩
    go_wp2_with fail
    refine (mayS HS.out w1 (by omega)).mono ?_
    rintro e w2 ⟨rfl, hB2⟩
    rw [decide_eq_true hna]
    have B2 := Lib.hid (hB1.trans (hB2.mono hB1.size))
    have B3 := Lib.hid (B2.out.alloc B2.out.size (.cells #[.int .u8 (x.toNat : Int)] 5))
    have c3 := conv_row (P := Try.prog) (w := w2.alloc (.cells #[.int .u8 (x.toNat : Int)] 5)) (v := .slice (some ⟨w2.heap.size, 0, none⟩) 1 1) (l := [x]) (by
      have := Row.of_own ((Blk.new w2 5 (bvs [x])).own (Nat.zero_le _) (by simp [bvs, maxLen]))
      exact this) 38 5 9 Try.underlying38 Try.underlying5 Try.underlying9
    rw [← HZX.out] at c3
    clear hB1 hB2
    go_wp2_with fail
    refine (mayS HY.out _ (by simp; omega)).mono ?_
    rintro e w4 ⟨rfl, hB4⟩
    rw [Q1.out]
    have B4 := Lib.hid (B3.out.trans (hB4.mono B3.out.size))
    clear hB4 c3
    go_wp2_with fail
    refine (mayS HZX.out w4 (by simp)).mono ?_
    rintro e w5 ⟨rfl, hB5⟩
    rw [Q2.out]
    have B5 := Lib.hid (B4.out.trans (hB5.mono B4.out.size))
    clear hB5
    go_wp2_with fail
    refine (mayS HZ.out w5 (by simp; omega)).mono ?_
    rintro e w6 ⟨rfl, hB6⟩
    rw [Q3.out]
    have B6 := Lib.hid (B5.out.trans (hB6.mono B5.out.size))
    clear hB6
    go_wp2_with fail
    go_ret
    exact ⟨by simp, B6.out⟩
  by_cases hB1 : x.toNat = 45
  · have f1 : ¬ ((97 : Int) ≤ (x.toNat : Int)) := by omega
    have f3 : ¬ ((48 : Int) ≤ (x.toNat : Int)) := by omega
    have f5 : ((x.toNat : Int) == 45) = true := by rw [beq_iff_eq]; omega
    have HO := Lib.hid (show oth x.toNat = true by simp [oth, hB1])
    clear hB1
    have HZX := Lib.hid hX
    have Q1 := Lib.hid (show decide (Nm (a ++ [x])) = s14 by rw [q1, HL.out, HO.out]; rfl)
    have Q2 := Lib.hid (show decide (Nm [x]) = false by rw [q2, HL.out])
    have Q3 := Lib.hid (show decide (Nm ([x] ++ a)) = false by rw [q3, HL.out]; rfl)
    clear hX q1 q2 q3
    go_enter Try.func8, Try.ntmps8
    go_wp2_with fail
    refine (begun_any w).mono ?_
    rintro e w1 ⟨rfl, hB1⟩
    go_wp2_with fail
    refine (mayS HS.out w1 (by omega)).mono ?_
    rintro e w2 ⟨rfl, hB2⟩
    rw [decide_eq_true hna]
    have B2 := Lib.hid (hB1.trans (hB2.mono hB1.size))
    have B3 := Lib.hid (B2.out.alloc B2.out.size (.cells #[.int .u8 (x.toNat : Int)] 5))
    have c3 := conv_row (P := Try.prog) (w := w2.alloc (.cells #[.int .u8 (x.toNat : Int)] 5)) (v := .slice (some ⟨w2.heap.size, 0, none⟩) 1 1) (l := [x]) (by
      have := Row.of_own ((Blk.new w2 5 (bvs [x])).own (Nat.zero_le _) (by simp [bvs, maxLen]))
      exact this) 38 5 9 Try.underlying38 Try.underlying5 Try.underlying9
    rw [← HZX.out] at c3
    clear hB1 hB2
    go_wp2_with fail
    refine (mayS HY.out _ (by simp; omega)).mono ?_
    rintro e w4 ⟨rfl, hB4⟩
    rw [Q1.out]
    have B4 := Lib.hid (B3.out.trans (hB4.mono B3.out.size))
    clear hB4 c3
    go_wp2_with fail
    refine (mayS HZX.out w4 (by simp)).mono ?_
    rintro e w5 ⟨rfl, hB5⟩
    rw [Q2.out]
    have B5 := Lib.hid (B4.out.trans (hB5.mono B4.out.size))
    clear hB5
    go_wp2_with fail
    refine (mayS HZ.out w5 (by simp; omega)).mono ?_
    rintro e w6 ⟨rfl, hB6⟩
    rw [Q3.out]
    have B6 := Lib.hid (B5.out.trans (hB6.mono B5.out.size))
    clear hB6
    go_wp2_with fail
    go_ret
    exact ⟨by simp, B6.out⟩
  have f5 : ((x.toNat : Int) == 45) = false := by rw [beq_eq_false_iff_ne]; omega
  by_cases hB2 : x.toNat = 46
  · have f1 : ¬ ((97 : Int) ≤ (x.toNat : Int)) := by omega
    have f3 : ¬ ((48 : Int) ≤ (x.toNat : Int)) := by omega
    have f6 : ((x.toNat : Int) == 46) = true := by rw [beq_iff_eq]; omega
    have HO := Lib.hid (show oth x.toNat = true by simp [oth, hB2])
    clear hB2
    have HZX := Lib.hid hX
    have Q1 := Lib.hid (show decide (Nm (a ++ [x])) = s14 by rw [q1, HL.out, HO.out]; rfl)
    have Q2 := Lib.hid (show decide (Nm [x]) = false by rw [q2, HL.out])
    have Q3 := Lib.hid (show decide (Nm ([x] ++ a)) = false by rw [q3, HL.out]; rfl)
    clear hX q1 q2 q3
    go_enter Try.func8, Try.ntmps8
    go_wp2_with fail
    refine (begun_any w).mono ?_
    rintro e w1 ⟨rfl, hB1⟩
    go_wp2_with fail
    refine (mayS HS.out w1 (by omega)).mono ?_
    rintro e w2 ⟨rfl, hB2⟩
    rw [decide_eq_true hna]
    have B2 := Lib.hid (hB1.trans (hB2.mono hB1.size))
    have B3 := Lib.hid (B2.out.alloc B2.out.size (.cells #[.int .u8 (x.toNat : Int)] 5))
    have c3 := conv_row (P := Try.prog) (w := w2.alloc (.cells #[.int .u8 (x.toNat : Int)] 5)) (v := .slice (some ⟨w2.heap.size, 0, none⟩) 1 1) (l := [x]) (by
      have := Row.of_own ((Blk.new w2 5 (bvs [x])).own (Nat.zero_le _) (by simp [bvs, maxLen]))
      exact this) 38 5 9 Try.underlying38 Try.underlying5 Try.underlying9
    rw [← HZX.out] at c3
    clear hB1 hB2
    go_wp2_with fail
    refine (mayS HY.out _ (by simp; omega)).mono ?_
    rintro e w4 ⟨rfl, hB4⟩
    rw [Q1.out]
    have B4 := Lib.hid (B3.out.trans (hB4.mono B3.out.size))
    clear hB4 c3
    go_wp2_with fail
    refine (mayS HZX.out w4 (by simp)).mono ?_
    rintro e w5 ⟨rfl, hB5⟩
    rw [Q2.out]
    have B5 := Lib.hid (B4.out.trans (hB5.mono B4.out.size))
    clear hB5
    go_wp2_with fail
    refine (mayS HZ.out w5 (by simp; omega)).mono ?_
    rintro e w6 ⟨rfl, hB6⟩
    rw [Q3.out]
    have B6 := Lib.hid (B5.out.trans (hB6.mono B5.out.size))
    clear hB6
    go_wp2_with fail
    go_ret
    exact ⟨by simp, B6.out⟩
  have f6 : ((x.toNat : Int) == 46) = false := by rw [beq_eq_false_iff_ne]; omega
  have HO := Lib.hid (show oth x.toNat = false by
    unfold oth
    have a1 : (x.toNat == 45) = false := by simpa using hB1
    have a2 : (x.toNat == 46) = false := by simpa using hB2
    rw [a1, a2]
    simp
    omega)
  clear hB1 hB2
  by_cases hE : x.toNat < 48
  · have f1 : ¬ ((97 : Int) ≤ (x.toNat : Int)) := by omega
    have f3 : ¬ ((48 : Int) ≤ (x.toNat : Int)) := by omega
    have HZX := Lib.hid hX
    have Q1 := Lib.hid (show decide (Nm (a ++ [x])) = false by rw [q1, HL.out, HO.out]; rfl)
    have Q2 := Lib.hid (show decide (Nm [x]) = false by rw [q2, HL.out])
    have Q3 := Lib.hid (show decide (Nm ([x] ++ a)) = false by rw [q3, HL.out]; rfl)
    clear hX q1 q2 q3
    go_enter Try.func8, Try.ntmps8
    go_wp2_with fail
    refine (begun_any w).mono ?_
    rintro e w1 ⟨rfl, hB1⟩
    go_wp2_with fail
    refine (mayS HS.out w1 (by omega)).mono ?_
    rintro e w2 ⟨rfl, hB2⟩
    rw [decide_eq_true hna]
    have B2 := Lib.hid (hB1.trans (hB2.mono hB1.size))
    have B3 := Lib.hid (B2.out.alloc B2.out.size (.cells #[.int .u8 (x.toNat : Int)] 5))
    have c3 := conv_row (P := Try.prog) (w := w2.alloc (.cells #[.int .u8 (x.toNat : Int)] 5)) (v := .slice (some ⟨w2.heap.size, 0, none⟩) 1 1) (l := [x]) (by
      have := Row.of_own ((Blk.new w2 5 (bvs [x])).own (Nat.zero_le _) (by simp [bvs, maxLen]))
      exact this) 38 5 9 Try.underlying38 Try.underlying5 Try.underlying9
    rw [← HZX.out] at c3
    clear hB1 hB2
    go_wp2_with fail
    refine (mayS HY.out _ (by simp; omega)).mono ?_
    rintro e w4 ⟨rfl, hB4⟩
    rw [Q1.out]
    have B4 := Lib.hid (B3.out.trans (hB4.mono B3.out.size))
    clear hB4 c3
    go_wp2_with fail
    refine (mayS HZX.out w4 (by simp)).mono ?_
    rintro e w5 ⟨rfl, hB5⟩
    rw [Q2.out]
    have B5 := Lib.hid (B4.out.trans (hB5.mono B4.out.size))
    clear hB5
    go_wp2_with fail
    refine (mayS HZ.out w5 (by simp; omega)).mono ?_
    rintro e w6 ⟨rfl, hB6⟩
    rw [Q3.out]
    have B6 := Lib.hid (B5.out.trans (hB6.mono B5.out.size))
    clear hB6
    go_wp2_with fail
    go_ret
    exact ⟨by simp, B6.out⟩
  have f3 : (48 : Int) ≤ (x.toNat : Int) := by omega
  have f4 : ¬ ((x.toNat : Int) ≤ 57) := by omega
  by_cases hF : x.toNat < 97
  · have f1 : ¬ ((97 : Int) ≤ (x.toNat : Int)) := by omega
    have HZX := Lib.hid hX
    have Q1 := Lib.hid (show decide (Nm (a ++ [x])) = false by rw [q1, HL.out, HO.out]; rfl)
    have Q2 := Lib.hid (show decide (Nm [x]) = false by rw [q2, HL.out])
    have Q3 := Lib.hid (show decide (Nm ([x] ++ a)) = false by rw [q3, HL.out]; rfl)
    clear hX q1 q2 q3
    go_enter Try.func8, Try.ntmps8
    go_wp2_with fail
    refine (begun_any w).mono ?_
    rintro e w1 ⟨rfl, hB1⟩
    go_wp2_with fail
    refine (mayS HS.out w1 (by omega)).mono ?_
    rintro e w2 ⟨rfl, hB2⟩
    rw [decide_eq_true hna]
    have B2 := Lib.hid (hB1.trans (hB2.mono hB1.size))
    have B3 := Lib.hid (B2.out.alloc B2.out.size (.cells #[.int .u8 (x.toNat : Int)] 5))
    have c3 := conv_row (P := Try.prog) (w := w2.alloc (.cells #[.int .u8 (x.toNat : Int)] 5)) (v := .slice (some ⟨w2.heap.size, 0, none⟩) 1 1) (l := [x]) (by
      have := Row.of_own ((Blk.new w2 5 (bvs [x])).own (Nat.zero_le _) (by simp [bvs, maxLen]))
      exact this) 38 5 9 Try.underlying38 Try.underlying5 Try.underlying9
    rw [← HZX.out] at c3
    clear hB1 hB2
    go_wp2_with fail
    refine (mayS HY.out _ (by simp; omega)).mono ?_
    rintro e w4 ⟨rfl, hB4⟩
    rw [Q1.out]
    have B4 := Lib.hid (B3.out.trans (hB4.mono B3.out.size))
    clear hB4 c3
    go_wp2_with fail
    refine (mayS HZX.out w4 (by simp)).mono ?_
    rintro e w5 ⟨rfl, hB5⟩
    rw [Q2.out]
    have B5 := Lib.hid (B4.out.trans (hB5.mono B4.out.size))
    clear hB5
    go_wp2_with fail
    refine (mayS HZ.out w5 (by simp; omega)).mono ?_
    rintro e w6 ⟨rfl, hB6⟩
    rw [Q3.out]
    have B6 := Lib.hid (B5.out.trans (hB6.mono B5.out.size))
    clear hB6
    go_wp2_with fail
    go_ret
    exact ⟨by simp, B6.out⟩
  · have f1 : (97 : Int) ≤ (x.toNat : Int) := by omega
    have f2 : ¬ ((x.toNat : Int) ≤ 122) := by omega
    have HZX := Lib.hid hX
    have Q1 := Lib.hid (show decide (Nm (a ++ [x])) = false by rw [q1, HL.out, HO.out]; rfl)
    have Q2 := Lib.hid (show decide (Nm [x]) = false by rw [q2, HL.out])
    have Q3 := Lib.hid (show decide (Nm ([x] ++ a)) = false by rw [q3, HL.out]; rfl)
    clear hX q1 q2 q3
    go_enter Try.func8, Try.ntmps8
    go_wp2_with fail
    refine (begun_any w).mono ?_
    rintro e w1 ⟨rfl, hB1⟩
    go_wp2_with fail
    refine (mayS HS.out w1 (by omega)).mono ?_
    rintro e w2 ⟨rfl, hB2⟩
    rw [decide_eq_true hna]
    have B2 := Lib.hid (hB1.trans (hB2.mono hB1.size))
    have B3 := Lib.hid (B2.out.alloc B2.out.size (.cells #[.int .u8 (x.toNat : Int)] 5))
    have c3 := conv_row (P := Try.prog) (w := w2.alloc (.cells #[.int .u8 (x.toNat : Int)] 5)) (v := .slice (some ⟨w2.heap.size, 0, none⟩) 1 1) (l := [x]) (by
      have := Row.of_own ((Blk.new w2 5 (bvs [x])).own (Nat.zero_le _) (by simp [bvs, maxLen]))
      exact this) 38 5 9 Try.underlying38 Try.underlying5 Try.underlying9
    rw [← HZX.out] at c3
    clear hB1 hB2
    go_wp2_with fail
    refine (mayS HY.out _ (by simp; omega)).mono ?_
    rintro e w4 ⟨rfl, hB4⟩
    rw [Q1.out]
    have B4 := Lib.hid (B3.out.trans (hB4.mono B3.out.size))
    clear hB4 c3
    go_wp2_with fail
    refine (mayS HZX.out w4 (by simp)).mono ?_
    rintro e w5 ⟨rfl, hB5⟩
    rw [Q2.out]
    have B5 := Lib.hid (B4.out.trans (hB5.mono B4.out.size))
    clear hB5
    go_wp2_with fail
    refine (mayS HZ.out w5 (by simp; omega)).mono ?_
    rintro e w6 ⟨rfl, hB6⟩
    rw [Q3.out]
    have B6 := Lib.hid (B5.out.trans (hB6.mono B5.out.size))
    clear hB6
    go_wp2_with fail
    go_ret
    exact ⟨by simp, B6.out⟩
end Go.Proofs.Ytfhhojhflpokaaa
