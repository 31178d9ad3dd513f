/-
  The walk of the statement NamesLine: the Go text returns true and turns nothing that was there. No conditions.
-/
import Derived.Test.YtfhhojhflpokaaaNmG
namespace Go.Proofs.Ytfhhojhflpokaaa
open Go.RowKit
set_option linter.unusedSimpArgs false
set_option linter.unusedVariables false

theorem bl_irrefl : ∀ a : List UInt8, Op.bytesLess a a = false
  | [] => rfl
  | c :: r => by simp [Op.bytesLess, bl_irrefl r]
theorem bl_asymm : ∀ {a b : List UInt8}, Op.bytesLess a b = true → Op.bytesLess b a = false
  | [], [], _ => rfl
  | [], _ :: _, _ => rfl
  | _ :: _, [], h => by simp [Op.bytesLess] at h
  | c :: r, d :: s, h => by
    simp only [Op.bytesLess, Bool.or_eq_true, decide_eq_true_eq, Bool.and_eq_true, beq_iff_eq] at h
    simp only [Op.bytesLess, Bool.or_eq_false_iff, decide_eq_false_iff_not, Bool.and_eq_false_iff, beq_eq_false_iff_ne]
    rcases h with h | ⟨rfl, h⟩
    · have h' : c.toNat < d.toNat := UInt8.lt_iff_toNat_lt.1 h
      exact ⟨fun h2 => by have := UInt8.lt_iff_toNat_lt.1 h2; omega, .inl fun e => by rw [e] at h'; omega⟩
    · exact ⟨fun h2 => by have := UInt8.lt_iff_toNat_lt.1 h2; omega, .inr (bl_asymm h)⟩
theorem bl_total : ∀ {a b : List UInt8}, Op.bytesLess a b = false → Op.bytesLess b a = false → a = b
  | [], [], _, _ => rfl
  | [], _ :: _, h, _ => by simp [Op.bytesLess] at h
  | _ :: _, [], _, h => by simp [Op.bytesLess] at h
  | c :: r, d :: s, h, k => by
    simp only [Op.bytesLess, Bool.or_eq_false_iff, decide_eq_false_iff_not, Bool.and_eq_false_iff, beq_eq_false_iff_ne] at h k
    have hcd : c = d := by
      have h1 : ¬ c.toNat < d.toNat := fun e => h.1 (UInt8.lt_iff_toNat_lt.2 e)
      have h2 : ¬ d.toNat < c.toNat := fun e => k.1 (UInt8.lt_iff_toNat_lt.2 e)
      exact UInt8.toNat_inj.1 (by omega)
    subst hcd
    rw [bl_total (h.2.resolve_left (fun e => e rfl)) (k.2.resolve_left (fun e => e rfl))]
theorem bl_trans : ∀ {a b c : List UInt8}, Op.bytesLess a b = true → Op.bytesLess b c = true → Op.bytesLess a c = true
  | _, _, [], _, h => by simp [Op.bytesLess] at h
  | [], _, _ :: _, _, _ => rfl
  | _ :: _, [], _ :: _, h, _ => by simp [Op.bytesLess] at h
  | x :: a, y :: b, z :: c, h, k => by
    simp only [Op.bytesLess, Bool.or_eq_true, decide_eq_true_eq, Bool.and_eq_true, beq_iff_eq] at h k ⊢
    rcases h with h | ⟨rfl, h⟩
    · rcases k with k | ⟨rfl, k⟩
      · exact .inl (UInt8.lt_trans h k)
      · exact .inl h
    · rcases k with k | ⟨rfl, k⟩
      · exact .inl k
      · exact .inr ⟨rfl, bl_trans h k⟩
theorem bl_ext (a x : List UInt8) : Op.bytesLess (a ++ x) a = false := by
  have := bl_app a x []
  rw [List.append_nil] at this
  rw [this]
  cases x <;> rfl
theorem str_eq {S T : ByteArray} {a b : List UInt8} (hS : S = ⟨a.toArray⟩) (hT : T = ⟨b.toArray⟩) : (S.toList == T.toList) = decide (a = b) := by
  subst hS
  subst hT
  rw [ByteArray.toList_mk, ByteArray.toList_mk, Bool.eq_iff_iff, beq_iff_eq, decide_eq_true_iff]

set_option maxHeartbeats 4000000 in
set_option maxRecDepth 1000000 in
theorem namesLine_walk (S T U : ByteArray) (a b c : List UInt8) (hS : S = ⟨a.toArray⟩) (hT : T = ⟨b.toArray⟩) (hU : U = ⟨c.toArray⟩) (w : World) :
    Calls Try.prog 6 #[.string S, .string T, .string U] w fun e w' => e = .returned (.bool true) ∧ Below w.heap.size w w' := by
  have hsz : S.size = a.length := by rw [hS, str_size]
  have htz : T.size = b.length := by rw [hT, str_size]
  have huz : U.size = c.length := by rw [hU, str_size]
  have HS := Lib.hid hS
  have HT := Lib.hid hT
  have HU := Lib.hid hU
  clear hS hT hU
  by_cases h40 : 40 < a.length
  · have i1 : 40 < (S.size : Int) := by omega
    clear hsz htz huz
    go_enter Try.func6, Try.ntmps6
    go_wp2_with fail
    refine (begun_any w).mono ?_
    rintro e w1 ⟨rfl, hB1⟩
    go_wp2_with fail
    go_ret
    exact ⟨rfl, hB1⟩
  have i1 : ¬ (40 < (S.size : Int)) := by omega
  by_cases h41 : 40 < b.length
  · have i2 : 40 < (T.size : Int) := by omega
    clear hsz htz huz
    go_enter Try.func6, Try.ntmps6
    go_wp2_with fail
    refine (begun_any w).mono ?_
    rintro e w1 ⟨rfl, hB1⟩
    go_wp2_with fail
    go_ret
    exact ⟨rfl, hB1⟩
  have i2 : ¬ (40 < (T.size : Int)) := by omega
  by_cases h42 : 40 < c.length
  · have i3 : 40 < (U.size : Int) := by omega
    clear hsz htz huz
    go_enter Try.func6, Try.ntmps6
    go_wp2_with fail
    refine (begun_any w).mono ?_
    rintro e w1 ⟨rfl, hB1⟩
    go_wp2_with fail
    go_ret
    exact ⟨rfl, hB1⟩
  have i3 : ¬ (40 < (U.size : Int)) := by omega
  obtain ⟨X, hX⟩ : ∃ X : ByteArray, X = ⟨(a ++ [120]).toArray⟩ := ⟨_, rfl⟩
  have add1 := str_add HS.out (show (⟨#[120]⟩ : ByteArray) = ⟨[120].toArray⟩ from rfl) (by omega) (by simp)
  rw [← hX] at add1
  have HX := Lib.hid hX
  clear hX hsz htz huz
  have est := str_eq HS.out HT.out
  cases hp : Op.bytesLess a b with
  | true =>
    have hq := bl_asymm hp
    have hab : decide (a = b) = false := decide_eq_false fun h => by rw [h, bl_irrefl] at hp; cases hp
    rw [hab] at est
    cases hr : Op.bytesLess b c with
    | true =>
      have ho := bl_trans hp hr
      have HP := Lib.hid hp
      have HQ := Lib.hid hq
      have HR := Lib.hid hr
      have HO := Lib.hid ho
      clear hp hq hr ho hab
      go_enter Try.func6, Try.ntmps6
      go_wp2_with fail
      refine (begun_any w).mono ?_
      rintro e w1 ⟨rfl, hB1⟩
      repeat
        go_wp2_with fail
        first
          | (refine (lessS HS.out HT.out _).mono ?_; rintro e w' ⟨rfl, rfl⟩; rw [HP.out])
          | (refine (lessS HT.out HS.out _).mono ?_; rintro e w' ⟨rfl, rfl⟩; rw [HQ.out])
          | (refine (lessS HT.out HU.out _).mono ?_; rintro e w' ⟨rfl, rfl⟩; rw [HR.out])
          | (refine (lessS HS.out HU.out _).mono ?_; rintro e w' ⟨rfl, rfl⟩; rw [HO.out])
          | (refine (lessS HX.out HS.out _).mono ?_; rintro e w' ⟨rfl, rfl⟩; rw [bl_ext])
      go_wp2_with fail
      go_ret
      exact ⟨rfl, hB1⟩
    | false =>
      obtain ⟨o, ho⟩ : ∃ o, Op.bytesLess a c = o := ⟨_, rfl⟩
      have HP := Lib.hid hp
      have HQ := Lib.hid hq
      have HR := Lib.hid hr
      have HO := Lib.hid ho
      clear hp hq hr ho hab
      go_enter Try.func6, Try.ntmps6
      go_wp2_with fail
      refine (begun_any w).mono ?_
      rintro e w1 ⟨rfl, hB1⟩
      repeat
        go_wp2_with fail
        first
          | (refine (lessS HS.out HT.out _).mono ?_; rintro e w' ⟨rfl, rfl⟩; rw [HP.out])
          | (refine (lessS HT.out HS.out _).mono ?_; rintro e w' ⟨rfl, rfl⟩; rw [HQ.out])
          | (refine (lessS HT.out HU.out _).mono ?_; rintro e w' ⟨rfl, rfl⟩; rw [HR.out])
          | (refine (lessS HS.out HU.out _).mono ?_; rintro e w' ⟨rfl, rfl⟩; rw [HO.out])
          | (refine (lessS HX.out HS.out _).mono ?_; rintro e w' ⟨rfl, rfl⟩; rw [bl_ext])
      go_wp2_with fail
      go_ret
      exact ⟨rfl, hB1⟩
  | false =>
    obtain ⟨r, hr⟩ : ∃ r, Op.bytesLess b c = r := ⟨_, rfl⟩
    obtain ⟨o, ho⟩ : ∃ o, Op.bytesLess a c = o := ⟨_, rfl⟩
    cases hq : Op.bytesLess b a with
    | true =>
      have hab : decide (a = b) = false := decide_eq_false fun h => by rw [h, bl_irrefl] at hq; cases hq
      rw [hab] at est
      have HP := Lib.hid hp
      have HQ := Lib.hid hq
      have HR := Lib.hid hr
      have HO := Lib.hid ho
      clear hp hq hr ho hab
      go_enter Try.func6, Try.ntmps6
      go_wp2_with fail
      refine (begun_any w).mono ?_
      rintro e w1 ⟨rfl, hB1⟩
      repeat
        go_wp2_with fail
        first
          | (refine (lessS HS.out HT.out _).mono ?_; rintro e w' ⟨rfl, rfl⟩; rw [HP.out])
          | (refine (lessS HT.out HS.out _).mono ?_; rintro e w' ⟨rfl, rfl⟩; rw [HQ.out])
          | (refine (lessS HT.out HU.out _).mono ?_; rintro e w' ⟨rfl, rfl⟩; rw [HR.out])
          | (refine (lessS HS.out HU.out _).mono ?_; rintro e w' ⟨rfl, rfl⟩; rw [HO.out])
          | (refine (lessS HX.out HS.out _).mono ?_; rintro e w' ⟨rfl, rfl⟩; rw [bl_ext])
      go_wp2_with fail
      go_ret
      exact ⟨rfl, hB1⟩
    | false =>
      have hab : decide (a = b) = true := decide_eq_true (bl_total hp hq)
      rw [hab] at est
      have HP := Lib.hid hp
      have HQ := Lib.hid hq
      have HR := Lib.hid hr
      have HO := Lib.hid ho
      clear hp hq hr ho hab
      go_enter Try.func6, Try.ntmps6
      go_wp2_with fail
      refine (begun_any w).mono ?_
      rintro e w1 ⟨rfl, hB1⟩
      repeat
        go_wp2_with fail
        first
          | (refine (lessS HS.out HT.out _).mono ?_; rintro e w' ⟨rfl, rfl⟩; rw [HP.out])
          | (refine (lessS HT.out HS.out _).mono ?_; rintro e w' ⟨rfl, rfl⟩; rw [HQ.out])
          | (refine (lessS HT.out HU.out _).mono ?_; rintro e w' ⟨rfl, rfl⟩; rw [HR.out])
          | (refine (lessS HS.out HU.out _).mono ?_; rintro e w' ⟨rfl, rfl⟩; rw [HO.out])
          | (refine (lessS HX.out HS.out _).mono ?_; rintro e w' ⟨rfl, rfl⟩; rw [bl_ext])
      go_wp2_with fail
      go_ret
      exact ⟨rfl, hB1⟩
end Go.Proofs.Ytfhhojhflpokaaa
