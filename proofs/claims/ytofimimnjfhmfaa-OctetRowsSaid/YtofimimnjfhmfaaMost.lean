/-
  The walk of the statement OctetMost: the Go text returns true and turns nothing that was there. Conditions: the slice reads as bytes; the uint16 fits its kind.
-/
import Derived.Test.YtofimimnjfhmfaaLawK
namespace Go.Proofs.Ytofimimnjfhmfaa
open Go.RowKit
set_option linter.unusedSimpArgs false
set_option linter.unusedVariables false

theorem num_text (s r : List UInt8) (h : s.length ≤ 65535) : num ((le s.length 2 ++ r).take 2) = s.length := by
  rw [List.take_left' (le_length _ _), num_le]
  exact Nat.mod_eq_of_lt (by omega)
theorem drop_text (s r : List UInt8) : (le s.length 2 ++ (s ++ r)).drop 2 = s ++ r := List.drop_left' (le_length _ _)

set_option maxHeartbeats 400000 in
theorem most_walk (vs : Value) (s : List UInt8) (m : Nat) (w : World) (h : Row w vs (bvs s)) (hm : m < 65536) :
    Calls Try.prog 7 #[vs, .int .u16 m] w fun e w' => e = .returned (.bool true) ∧ Below w.heap.size w w' := by
  have HR := Lib.hid h
  obtain ⟨A, cap, rfl, h1, h2, h0, h3⟩ := h
  rw [bvs_length] at h1 HR ⊢
  clear h3 h0
  by_cases h300 : s.length ≤ 300
  · have n1 : ¬ (300 < (s.length : Int)) := by omega
    have hlen : ((le s.length 2 ++ s)).length = 2 + s.length := by simp [le_length]
    have hnum := num_text s s (by omega)
    have hdrop : ((le s.length 2 ++ s).drop 2).take s.length = s := by
      have := drop_text s []
      rw [List.append_nil] at this
      rw [this, List.take_of_length_le (by omega)]
    have Hl := Lib.hid hlen
    have Hn := Lib.hid hnum
    have Hd := Lib.hid hdrop
    clear hlen hnum hdrop
    go_enter Try.func7, Try.ntmps7
    go_wp2_with fail
    refine (begun_any w).mono ?_
    rintro e w1 ⟨rfl, hB1⟩
    go_wp2_with fail
    refine (text_any _ _ [] s w1 (Row.nil _) (HR.out.below hB1) (by simp) (by omega)).mono ?_
    rintro e w2 ⟨v2, rfl, ho2, hB2⟩
    have O2 := Lib.hid (Row.of_own ho2)
    replace hB2 := hB1.trans (hB2.mono hB1.size)
    rw [List.nil_append] at O2
    clear ho2 hB1
    have w16 : IntKind.i64.wrap (m : Int) = (m : Int) := IntWalk.i64_in _ (by omega)
    by_cases hsm : m < s.length
    · have n2 : (m : Int) < (s.length : Int) := by omega
      go_wp2_with fail
      refine (takeText_long _ (le s.length 2 ++ s) m _ O2.out (by rw [Hl.out]; omega) (by rw [Hl.out]; omega) (by rw [Hn.out]; omega)).mono ?_
      rintro e w3 ⟨rfl, rfl⟩
      go_wp2
      go_ret
      exact ⟨rfl, hB2⟩
    · have n2 : ¬ ((m : Int) < (s.length : Int)) := by omega
      go_wp2_with fail
      refine (takeText_ok _ (le s.length 2 ++ s) m _ O2.out (by rw [Hl.out]; omega) (by rw [Hl.out]; omega) (by rw [Hn.out]; omega) (by rw [Hl.out, Hn.out]; omega)).mono ?_
      rintro e w3 ⟨v3, rfl, ho3, hb3⟩
      rw [Hn.out, Hd.out] at ho3
      rw [Hn.out]
      have hB3 := hB2.trans (hb3.mono hB2.size)
      have c3 := conv_row (P := Try.prog) (Row.of_own ho3) 22 5 9 Try.underlying22 Try.underlying5 Try.underlying9
      have c0 := conv_row (P := Try.prog) (HR.out.below hB3) 22 5 9 Try.underlying22 Try.underlying5 Try.underlying9
      have es : (((2 + s.length : Nat) : Int) == (s.length : Int) + 2) = true := by rw [beq_iff_eq]; omega
      clear ho3 hb3
      go_wp2
      go_ret
      exact ⟨rfl, hB3⟩
  · have n1 : 300 < (s.length : Int) := by omega
    go_enter Try.func7, Try.ntmps7
    go_wp2_with fail
    refine (begun_any w).mono ?_
    rintro e w1 ⟨rfl, hB1⟩
    go_wp2_with fail
    go_ret
    exact ⟨rfl, hB1⟩
end Go.Proofs.Ytofimimnjfhmfaa
