/-
  Facts of sets: their line, their sums, how many bytes they have. No statement is proved here.
-/
import Derived.Test.YtaobeconjdeenaaDoorSetK
namespace Go.Proofs.YtaobeconjdeenaaDoor
open Go.RowKit
set_option linter.unusedSimpArgs false
set_option linter.unusedVariables false

theorem lessS_iff (p q : Nat → Bool) : lessS p q = true ↔ ∃ j, j < 256 ∧ (∀ b, b < j → p b = q b) ∧ p j = true ∧ q j = false := by
  constructor
  · intro h
    unfold lessS at h
    cases hf : (List.range 256).find? fun b => p b != q b with
    | none => rw [hf] at h; cases h
    | some j =>
      rw [hf] at h
      obtain ⟨h1, h2, h3⟩ := List.find?_range_eq_some.1 hf
      have hp : p j = true := h
      refine ⟨j, List.mem_range.1 h2, fun b hb => by simpa using h3 b hb, hp, ?_⟩
      rw [hp] at h1
      simpa using h1
  · rintro ⟨j, hj, h1, h2, h3⟩
    rw [lessS_at hj h1 (by rw [h2, h3]; decide)]
    exact h2
theorem lessS_trans {p q r : Nat → Bool} (h : lessS p q = true) (k : lessS q r = true) : lessS p r = true := by
  obtain ⟨i, hi, a1, a2, a3⟩ := (lessS_iff p q).1 h
  obtain ⟨j, hj, b1, b2, b3⟩ := (lessS_iff q r).1 k
  rcases Nat.lt_trichotomy i j with hl | rfl | hl
  · exact (lessS_iff p r).2 ⟨i, hi, fun b hb => (a1 b hb).trans (b1 b (by omega)), a2, by rw [← b1 i hl]; exact a3⟩
  · rw [a3] at b2; cases b2
  · exact (lessS_iff p r).2 ⟨j, hj, fun b hb => (a1 b (by omega)).trans (b1 b hb), by rw [a1 j hl]; exact b2, b3⟩
theorem lessS_ne {p q : Nat → Bool} (h : lessS p q = true) : eqS p q = false := by
  obtain ⟨i, hi, a1, a2, a3⟩ := (lessS_iff p q).1 h
  rw [Bool.eq_false_iff]
  intro he
  have := (eqS_iff p q).1 he i hi
  rw [a2, a3] at this
  cases this
theorem lessS_not {p q : Nat → Bool} (h : lessS p q = false) : eqS p q = !lessS q p := by
  cases hk : lessS q p with
  | true =>
    obtain ⟨i, hi, a1, a2, a3⟩ := (lessS_iff q p).1 hk
    rw [Bool.not_true, Bool.eq_false_iff]
    intro he
    have := (eqS_iff p q).1 he i hi
    rw [a2, a3] at this
    cases this
  | false =>
    rw [Bool.not_false]
    refine (eqS_iff p q).2 ?_
    have : ∀ j, j ≤ 256 → ∀ b, b < j → p b = q b := by
      intro j
      induction j with
      | zero => intro _ b hb; omega
      | succ j ih =>
        intro hj b hb
        rcases Nat.lt_or_ge b j with h' | h'
        · exact ih (by omega) b h'
        · obtain rfl : b = j := by omega
          by_cases hne : p b = q b
          · exact hne
          · have e1 := lessS_at (p := p) (q := q) (by omega) (ih (by omega)) hne
            have e2 := lessS_at (p := q) (q := p) (by omega) (fun c hc => (ih (by omega) c hc).symm) (fun e => hne e.symm)
            rw [← e1, ← e2, h, hk]
    exact this 256 (Nat.le_refl _)
theorem memJ_sum (p q : Nat → Bool) : ∀ n, (memJ (fun b => p b || q b) n).length + (memJ (fun b => p b && q b) n).length = (memJ p n).length + (memJ q n).length
  | 0 => rfl
  | n + 1 => by
    have ih := memJ_sum p q n
    rw [memJ_succ, memJ_succ, memJ_succ, memJ_succ]
    cases hp : p n <;> cases hq : q n <;> simp only [hp, hq, Bool.or_true, Bool.true_or, Bool.or_false, Bool.and_true, Bool.and_false, Bool.false_and, if_true, List.length_append, List.length_cons, List.length_nil, Bool.false_eq_true, if_false] <;> omega
end Go.Proofs.YtaobeconjdeenaaDoor
