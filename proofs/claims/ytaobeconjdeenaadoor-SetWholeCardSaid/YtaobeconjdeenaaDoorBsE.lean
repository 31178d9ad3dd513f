/-
  What bits.TrailingZeros64 and package byteset (List) answer and leave, where the table of bits lies as its initialiser lays it. No statement is proved here.
-/
import Derived.Test.YtaobeconjdeenaaDoorBsD
import Derived.Shelf.Spec.TrailingZeros
namespace Go.Proofs.YtaobeconjdeenaaDoor
open Go.RowKit
set_option linter.unusedSimpArgs false
set_option linter.unusedVariables false

/-- The table of bits, as its initialiser lays it. -/
def Tb (w : World) : Prop := TabAt 0 Lib.deBruijn64tab w
theorem Tb.lt {w : World} (h : Tb w) : 0 < w.heap.size := by
  have h1 := h 0 (by decide)
  have := World.block_lt_of_cell? _ _ h1
  exact this
theorem Tb.below {w w' : World} {B : Nat} (h : Tb w) (hb : Below B w w') (hB : w.heap.size ≤ B) : Tb w' :=
  fun j hj => (hb.cell (p := ⟨0, j, none⟩) (Nat.lt_of_lt_of_le h.lt hB)).trans (h j hj)
theorem Tb.belowG {w w' : World} {B : Nat} (h : Tb w) (hb : Below B w w') (hB : 0 < B) : Tb w' :=
  fun j hj => (hb.cell (p := ⟨0, j, none⟩) hB).trans (h j hj)

theorem tz_core (x k idx : Nat) (w : World) (hx0 : ((x : Int) == 0) = false)
    (key : IntKind.u64.wrap (bits BinOp.and IntKind.u64 (x : Int) (IntKind.u64.wrap (-(x : Int))) * 285870213051353865) / 288230376151711744 = (idx : Int))
    (hi : idx < 64) (hk : k < 64) (hcell : w.cell? ⟨0, idx, none⟩ = some (.int .u8 k)) :
    Calls Tryd.prog 32 #[.int .u64 x] w fun e w' => e = .returned (.int .i64 k) ∧ w' = w := by
  go_enter Tryd.func32, Tryd.ntmps32
  go_wp2_with (simp only [key])
  go_ret
  exact ⟨rfl, rfl⟩
theorem tz_any (x : Nat) (hx : x < 18446744073709551616) (hx0 : x ≠ 0) (w : World) (hT : Tb w) :
    Calls Tryd.prog 32 #[.int .u64 (x : Int)] w fun e w' => e = .returned (.int .i64 (Lib.ctz 64 x : Int)) ∧ w' = w := by
  obtain ⟨hlow, hk⟩ := Lib.lowest_bit 64 x hx0 hx
  obtain ⟨hi, htab⟩ := Lib.deBruijn64_at _ hk
  have hcell := hT _ hi
  rw [htab] at hcell
  exact tz_core x _ _ w (by simp; omega) (tz64_key x _ hx hx0 hlow) hi hk hcell

/-- The lowest bit of a word, and what is left without it. -/
theorem low_word (q : Nat → Bool) (y k : Nat) (hy : y = wd q 64) (h0 : y ≠ 0) (hk : k = Lib.ctz 64 y) :
    k < 64 ∧ q k = true ∧ (∀ j, j < k → q j = false) ∧ y &&& (y - 1) = wd (fun j => q j && decide (k + 1 ≤ j)) 64 ∧ y &&& (y - 1) < y := by
  have hlt : y < 2 ^ 64 := by rw [hy]; exact wd_lt q 64
  obtain ⟨m, hm, hk2⟩ := Lib.ctzFrom_spec 64 y (by omega) hlt
  have ek : Lib.ctz 64 y = Lib.ctzFrom 64 y := by simp [Lib.ctz, h0]
  rw [← ek, ← hk] at hm hk2
  have T : ∀ j, y.testBit j = (decide (j < 64) && q j) := fun j => by rw [hy]; exact wd_bit q 64 j
  have T2 : ∀ j, y.testBit j = (decide (j ≥ k) && (2 * m + 1).testBit (j - k)) := fun j => by rw [hm]; exact Nat.testBit_two_pow_mul
  have hp : 0 < 2 ^ k := Nat.pow_pos (by omega)
  have e1 : y - 1 = 2 ^ k * (2 * m) + (2 ^ k - 1) := by rw [hm, Nat.mul_add, Nat.mul_one]; omega
  have T3 : ∀ j, (y - 1).testBit j = if j < k then (2 ^ k - 1).testBit j else (2 * m).testBit (j - k) := fun j => by rw [e1]; exact Nat.testBit_two_pow_mul_add _ (by omega) j
  refine ⟨hk2, ?_, ?_, ?_, Nat.lt_of_le_of_lt Nat.and_le_right (by omega)⟩
  · have h1 := T k
    rw [T2 k] at h1
    simpa [hk2, Nat.testBit_zero] using h1.symm
  · intro j hj
    have h1 := T j
    rw [T2 j] at h1
    have : ¬ (j ≥ k) := by omega
    simpa [this, show j < 64 by omega] using h1.symm
  · apply Nat.eq_of_testBit_eq
    intro j
    rw [Nat.testBit_and, wd_bit, T3, T]
    by_cases h1 : j < k
    · have h2 := T j
      rw [T2 j] at h2
      have h3 : ¬ (j ≥ k) := by omega
      have h4 : ¬ (k + 1 ≤ j) := by omega
      have h5 : (decide (j < 64) && q j) = false := by rw [← h2]; simp [h3]
      simp [h4, h5]
    · rw [if_neg h1]
      by_cases h2 : j = k
      · subst h2
        simp [Nat.testBit_zero]
      · obtain ⟨d, rfl⟩ : ∃ d, j = k + (d + 1) := ⟨j - k - 1, by omega⟩
        have h3 : k + (d + 1) - k = d + 1 := by omega
        have h4 := T (k + (d + 1))
        rw [T2 (k + (d + 1)), h3, Nat.testBit_succ, show (2 * m + 1) / 2 = m by omega] at h4
        rw [h3, Nat.testBit_succ, show 2 * m / 2 = m by omega]
        have h5 : k + 1 ≤ k + (d + 1) := by omega
        have h6 : k + (d + 1) ≥ k := by omega
        simp only [h6, decide_true, Bool.true_and] at h4
        simp only [h5, decide_true, Bool.and_true]
        rw [← h4]
        cases m.testBit d <;> simp
theorem wd_zero {q : Nat → Bool} {n : Nat} (h : wd q n = 0) (j : Nat) (hj : j < n) : q j = false := by
  have := wd_bit q n j
  rw [h, Nat.zero_testBit, decide_eq_true hj, Bool.true_and] at this
  exact this.symm
/-- What is left of word i from its bit c on. -/
def left (p : Nat → Bool) (i c : Nat) : Nat := wd (fun j => p (64 * i + j) && decide (c ≤ j)) 64
theorem left_zero (p : Nat → Bool) (i : Nat) : left p i 0 = word p i := by simp [left, word]
theorem left_lt (p : Nat → Bool) (i c : Nat) : left p i c < 18446744073709551616 := wd_lt _ 64
theorem memJ_skip (p : Nat → Bool) (a : Nat) : ∀ d, (∀ j, j < d → p (a + j) = false) → memJ p (a + d) = memJ p a
  | 0, _ => rfl
  | d + 1, h => by
    rw [show a + (d + 1) = (a + d) + 1 from rfl, memJ_succ, h d (by omega), memJ_skip p a d fun j hj => h j (by omega)]
    rfl
theorem left_none (p : Nat → Bool) (i c : Nat) (hc : c ≤ 64) (h : left p i c = 0) : memJ p (64 * i + c) = memJ p (64 * (i + 1)) := by
  have := memJ_skip p (64 * i + c) (64 - c) fun j hj => by
    have := wd_zero h (c + j) (by omega)
    simpa [Nat.add_assoc] using this
  rw [← this]
  congr 1
  omega
theorem left_next (p : Nat → Bool) (i c k : Nat) (h0 : left p i c ≠ 0) (hk : k = Lib.ctz 64 (left p i c)) :
    k < 64 ∧ memJ p (64 * i + (k + 1)) = memJ p (64 * i + c) ++ [UInt8.ofNat (64 * i + k)] ∧ left p i c &&& (left p i c - 1) = left p i (k + 1) ∧ left p i c &&& (left p i c - 1) < left p i c := by
  obtain ⟨h1, h2, h3, h4, h5⟩ := low_word _ _ k rfl h0 hk
  simp only [Bool.and_eq_true, decide_eq_true_iff] at h2
  refine ⟨h1, ?_, ?_, h5⟩
  · rw [show 64 * i + (k + 1) = (64 * i + k) + 1 from rfl, memJ_succ, h2.1, if_pos rfl]
    congr 1
    have := memJ_skip p (64 * i + c) (k - c) fun j hj => by
      have := h3 (c + j) (by omega)
      simpa [Nat.add_assoc] using this
    rw [← this]
    congr 1
    omega
  · show left p i c &&& (left p i c - 1) = _
    rw [show left p i (k + 1) = wd (fun j => (p (64 * i + j) && decide (c ≤ j)) && decide (k + 1 ≤ j)) 64 from wd_congr fun j hj => by
      by_cases hj2 : k + 1 ≤ j
      · have : c ≤ j := by omega
        simp [hj2, this]
      · simp [hj2]]
    exact h4
end Go.Proofs.YtaobeconjdeenaaDoor
