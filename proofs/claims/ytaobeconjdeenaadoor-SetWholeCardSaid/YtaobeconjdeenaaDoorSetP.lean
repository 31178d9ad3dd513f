/-
  Sets of bytes, as four words of 64 bits: plain facts. No statement is proved here.
-/
import Derived.Test.YtaobeconjdeenaaDoorArr
import Derived.Laws.BitsAllLaws
namespace Go.Proofs.YtaobeconjdeenaaDoor
open Go.RowKit
set_option linter.unusedSimpArgs false
set_option linter.unusedVariables false

/-- The number whose bits below n are p's. -/
def wd (p : Nat → Bool) : Nat → Nat
  | 0 => 0
  | n + 1 => wd p n + if p n then 2 ^ n else 0
theorem wd_lt (p : Nat → Bool) : ∀ n, wd p n < 2 ^ n
  | 0 => by simp [wd]
  | n + 1 => by
    have := wd_lt p n
    simp only [wd, Nat.pow_succ]
    split <;> omega
theorem wd_bit (p : Nat → Bool) : ∀ (n j : Nat), (wd p n).testBit j = (decide (j < n) && p j)
  | 0, j => by simp [wd]
  | n + 1, j => by
    have ih := wd_bit p n
    have hlt := wd_lt p n
    simp only [wd]
    by_cases hn : p n
    · rw [if_pos hn, Nat.add_comm]
      by_cases hj : j = n
      · subst hj
        rw [Nat.testBit_two_pow_add_eq, ih j]
        simp [hn]
      · by_cases hjn : j < n
        · rw [Nat.testBit_two_pow_add_gt hjn, ih j]
          simp [hjn, Nat.lt_succ_of_lt hjn]
        · have hgt : n < j := by omega
          have h2 : 2 ^ n + wd p n < 2 ^ j := by
            have : 2 ^ (n + 1) ≤ 2 ^ j := Nat.pow_le_pow_right (by omega) hgt
            rw [Nat.pow_succ] at this
            omega
          rw [Nat.testBit_lt_two_pow h2]
          simp; omega
    · rw [if_neg hn, Nat.add_zero, ih j]
      by_cases hj : j = n
      · subst hj
        simp [hn]
      · have : decide (j < n + 1) = decide (j < n) := decide_eq_decide.2 (by omega)
        rw [this]
theorem wd_congr {p q : Nat → Bool} : ∀ {n : Nat}, (∀ j, j < n → p j = q j) → wd p n = wd q n
  | 0, _ => rfl
  | n + 1, h => by
    simp only [wd]
    rw [wd_congr (n := n) fun j hj => h j (by omega), h n (by omega)]
theorem wd_of (x n : Nat) (h : x < 2 ^ n) : wd (fun j => x.testBit j) n = x := by
  apply Nat.eq_of_testBit_eq
  intro j
  rw [wd_bit]
  by_cases hj : j < n
  · simp [hj]
  · rw [Nat.testBit_lt_two_pow (Nat.lt_of_lt_of_le h (Nat.pow_le_pow_right (by omega) (by omega)))]
    simp
theorem wd_inj {p q : Nat → Bool} {n : Nat} (h : wd p n = wd q n) (j : Nat) (hj : j < n) : p j = q j := by
  have := congrArg (fun x => Nat.testBit x j) h
  simpa [wd_bit, hj] using this

/-- The i-th word of a set of bytes. -/
def word (p : Nat → Bool) (i : Nat) : Nat := wd (fun j => p (64 * i + j)) 64
theorem word_lt (p : Nat → Bool) (i : Nat) : word p i < 18446744073709551616 := wd_lt _ 64
theorem word_bit (p : Nat → Bool) (b : Nat) : (word p (b / 64)).testBit (b % 64) = p b := by
  unfold word
  rw [wd_bit, decide_eq_true (Nat.mod_lt _ (by omega)), Bool.true_and, Nat.div_add_mod]
theorem word_shift (p : Nat → Bool) (b : Nat) : decide (word p (b / 64) / 2 ^ (b % 64) % 2 = 1) = p b := by
  rw [← word_bit p b, Nat.testBit_eq_decide_div_mod_eq]
theorem word_congr {p q : Nat → Bool} (h : ∀ b, b < 256 → p b = q b) (i : Nat) (hi : i < 4) : word p i = word q i := wd_congr fun j hj => h _ (by omega)
theorem word_or (p q : Nat → Bool) (i : Nat) : word p i ||| word q i = word (fun b => p b || q b) i := by
  apply Nat.eq_of_testBit_eq
  intro j
  rw [Nat.testBit_or]
  simp only [word, wd_bit]
  cases decide (j < 64) <;> simp
theorem word_and (p q : Nat → Bool) (i : Nat) : word p i &&& word q i = word (fun b => p b && q b) i := by
  apply Nat.eq_of_testBit_eq
  intro j
  rw [Nat.testBit_and]
  simp only [word, wd_bit]
  cases decide (j < 64) <;> simp
theorem word_put (p : Nat → Bool) (b : Nat) : word p (b / 64) ||| 2 ^ (b % 64) = word (fun c => p c || decide (c = b)) (b / 64) := by
  apply Nat.eq_of_testBit_eq
  intro j
  rw [Nat.testBit_or, Nat.testBit_two_pow]
  simp only [word, wd_bit]
  by_cases hj : j < 64
  · have : decide (b % 64 = j) = decide (64 * (b / 64) + j = b) := decide_eq_decide.2 (by omega)
    simp [hj, this]
  · have : ¬ b % 64 = j := by omega
    simp [hj, this]
theorem word_other (p : Nat → Bool) (b i : Nat) (hi : i ≠ b / 64) : word p i = word (fun c => p c || decide (c = b)) i := by
  refine wd_congr fun j hj => ?_
  have : ¬ 64 * i + j = b := by omega
  simp [this]

/-- The cells of a set. -/
def wds (p : Nat → Bool) : List Value := [.int .u64 (word p 0 : Int), .int .u64 (word p 1 : Int), .int .u64 (word p 2 : Int), .int .u64 (word p 3 : Int)]
theorem wds_length (p : Nat → Bool) : (wds p).length = 4 := rfl
theorem wds_get (p : Nat → Bool) (i : Nat) (hi : i < 4) : (wds p)[i]? = some (.int .u64 (word p i : Int)) := by
  match i, hi with
  | 0, _ => rfl
  | 1, _ => rfl
  | 2, _ => rfl
  | 3, _ => rfl
theorem wds_all (p : Nat → Bool) : (wds p).all (·.oneCell') = true := rfl
theorem wds_congr {p q : Nat → Bool} (h : ∀ b, b < 256 → p b = q b) : wds p = wds q := by
  unfold wds
  rw [word_congr h 0 (by omega), word_congr h 1 (by omega), word_congr h 2 (by omega), word_congr h 3 (by omega)]
theorem wds_inj {p q : Nat → Bool} (h : wds p = wds q) (b : Nat) (hb : b < 256) : p b = q b := by
  have h2 : word p (b / 64) = word q (b / 64) := by
    have e1 := wds_get p (b / 64) (by omega)
    have e2 := wds_get q (b / 64) (by omega)
    rw [h, e2] at e1
    simp only [Option.some.injEq, Value.int.injEq, true_and] at e1
    omega
  rw [← word_bit p b, ← word_bit q b, h2]
/-- A byte more. -/
theorem wds_put (p : Nat → Bool) (b : Nat) (hb : b < 256) : (wds p).set (b / 64) (.int .u64 ((word p (b / 64) ||| 2 ^ (b % 64) : Nat) : Int)) = wds (fun c => p c || decide (c = b)) := by
  have hb4 : b / 64 < 4 := by omega
  rw [word_put]
  have other := fun i (hi : i ≠ b / 64) => word_other p b i hi
  obtain ⟨i, hi⟩ : ∃ i, i = b / 64 := ⟨_, rfl⟩
  rw [← hi] at other hb4 ⊢
  match i, hb4 with
  | 0, _ => simp only [wds, List.set_cons_zero]; rw [← other 1 (by omega), ← other 2 (by omega), ← other 3 (by omega)]
  | 1, _ => simp only [wds, List.set_cons_zero, List.set_cons_succ]; rw [← other 0 (by omega), ← other 2 (by omega), ← other 3 (by omega)]
  | 2, _ => simp only [wds, List.set_cons_zero, List.set_cons_succ]; rw [← other 0 (by omega), ← other 1 (by omega), ← other 3 (by omega)]
  | 3, _ => simp only [wds, List.set_cons_zero, List.set_cons_succ]; rw [← other 0 (by omega), ← other 1 (by omega), ← other 2 (by omega)]
/-- Four words are a set. -/
theorem wds_of (x0 x1 x2 x3 : Nat) (h0 : x0 < 18446744073709551616) (h1 : x1 < 18446744073709551616) (h2 : x2 < 18446744073709551616) (h3 : x3 < 18446744073709551616) :
    ∃ p : Nat → Bool, wds p = [.int .u64 (x0 : Int), .int .u64 (x1 : Int), .int .u64 (x2 : Int), .int .u64 (x3 : Int)] := by
  refine ⟨fun b => (if b / 64 = 0 then x0 else if b / 64 = 1 then x1 else if b / 64 = 2 then x2 else x3).testBit (b % 64), ?_⟩
  have key : ∀ (i x : Nat), x < 18446744073709551616 → (∀ j, j < 64 → (if (64 * i + j) / 64 = 0 then x0 else if (64 * i + j) / 64 = 1 then x1 else if (64 * i + j) / 64 = 2 then x2 else x3) = x) →
      word (fun b => (if b / 64 = 0 then x0 else if b / 64 = 1 then x1 else if b / 64 = 2 then x2 else x3).testBit (b % 64)) i = x := by
    intro i x hx hj
    unfold word
    rw [← wd_of x 64 hx]
    refine wd_congr fun j hj2 => ?_
    simp only
    rw [hj j hj2]
    congr 1
    omega
  unfold wds
  rw [key 0 x0 h0 fun j hj => if_pos (by omega), key 1 x1 h1 fun j hj => by rw [if_neg (by omega), if_pos (by omega)],
    key 2 x2 h2 fun j hj => by rw [if_neg (by omega), if_neg (by omega), if_pos (by omega)], key 3 x3 h3 fun j hj => by rw [if_neg (by omega), if_neg (by omega), if_neg (by omega)]]
/-- The bytes of a set, rising. -/
def mem (p : Nat → Bool) : List UInt8 := ((List.range 256).filter p).map UInt8.ofNat
end Go.Proofs.YtaobeconjdeenaaDoor
