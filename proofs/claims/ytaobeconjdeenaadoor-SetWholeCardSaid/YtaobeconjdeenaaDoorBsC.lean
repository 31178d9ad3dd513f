/-
  What package byteset (Len) answers and leaves, and bits.OnesCount64. No statement is proved here.
-/
import Derived.Test.YtaobeconjdeenaaDoorBsR
namespace Go.Proofs.YtaobeconjdeenaaDoor
open Go.RowKit
set_option linter.unusedSimpArgs false
set_option linter.unusedVariables false

/-! ### counting bits, byte by byte -/
/-- n bytes c. -/
def rep (c : Nat) : Nat → Nat
  | 0 => 0
  | n + 1 => 256 * rep c n + c
theorem and_byte (x m c : Nat) (hc : c < 256) : x &&& (256 * m + c) = 256 * ((x / 256) &&& m) + ((x % 256) &&& c) := by
  have h1 : (x &&& (256 * m + c)) / 2 ^ 8 = (x / 2 ^ 8) &&& ((256 * m + c) / 2 ^ 8) := Nat.and_div_two_pow
  have h2 : (x &&& (256 * m + c)) % 2 ^ 8 = (x % 2 ^ 8) &&& ((256 * m + c) % 2 ^ 8) := Nat.and_mod_two_pow
  have e1 : (256 * m + c) / 2 ^ 8 = m := by omega
  have e2 : (256 * m + c) % 2 ^ 8 = c := by omega
  rw [e1] at h1
  rw [e2] at h2
  have e3 : (2 : Nat) ^ 8 = 256 := rfl
  rw [e3] at h1 h2
  omega
def s1 (b : Nat) : Nat := ((b / 2) &&& 85) + (b &&& 85)
def s2 (b : Nat) : Nat := ((b / 4) &&& 51) + (b &&& 51)
def s3 (b : Nat) : Nat := (b / 16 + b) &&& 15
def S1 (n x : Nat) : Nat := ((x / 2) &&& rep 85 n) + (x &&& rep 85 n)
def S2 (n x : Nat) : Nat := ((x / 4) &&& rep 51 n) + (x &&& rep 51 n)
def S3 (n x : Nat) : Nat := (x / 16 + x) &&& rep 15 n
theorem f1 : ∀ (b : Fin 256) (r : Fin 2), (((128 * r.val + b.val / 2) % 256) &&& 85) = ((b.val / 2) &&& 85) ∧ s1 b.val < 256 := by decide +kernel
theorem f2 : ∀ (b : Fin 256) (r : Fin 4), (((64 * r.val + b.val / 4) % 256) &&& 51) = ((b.val / 4) &&& 51) ∧ s2 b.val < 256 := by decide +kernel
theorem f3 : ∀ (b : Fin 69) (r : Fin 5), b.val % 16 ≤ 4 → ((16 * r.val + b.val / 16 + b.val) &&& 15) = s3 b.val := by decide +kernel
theorem f4 : ∀ b : Fin 256, s2 (s1 b.val) % 16 ≤ 4 ∧ s2 (s1 b.val) ≤ 68 ∧ s3 (s2 (s1 b.val)) = ((List.range 8).filter b.val.testBit).length ∧ s3 (s2 (s1 b.val)) ≤ 8 := by decide +kernel
theorem S1_step (n y b : Nat) (hb : b < 256) : S1 (n + 1) (256 * y + b) = 256 * S1 n y + s1 b := by
  have h := (f1 ⟨b, hb⟩ ⟨y % 2, Nat.mod_lt _ (by omega)⟩).1
  simp only at h
  simp only [S1, s1, rep]
  rw [and_byte _ _ 85 (by omega), and_byte (256 * y + b) _ 85 (by omega)]
  have e1 : (256 * y + b) / 2 / 256 = y / 2 := by omega
  have e2 : (256 * y + b) / 2 % 256 = (128 * (y % 2) + b / 2) % 256 := by omega
  have e3 : (256 * y + b) / 256 = y := by omega
  have e4 : (256 * y + b) % 256 = b := by omega
  rw [e1, e2, e3, e4, h]
  omega
theorem S2_step (n y b : Nat) (hb : b < 256) : S2 (n + 1) (256 * y + b) = 256 * S2 n y + s2 b := by
  have h := (f2 ⟨b, hb⟩ ⟨y % 4, Nat.mod_lt _ (by omega)⟩).1
  simp only at h
  simp only [S2, s2, rep]
  rw [and_byte _ _ 51 (by omega), and_byte (256 * y + b) _ 51 (by omega)]
  have e1 : (256 * y + b) / 4 / 256 = y / 4 := by omega
  have e2 : (256 * y + b) / 4 % 256 = (64 * (y % 4) + b / 4) % 256 := by omega
  have e3 : (256 * y + b) / 256 = y := by omega
  have e4 : (256 * y + b) % 256 = b := by omega
  rw [e1, e2, e3, e4, h]
  omega
theorem S3_step (n y b : Nat) (hb : b ≤ 68) (hb2 : b % 16 ≤ 4) (hy : y % 16 ≤ 4) : S3 (n + 1) (256 * y + b) = 256 * S3 n y + s3 b := by
  have h := f3 ⟨b, by omega⟩ ⟨y % 16, by omega⟩ hb2
  simp only at h
  simp only [S3, rep]
  rw [and_byte _ _ 15 (by omega)]
  have e1 : ((256 * y + b) / 16 + (256 * y + b)) / 256 = y / 16 + y := by omega
  have e2 : ((256 * y + b) / 16 + (256 * y + b)) % 256 = 16 * (y % 16) + b / 16 + b := by omega
  rw [e1, e2, h]
/-- The three steps. -/
def S (n x : Nat) : Nat := S3 n (S2 n (S1 n x))
theorem low4 : ∀ n x : Nat, S2 n (S1 n x) % 16 ≤ 4
  | 0, x => by simp [S2, S1, rep]
  | n + 1, x => by
    have hb : x % 256 < 256 := Nat.mod_lt _ (by omega)
    have e : x = 256 * (x / 256) + x % 256 := by omega
    have k1 : s1 (x % 256) < 256 := (f1 ⟨_, hb⟩ 0).2
    have k2 : s2 (s1 (x % 256)) % 16 ≤ 4 := (f4 ⟨_, hb⟩).1
    rw [e, S1_step n _ _ hb, S2_step n _ _ k1]
    omega
theorem S_step (n y b : Nat) (hb : b < 256) : S (n + 1) (256 * y + b) = 256 * S n y + ((List.range 8).filter b.testBit).length := by
  have h4 := f4 ⟨b, hb⟩
  simp only at h4
  unfold S
  rw [S1_step n _ _ hb, S2_step n _ _ (f1 ⟨_, hb⟩ 0).2, S3_step n _ _ h4.2.1 h4.1 (low4 n y), h4.2.2.1]
/-- How many bits below n are 1. -/
def popc (n x : Nat) : Nat := ((List.range n).filter x.testBit).length
theorem popc_byte (n y b : Nat) (hb : b < 256) : popc (8 + n) (256 * y + b) = popc 8 b + popc n y := by
  unfold popc
  rw [List.range_add, List.filter_append, List.length_append]
  congr 1
  · congr 1
    apply List.filter_congr
    intro j hj
    have hj8 : j < 8 := List.mem_range.1 hj
    have := Nat.testBit_mod_two_pow (256 * y + b) 8 j
    rw [show (256 * y + b) % 2 ^ 8 = b by omega] at this
    rw [this]
    simp [hj8]
  · rw [List.filter_map, List.length_map]
    congr 1
    apply List.filter_congr
    intro j hj
    have : ((256 * y + b) / 2 ^ 8).testBit j = (256 * y + b).testBit (j + 8) := Nat.testBit_div_two_pow _ _
    rw [show (256 * y + b) / 2 ^ 8 = y by omega] at this
    simp only [Function.comp]
    rw [this, Nat.add_comm 8 j]
theorem popc8 (b : Nat) (hb : b < 256) : popc 8 b ≤ 8 := by
  have := f4 ⟨b, hb⟩
  simp only at this
  unfold popc
  omega
theorem dv8 {x h p : Nat} (e : x = 256 * h + p) (hp : p < 256) : x / 256 = h := by omega
theorem ad8 {x y a b p q : Nat} (hx : x = 256 * a + p) (hy : y = 256 * b + q) : x + y = 256 * (a + b) + (p + q) := by omega
theorem bd8 {x h p B : Nat} (e : x = 256 * h + p) (hh : h ≤ B) (hp : p ≤ 8) : x ≤ 256 * B + 8 := by omega
theorem md8 {u a p : Nat} (e : u = 256 * a + p) (hp : p < 128) : u % 128 = p := by omega
theorem up4 (p0 p1 p2 p3 p4 p5 p6 p7 : Nat) : p0 + p1 + (p2 + p3) + (p4 + p5 + (p6 + p7)) = p0 + p1 + p2 + p3 + p4 + p5 + p6 + p7 := by omega
/-- The sums of eight bytes. -/
theorem sum8 (p0 p1 p2 p3 p4 p5 p6 p7 : Nat) (a0 : p0 ≤ 8) (a1 : p1 ≤ 8) (a2 : p2 ≤ 8) (a3 : p3 ≤ 8) (a4 : p4 ≤ 8) (a5 : p5 ≤ 8) (a6 : p6 ≤ 8) (a7 : p7 ≤ 8) (h0 : Nat)
    (hx : h0 = 256 * (256 * (256 * (256 * (256 * (256 * (256 * p7 + p6) + p5) + p4) + p3) + p2) + p1) + p0) :
    ∀ y z u : Nat, y = h0 + h0 / 256 → z = y + y / 65536 → u = z + z / 4294967296 → y < 18446744073709551616 ∧ z < 18446744073709551616 ∧ u < 18446744073709551616 ∧ u % 128 = p0 + p1 + p2 + p3 + p4 + p5 + p6 + p7 := by
  intro y z u hy hz hu
  obtain ⟨h7, e7⟩ : ∃ h, h = p7 := ⟨_, rfl⟩
  obtain ⟨h6, e6⟩ : ∃ h, h = 256 * h7 + p6 := ⟨_, rfl⟩
  obtain ⟨h5, e5⟩ : ∃ h, h = 256 * h6 + p5 := ⟨_, rfl⟩
  obtain ⟨h4, e4⟩ : ∃ h, h = 256 * h5 + p4 := ⟨_, rfl⟩
  obtain ⟨h3, e3⟩ : ∃ h, h = 256 * h4 + p3 := ⟨_, rfl⟩
  obtain ⟨h2, e2⟩ : ∃ h, h = 256 * h3 + p2 := ⟨_, rfl⟩
  obtain ⟨h1, e1⟩ : ∃ h, h = 256 * h2 + p1 := ⟨_, rfl⟩
  have e0 : h0 = 256 * h1 + p0 := by rw [hx, e1, e2, e3, e4, e5, e6, e7]
  have e7' : h7 = 256 * 0 + p7 := by rw [e7, Nat.mul_zero, Nat.zero_add]
  clear hx
  have l7 : h7 ≤ 8 := by rw [e7]; exact a7
  have l6 := bd8 e6 l7 a6
  have l5 := bd8 e5 l6 a5
  have l4 := bd8 e4 l5 a4
  have l3 := bd8 e3 l4 a3
  have l2 := bd8 e2 l3 a2
  have l1 := bd8 e1 l2 a1
  have l0 := bd8 e0 l1 a0
  have le2 : ∀ {a b : Nat}, a ≤ 8 → b ≤ 8 → a + b ≤ 16 := fun h k => Nat.add_le_add h k
  have lt4 : ∀ {a b : Nat}, a ≤ 16 → b ≤ 16 → a + b < 256 := fun h k => Nat.lt_of_le_of_lt (Nat.add_le_add h k) (by decide)
  have lt2 : ∀ {a : Nat}, a ≤ 16 → a < 256 := fun h => Nat.lt_of_le_of_lt h (by decide)
  have m01 := ad8 e0 e1
  have m12 := ad8 e1 e2
  have m23 := ad8 e2 e3
  have m34 := ad8 e3 e4
  have m45 := ad8 e4 e5
  have m56 := ad8 e5 e6
  have m67 := ad8 e6 e7'
  have y1 : y = h0 + h1 := by rw [hy, dv8 e0 (lt2 (Nat.le_trans a0 (by decide)))]
  have y2 : y / 65536 = h2 + h3 := by
    rw [show (65536 : Nat) = 256 * 256 from rfl, ← Nat.div_div_eq_div_mul, y1, dv8 m01 (lt2 (le2 a0 a1)), dv8 m12 (lt2 (le2 a1 a2))]
  have z1 : z = h0 + h1 + (h2 + h3) := by rw [hz, y2, y1]
  have q0 := ad8 m01 m23
  have q1 := ad8 m12 m34
  have q2 := ad8 m23 m45
  have q3 := ad8 m34 m56
  have z2 : z / 4294967296 = h4 + h5 + (h6 + h7) := by
    rw [show (4294967296 : Nat) = 256 * 256 * 256 * 256 from rfl, ← Nat.div_div_eq_div_mul, ← Nat.div_div_eq_div_mul, ← Nat.div_div_eq_div_mul, z1,
      dv8 q0 (lt4 (le2 a0 a1) (le2 a2 a3)), dv8 q1 (lt4 (le2 a1 a2) (le2 a3 a4)), dv8 q2 (lt4 (le2 a2 a3) (le2 a4 a5)), dv8 q3 (lt4 (le2 a3 a4) (le2 a5 a6))]
  have u1 : u = h0 + h1 + (h2 + h3) + (h4 + h5 + (h6 + h7)) := by rw [hu, z2, z1]
  have q := ad8 q0 (ad8 m45 m67)
  rw [← u1] at q
  refine ⟨?_, ?_, ?_, ?_⟩
  · rw [y1]; exact Nat.lt_of_le_of_lt (Nat.add_le_add l0 l1) (by decide)
  · rw [z1]; exact Nat.lt_of_le_of_lt (Nat.add_le_add (Nat.add_le_add l0 l1) (Nat.add_le_add l2 l3)) (by decide)
  · rw [u1]; exact Nat.lt_of_le_of_lt (Nat.add_le_add (Nat.add_le_add (Nat.add_le_add l0 l1) (Nat.add_le_add l2 l3)) (Nat.add_le_add (Nat.add_le_add l4 l5) (Nat.add_le_add l6 l7))) (by decide)
  · rw [md8 q (Nat.lt_of_le_of_lt (Nat.add_le_add (Nat.add_le_add (le2 a0 a1) (le2 a2 a3)) (Nat.add_le_add (le2 a4 a5) (le2 a6 a7))) (by decide))]
    exact up4 _ _ _ _ _ _ _ _
theorem sum64 (x : Nat) (hx : x < 18446744073709551616) (y z u : Nat) (hy : y = S 8 x + S 8 x / 256) (hz : z = y + y / 65536) (hu : u = z + z / 4294967296) :
    y < 18446744073709551616 ∧ z < 18446744073709551616 ∧ u < 18446744073709551616 ∧ u % 128 = popc 64 x := by
  have key : ∀ n x, ∃ b y, b < 256 ∧ x = 256 * y + b ∧ S (n + 1) x = 256 * S n y + popc 8 b ∧ popc (8 + 8 * n) x = popc 8 b + popc (8 * n) y := by
    intro n x
    have hb : x % 256 < 256 := Nat.mod_lt _ (by omega)
    have e : x = 256 * (x / 256) + x % 256 := by omega
    generalize x % 256 = b at hb e
    generalize x / 256 = y at e
    subst e
    exact ⟨b, y, hb, rfl, S_step n y b hb, popc_byte (8 * n) y b hb⟩
  obtain ⟨b0, x1, l0, e0, s0, c0⟩ := key 7 x
  obtain ⟨b1, x2, l1, e1, s1, c1⟩ := key 6 x1
  obtain ⟨b2, x3, l2, e2, s2, c2⟩ := key 5 x2
  obtain ⟨b3, x4, l3, e3, s3, c3⟩ := key 4 x3
  obtain ⟨b4, x5, l4, e4, s4, c4⟩ := key 3 x4
  obtain ⟨b5, x6, l5, e5, s5, c5⟩ := key 2 x5
  obtain ⟨b6, x7, l6, e6, s6, c6⟩ := key 1 x6
  obtain ⟨b7, x8, l7, e7, s7, c7⟩ := key 0 x7
  have z0 : S 0 x8 = 0 := by simp [S, S3, rep]
  have z1 : popc (8 * 0) x8 = 0 := rfl
  have hS : S 8 x = 256 * (256 * (256 * (256 * (256 * (256 * (256 * popc 8 b7 + popc 8 b6) + popc 8 b5) + popc 8 b4) + popc 8 b3) + popc 8 b2) + popc 8 b1) + popc 8 b0 := by
    simp only [Nat.reduceAdd] at s0 s1 s2 s3 s4 s5 s6 s7
    rw [s0, s1, s2, s3, s4, s5, s6, s7, z0, Nat.mul_zero, Nat.zero_add]
  have hP : popc 64 x = popc 8 b0 + popc 8 b1 + popc 8 b2 + popc 8 b3 + popc 8 b4 + popc 8 b5 + popc 8 b6 + popc 8 b7 := by
    simp only [Nat.reduceAdd, Nat.reduceMul] at c0 c1 c2 c3 c4 c5 c6 c7 z1
    rw [c0, c1, c2, c3, c4, c5, c6, c7, z1]
    omega
  have := sum8 _ _ _ _ _ _ _ _ (popc8 b0 l0) (popc8 b1 l1) (popc8 b2 l2) (popc8 b3 l3) (popc8 b4 l4) (popc8 b5 l5) (popc8 b6 l6) (popc8 b7 l7) _ hS y z u hy hz hu
  rw [hP]
  exact this
end Go.Proofs.YtaobeconjdeenaaDoor
