/-
  What package octet's functions answer and leave, as contracts over the whole program: number, setNumber, Put, Take, Text, TakeText, and bytes.Clone. No statement is proved here; each contract names its own conditions.
-/
import Derived.Test.YtofimimnjfhmfaaProg
import Derived.Test.YtofimimnjfhmfaaBase
namespace Go.Proofs.Ytofimimnjfhmfaa
open Go.RowKit
set_option linter.unusedSimpArgs false
set_option linter.unusedVariables false

/-! ### number -/
theorem or_at (j : Nat) {x : Int} (hi c : Nat) (P : Int) (hP : P = ((2 ^ j : Nat) : Int)) (hx : x = ((hi * 2 ^ (j + 8) : Nat) : Int)) (hc : c < 256)
    (hb : (hi * 256 + c) * 2 ^ j < 18446744073709551616) : bits .or .u64 x (IntKind.u64.wrap (IntKind.u64.wrap (c : Int) * P)) = (((hi * 256 + c) * 2 ^ j : Nat) : Int) := by
  have hp : 0 < 2 ^ j := Nat.two_pow_pos j
  have h1 : (hi * 256 + c) * 2 ^ j = hi * 2 ^ (j + 8) + c * 2 ^ j := by rw [Nat.pow_add, Nat.add_mul, Nat.mul_assoc]; congr 2; exact Nat.mul_comm _ _
  have h2 : c * 2 ^ j < 2 ^ (j + 8) := by rw [Nat.pow_add, Nat.mul_comm]; exact Nat.mul_lt_mul_of_pos_left (by omega) hp
  have h3 : IntKind.u64.wrap (c : Int) = (c : Int) := IntWalk.u64_in _ (by omega)
  have h4 : IntKind.u64.wrap ((c : Int) * P) = ((c * 2 ^ j : Nat) : Int) := by
    rw [hP, ← Int.natCast_mul]
    exact IntWalk.u64_in _ (by omega)
  rw [h3, h4, hx, u64_or_nat _ _ (by omega) (by omega), h1]
  congr 1
  rw [Nat.mul_comm hi, ← Nat.two_pow_add_eq_or_of_lt h2]
theorem or_last {x : Int} (hi c : Nat) (hx : x = ((hi * 2 ^ 8 : Nat) : Int)) (hc : c < 256) (hb : hi * 256 + c < 18446744073709551616) :
    bits .or .u64 x (IntKind.u64.wrap (c : Int)) = ((hi * 256 + c : Nat) : Int) := by
  have := or_at 0 (x := x) hi c 1 (by simp) (by simpa using hx) hc (by simpa using hb)
  rw [Int.mul_one, IntWalk.u64_in (IntKind.u64.wrap (c : Int)) (by rw [IntWalk.u64_in _ (by omega)]; omega)] at this
  simpa using this

set_option maxHeartbeats 400000 in
theorem number_0 (A : Option Addr) (cap : Nat) (w : World) :
    Calls Try.prog 20 #[.slice A 0 cap] w fun e w' => e = .returned (.int .u64 ((num [] : Nat) : Int)) ∧ w = w' := by
  go_enter Try.func20, Try.ntmps20
  go_wp2
  go_ret
  exact ⟨rfl, rfl⟩

set_option maxHeartbeats 400000 in
theorem number_1 (b off cap : Nat) (c0 : UInt8) (w : World) (h0 : w.cell? ⟨b, off, none⟩ = some (.int .u8 (c0.toNat : Int))) :
    Calls Try.prog 20 #[.slice (some ⟨b, off, none⟩) 1 cap] w fun e w' => e = .returned (.int .u64 ((num [c0] : Nat) : Int)) ∧ w = w' := by
  go_enter Try.func20, Try.ntmps20
  go_wp2
  go_ret
  refine ⟨ret_int ?_, rfl⟩
  have b0 := c0.toNat_lt
  have e := or_last (x := (0 : Int)) (0) c0.toNat (by simp) (by omega) (by omega)
  refine e.trans ?_
  simp only [num]
  omega

set_option maxHeartbeats 400000 in
theorem number_2 (b off cap : Nat) (c0 c1 : UInt8) (w : World) (h0 : w.cell? ⟨b, off, none⟩ = some (.int .u8 (c0.toNat : Int))) (h1 : w.cell? ⟨b, off + 1, none⟩ = some (.int .u8 (c1.toNat : Int))) :
    Calls Try.prog 20 #[.slice (some ⟨b, off, none⟩) 2 cap] w fun e w' => e = .returned (.int .u64 ((num [c0, c1] : Nat) : Int)) ∧ w = w' := by
  go_enter Try.func20, Try.ntmps20
  go_wp2
  go_ret
  refine ⟨ret_int ?_, rfl⟩
  have b0 := c0.toNat_lt
  have b1 := c1.toNat_lt
  have e := or_last ((0) * 256 + c1.toNat) c0.toNat (or_at 8 (x := (0 : Int)) (0) c1.toNat 256 rfl (by simp) (by omega) (by omega)) (by omega) (by omega)
  refine e.trans ?_
  simp only [num]
  omega

set_option maxHeartbeats 400000 in
theorem number_3 (b off cap : Nat) (c0 c1 c2 : UInt8) (w : World) (h0 : w.cell? ⟨b, off, none⟩ = some (.int .u8 (c0.toNat : Int))) (h1 : w.cell? ⟨b, off + 1, none⟩ = some (.int .u8 (c1.toNat : Int))) (h2 : w.cell? ⟨b, off + 2, none⟩ = some (.int .u8 (c2.toNat : Int))) :
    Calls Try.prog 20 #[.slice (some ⟨b, off, none⟩) 3 cap] w fun e w' => e = .returned (.int .u64 ((num [c0, c1, c2] : Nat) : Int)) ∧ w = w' := by
  go_enter Try.func20, Try.ntmps20
  go_wp2
  go_ret
  refine ⟨ret_int ?_, rfl⟩
  have b0 := c0.toNat_lt
  have b1 := c1.toNat_lt
  have b2 := c2.toNat_lt
  have e := or_last (((0) * 256 + c2.toNat) * 256 + c1.toNat) c0.toNat (or_at 8 ((0) * 256 + c2.toNat) c1.toNat 256 rfl (or_at 16 (x := (0 : Int)) (0) c2.toNat 65536 rfl (by simp) (by omega) (by omega)) (by omega) (by omega)) (by omega) (by omega)
  refine e.trans ?_
  simp only [num]
  omega

set_option maxHeartbeats 400000 in
theorem number_4 (b off cap : Nat) (c0 c1 c2 c3 : UInt8) (w : World) (h0 : w.cell? ⟨b, off, none⟩ = some (.int .u8 (c0.toNat : Int))) (h1 : w.cell? ⟨b, off + 1, none⟩ = some (.int .u8 (c1.toNat : Int))) (h2 : w.cell? ⟨b, off + 2, none⟩ = some (.int .u8 (c2.toNat : Int))) (h3 : w.cell? ⟨b, off + 3, none⟩ = some (.int .u8 (c3.toNat : Int))) :
    Calls Try.prog 20 #[.slice (some ⟨b, off, none⟩) 4 cap] w fun e w' => e = .returned (.int .u64 ((num [c0, c1, c2, c3] : Nat) : Int)) ∧ w = w' := by
  go_enter Try.func20, Try.ntmps20
  go_wp2
  go_ret
  refine ⟨ret_int ?_, rfl⟩
  have b0 := c0.toNat_lt
  have b1 := c1.toNat_lt
  have b2 := c2.toNat_lt
  have b3 := c3.toNat_lt
  have e := or_last ((((0) * 256 + c3.toNat) * 256 + c2.toNat) * 256 + c1.toNat) c0.toNat (or_at 8 (((0) * 256 + c3.toNat) * 256 + c2.toNat) c1.toNat 256 rfl (or_at 16 ((0) * 256 + c3.toNat) c2.toNat 65536 rfl (or_at 24 (x := (0 : Int)) (0) c3.toNat 16777216 rfl (by simp) (by omega) (by omega)) (by omega) (by omega)) (by omega) (by omega)) (by omega) (by omega)
  refine e.trans ?_
  simp only [num]
  omega

set_option maxHeartbeats 400000 in
theorem number_5 (b off cap : Nat) (c0 c1 c2 c3 c4 : UInt8) (w : World) (h0 : w.cell? ⟨b, off, none⟩ = some (.int .u8 (c0.toNat : Int))) (h1 : w.cell? ⟨b, off + 1, none⟩ = some (.int .u8 (c1.toNat : Int))) (h2 : w.cell? ⟨b, off + 2, none⟩ = some (.int .u8 (c2.toNat : Int))) (h3 : w.cell? ⟨b, off + 3, none⟩ = some (.int .u8 (c3.toNat : Int))) (h4 : w.cell? ⟨b, off + 4, none⟩ = some (.int .u8 (c4.toNat : Int))) :
    Calls Try.prog 20 #[.slice (some ⟨b, off, none⟩) 5 cap] w fun e w' => e = .returned (.int .u64 ((num [c0, c1, c2, c3, c4] : Nat) : Int)) ∧ w = w' := by
  go_enter Try.func20, Try.ntmps20
  go_wp2
  go_ret
  refine ⟨ret_int ?_, rfl⟩
  have b0 := c0.toNat_lt
  have b1 := c1.toNat_lt
  have b2 := c2.toNat_lt
  have b3 := c3.toNat_lt
  have b4 := c4.toNat_lt
  have e := or_last (((((0) * 256 + c4.toNat) * 256 + c3.toNat) * 256 + c2.toNat) * 256 + c1.toNat) c0.toNat (or_at 8 ((((0) * 256 + c4.toNat) * 256 + c3.toNat) * 256 + c2.toNat) c1.toNat 256 rfl (or_at 16 (((0) * 256 + c4.toNat) * 256 + c3.toNat) c2.toNat 65536 rfl (or_at 24 ((0) * 256 + c4.toNat) c3.toNat 16777216 rfl (or_at 32 (x := (0 : Int)) (0) c4.toNat 4294967296 rfl (by simp) (by omega) (by omega)) (by omega) (by omega)) (by omega) (by omega)) (by omega) (by omega)) (by omega) (by omega)
  refine e.trans ?_
  simp only [num]
  omega

set_option maxHeartbeats 400000 in
theorem number_6 (b off cap : Nat) (c0 c1 c2 c3 c4 c5 : UInt8) (w : World) (h0 : w.cell? ⟨b, off, none⟩ = some (.int .u8 (c0.toNat : Int))) (h1 : w.cell? ⟨b, off + 1, none⟩ = some (.int .u8 (c1.toNat : Int))) (h2 : w.cell? ⟨b, off + 2, none⟩ = some (.int .u8 (c2.toNat : Int))) (h3 : w.cell? ⟨b, off + 3, none⟩ = some (.int .u8 (c3.toNat : Int))) (h4 : w.cell? ⟨b, off + 4, none⟩ = some (.int .u8 (c4.toNat : Int))) (h5 : w.cell? ⟨b, off + 5, none⟩ = some (.int .u8 (c5.toNat : Int))) :
    Calls Try.prog 20 #[.slice (some ⟨b, off, none⟩) 6 cap] w fun e w' => e = .returned (.int .u64 ((num [c0, c1, c2, c3, c4, c5] : Nat) : Int)) ∧ w = w' := by
  go_enter Try.func20, Try.ntmps20
  go_wp2
  go_ret
  refine ⟨ret_int ?_, rfl⟩
  have b0 := c0.toNat_lt
  have b1 := c1.toNat_lt
  have b2 := c2.toNat_lt
  have b3 := c3.toNat_lt
  have b4 := c4.toNat_lt
  have b5 := c5.toNat_lt
  have e := or_last ((((((0) * 256 + c5.toNat) * 256 + c4.toNat) * 256 + c3.toNat) * 256 + c2.toNat) * 256 + c1.toNat) c0.toNat (or_at 8 (((((0) * 256 + c5.toNat) * 256 + c4.toNat) * 256 + c3.toNat) * 256 + c2.toNat) c1.toNat 256 rfl (or_at 16 ((((0) * 256 + c5.toNat) * 256 + c4.toNat) * 256 + c3.toNat) c2.toNat 65536 rfl (or_at 24 (((0) * 256 + c5.toNat) * 256 + c4.toNat) c3.toNat 16777216 rfl (or_at 32 ((0) * 256 + c5.toNat) c4.toNat 4294967296 rfl (or_at 40 (x := (0 : Int)) (0) c5.toNat 1099511627776 rfl (by simp) (by omega) (by omega)) (by omega) (by omega)) (by omega) (by omega)) (by omega) (by omega)) (by omega) (by omega)) (by omega) (by omega)
  refine e.trans ?_
  simp only [num]
  omega

set_option maxHeartbeats 400000 in
theorem number_7 (b off cap : Nat) (c0 c1 c2 c3 c4 c5 c6 : UInt8) (w : World) (h0 : w.cell? ⟨b, off, none⟩ = some (.int .u8 (c0.toNat : Int))) (h1 : w.cell? ⟨b, off + 1, none⟩ = some (.int .u8 (c1.toNat : Int))) (h2 : w.cell? ⟨b, off + 2, none⟩ = some (.int .u8 (c2.toNat : Int))) (h3 : w.cell? ⟨b, off + 3, none⟩ = some (.int .u8 (c3.toNat : Int))) (h4 : w.cell? ⟨b, off + 4, none⟩ = some (.int .u8 (c4.toNat : Int))) (h5 : w.cell? ⟨b, off + 5, none⟩ = some (.int .u8 (c5.toNat : Int))) (h6 : w.cell? ⟨b, off + 6, none⟩ = some (.int .u8 (c6.toNat : Int))) :
    Calls Try.prog 20 #[.slice (some ⟨b, off, none⟩) 7 cap] w fun e w' => e = .returned (.int .u64 ((num [c0, c1, c2, c3, c4, c5, c6] : Nat) : Int)) ∧ w = w' := by
  go_enter Try.func20, Try.ntmps20
  go_wp2
  go_ret
  refine ⟨ret_int ?_, rfl⟩
  have b0 := c0.toNat_lt
  have b1 := c1.toNat_lt
  have b2 := c2.toNat_lt
  have b3 := c3.toNat_lt
  have b4 := c4.toNat_lt
  have b5 := c5.toNat_lt
  have b6 := c6.toNat_lt
  have e := or_last (((((((0) * 256 + c6.toNat) * 256 + c5.toNat) * 256 + c4.toNat) * 256 + c3.toNat) * 256 + c2.toNat) * 256 + c1.toNat) c0.toNat (or_at 8 ((((((0) * 256 + c6.toNat) * 256 + c5.toNat) * 256 + c4.toNat) * 256 + c3.toNat) * 256 + c2.toNat) c1.toNat 256 rfl (or_at 16 (((((0) * 256 + c6.toNat) * 256 + c5.toNat) * 256 + c4.toNat) * 256 + c3.toNat) c2.toNat 65536 rfl (or_at 24 ((((0) * 256 + c6.toNat) * 256 + c5.toNat) * 256 + c4.toNat) c3.toNat 16777216 rfl (or_at 32 (((0) * 256 + c6.toNat) * 256 + c5.toNat) c4.toNat 4294967296 rfl (or_at 40 ((0) * 256 + c6.toNat) c5.toNat 1099511627776 rfl (or_at 48 (x := (0 : Int)) (0) c6.toNat 281474976710656 rfl (by simp) (by omega) (by omega)) (by omega) (by omega)) (by omega) (by omega)) (by omega) (by omega)) (by omega) (by omega)) (by omega) (by omega)) (by omega) (by omega)
  refine e.trans ?_
  simp only [num]
  omega

set_option maxHeartbeats 400000 in
theorem number_8 (b off cap : Nat) (c0 c1 c2 c3 c4 c5 c6 c7 : UInt8) (w : World) (h0 : w.cell? ⟨b, off, none⟩ = some (.int .u8 (c0.toNat : Int))) (h1 : w.cell? ⟨b, off + 1, none⟩ = some (.int .u8 (c1.toNat : Int))) (h2 : w.cell? ⟨b, off + 2, none⟩ = some (.int .u8 (c2.toNat : Int))) (h3 : w.cell? ⟨b, off + 3, none⟩ = some (.int .u8 (c3.toNat : Int))) (h4 : w.cell? ⟨b, off + 4, none⟩ = some (.int .u8 (c4.toNat : Int))) (h5 : w.cell? ⟨b, off + 5, none⟩ = some (.int .u8 (c5.toNat : Int))) (h6 : w.cell? ⟨b, off + 6, none⟩ = some (.int .u8 (c6.toNat : Int))) (h7 : w.cell? ⟨b, off + 7, none⟩ = some (.int .u8 (c7.toNat : Int))) :
    Calls Try.prog 20 #[.slice (some ⟨b, off, none⟩) 8 cap] w fun e w' => e = .returned (.int .u64 ((num [c0, c1, c2, c3, c4, c5, c6, c7] : Nat) : Int)) ∧ w = w' := by
  go_enter Try.func20, Try.ntmps20
  go_wp2
  go_ret
  refine ⟨ret_int ?_, rfl⟩
  have b0 := c0.toNat_lt
  have b1 := c1.toNat_lt
  have b2 := c2.toNat_lt
  have b3 := c3.toNat_lt
  have b4 := c4.toNat_lt
  have b5 := c5.toNat_lt
  have b6 := c6.toNat_lt
  have b7 := c7.toNat_lt
  have e := or_last ((((((((0) * 256 + c7.toNat) * 256 + c6.toNat) * 256 + c5.toNat) * 256 + c4.toNat) * 256 + c3.toNat) * 256 + c2.toNat) * 256 + c1.toNat) c0.toNat (or_at 8 (((((((0) * 256 + c7.toNat) * 256 + c6.toNat) * 256 + c5.toNat) * 256 + c4.toNat) * 256 + c3.toNat) * 256 + c2.toNat) c1.toNat 256 rfl (or_at 16 ((((((0) * 256 + c7.toNat) * 256 + c6.toNat) * 256 + c5.toNat) * 256 + c4.toNat) * 256 + c3.toNat) c2.toNat 65536 rfl (or_at 24 (((((0) * 256 + c7.toNat) * 256 + c6.toNat) * 256 + c5.toNat) * 256 + c4.toNat) c3.toNat 16777216 rfl (or_at 32 ((((0) * 256 + c7.toNat) * 256 + c6.toNat) * 256 + c5.toNat) c4.toNat 4294967296 rfl (or_at 40 (((0) * 256 + c7.toNat) * 256 + c6.toNat) c5.toNat 1099511627776 rfl (or_at 48 ((0) * 256 + c7.toNat) c6.toNat 281474976710656 rfl (or_at 56 (x := (0 : Int)) (0) c7.toNat 72057594037927936 rfl (by simp) (by omega) (by omega)) (by omega) (by omega)) (by omega) (by omega)) (by omega) (by omega)) (by omega) (by omega)) (by omega) (by omega)) (by omega) (by omega)) (by omega) (by omega)
  refine e.trans ?_
  simp only [num]
  omega

theorem number_any (v : Value) (l : List UInt8) (w : World) (h : Row w v (bvs l)) (hl : l.length ≤ 8) :
    Calls Try.prog 20 #[v] w fun e w' => e = .returned (.int .u64 ((num l : Nat) : Int)) ∧ w = w' := by
  obtain ⟨A, cap, rfl, h1, h2, _, h3⟩ := h
  rw [bvs_length]
  match l, hl, h3 with
  | [], _, _ => exact number_0 A cap w
  | [c0], _, h3 =>
    obtain ⟨b, off, rfl, _, hc⟩ := h3 (by simp [bvs])
    exact number_1 b off cap c0 w (hc 0 _ rfl)
  | [c0, c1], _, h3 =>
    obtain ⟨b, off, rfl, _, hc⟩ := h3 (by simp [bvs])
    exact number_2 b off cap c0 c1 w (hc 0 _ rfl) (hc 1 _ rfl)
  | [c0, c1, c2], _, h3 =>
    obtain ⟨b, off, rfl, _, hc⟩ := h3 (by simp [bvs])
    exact number_3 b off cap c0 c1 c2 w (hc 0 _ rfl) (hc 1 _ rfl) (hc 2 _ rfl)
  | [c0, c1, c2, c3], _, h3 =>
    obtain ⟨b, off, rfl, _, hc⟩ := h3 (by simp [bvs])
    exact number_4 b off cap c0 c1 c2 c3 w (hc 0 _ rfl) (hc 1 _ rfl) (hc 2 _ rfl) (hc 3 _ rfl)
  | [c0, c1, c2, c3, c4], _, h3 =>
    obtain ⟨b, off, rfl, _, hc⟩ := h3 (by simp [bvs])
    exact number_5 b off cap c0 c1 c2 c3 c4 w (hc 0 _ rfl) (hc 1 _ rfl) (hc 2 _ rfl) (hc 3 _ rfl) (hc 4 _ rfl)
  | [c0, c1, c2, c3, c4, c5], _, h3 =>
    obtain ⟨b, off, rfl, _, hc⟩ := h3 (by simp [bvs])
    exact number_6 b off cap c0 c1 c2 c3 c4 c5 w (hc 0 _ rfl) (hc 1 _ rfl) (hc 2 _ rfl) (hc 3 _ rfl) (hc 4 _ rfl) (hc 5 _ rfl)
  | [c0, c1, c2, c3, c4, c5, c6], _, h3 =>
    obtain ⟨b, off, rfl, _, hc⟩ := h3 (by simp [bvs])
    exact number_7 b off cap c0 c1 c2 c3 c4 c5 c6 w (hc 0 _ rfl) (hc 1 _ rfl) (hc 2 _ rfl) (hc 3 _ rfl) (hc 4 _ rfl) (hc 5 _ rfl) (hc 6 _ rfl)
  | [c0, c1, c2, c3, c4, c5, c6, c7], _, h3 =>
    obtain ⟨b, off, rfl, _, hc⟩ := h3 (by simp [bvs])
    exact number_8 b off cap c0 c1 c2 c3 c4 c5 c6 c7 w (hc 0 _ rfl) (hc 1 _ rfl) (hc 2 _ rfl) (hc 3 _ rfl) (hc 4 _ rfl) (hc 5 _ rfl) (hc 6 _ rfl) (hc 7 _ rfl)
  | _ :: _ :: _ :: _ :: _ :: _ :: _ :: _ :: _ :: _, hl, _ => simp at hl

/-! ### setNumber -/
theorem le_mod (v : Nat) : ((UInt8.ofNat (v % 256)).toNat : Int) = (v : Int) % 256 := by simp

set_option maxHeartbeats 400000 in
theorem set_0 (cap v : Nat) (A : Option Addr) (w : World)  :
    Calls Try.prog 19 #[.slice A 0 cap, .int .u64 v] w fun e w' => e = .returned (.tuple #[]) ∧ w' = w := by
  go_enter Try.func19, Try.ntmps19
  go_wp2
  go_end0
  exact ⟨rfl, rfl⟩

set_option maxHeartbeats 400000 in
theorem set_1 (g off cap v : Nat) (w : World) (hv : v < 18446744073709551616) (c0 : Value) (h0 : w.cell? ⟨g, off, none⟩ = some c0) (hf : ∀ i, w.frozen? ⟨g, i, none⟩ = false) :
    Calls Try.prog 19 #[.slice (some ⟨g, off, none⟩) 1 cap, .int .u64 v] w fun e w' => e = .returned (.tuple #[]) ∧ w' = wr w g off (bvs (le v 1)) := by
  go_enter Try.func19, Try.ntmps19
  go_wp2
  go_end0
  refine ⟨rfl, ?_⟩
  simp only [bvs, le, List.map_cons, List.map_nil, wr, bv, Nat.add_assoc, Nat.reduceAdd, Nat.div_div_eq_div_mul, Nat.reduceMul, le_mod, Int.natCast_ediv, Int.cast_ofNat_Int]

set_option maxHeartbeats 400000 in
theorem set_2 (g off cap v : Nat) (w : World) (hv : v < 18446744073709551616) (c0 : Value) (h0 : w.cell? ⟨g, off, none⟩ = some c0) (c1 : Value) (h1 : w.cell? ⟨g, off + 1, none⟩ = some c1) (hf : ∀ i, w.frozen? ⟨g, i, none⟩ = false) :
    Calls Try.prog 19 #[.slice (some ⟨g, off, none⟩) 2 cap, .int .u64 v] w fun e w' => e = .returned (.tuple #[]) ∧ w' = wr w g off (bvs (le v 2)) := by
  go_enter Try.func19, Try.ntmps19
  go_wp2
  go_end0
  refine ⟨rfl, ?_⟩
  simp only [bvs, le, List.map_cons, List.map_nil, wr, bv, Nat.add_assoc, Nat.reduceAdd, Nat.div_div_eq_div_mul, Nat.reduceMul, le_mod, Int.natCast_ediv, Int.cast_ofNat_Int]

set_option maxHeartbeats 400000 in
theorem set_3 (g off cap v : Nat) (w : World) (hv : v < 18446744073709551616) (c0 : Value) (h0 : w.cell? ⟨g, off, none⟩ = some c0) (c1 : Value) (h1 : w.cell? ⟨g, off + 1, none⟩ = some c1) (c2 : Value) (h2 : w.cell? ⟨g, off + 2, none⟩ = some c2) (hf : ∀ i, w.frozen? ⟨g, i, none⟩ = false) :
    Calls Try.prog 19 #[.slice (some ⟨g, off, none⟩) 3 cap, .int .u64 v] w fun e w' => e = .returned (.tuple #[]) ∧ w' = wr w g off (bvs (le v 3)) := by
  go_enter Try.func19, Try.ntmps19
  go_wp2
  go_end0
  refine ⟨rfl, ?_⟩
  simp only [bvs, le, List.map_cons, List.map_nil, wr, bv, Nat.add_assoc, Nat.reduceAdd, Nat.div_div_eq_div_mul, Nat.reduceMul, le_mod, Int.natCast_ediv, Int.cast_ofNat_Int]

set_option maxHeartbeats 400000 in
theorem set_4 (g off cap v : Nat) (w : World) (hv : v < 18446744073709551616) (c0 : Value) (h0 : w.cell? ⟨g, off, none⟩ = some c0) (c1 : Value) (h1 : w.cell? ⟨g, off + 1, none⟩ = some c1) (c2 : Value) (h2 : w.cell? ⟨g, off + 2, none⟩ = some c2) (c3 : Value) (h3 : w.cell? ⟨g, off + 3, none⟩ = some c3) (hf : ∀ i, w.frozen? ⟨g, i, none⟩ = false) :
    Calls Try.prog 19 #[.slice (some ⟨g, off, none⟩) 4 cap, .int .u64 v] w fun e w' => e = .returned (.tuple #[]) ∧ w' = wr w g off (bvs (le v 4)) := by
  go_enter Try.func19, Try.ntmps19
  go_wp2
  go_end0
  refine ⟨rfl, ?_⟩
  simp only [bvs, le, List.map_cons, List.map_nil, wr, bv, Nat.add_assoc, Nat.reduceAdd, Nat.div_div_eq_div_mul, Nat.reduceMul, le_mod, Int.natCast_ediv, Int.cast_ofNat_Int]

set_option maxHeartbeats 400000 in
theorem set_5 (g off cap v : Nat) (w : World) (hv : v < 18446744073709551616) (c0 : Value) (h0 : w.cell? ⟨g, off, none⟩ = some c0) (c1 : Value) (h1 : w.cell? ⟨g, off + 1, none⟩ = some c1) (c2 : Value) (h2 : w.cell? ⟨g, off + 2, none⟩ = some c2) (c3 : Value) (h3 : w.cell? ⟨g, off + 3, none⟩ = some c3) (c4 : Value) (h4 : w.cell? ⟨g, off + 4, none⟩ = some c4) (hf : ∀ i, w.frozen? ⟨g, i, none⟩ = false) :
    Calls Try.prog 19 #[.slice (some ⟨g, off, none⟩) 5 cap, .int .u64 v] w fun e w' => e = .returned (.tuple #[]) ∧ w' = wr w g off (bvs (le v 5)) := by
  go_enter Try.func19, Try.ntmps19
  go_wp2
  go_end0
  refine ⟨rfl, ?_⟩
  simp only [bvs, le, List.map_cons, List.map_nil, wr, bv, Nat.add_assoc, Nat.reduceAdd, Nat.div_div_eq_div_mul, Nat.reduceMul, le_mod, Int.natCast_ediv, Int.cast_ofNat_Int]

set_option maxHeartbeats 400000 in
theorem set_6 (g off cap v : Nat) (w : World) (hv : v < 18446744073709551616) (c0 : Value) (h0 : w.cell? ⟨g, off, none⟩ = some c0) (c1 : Value) (h1 : w.cell? ⟨g, off + 1, none⟩ = some c1) (c2 : Value) (h2 : w.cell? ⟨g, off + 2, none⟩ = some c2) (c3 : Value) (h3 : w.cell? ⟨g, off + 3, none⟩ = some c3) (c4 : Value) (h4 : w.cell? ⟨g, off + 4, none⟩ = some c4) (c5 : Value) (h5 : w.cell? ⟨g, off + 5, none⟩ = some c5) (hf : ∀ i, w.frozen? ⟨g, i, none⟩ = false) :
    Calls Try.prog 19 #[.slice (some ⟨g, off, none⟩) 6 cap, .int .u64 v] w fun e w' => e = .returned (.tuple #[]) ∧ w' = wr w g off (bvs (le v 6)) := by
  go_enter Try.func19, Try.ntmps19
  go_wp2
  go_end0
  refine ⟨rfl, ?_⟩
  simp only [bvs, le, List.map_cons, List.map_nil, wr, bv, Nat.add_assoc, Nat.reduceAdd, Nat.div_div_eq_div_mul, Nat.reduceMul, le_mod, Int.natCast_ediv, Int.cast_ofNat_Int]

set_option maxHeartbeats 400000 in
theorem set_7 (g off cap v : Nat) (w : World) (hv : v < 18446744073709551616) (c0 : Value) (h0 : w.cell? ⟨g, off, none⟩ = some c0) (c1 : Value) (h1 : w.cell? ⟨g, off + 1, none⟩ = some c1) (c2 : Value) (h2 : w.cell? ⟨g, off + 2, none⟩ = some c2) (c3 : Value) (h3 : w.cell? ⟨g, off + 3, none⟩ = some c3) (c4 : Value) (h4 : w.cell? ⟨g, off + 4, none⟩ = some c4) (c5 : Value) (h5 : w.cell? ⟨g, off + 5, none⟩ = some c5) (c6 : Value) (h6 : w.cell? ⟨g, off + 6, none⟩ = some c6) (hf : ∀ i, w.frozen? ⟨g, i, none⟩ = false) :
    Calls Try.prog 19 #[.slice (some ⟨g, off, none⟩) 7 cap, .int .u64 v] w fun e w' => e = .returned (.tuple #[]) ∧ w' = wr w g off (bvs (le v 7)) := by
  go_enter Try.func19, Try.ntmps19
  go_wp2
  go_end0
  refine ⟨rfl, ?_⟩
  simp only [bvs, le, List.map_cons, List.map_nil, wr, bv, Nat.add_assoc, Nat.reduceAdd, Nat.div_div_eq_div_mul, Nat.reduceMul, le_mod, Int.natCast_ediv, Int.cast_ofNat_Int]

set_option maxHeartbeats 400000 in
theorem set_8 (g off cap v : Nat) (w : World) (hv : v < 18446744073709551616) (c0 : Value) (h0 : w.cell? ⟨g, off, none⟩ = some c0) (c1 : Value) (h1 : w.cell? ⟨g, off + 1, none⟩ = some c1) (c2 : Value) (h2 : w.cell? ⟨g, off + 2, none⟩ = some c2) (c3 : Value) (h3 : w.cell? ⟨g, off + 3, none⟩ = some c3) (c4 : Value) (h4 : w.cell? ⟨g, off + 4, none⟩ = some c4) (c5 : Value) (h5 : w.cell? ⟨g, off + 5, none⟩ = some c5) (c6 : Value) (h6 : w.cell? ⟨g, off + 6, none⟩ = some c6) (c7 : Value) (h7 : w.cell? ⟨g, off + 7, none⟩ = some c7) (hf : ∀ i, w.frozen? ⟨g, i, none⟩ = false) :
    Calls Try.prog 19 #[.slice (some ⟨g, off, none⟩) 8 cap, .int .u64 v] w fun e w' => e = .returned (.tuple #[]) ∧ w' = wr w g off (bvs (le v 8)) := by
  go_enter Try.func19, Try.ntmps19
  go_wp2
  go_end0
  refine ⟨rfl, ?_⟩
  simp only [bvs, le, List.map_cons, List.map_nil, wr, bv, Nat.add_assoc, Nat.reduceAdd, Nat.div_div_eq_div_mul, Nat.reduceMul, le_mod, Int.natCast_ediv, Int.cast_ofNat_Int]
  rw [show (v : Int) / 72057594037927936 % 256 = (v : Int) / 72057594037927936 by omega]

theorem setNumber_any (g off n cap v : Nat) (t : TypeId) (cs : List Value) (w : World) (hv : v < 18446744073709551616) (hn : n ≤ 8) (hb : Blk w g t cs) (hl : off + n ≤ cs.length) :
    Calls Try.prog 19 #[.slice (some ⟨g, off, none⟩) n cap, .int .u64 v] w fun e w' => e = .returned (.tuple #[]) ∧ w' = wr w g off (bvs (le v n)) := by
  have hf := hb.frozen
  have hc : ∀ i, i < cs.length → ∃ c, w.cell? ⟨g, i, none⟩ = some c := fun i hi => ⟨cs[i], by rw [hb.cell, List.getElem?_eq_getElem hi]⟩
  match n, hn, hl with
  | 0, _, _ => exact set_0 cap v (some ⟨g, off, none⟩) w
  | 1, _, hl =>
    obtain ⟨c0, h0⟩ := hc (off) (by omega)
    exact set_1 g off cap v w hv c0 h0 hf
  | 2, _, hl =>
    obtain ⟨c0, h0⟩ := hc (off) (by omega)
    obtain ⟨c1, h1⟩ := hc (off + 1) (by omega)
    exact set_2 g off cap v w hv c0 h0 c1 h1 hf
  | 3, _, hl =>
    obtain ⟨c0, h0⟩ := hc (off) (by omega)
    obtain ⟨c1, h1⟩ := hc (off + 1) (by omega)
    obtain ⟨c2, h2⟩ := hc (off + 2) (by omega)
    exact set_3 g off cap v w hv c0 h0 c1 h1 c2 h2 hf
  | 4, _, hl =>
    obtain ⟨c0, h0⟩ := hc (off) (by omega)
    obtain ⟨c1, h1⟩ := hc (off + 1) (by omega)
    obtain ⟨c2, h2⟩ := hc (off + 2) (by omega)
    obtain ⟨c3, h3⟩ := hc (off + 3) (by omega)
    exact set_4 g off cap v w hv c0 h0 c1 h1 c2 h2 c3 h3 hf
  | 5, _, hl =>
    obtain ⟨c0, h0⟩ := hc (off) (by omega)
    obtain ⟨c1, h1⟩ := hc (off + 1) (by omega)
    obtain ⟨c2, h2⟩ := hc (off + 2) (by omega)
    obtain ⟨c3, h3⟩ := hc (off + 3) (by omega)
    obtain ⟨c4, h4⟩ := hc (off + 4) (by omega)
    exact set_5 g off cap v w hv c0 h0 c1 h1 c2 h2 c3 h3 c4 h4 hf
  | 6, _, hl =>
    obtain ⟨c0, h0⟩ := hc (off) (by omega)
    obtain ⟨c1, h1⟩ := hc (off + 1) (by omega)
    obtain ⟨c2, h2⟩ := hc (off + 2) (by omega)
    obtain ⟨c3, h3⟩ := hc (off + 3) (by omega)
    obtain ⟨c4, h4⟩ := hc (off + 4) (by omega)
    obtain ⟨c5, h5⟩ := hc (off + 5) (by omega)
    exact set_6 g off cap v w hv c0 h0 c1 h1 c2 h2 c3 h3 c4 h4 c5 h5 hf
  | 7, _, hl =>
    obtain ⟨c0, h0⟩ := hc (off) (by omega)
    obtain ⟨c1, h1⟩ := hc (off + 1) (by omega)
    obtain ⟨c2, h2⟩ := hc (off + 2) (by omega)
    obtain ⟨c3, h3⟩ := hc (off + 3) (by omega)
    obtain ⟨c4, h4⟩ := hc (off + 4) (by omega)
    obtain ⟨c5, h5⟩ := hc (off + 5) (by omega)
    obtain ⟨c6, h6⟩ := hc (off + 6) (by omega)
    exact set_7 g off cap v w hv c0 h0 c1 h1 c2 h2 c3 h3 c4 h4 c5 h5 c6 h6 hf
  | 8, _, hl =>
    obtain ⟨c0, h0⟩ := hc (off) (by omega)
    obtain ⟨c1, h1⟩ := hc (off + 1) (by omega)
    obtain ⟨c2, h2⟩ := hc (off + 2) (by omega)
    obtain ⟨c3, h3⟩ := hc (off + 3) (by omega)
    obtain ⟨c4, h4⟩ := hc (off + 4) (by omega)
    obtain ⟨c5, h5⟩ := hc (off + 5) (by omega)
    obtain ⟨c6, h6⟩ := hc (off + 6) (by omega)
    obtain ⟨c7, h7⟩ := hc (off + 7) (by omega)
    exact set_8 g off cap v w hv c0 h0 c1 h1 c2 h2 c3 h3 c4 h4 c5 h5 c6 h6 c7 h7 hf
  | n + 9, hn, _ => omega

end Go.Proofs.Ytofimimnjfhmfaa
