/-
  What bits.OnesCount64 and package byteset (Len) answer and leave. No statement is proved here.
-/
import Derived.Test.YtaobeconjdeenaaDoorBsC
import Derived.Laws.Bits128
namespace Go.Proofs.YtaobeconjdeenaaDoor
open Go.RowKit
set_option linter.unusedSimpArgs false
set_option linter.unusedVariables false

theorem rep85 : rep 85 8 = 6148914691236517205 := by decide +kernel
theorem rep51 : rep 51 8 = 3689348814741910323 := by decide +kernel
theorem rep15 : rep 15 8 = 1085102592571150095 := by decide +kernel
theorem split8 (x : Nat) : ∃ y b, b < 256 ∧ x = 256 * y + b := ⟨x / 256, x % 256, Nat.mod_lt _ (by omega), by omega⟩
theorem S1_lt : ∀ n x : Nat, S1 n x ≤ rep 255 n
  | 0, x => by simp [S1, rep]
  | n + 1, x => by
    obtain ⟨y, b, hb, rfl⟩ := split8 x
    have k1 : s1 b < 256 := (f1 ⟨_, hb⟩ 0).2
    have := S1_lt n y
    rw [S1_step n _ _ hb]
    simp only [rep]
    omega
theorem S2_lt : ∀ n x : Nat, S2 n (S1 n x) ≤ rep 68 n
  | 0, x => by simp [S2, rep]
  | n + 1, x => by
    obtain ⟨y, b, hb, rfl⟩ := split8 x
    have k1 : s1 b < 256 := (f1 ⟨_, hb⟩ 0).2
    have k2 : s2 (s1 b) ≤ 68 := (f4 ⟨_, hb⟩).2.1
    have := S2_lt n y
    rw [S1_step n _ _ hb, S2_step n _ _ k1]
    simp only [rep]
    omega
theorem rep255 : rep 255 8 = 18446744073709551615 := by decide +kernel
theorem rep68 : rep 68 8 = 4919131752989213764 := by decide +kernel
theorem and_lit (a c : Nat) (ha : a < 18446744073709551616) (hc : c < 18446744073709551616) (C : Int) (hC : C = (c : Int)) : bits .and .u64 (a : Int) C = ((a &&& c : Nat) : Int) := by
  rw [hC]
  exact u64_and_nat a c ha hc
theorem wrapN (a : Nat) (h : a < 18446744073709551616) : IntKind.u64.wrap (a : Int) = (a : Int) := IntWalk.u64_in _ (by omega)

theorem low127 (u n : Nat) (h : u % 128 = n) : bits .and .i64 (wrap64 (u : Int)) 127 = (n : Int) := by
  rw [i64_and127]
  unfold wrap64
  rw [Int.emod_def ((u : Int) + 9223372036854775808)]
  generalize ((u : Int) + 9223372036854775808) / 18446744073709551616 = q
  omega
set_option maxHeartbeats 1000000 in
theorem ones_any (x : Nat) (hx : x < 18446744073709551616) (w : World) :
    Calls Tryd.prog 33 #[.int .u64 (x : Int)] w fun e w' => e = .returned (.int .i64 (popc 64 x : Int)) ∧ w' = w := by
  obtain ⟨x1, h1⟩ : ∃ x1, x1 = S1 8 x := ⟨_, rfl⟩
  obtain ⟨x2, h2⟩ : ∃ x2, x2 = S2 8 x1 := ⟨_, rfl⟩
  obtain ⟨x3, h3⟩ : ∃ x3, x3 = S3 8 x2 := ⟨_, rfl⟩
  obtain ⟨y, hy⟩ : ∃ y, y = x3 + x3 / 256 := ⟨_, rfl⟩
  obtain ⟨z, hz⟩ : ∃ z, z = y + y / 65536 := ⟨_, rfl⟩
  obtain ⟨u, hu⟩ : ∃ u, u = z + z / 4294967296 := ⟨_, rfl⟩
  obtain ⟨n, hn⟩ : ∃ n, n = popc 64 x := ⟨_, rfl⟩
  have l1 : x1 ≤ 18446744073709551615 := by rw [h1, ← rep255]; exact S1_lt 8 x
  have l2 : x2 ≤ 4919131752989213764 := by rw [h2, h1, ← rep68]; exact S2_lt 8 x
  have hs := sum64 x hx y z u (by rw [hy, h3, h2, h1]; rfl) hz hu
  have E1 : IntKind.u64.wrap (bits .and .u64 ((x : Int) / 2) 6148914691236517205 + bits .and .u64 (x : Int) 6148914691236517205) = (x1 : Int) := by
    rw [show (x : Int) / 2 = ((x / 2 : Nat) : Int) from by omega, and_lit (x / 2) 6148914691236517205 (by omega) (by omega) 6148914691236517205 rfl, and_lit x 6148914691236517205 hx (by omega) 6148914691236517205 rfl, ← rep85]
    rw [← Int.natCast_add, show (x / 2 &&& rep 85 8) + (x &&& rep 85 8) = x1 from h1.symm]
    exact wrapN x1 (by omega)
  have E2 : IntKind.u64.wrap (bits .and .u64 ((x1 : Int) / 4) 3689348814741910323 + bits .and .u64 (x1 : Int) 3689348814741910323) = (x2 : Int) := by
    rw [show (x1 : Int) / 4 = ((x1 / 4 : Nat) : Int) from by omega, and_lit (x1 / 4) 3689348814741910323 (by omega) (by omega) 3689348814741910323 rfl, and_lit x1 3689348814741910323 (by omega) (by omega) 3689348814741910323 rfl, ← rep51]
    rw [← Int.natCast_add, show (x1 / 4 &&& rep 51 8) + (x1 &&& rep 51 8) = x2 from h2.symm]
    exact wrapN x2 (by omega)
  have E3 : bits .and .u64 (IntKind.u64.wrap ((x2 : Int) / 16 + (x2 : Int))) 1085102592571150095 = (x3 : Int) := by
    rw [show (x2 : Int) / 16 + (x2 : Int) = ((x2 / 16 + x2 : Nat) : Int) from by omega, wrapN _ (by omega), and_lit (x2 / 16 + x2) 1085102592571150095 (by omega) (by omega) 1085102592571150095 rfl, ← rep15]
    rw [show (x2 / 16 + x2) &&& rep 15 8 = x3 from h3.symm]
  have E4 : IntKind.u64.wrap ((x3 : Int) + (x3 : Int) / 256) = (y : Int) := by
    rw [show (x3 : Int) + (x3 : Int) / 256 = (y : Int) from by omega]
    exact wrapN y hs.1
  have E5 : IntKind.u64.wrap ((y : Int) + (y : Int) / 65536) = (z : Int) := by
    rw [show (y : Int) + (y : Int) / 65536 = (z : Int) from by omega]
    exact wrapN z hs.2.1
  have E6 : IntKind.u64.wrap ((z : Int) + (z : Int) / 4294967296) = (u : Int) := by
    rw [show (z : Int) + (z : Int) / 4294967296 = (u : Int) from by omega]
    exact wrapN u hs.2.2.1
  have E7 : bits .and .i64 (wrap64 (u : Int)) 127 = (n : Int) := by
    have := hs.2.2.2
    rw [← hn] at this
    exact low127 u n this
  rw [← hn]
  clear hs hy hz hu hn h1 h2 h3 l1 l2 hx
  go_enter Tryd.func33, Tryd.ntmps33
  go_wp2_with fail
  go_ret
  exact ⟨rfl, rfl⟩

/-! ### Len -/
/-- How many bytes of a set stand in its words below j. -/
def lenW (p : Nat → Bool) : Nat → Nat
  | 0 => 0
  | j + 1 => lenW p j + popc 64 (word p j)
theorem popc_word (p : Nat → Bool) (i : Nat) : popc 64 (word p i) = ((List.range 64).filter fun j => p (64 * i + j)).length := by
  unfold popc
  congr 1
  apply List.filter_congr
  intro j hj
  have hj64 : j < 64 := List.mem_range.1 hj
  simp only [word, wd_bit]
  simp [hj64]
theorem lenW_eq (p : Nat → Bool) : ∀ j, lenW p j = ((List.range (64 * j)).filter p).length
  | 0 => rfl
  | j + 1 => by
    rw [lenW, lenW_eq p j, popc_word, Nat.mul_succ, List.range_add, List.filter_append, List.length_append, List.filter_map, List.length_map]
    rfl
theorem lenW_four (p : Nat → Bool) : lenW p 4 = (memJ p 256).length := by
  rw [lenW_eq]
  unfold memJ
  rw [List.length_map]
theorem lenW_le (p : Nat → Bool) (j : Nat) : lenW p j ≤ 64 * j := by
  rw [lenW_eq]
  refine Nat.le_trans (List.length_filter_le _ _) ?_
  simp
theorem idx0 (p : Nat → Bool) (w : World) : (Instr.index 24 (.agg (wds p).toArray) (.int .i64 0)).run Tryd.prog w = .ok (.int .u64 (word p 0 : Int)) w := by kernel_rfl
theorem idx1 (p : Nat → Bool) (w : World) : (Instr.index 24 (.agg (wds p).toArray) (.int .i64 1)).run Tryd.prog w = .ok (.int .u64 (word p 1 : Int)) w := by kernel_rfl
theorem idx2 (p : Nat → Bool) (w : World) : (Instr.index 24 (.agg (wds p).toArray) (.int .i64 2)).run Tryd.prog w = .ok (.int .u64 (word p 2 : Int)) w := by kernel_rfl
theorem idx3 (p : Nat → Bool) (w : World) : (Instr.index 24 (.agg (wds p).toArray) (.int .i64 3)).run Tryd.prog w = .ok (.int .u64 (word p 3 : Int)) w := by kernel_rfl
theorem idx_set (p : Nat → Bool) (j : Nat) (hj : j < 4) (w : World) : (Instr.index 24 (.agg (wds p).toArray) (.int .i64 (j : Int))).run Tryd.prog w = .ok (.int .u64 (word p j : Int)) w := by
  match j, hj with
  | 0, _ => exact idx0 p w
  | 1, _ => exact idx1 p w
  | 2, _ => exact idx2 p w
  | 3, _ => exact idx3 p w
set_option maxHeartbeats 2000000 in
set_option maxRecDepth 100000 in
theorem bsLen_any (p : Nat → Bool) (w : World) :
    Calls Tryd.prog 23 #[.agg (wds p).toArray] w fun e w' => e = .returned (.int .i64 ((memJ p 256).length : Int)) ∧ Below w.heap.size w w' := by
  obtain ⟨cs, hcs⟩ : ∃ cs, cs = wds p := ⟨_, rfl⟩
  have HCS := Lib.hid hcs
  have HSZ := Lib.hid (show (Tryd.prog.info? 24).map (·.size) = some cs.length by rw [hcs]; exact size_set p)
  have HG := Lib.hid (show ∀ (i : Nat) (_ : i < 4) (w : World), (Instr.index 24 (.agg cs.toArray) (.int .i64 (i : Int))).run Tryd.prog w = .ok (.int .u64 (word p i : Int)) w by rw [hcs]; exact idx_set p)
  have HF := Lib.hid (lenW_four p)
  rw [← hcs]
  clear hcs
  go_enter Tryd.func23, Tryd.ntmps23
  go_wp2_with (first
    | ((with_reducible refine atDst 1 ?_); refine wpList_box rfl 24 _ rfl cs rfl (Below.refl w.heap.size w) (Nat.le_refl _) ?_; intro w1 hk1 hb1 hs1 _; have K1 := Lib.hid hk1; have B1 := Lib.hid hb1; clear hk1 hb1 hs1)
    | ((with_reducible refine atDst 5 ?_); refine wpList_ldArr rfl 24 _ rfl w.heap.size rfl 24 _ _ K1.out Tryd.underlying24 rfl HSZ.out ?_))
  go_loopw [2, 6] (fun s i wl => ∃ j : Nat, j ≤ 4 ∧ i = .int .i64 (j : Int) ∧ s = .int .i64 (lenW p j : Int) ∧ Below w.heap.size w wl) (fun s i _ => 4 - (intOf i).toNat)
  case atStart => exact ⟨0, by omega, by simp, by simp [lenW], B1.out⟩
  case round =>
    obtain ⟨j, hj, rfl, rfl, hb⟩ := hrel
    have BR := Lib.hid hb
    clear hb
    by_cases hjl : j < 4
    · have j1 : (j : Int) < 4 := by omega
      have hcj := HG.out j hjl
      obtain ⟨x, hx⟩ : ∃ x, x = word p j := ⟨_, rfl⟩
      rw [← hx] at hcj
      have hlx : x < 18446744073709551616 := by rw [hx]; exact word_lt _ _
      have HN := Lib.hid (show lenW p j + popc 64 x = lenW p (j + 1) by rw [hx]; rfl)
      have hle := lenW_le p (j + 1)
      obtain ⟨n, hn⟩ : ∃ n, n = lenW p j := ⟨_, rfl⟩
      obtain ⟨m, hm⟩ : ∃ m, m = popc 64 x := ⟨_, rfl⟩
      rw [← hn, ← hm] at HN
      rw [← hn]
      have hwr : IntKind.i64.wrap ((n : Int) + (m : Int)) = ((n : Int) + (m : Int)) := IntWalk.i64_in _ (by have := HN.out; omega)
      have HON := Lib.hid (ones_any x hlx)
      rw [← hm] at HON
      have HLX := Lib.hid hlx
      clear hx hn hm hle hlx
      go_wp2_with fail
      refine (HON.out wr).mono ?_
      rintro e w2 ⟨rfl, rfl⟩
      go_wp2_with fail
      have h := HN.out
      exact ⟨⟨j + 1, by omega, by congr 1, by congr 1; omega, BR.out⟩, by simp [intOf] <;> omega⟩
    · obtain rfl : j = 4 := by omega
      have j1 : ¬ ((4 : Int) < 4) := by omega
      go_wp2_with fail
      go_ret
      rw [← HF.out]
      exact ⟨rfl, BR.out⟩
end Go.Proofs.YtaobeconjdeenaaDoor
