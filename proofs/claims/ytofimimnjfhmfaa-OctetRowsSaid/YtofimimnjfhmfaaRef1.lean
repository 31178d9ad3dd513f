/-
  What the document's answer says of Put and Text, as contracts over the whole program. No statement is proved here; each contract names its own conditions.
-/
import Derived.Test.YtofimimnjfhmfaaTwin
import Derived.Test.YtofimimnjfhmfaaLawK
namespace Go.Proofs.Ytofimimnjfhmfaa
open Go.RowKit
set_option linter.unusedSimpArgs false
set_option linter.unusedVariables false

theorem le_snoc (v n : Nat) : le v (n + 1) = le v n ++ [UInt8.ofNat (v / 256 ^ n % 256)] := by
  induction n generalizing v with
  | zero => simp [le]
  | succ n ih =>
    rw [le, ih (v / 256), le, List.cons_append, Nat.div_div_eq_div_mul, ← Nat.pow_succ']
theorem bv_mod (x : Nat) : bv (UInt8.ofNat (x % 256)) = .int .u8 ((x : Int) % 256) := by simp [bv]

theorem div_next {x v j : Nat} (h : x = v / 256 ^ j) : (x : Int) / 256 = ((v / 256 ^ (j + 1) : Nat) : Int) := by
  rw [Nat.pow_succ, ← Nat.div_div_eq_div_mul, ← h]
  rfl
theorem put_next {w0 w : World} {b : List UInt8} {v x j : Nat} {val : Value} (hx : x = v / 256 ^ j) (h : w.ownsRow w0.heap.size 5 1 val (b.length + j + 1) (bvs (b ++ le v j) ++ [.int .u8 ((x : Int) % 256)])) :
    w.ownsRow w0.heap.size 5 1 val (b.length + (j + 1)) (bvs (b ++ le v (j + 1))) := by
  rw [le_snoc, ← hx, ← List.append_assoc, bvs_append (b ++ le v j)]
  have e : bvs [UInt8.ofNat (x % 256)] = [.int .u8 ((x : Int) % 256)] := by simp [bvs, bv]
  rw [e]
  exact h

set_option maxHeartbeats 1000000 in
theorem refPut_any (vb : Value) (b : List UInt8) (v k : Nat) (n : Int) (w : World) (h : Row w vb (bvs b)) (hl : b.length ≤ 1048576) (hv : v < 18446744073709551616)
    (hk : (n < 0 ∧ k = 0) ∨ (8 < n ∧ k = 8) ∨ (n = k ∧ k ≤ 8)) :
    Calls Try.prog 12 #[vb, .int .u64 v, .int .i64 n] w fun e w' => ∃ v', e = .returned v' ∧
      w'.ownsRow w.heap.size 5 1 v' (b.length + k) (bvs (b ++ le v k)) ∧ Below w.heap.size w w' := by
  have HR := Lib.hid h
  obtain ⟨A, cap, rfl, h1, h2, h0, h3⟩ := h
  obtain ⟨i0, hi0, hz0, hz1, hz2⟩ := info_parts info_u8
  rw [bvs_length] at h1 HR ⊢
  clear h3 h0
  have BL := Lib.hid (bvs_length b)
  have hk8 : k ≤ 8 := by omega
  have HK := Lib.hid hk
  clear hk
  go_enter Try.func12, Try.ntmps12
  have HO := Lib.hid (World.ownsRow_made (base := w.heap.size) (e := 5) (size := 1) w #[] 0 (Nat.le_refl _) (by unfold maxLen; omega) (by simp))
  have hA : Below w.heap.size w (w.alloc (.cells #[] 5)) := (Below.refl _ _).alloc (Nat.le_refl _) _
  go_wp2_with ((with_reducible refine atDst 11 ?_); refine wpList_app rfl (.tmp 9) (.tmp 10) 22 rfl w.heap.size 5 i0 (.int .u8 0) 1 Try.underlying22 hi0 hz0 hz1 hz2 rfl _ _ _ rfl HO.out _ (bvs b) rfl (HR.out.below hA) (bvs_one _) (by rw [BL.out]; unfold maxLen; omega) (by rw [BL.out]; omega) hA.size ?_; intro v1 w1 ho1 hg1; have O1 := Lib.hid ho1; clear ho1; have hB1 := hA.grown hg1 hA.size (fun k hk => by have hk' : some w.heap.size = some k := hk; injection hk' with hk'; omega))
  have O2 : w1.ownsRow w.heap.size 5 1 v1 (b.length + 0) (bvs (b ++ le v 0)) := by
    have := O1.out
    rw [BL.out, Nat.zero_add, List.nil_append] at this
    simpa [le] using this
  clear O1 hg1 HO hA HR
  go_loopw [1, 7, 8] (fun vv out i wr => ∃ j : Nat, j ≤ k ∧ i = .int .i64 (j : Int) ∧ vv = .int .u64 ((v / 256 ^ j : Nat) : Int) ∧ wr.ownsRow w.heap.size 5 1 out (b.length + j) (bvs (b ++ le v j)) ∧ Below w.heap.size w wr) (fun _ _ i _ => k - (intOf i).toNat)
  case atStart => exact ⟨0, by omega, by simp, by simp, O2, hB1⟩
  case round =>
    clear O2 hB1
    obtain ⟨j, hj, rfl, rfl, ho, hB⟩ := hrel
    have HO := Lib.hid ho
    clear ho
    obtain ⟨x, hx⟩ : ∃ x, x = v / 256 ^ j := ⟨_, rfl⟩
    have hxv : x ≤ v := by rw [hx]; exact Nat.div_le_self _ _
    rw [← hx]
    have HX := Lib.hid hx
    clear hx
    by_cases hjk : j < k
    · have HN := Lib.hid (row_new (w := wr) (t := 5) [.int .u8 ((x : Int) % 256)] (by simp [maxLen]))
      rcases HK.out with ⟨hn, hk0⟩ | ⟨hn, hk0⟩ | ⟨hn, hk0⟩
      · omega
      · have i1 : (j : Int) < 8 := by omega
        clear HK hk0
        go_wp2_with ((with_reducible refine atDst 24 ?_); refine wpList_app rfl (.tmp 19) (.tmp 23) 22 rfl w.heap.size 5 i0 (.int .u8 0) 1 Try.underlying22 hi0 hz0 hz1 hz2 rfl _ _ _ rfl (HO.out.alloc _) _ [.int .u8 ((x : Int) % 256)] rfl HN.out (by simp [Value.oneCell']) (by unfold maxLen; simp; omega) (by simp; omega) (by have := hB.size; simp; omega) ?_; intro v2 w2 ho2 hg2; have O2 := Lib.hid ho2; clear ho2)
        exact ⟨⟨j + 1, by omega, by congr 1, congrArg (Value.int .u64) (div_next HX.out), put_next HX.out O2.out, (hB.alloc hB.size _).grown hg2 (by have := hB.size; simp; omega) (fun q hq => (HO.out.lt q hq).1)⟩, by simp [intOf] <;> omega⟩
      · have n1 : ¬ n < 0 := by omega
        have n2 : ¬ 8 < n := by omega
        have i1 : (j : Int) < n := by omega
        clear HK hn
        go_wp2_with ((with_reducible refine atDst 24 ?_); refine wpList_app rfl (.tmp 19) (.tmp 23) 22 rfl w.heap.size 5 i0 (.int .u8 0) 1 Try.underlying22 hi0 hz0 hz1 hz2 rfl _ _ _ rfl (HO.out.alloc _) _ [.int .u8 ((x : Int) % 256)] rfl HN.out (by simp [Value.oneCell']) (by unfold maxLen; simp; omega) (by simp; omega) (by have := hB.size; simp; omega) ?_; intro v2 w2 ho2 hg2; have O2 := Lib.hid ho2; clear ho2)
        exact ⟨⟨j + 1, by omega, by congr 1, congrArg (Value.int .u64) (div_next HX.out), put_next HX.out O2.out, (hB.alloc hB.size _).grown hg2 (by have := hB.size; simp; omega) (fun q hq => (HO.out.lt q hq).1)⟩, by simp [intOf] <;> omega⟩
    · obtain rfl : j = k := by omega
      rcases HK.out with ⟨hn, hk0⟩ | ⟨hn, hk0⟩ | ⟨hn, hk0⟩
      · have i1 : ¬ ((j : Int) < 0) := by omega
        clear HK hk0
        go_wp2
        go_ret
        exact ⟨_, rfl, HO.out, hB⟩
      · have i1 : ¬ ((j : Int) < 8) := by omega
        clear HK hk0
        go_wp2
        go_ret
        exact ⟨_, rfl, HO.out, hB⟩
      · have n1 : ¬ n < 0 := by omega
        have n2 : ¬ 8 < n := by omega
        have i1 : ¬ ((j : Int) < n) := by omega
        clear HK hn
        go_wp2
        go_ret
        exact ⟨_, rfl, HO.out, hB⟩

set_option maxHeartbeats 400000 in
theorem refText_any (vb vs : Value) (l s : List UInt8) (w : World) (h : Row w vb (bvs l)) (hs : Row w vs (bvs s)) (hl : l.length ≤ 1048576) (hls : s.length ≤ 65535) :
    Calls Try.prog 13 #[vb, vs] w fun e w' => ∃ v', e = .returned v' ∧
      w'.ownsRow w.heap.size 5 1 v' (l.length + 2 + s.length) (bvs (l ++ le s.length 2 ++ s)) ∧ Below w.heap.size w w' := by
  obtain ⟨i0, hi0, hz0, hz1, hz2⟩ := info_parts info_u8
  have HR := Lib.hid h
  have HS := Lib.hid hs
  obtain ⟨A, cap, rfl, h1, h2, h0, h3⟩ := hs
  clear h h3 h0
  rw [bvs_length] at h1 HS ⊢
  go_enter Try.func13, Try.ntmps13
  go_wp2_with fail
  refine (refPut_any vb l s.length 2 2 w HR.out hl (by omega) (.inr (.inr ⟨rfl, by omega⟩))).mono ?_
  rintro e w1 ⟨v1, rfl, ho1, hB1⟩
  have HO := Lib.hid ho1
  have HSL := Lib.hid (bvs_length s)
  have HW1 := hB1.size
  clear ho1
  go_wp2_with (((with_reducible refine atDst 11 ?_); refine wpList_app rfl (.tmp 9) (.tmp 10) 22 rfl w.heap.size 5 i0 (.int .u8 0) 1 Try.underlying22 hi0 hz0 hz1 hz2 rfl _ _ _ rfl HO.out _ (bvs s) rfl (HS.out.below hB1) (bvs_one s) (by rw [bvs_length]; unfold maxLen; omega) (by rw [bvs_length]; omega) HW1 ?_; intro v2 w2 ho2 hg2; have HO2 := Lib.hid ho2; clear ho2))
  go_ret
  refine ⟨v2, rfl, ?_, hB1.grown hg2 HW1 (fun k hk => (HO.out.lt k hk).1)⟩
  have := HO2.out
  rw [HSL.out, ← bvs_append] at this
  exact this
end Go.Proofs.Ytofimimnjfhmfaa
