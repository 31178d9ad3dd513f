/-
  What package octet's functions answer and leave, as contracts over the whole program: Put, Take, Text, TakeText, and bytes.Clone. No statement is proved here; each contract names its own conditions.
-/
import Derived.Test.YtofimimnjfhmfaaOctA
namespace Go.Proofs.Ytofimimnjfhmfaa
open Go.RowKit
set_option linter.unusedSimpArgs false
set_option linter.unusedVariables false

theorem info_u8 : (Try.prog.info? 5).map (fun i => (i.zero, i.size, i.bytes)) = some (some (.int .u8 0), 1, 1) := by kernel_rfl

theorem put_zero {w : World} {g : Nat} {t : TypeId} {l : List UInt8} {v : Nat} {z : Value} (h : Blk w g t (splice (List.replicate l.length z) 0 (bvs l))) : Blk w g t (bvs (l ++ le v 0)) := by
  have e : splice (List.replicate l.length z) 0 (bvs l) = bvs (l ++ le v 0) := by simp [splice, bvs, le]
  rwa [e] at h
theorem put_some {w w3 : World} {g : Nat} {t : TypeId} {l : List UInt8} {v : Nat} (k : Nat) {z : Value} (h : Blk w g t (splice (List.replicate (l.length + k) z) 0 (bvs l)))
    (hw : w3 = wr w g l.length (bvs (le v k))) : Blk w3 g t (bvs (l ++ le v k)) := by
  subst hw
  have h1 := wr_blk h (bvs (le v k)) l.length (by simp [splice, bvs, le_length])
  have e : splice (splice (List.replicate (l.length + k) z) 0 (bvs l)) l.length (bvs (le v k)) = bvs (l ++ le v k) := by
    have hl : (bvs l).length = l.length := bvs_length l
    simp only [splice, List.take_zero, List.nil_append, Nat.zero_add, hl, List.drop_replicate]
    rw [List.take_append_of_le_length (by omega), List.take_of_length_le (by omega), bvs_append]
    congr 1
    rw [List.drop_append, List.drop_eq_nil_of_le (by omega), List.nil_append, List.drop_eq_nil_of_le (by simp [bvs, le_length]), List.append_nil]
  rwa [e] at h1

set_option maxHeartbeats 400000 in
theorem put_any (vb : Value) (l : List UInt8) (v k : Nat) (n : Int) (w : World) (h : Row w vb (bvs l)) (hl : l.length ≤ 1048576) (hv : v < 18446744073709551616)
    (hk : (n < 0 ∧ k = 0) ∨ (8 < n ∧ k = 8) ∨ (n = k ∧ k ≤ 8)) :
    Calls Try.prog 10 #[vb, .int .u64 v, .int .i64 n] w fun e w' => ∃ g, w.heap.size ≤ g ∧ e = .returned (.slice (some ⟨g, 0, none⟩) (l.length + k) (l.length + k)) ∧
      Blk w' g 5 (bvs (l ++ le v k)) ∧ Below w.heap.size w w' := by
  have HR := Lib.hid h
  obtain ⟨A, cap, rfl, h1, h2, h0, h3⟩ := h
  obtain ⟨i0, hi0, hz0, hz1, hz2⟩ := info_parts info_u8
  rw [bvs_length] at h1 HR ⊢
  clear h3
  have hsz1 : (Try.prog.info? 5).map (·.size) = some 1 := by rw [hi0]; simp [hz1]
  rcases hk with ⟨hn, rfl⟩ | ⟨hn, rfl⟩ | ⟨rfl, hk⟩
  · go_enter Try.func10, Try.ntmps10
    go_wp2_with (first
      | (at_make; refine wpList_mk _ rfl _ _ _ rfl 5 i0 (.int .u8 0) Try.underlying22 hi0 hz0 hz1 rfl (l.length) _ _ _ _ rfl rfl (by omega) (by omega) (by rw [hz2]; omega) (by omega) ?_; intro w1 hb1 hB1 hs1; have HB1 := Lib.hid hb1; clear hb1)
      | ((with_reducible refine atDst 18 ?_); refine wpList_cp rfl (.tmp 16) (.tmp 17) 22 22 rfl 5 Try.underlying22 hsz1 w.heap.size 0 _ _ rfl 5 _ HB1.out _ (bvs l) rfl (HR.out.below hB1) (by rw [bvs_length]; omega) (by rw [bvs_length, List.length_replicate]; omega) (bvs_one l) w.heap.size w hB1 (Nat.le_refl _) ?_; intro w2 hb2 hB2 hs2; have HB2 := Lib.hid hb2; clear hb2))
    refine (set_0 _ v _ w2).mono ?_
    rintro e w3 ⟨rfl, rfl⟩
    go_wp2
    go_ret
    exact ⟨w.heap.size, Nat.le_refl _, rfl, put_zero HB2.out, hB2⟩
  · go_enter Try.func10, Try.ntmps10
    go_wp2_with (first
      | (at_make; refine wpList_mk _ rfl _ _ _ rfl 5 i0 (.int .u8 0) Try.underlying22 hi0 hz0 hz1 rfl (l.length + 8) _ _ _ _ rfl rfl (by omega) (by omega) (by rw [hz2]; omega) (by omega) ?_; intro w1 hb1 hB1 hs1; have HB1 := Lib.hid hb1; clear hb1)
      | ((with_reducible refine atDst 18 ?_); refine wpList_cp rfl (.tmp 16) (.tmp 17) 22 22 rfl 5 Try.underlying22 hsz1 w.heap.size 0 _ _ rfl 5 _ HB1.out _ (bvs l) rfl (HR.out.below hB1) (by rw [bvs_length]; omega) (by rw [bvs_length, List.length_replicate]; omega) (bvs_one l) w.heap.size w hB1 (Nat.le_refl _) ?_; intro w2 hb2 hB2 hs2; have HB2 := Lib.hid hb2; clear hb2))
    refine (setNumber_any _ _ _ _ v _ _ _ hv (by omega) HB2.out (by rw [length_splice _ _ _ (by simp [bvs])]; simp)).mono ?_
    rintro e w3 ⟨rfl, hw3⟩
    have HW := Lib.hid hw3
    clear hw3
    go_wp2
    go_ret
    exact ⟨w.heap.size, Nat.le_refl _, rfl, put_some (8) HB2.out HW.out, by rw [HW.out]; exact wr_below hB2 (Nat.le_refl _) _ _⟩
  · go_enter Try.func10, Try.ntmps10
    go_wp2_with (first
      | (at_make; refine wpList_mk _ rfl _ _ _ rfl 5 i0 (.int .u8 0) Try.underlying22 hi0 hz0 hz1 rfl (l.length + k) _ _ _ _ rfl rfl (by omega) (by omega) (by rw [hz2]; omega) (by omega) ?_; intro w1 hb1 hB1 hs1; have HB1 := Lib.hid hb1; clear hb1)
      | ((with_reducible refine atDst 18 ?_); refine wpList_cp rfl (.tmp 16) (.tmp 17) 22 22 rfl 5 Try.underlying22 hsz1 w.heap.size 0 _ _ rfl 5 _ HB1.out _ (bvs l) rfl (HR.out.below hB1) (by rw [bvs_length]; omega) (by rw [bvs_length, List.length_replicate]; omega) (bvs_one l) w.heap.size w hB1 (Nat.le_refl _) ?_; intro w2 hb2 hB2 hs2; have HB2 := Lib.hid hb2; clear hb2))
    · refine (set_0 _ v _ w2).mono ?_
      rintro e w3 ⟨rfl, rfl⟩
      go_wp2
      go_ret
      have hk0 : k = 0 := by assumption
      subst hk0
      exact ⟨w.heap.size, Nat.le_refl _, rfl, put_zero HB2.out, hB2⟩
    · refine (setNumber_any _ _ _ _ v _ _ _ hv (hk) HB2.out (by rw [length_splice _ _ _ (by simp [bvs])]; simp)).mono ?_
      rintro e w3 ⟨rfl, hw3⟩
      have HW := Lib.hid hw3
      clear hw3
      go_wp2
      go_ret
      exact ⟨w.heap.size, Nat.le_refl _, rfl, put_some (k) HB2.out HW.out, by rw [HW.out]; exact wr_below hB2 (Nat.le_refl _) _ _⟩

end Go.Proofs.Ytofimimnjfhmfaa
