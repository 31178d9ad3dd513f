/-
  What Twin, Kept and Spoil answer and leave, as contracts over the whole program. No statement is proved here; each contract names its own conditions.
-/
import Derived.Test.YtofimimnjfhmfaaApart
namespace Go.Proofs.Ytofimimnjfhmfaa
open Go.RowKit
set_option linter.unusedSimpArgs false
set_option linter.unusedVariables false

theorem grown_setCell {a w : World} {g : Nat} (h : a.grownBy w (some g)) (o : Nat) (u : Value) : a.grownBy (w.setCell ⟨g, o, none⟩ u) (some g) :=
  ⟨h.os, h.tape, h.output, by simpa [World.setCell] using h.size, fun i hi hne => (Below.heap_setCell w ⟨g, o, none⟩ u i (by rintro rfl; exact hne rfl)).trans (h.block i hi hne)⟩
/-- The row of a twin behind k rounds. -/
def twinAt (l : List UInt8) (k : Nat) : List Value := bvs l ++ (List.replicate k (.int .u8 229) ++ List.replicate (3 - k) (.int .u8 0))
theorem twinAt_length (l : List UInt8) (k : Nat) (hk : k ≤ 3) : (twinAt l k).length = l.length + 3 := by simp [twinAt, bvs]; omega
theorem twinAt_zero (l : List UInt8) : splice (List.replicate (l.length + 3) (Value.int .u8 0)) 0 (bvs l) = twinAt l 0 := by
  simp [splice, twinAt, bvs_length]
theorem twinAt_set (l : List UInt8) (k : Nat) (hk : k < 3) : (twinAt l k).set (l.length + k) (.int .u8 229) = twinAt l (k + 1) := by
  unfold twinAt
  rw [List.set_append_right _ _ (by simp [bvs]), bvs_length, Nat.add_sub_cancel_left, List.set_append_right _ _ (by simp), List.length_replicate, Nat.sub_self, show 3 - k = (3 - (k + 1)) + 1 by omega, List.replicate_succ, List.set_cons_zero,
    List.replicate_succ', List.append_assoc]
  rfl
theorem twinAt_three (l : List UInt8) : twinAt l 3 = bvs (l ++ [0xe5, 0xe5, 0xe5]) := by
  simp [twinAt, bvs]

set_option maxHeartbeats 400000 in
theorem twin_any (vb : Value) (l : List UInt8) (w : World) (h : Row w vb (bvs l)) (hl : l.length ≤ 1048576) :
    Calls Try.prog 9 #[vb] w fun e w' => ∃ g, w.heap.size ≤ g ∧ e = .returned (.slice (some ⟨g, 0, none⟩) l.length (l.length + 3)) ∧
      Blk w' g 5 (bvs (l ++ [0xe5, 0xe5, 0xe5])) ∧ Below w.heap.size w w' := by
  have HR := Lib.hid h
  obtain ⟨A, cap, rfl, h1, h2, h0, h3⟩ := h
  obtain ⟨i0, hi0, hz0, hz1, hz2⟩ := info_parts info_u8
  rw [bvs_length] at h1 HR ⊢
  clear h3 h0
  have hsz1 : (Try.prog.info? 5).map (·.size) = some 1 := by rw [hi0]; simp [hz1]
  go_enter Try.func9, Try.ntmps9
  go_wp2_with (first
      | (at_make; refine wpList_mk _ rfl _ _ _ rfl 5 i0 (.int .u8 0) Try.underlying22 hi0 hz0 hz1 rfl (l.length + 3) _ _ _ _ rfl rfl (by omega) (by omega) (by rw [hz2]; omega) (by omega) ?_; intro w1 hb1 hB1 hs1; have HB1 := Lib.hid hb1; clear hb1)
      | ((with_reducible refine atDst 11 ?_); refine wpList_cp rfl (.tmp 9) (.tmp 10) 22 22 rfl 5 Try.underlying22 hsz1 w.heap.size 0 _ _ rfl 5 _ HB1.out _ (bvs l) rfl (HR.out.below hB1) (by rw [bvs_length]; omega) (by rw [bvs_length, List.length_replicate]; omega) (bvs_one l) w.heap.size w hB1 (Nat.le_refl _) ?_; intro w2 hb2 hB2 hs2; have HB2 := Lib.hid hb2; clear hb2))
  have HB3 : Blk w2 w.heap.size 5 (twinAt l 0) := by rw [← twinAt_zero]; exact HB2.out
  clear HB2 HB1 hs1 hs2 hB1 HR
  go_loopw [4] (fun i wr => ∃ k : Nat, k ≤ 3 ∧ i = .int .i64 ((l.length : Int) + (k : Int)) ∧ Blk wr w.heap.size 5 (twinAt l k) ∧ Below w.heap.size w wr) (fun i _ => l.length + 3 - (intOf i).toNat)
  case atStart => exact ⟨0, by omega, by simp, HB3, hB2⟩
  case round =>
    obtain ⟨k, hk, rfl, hb, hB⟩ := hrel
    by_cases h3 : k < 3
    · have hc : ∃ c, wr.cell? ⟨w.heap.size, l.length + k, none⟩ = some c := ⟨_, by rw [hb.cell, List.getElem?_eq_getElem (by rw [twinAt_length _ _ hk]; omega)]⟩
      obtain ⟨c, hc⟩ := hc
      have hf := hb.frozen (l.length + k)
      have i1 : (l.length : Int) + k < l.length + 3 := by omega
      have HBk := Lib.hid hb
      clear hb
      go_wp2
      refine ⟨⟨k + 1, by omega, by congr 1 <;> omega, by rw [← twinAt_set l k h3]; exact HBk.out.set _ _, hB.setCell (Nat.le_refl _) _⟩, by simp [intOf] <;> omega⟩
    · obtain rfl : k = 3 := by omega
      have i1 : ¬ ((l.length : Int) + ((3 : Nat) : Int) < l.length + 3) := by omega
      have HBk := Lib.hid hb
      clear hb
      go_wp2
      go_ret
      exact ⟨w.heap.size, Nat.le_refl _, rfl, by rw [← twinAt_three]; exact HBk.out, hB⟩

theorem kept_bytes (l : List UInt8) : (bvs (l ++ [0xe5, 0xe5, 0xe5])).take l.length = bvs l := by
  rw [bvs_append, List.take_left' (bvs_length l)]

set_option maxHeartbeats 400000 in
theorem kept_any (vb : Value) (g : Nat) (l : List UInt8) (w : World) (hb : Blk w g 5 (bvs (l ++ [0xe5, 0xe5, 0xe5]))) (h : Row w vb (bvs l)) (hl : l.length ≤ 1048576) :
    Calls Try.prog 14 #[.slice (some ⟨g, 0, none⟩) l.length (l.length + 3), vb] w fun e w' => e = .returned (.bool true) ∧ w = w' := by
  have q1 := cvt h
  have L3 : (bvs (l ++ [0xe5, 0xe5, 0xe5])).length = l.length + 3 := by simp [bvs]
  have R1 := Row.take (w := w) (A := some ⟨g, 0, none⟩) (cap := l.length + 3) (xs := bvs (l ++ [0xe5, 0xe5, 0xe5])) (by
    have := Row.of_own (hb.own (Nat.zero_le _) (by rw [L3]; unfold maxLen; omega))
    rw [L3] at this ⊢
    exact this) l.length (by omega)
  rw [kept_bytes] at R1
  have q2 := cvt R1
  obtain ⟨A, cap, rfl, h1, h2, h0, h3⟩ := h
  rw [bvs_length] at h1 q1 ⊢
  have cell : ∀ k, k < 3 → w.cell? ⟨g, l.length + k, none⟩ = some (.int .u8 229) := by
    intro k hk
    rw [hb.cell, bvs_append, List.getElem?_append_right (by rw [bvs_length]; omega), bvs_length, Nat.add_sub_cancel_left]
    have : k = 0 ∨ k = 1 ∨ k = 2 := by omega
    rcases this with rfl | rfl | rfl <;> rfl
  have C := Lib.hid cell
  clear h3 h0 R1 L3 hb cell
  go_enter Try.func14, Try.ntmps14
  go_wp2
  go_loop [6] (fun i => ∃ k : Nat, k ≤ 3 ∧ i = .int .i64 ((l.length : Int) + (k : Int))) (fun i => l.length + 3 - (intOf i).toNat)
  case atStart => exact ⟨0, by omega, by simp⟩
  case round =>
    obtain ⟨k, hk, rfl⟩ := hrel
    by_cases h3 : k < 3
    · have hc := C.out k h3
      have i1 : (l.length : Int) + k < l.length + 3 := by omega
      go_wp2
      exact ⟨⟨k + 1, by omega, by congr 1 <;> omega⟩, by simp [intOf] <;> omega⟩
    · obtain rfl : k = 3 := by omega
      have i1 : ¬ ((l.length : Int) + ((3 : Nat) : Int) < l.length + 3) := by omega
      go_wp2
      go_ret
      exact ⟨rfl, rfl⟩

set_option maxHeartbeats 400000 in
theorem spoil_any (g n cap : Nat) (cur : List Value) (w : World) (hb : Blk w g 5 cur) (hc : cur.length = cap) (hm : cap ≤ maxLen) (hn : n ≤ cap) :
    Calls Try.prog 15 #[.slice (some ⟨g, 0, none⟩) n cap] w fun e w' => e = .returned (.tuple #[]) ∧ w.grownBy w' (some g) := by
  unfold maxLen at hm
  go_enter Try.func15, Try.ntmps15
  have HB := Lib.hid hb
  clear hb
  go_wp2
  go_loopw [3] (fun i wr => ∃ k : Nat, k ≤ cap ∧ i = .int .i64 (k : Int) ∧ (∃ cs : List Value, Blk wr g 5 cs ∧ cs.length = cap) ∧ w.grownBy wr (some g)) (fun i _ => cap - (intOf i).toNat)
  case atStart => exact ⟨0, by omega, by simp, ⟨cur, HB.out, hc⟩, World.grownBy.refl _ _⟩
  case round =>
    obtain ⟨k, hk, rfl, ⟨cs, hbk, hcs⟩, hG⟩ := hrel
    have HC := Lib.hid hcs
    have HBk := Lib.hid hbk
    by_cases h3 : k < cap
    · have hf := hbk.frozen k
      obtain ⟨c, hcc⟩ : ∃ c, wr.cell? ⟨g, k, none⟩ = some c := ⟨_, by rw [hbk.cell, List.getElem?_eq_getElem (by omega)]⟩
      have i1 : (k : Int) < cap := by omega
      clear hcs hbk hc
      go_wp2
      exact ⟨⟨k + 1, by omega, by congr 1, ⟨_, HBk.out.set _ _, by rw [List.length_set]; exact HC.out⟩, grown_setCell hG _ _⟩, by simp [intOf] <;> omega⟩
    · have i1 : ¬ ((k : Int) < cap) := by omega
      clear hcs hbk hc
      go_wp2
      go_end0
      exact ⟨rfl, hG⟩
end Go.Proofs.Ytofimimnjfhmfaa
