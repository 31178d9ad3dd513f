/-
  What bytes.IndexByte, Index and Cut answer at a separator of one zero byte, and package names' text. No statement is proved here.
-/
import Derived.Test.YtfhhojhflpokaaaNmB
import Derived.Lib.BytesEntry
import Derived.Lib.IndexLaws
import Derived.Deep.QuietTactic
namespace Go.Proofs.Ytfhhojhflpokaaa
open Go.RowKit
set_option linter.unusedSimpArgs false
set_option linter.unusedVariables false

/-- The bytes ahead of the first zero. -/
def ahead (l : List UInt8) : List UInt8 := l.takeWhile fun c => decide (c ≠ 0)
theorem ahead_len (l : List UInt8) : (ahead l).length ≤ l.length := (List.takeWhile_prefix _).length_le
theorem take_ahead (l : List UInt8) : l.take (ahead l).length = ahead l := (List.prefix_iff_eq_take.1 (List.takeWhile_prefix _)).symm
theorem index_zero : ∀ l : List UInt8, Lib.indexByte l 0 = if (ahead l).length < l.length then ((ahead l).length : Int) else -1
  | [] => rfl
  | c :: r => by
    have ih := index_zero r
    unfold Lib.indexByte
    by_cases hc : c = 0
    · subst hc
      simp [ahead]
    · have e : ahead (c :: r) = c :: ahead r := by simp [ahead, hc]
      rw [e, if_neg (by simpa using hc), ih]
      simp only [List.length_cons]
      split
      · rename_i h
        rw [if_neg (by rw [beq_iff_eq]; omega), if_pos (by omega)]
        omega
      · rename_i h
        rw [if_pos (by decide), if_neg (by omega)]
theorem ahead_full {l : List UInt8} (h : ¬ (ahead l).length < l.length) : ahead l = l := by
  have := take_ahead l
  rw [List.take_of_length_le (by omega)] at this
  exact this.symm

theorem below_drewN' {B : Nat} {a w : World} (h : Below B a w) (n : Nat) : Below B a (w.drewN n) := ⟨h.os, h.tape, h.output, h.size, h.block⟩
theorem bytesOf_ints (l : List UInt8) : Lib.bytesOf (l.map fun c => (c.toNat : Int)) = l := by
  simp [Lib.bytesOf, Function.comp_def]
/-- bytes.Cut's first result. -/
def cutPost (v : Value) (w : World) (e : Ending) (w' : World) : Prop := ∃ r x, e = .returned (.tuple #[v, r, x]) ∧ Below w.heap.size w w'
section
variable (b off cap : Nat) (l : List UInt8) (w : World) (hl : 0 < l.length) (hr : Row w (.slice (some ⟨b, off, none⟩) l.length cap) (bvs l))
include hr hl
theorem row_ints : ∀ i, i < l.length → w.cell? ⟨b, off + i, none⟩ = some (.int .u8 ((l.map fun c => (c.toNat : Int)).getD i 0)) := by
  intro i hi
  have hr' : Row w (.slice (some ⟨b, off, none⟩) (bvs l).length cap) (bvs l) := by rw [bvs_length]; exact hr
  obtain ⟨b', off', hA, _, hc⟩ := hr'.at_ (by rw [bvs_length]; omega)
  injection hA with hA
  injection hA with h1 h2
  subst h1
  subst h2
  rw [hc i (bv l[i]) (bvs_get l i l[i] (List.getElem?_eq_getElem hi))]
  simp [hi, List.getD]

set_option maxHeartbeats 1000000 in
set_option maxRecDepth 1000000 in
theorem indexByte_any : Calls Try.prog 25 #[.slice (some ⟨b, off, none⟩) l.length cap, .int .u8 0] w fun e w' => e = .returned (.int .i64 (Lib.indexByte l 0)) ∧ w' = w := by
  have hrun := Lib.run_indexByteSlice (P := Try.prog) w b off l.length cap (l.map fun c => (c.toNat : Int)) (by simp) (row_ints b off cap l w hl hr) 0
  rw [bytesOf_ints] at hrun
  clear hl hr
  go_enter Try.func25, Try.ntmps25
  go_wp2
  rw [run_callFunc_extern Try.func30 (by kernel_rfl) (by kernel_rfl) (by kernel_rfl) (e := Extern.BytealgIndexByte.indexByte) (by kernel_rfl), hrun]
  simp only [Result.andThen]
  rw [Oper.upon_value]
  go_wp2
  go_ret
  exact ⟨rfl, rfl⟩

set_option maxHeartbeats 1000000 in
set_option maxRecDepth 1000000 in
theorem index_any (b2 off2 cap2 : Nat) (hc2 : w.cell? ⟨b2, off2, none⟩ = some (.int .u8 0)) :
    Calls Try.prog 24 #[.slice (some ⟨b, off, none⟩) l.length cap, .slice (some ⟨b2, off2, none⟩) 1 cap2] w fun e w' => e = .returned (.int .i64 (Lib.indexByte l 0)) ∧ w' = w := by
  have hcon := indexByte_any b off cap l w hl hr
  clear hl hr
  go_enter Try.func24, Try.ntmps24
  go_wp2_with fail
  refine hcon.mono ?_
  rintro e w' ⟨rfl, rfl⟩
  go_wp2_with fail
  go_ret
  exact ⟨rfl, rfl⟩

set_option maxHeartbeats 1000000 in
set_option maxRecDepth 1000000 in
theorem cut_any (hl2 : l.length ≤ 1048576) (b2 off2 cap2 : Nat) (hc2 : w.cell? ⟨b2, off2, none⟩ = some (.int .u8 0)) :
    Calls Try.prog 23 #[.slice (some ⟨b, off, none⟩) l.length cap, .slice (some ⟨b2, off2, none⟩) 1 cap2] w fun e w' =>
      cutPost (.slice (some ⟨b, off, none⟩) (ahead l).length cap) w e w' := by
  have hcon := index_any b off cap l w hl hr b2 off2 cap2 hc2
  have hix := index_zero l
  have hcp : l.length ≤ cap := by have := hr.len; omega
  by_cases hlt : (ahead l).length < l.length
  · rw [if_pos hlt] at hix
    rw [hix] at hcon
    clear hl hr hix hc2
    obtain ⟨n, hn⟩ : ∃ n, n = (ahead l).length := ⟨_, rfl⟩
    rw [← hn] at hcon hlt ⊢
    clear hn
    have f1 : (n : Int) ≤ (cap : Int) := by omega
    have f2 : (n : Int) + 1 ≤ (l.length : Int) := by omega
    have f4 : (0 : Int) ≤ (n : Int) + 1 := by omega
    have f8 : IntKind.i64.wrap ((n : Int) + 1) = (n : Int) + 1 := IntWalk.i64_in _ (by omega)
    go_enter Try.func23, Try.ntmps23
    go_wp2_with fail
    refine hcon.mono ?_
    rintro e w' ⟨rfl, rfl⟩
    go_wp2_with fail
    go_quiet (fail)
    go_wp2
    all_goals
      try go_ret3
      exact ⟨_, _, rfl, below_drewN' (Below.refl _ _) _⟩
  · rw [if_neg hlt] at hix
    rw [hix] at hcon
    rw [ahead_full hlt]
    clear hl hr hix hc2 hlt
    go_enter Try.func23, Try.ntmps23
    go_wp2_with fail
    refine hcon.mono ?_
    rintro e w' ⟨rfl, rfl⟩
    go_wp2_with fail
    go_ret3
    exact ⟨_, _, rfl, Below.refl _ _⟩

set_option maxHeartbeats 1000000 in
set_option maxRecDepth 1000000 in
/-- names.text. -/
theorem text_any (hl2 : l.length ≤ 1048576) :
    Calls Try.prog 21 #[.slice (some ⟨b, off, none⟩) l.length cap] w fun e w' => e = .returned (str (ahead l)) ∧ Below w.heap.size w w' := by
  have R0 := Lib.hid hr
  have HL := Lib.hid hl
  clear hl hr
  go_enter Try.func21, Try.ntmps21
  go_wp2_with fail
  have hb1 : Below w.heap.size w (w.alloc (.cells #[.int .u8 0] 5)) := (Below.refl _ _).alloc (Nat.le_refl _) _
  refine (cut_any b off cap l _ HL.out (R0.out.below hb1) hl2 w.heap.size 0 1 (by simp)).mono ?_
  rintro e w' ⟨r, x, rfl, hb2⟩
  have B2 := Lib.hid (hb1.trans (hb2.mono hb1.size))
  have RR := ((R0.out.below B2.out))
  have hlen := ahead_len l
  have R3 : Row w' (.slice (some ⟨b, off, none⟩) (ahead l).length cap) (bvs (ahead l)) := by
    have RR' : Row w' (.slice (some ⟨b, off, none⟩) (bvs l).length cap) (bvs l) := by rw [bvs_length]; exact RR
    have := RR'.take (ahead l).length (by rw [bvs_length]; exact hlen)
    rw [show (bvs l).take (ahead l).length = bvs (ahead l) from by unfold bvs; rw [← List.map_take, take_ahead]] at this
    exact this
  have c3 := conv_row (P := Try.prog) R3 38 5 9 Try.underlying38 Try.underlying5 Try.underlying9
  clear hb1 hb2 RR hlen R3
  go_wp2_with fail
  go_ret
  exact ⟨rfl, B2.out⟩
end
end Go.Proofs.Ytfhhojhflpokaaa
