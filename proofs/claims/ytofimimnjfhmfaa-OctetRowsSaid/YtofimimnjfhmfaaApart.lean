/-
  The walk of the statement OctetApart: the Go text returns true and turns nothing that was there. Conditions: the slices read as bytes; the numbers fit their kind.
-/
import Derived.Test.YtofimimnjfhmfaaMost
import Derived.Test.YtofimimnjfhmfaaReg
import Derived.BigQuiet
import Derived.Deep.QuietTactic
namespace Go.Proofs.Ytofimimnjfhmfaa
open Go.RowKit
set_option linter.unusedSimpArgs false
set_option linter.unusedVariables false

theorem begins_eq (s t : List UInt8) (hs : s.length ≤ 65535) (ht : t.length ≤ 65535) : (List.take (2 + s.length) (le t.length 2 ++ t) == le s.length 2 ++ s) = (s == t) := by
  rw [Bool.eq_iff_iff, beq_iff_eq, beq_iff_eq]
  constructor
  · intro h
    have e : List.take (2 + s.length) (le t.length 2 ++ t) = le t.length 2 ++ t.take s.length := by
      rw [List.take_append, le_length, List.take_of_length_le (by rw [le_length]; omega)]
      congr 2
      omega
    rw [e] at h
    have h1 := congrArg (List.take 2) h
    rw [List.take_left' (le_length _ _), List.take_left' (le_length _ _)] at h1
    have h2 := le_inj (n := 2) (by omega) (by omega) h1
    have h3 := congrArg (List.drop 2) h
    rw [List.drop_left' (le_length _ _), List.drop_left' (le_length _ _), List.take_of_length_le (by omega)] at h3
    exact h3.symm
  · rintro rfl
    exact List.take_of_length_le (by simp [le_length])

theorem below_drewN {B : Nat} {a w : World} (h : Below B a w) (n : Nat) : Below B a (w.drewN n) := ⟨h.os, h.tape, h.output, h.size, h.block⟩
theorem row8 (v : Nat) {w : World} {g : Nat} (h : Blk w g 5 (bvs ([] ++ le v 8))) : Row w (.slice (some ⟨g, 0, none⟩) 8 8) (bvs (le v 8)) := by
  rw [List.nil_append] at h
  have hl : (bvs (le v 8)).length = 8 := by rw [bvs_length, le_length]
  have := Row.of_own (h.own (Nat.zero_le _) (by rw [hl]; unfold maxLen; omega))
  rwa [hl] at this
theorem cvt {w : World} {v : Value} {l : List UInt8} (h : Row w v (bvs l)) : (convert 22 9 v).run Try.prog w = .ok (.string ⟨l.toArray⟩) w :=
  conv_row (P := Try.prog) h 22 5 9 Try.underlying22 Try.underlying5 Try.underlying9
theorem cvx {w : World} {v : Value} {l : List UInt8} (h : Row w v (bvs l)) : ∀ W, Below w.heap.size w W → (convert 22 9 v).run Try.prog W = .ok (.string ⟨l.toArray⟩) W :=
  fun W hW => cvt (h.below hW)
theorem cv8 {w : World} {v : Value} {l : List UInt8} (h : Row w v (bvs l)) : (convert 22 9 v).run Try.prog w = .ok (.string ⟨l.toArray⟩) w := cvt h

set_option maxHeartbeats 2000000 in
theorem apart_walk (v u : Nat) (vs vt : Value) (s t : List UInt8) (w : World) (hv : v < 18446744073709551616) (hu : u < 18446744073709551616) (h : Row w vs (bvs s)) (k : Row w vt (bvs t)) :
    Calls Try.prog 5 #[.int .u64 v, .int .u64 u, vs, vt] w fun e w' => e = .returned (.bool true) ∧ Below w.heap.size w w' := by
  have HR := Lib.hid h
  have KR := Lib.hid k
  obtain ⟨A, cap, rfl, h1, h2, h0, h3⟩ := h
  obtain ⟨A', cap', rfl, k1, k2, k0, k3⟩ := k
  rw [bvs_length] at h1 k1 HR KR ⊢
  rw [bvs_length]
  clear h3 h0 k3 k0
  by_cases h100 : s.length ≤ 100 ∧ t.length ≤ 100
  · obtain ⟨hs, ht⟩ := h100
    have n1 : ¬ (100 < (s.length : Int)) := by omega
    have n2 : ¬ (100 < (t.length : Int)) := by omega
    go_enter Try.func5, Try.ntmps5
    go_wp2_with fail
    refine (begun_any w).mono ?_
    rintro e w1 ⟨rfl, hB1⟩
    go_wp2_with fail
    refine (text_any _ _ [] s w1 (Row.nil _) (HR.out.below hB1) (by simp) (by omega)).mono ?_
    rintro e w2 ⟨v2, rfl, ho2, hB2⟩
    rw [List.nil_append, show ([] : List UInt8).length + 2 + s.length = 2 + s.length by simp] at ho2
    obtain ⟨g2, c2, rfl, hg2, hl2, hc2, hm2⟩ := own_form ho2 (by omega)
    have O2 := Lib.hid (Row.of_own ho2)
    replace hB2 := hB1.trans (hB2.mono hB1.size)
    clear ho2 hB1
    go_wp2_with fail
    refine (text_any _ _ [] t w2 (Row.nil _) (KR.out.below hB2) (by simp) (by omega)).mono ?_
    rintro e w3 ⟨v3, rfl, ho3, hB3⟩
    rw [List.nil_append, show ([] : List UInt8).length + 2 + t.length = 2 + t.length by simp] at ho3
    obtain ⟨g3, c3, rfl, hg3, hl3, hc3, hm3⟩ := own_form ho3 (by omega)
    have O3 := Lib.hid (Row.of_own ho3)
    replace O2 := Lib.hid (O2.out.below hB3)
    replace hB3 := hB2.trans (hB3.mono hB2.size)
    clear ho3 hB2
    have L2 : (bvs (le s.length 2 ++ s)).length = 2 + s.length := by simp [bvs, le_length]
    have L3 : (bvs (le t.length 2 ++ t)).length = 2 + t.length := by simp [bvs, le_length]
    have q2 := fun n => conv_row (P := Try.prog) (O2.out.drewN n) 22 5 9 Try.underlying22 Try.underlying5 Try.underlying9
    unfold maxLen at hm2 hm3
    by_cases hlen : s.length ≤ t.length
    case' pos =>
      have R3 := Row.take (w := w3) (A := some ⟨g3, 0, none⟩) (cap := c3) (xs := bvs (le t.length 2 ++ t)) (by rw [L3]; exact O3.out) (2 + s.length) (by omega)
      have R3' : Row w3 (.slice (some ⟨g3, 0, none⟩) (2 + s.length) c3) (bvs ((le t.length 2 ++ t).take (2 + s.length))) := by
        simpa [bvs, List.map_take] using R3
      have q3 := fun n => conv_row (P := Try.prog) (R3'.drewN n) 22 5 9 Try.underlying22 Try.underlying5 Try.underlying9
      have d1 : decide ((2 + s.length) ≤ (2 + t.length)) = true := by simp; omega
      have LL2 := Lib.hid L2
      have LL3 := Lib.hid L3
      clear L2 L3 R3 R3'
      have i1 : (0 : Int) ≤ 2 + (s.length : Int) := by omega
      have i2 : 2 + (s.length : Int) ≤ (c3 : Int) := by omega
      have i3 : (2 + (s.length : Int)).toNat = 2 + s.length := by omega
      have hbeg : (List.take (2 + s.length) (le t.length 2 ++ t) == le s.length 2 ++ s) = (s == t) := begins_eq s t (by omega) (by omega)
      have hL : (le v 8 == le u 8) = ((v : Int) == (u : Int)) := by
        rw [Bool.eq_iff_iff, beq_iff_eq, beq_iff_eq]
        exact ⟨fun h => by rw [le_inj (n := 8) (by omega) (by omega) h], fun h => by rw [Int.ofNat.inj h]⟩
      go_wp2_with fail
      go_quiet (fail)
      go_wp2_with fail
    case' neg =>
      have hst : (s == t) = false := by
        rw [beq_eq_false_iff_ne]
        rintro rfl
        omega
      have d1 : decide ((2 + s.length) ≤ (2 + t.length)) = false := by simp; omega
      have hL : (le v 8 == le u 8) = ((v : Int) == (u : Int)) := by
        rw [Bool.eq_iff_iff, beq_iff_eq, beq_iff_eq]
        exact ⟨fun h => by rw [le_inj (n := 8) (by omega) (by omega) h], fun h => by rw [Int.ofNat.inj h]⟩
      clear L2 L3
      go_wp2_with fail
      go_quiet (fail)
      go_wp2_with fail
    all_goals
      refine sx_start (by kernel_rfl) (fun wS hS hSz => ?_)
      replace hB3 : Below w.heap.size w wS := (below_drewN hB3 _).trans (hS.mono hB3.size)
      have hX := Below.refl wS.heap.size wS
      clear hS hSz
      refine sx_take (i := 0) (oi := ⟨some 41, _, _, _, _, _⟩) (v := ?_) rfl (by kernel_rfl) (by kernel_rfl) (by kernel_rfl) (fun _ _ _ h => h) rfl hX ?_ ?_; rotate_left; (intro W hW; go_simp; try with_reducible rfl); simp only [Act.put, List.setIfInBounds_toArray, List.set_cons_zero, List.set_cons_succ]
      refine sx_take (i := 3) (oi := ⟨some 44, _, _, _, _, _⟩) (v := ?_) rfl (by kernel_rfl) (by kernel_rfl) (by kernel_rfl) (fun _ _ _ h => h) rfl hX ?_ ?_; rotate_left; (intro W hW; go_simp; try with_reducible rfl); simp only [Act.put, List.setIfInBounds_toArray, List.set_cons_zero, List.set_cons_succ]
      refine sx_take (i := 7) (oi := ⟨some 48, _, _, _, _, _⟩) (v := ?_) rfl (by kernel_rfl) (by kernel_rfl) (by kernel_rfl) (fun _ _ _ h => h) rfl hX ?_ ?_; rotate_left; (intro W hW; go_simp; try with_reducible rfl); simp only [Act.put, List.setIfInBounds_toArray, List.set_cons_zero, List.set_cons_succ]
      refine sx_take (i := 8) (oi := ⟨some 49, _, _, _, _, _⟩) (v := ?_) rfl (by kernel_rfl) (by kernel_rfl) (by kernel_rfl) (fun _ _ _ h => h) rfl hX ?_ ?_; rotate_left; (intro W hW; go_simp; try with_reducible rfl); simp only [Act.put, List.setIfInBounds_toArray, List.set_cons_zero, List.set_cons_succ]
      refine sx_take (i := 9) (oi := ⟨some 50, _, _, _, _, _⟩) (v := ?_) rfl (by kernel_rfl) (by kernel_rfl) (by kernel_rfl) (fun _ _ _ h => h) rfl hX ?_ ?_; rotate_left; (intro W hW; go_simp; try with_reducible rfl); simp only [Act.put, List.setIfInBounds_toArray, List.set_cons_zero, List.set_cons_succ]
      refine sx_act (i := 1) (o := ⟨some 42, _, _, _, _, _⟩) rfl (by kernel_rfl) rfl hX (Nat.le_refl _) (fun K hK => ?_)
      go_wp2_with fail
      refine (put_any _ [] v 8 8 _ (Row.nil _) (by simp) hv (.inr (.inr ⟨rfl, by omega⟩))).mono ?_
      rintro e w4 ⟨g4, hg4, rfl, hb4, hB4⟩
      go_wp2_with fail
      refine hK _ _ hB4 ?_
      clear hK K hX
      have hX := Below.refl w4.heap.size w4
      have R4 := Lib.hid (row8 v hb4)
      have c4 := cvx R4.out
      replace hB4 := hB3.trans (hB4.mono hB3.size)
      clear hb4 hg4
      refine sx_take (i := 2) (oi := ⟨some 43, _, _, _, _, _⟩) (v := ?_) rfl (by kernel_rfl) (by kernel_rfl) (by kernel_rfl) (fun _ _ _ h => h) rfl hX ?_ ?_; rotate_left; (intro W hW; go_simp; try with_reducible rfl); simp only [Act.put, List.setIfInBounds_toArray, List.set_cons_zero, List.set_cons_succ]
      refine sx_act (i := 4) (o := ⟨some 45, _, _, _, _, _⟩) rfl (by kernel_rfl) rfl hX (Nat.le_refl _) (fun K hK => ?_)
      go_wp2_with fail
      refine (put_any _ [] u 8 8 _ (Row.nil _) (by simp) hu (.inr (.inr ⟨rfl, by omega⟩))).mono ?_
      rintro e w5 ⟨g5, hg5, rfl, hb5, hB5⟩
      go_wp2_with fail
      refine hK _ _ hB5 ?_
      clear hK K hX c4
      have hX := Below.refl w5.heap.size w5
      have R5 := Lib.hid (row8 u hb5)
      have c5 := cvx R5.out
      have c4 := cvx (R4.out.below hB5)
      replace hB5 := hB4.trans (hB5.mono hB4.size)
      have cs := cvx (HR.out.below hB5)
      have ct := cvx (KR.out.below hB5)
      clear hb5 hg5
      refine sx_take (i := 5) (oi := ⟨some 46, _, _, _, _, _⟩) (v := ?_) rfl (by kernel_rfl) (by kernel_rfl) (by kernel_rfl) (fun _ _ _ h => h) rfl hX ?_ ?_; rotate_left; (intro W hW; go_simp; try with_reducible rfl); simp only [Act.put, List.setIfInBounds_toArray, List.set_cons_zero, List.set_cons_succ]
      refine sx_take (i := 6) (oi := ⟨some 47, _, _, _, _, _⟩) (v := ?_) rfl (by kernel_rfl) (by kernel_rfl) (by kernel_rfl) (fun _ _ _ h => h) rfl hX ?_ ?_; rotate_left; (intro W hW; go_simp; try with_reducible rfl); simp only [Act.put, List.setIfInBounds_toArray, List.set_cons_zero, List.set_cons_succ]
      refine sx_take (i := 10) (oi := ⟨some 51, _, _, _, _, _⟩) (v := ?_) rfl (by kernel_rfl) (by kernel_rfl) (by kernel_rfl) (fun _ _ _ h => h) rfl hX ?_ ?_; rotate_left; (intro W hW; go_simp; try with_reducible rfl); simp only [Act.put, List.setIfInBounds_toArray, List.set_cons_zero, List.set_cons_succ]
      refine sx_take (i := 11) (oi := ⟨some 52, _, _, _, _, _⟩) (v := ?_) rfl (by kernel_rfl) (by kernel_rfl) (by kernel_rfl) (fun _ _ _ h => h) rfl hX ?_ ?_; rotate_left; (intro W hW; go_simp; try with_reducible rfl); simp only [Act.put, List.setIfInBounds_toArray, List.set_cons_zero, List.set_cons_succ]
      refine sx_take (i := 12) (oi := ⟨some 53, _, _, _, _, _⟩) (v := ?_) rfl (by kernel_rfl) (by kernel_rfl) (by kernel_rfl) (fun _ _ _ h => h) rfl hX ?_ ?_; rotate_left; (intro W hW; go_simp; try with_reducible rfl); simp only [Act.put, List.setIfInBounds_toArray, List.set_cons_zero, List.set_cons_succ]
      refine sx_take (i := 13) (oi := ⟨some 54, _, _, _, _, _⟩) (v := ?_) rfl (by kernel_rfl) (by kernel_rfl) (by kernel_rfl) (fun _ _ _ h => h) rfl hX ?_ ?_; rotate_left; (intro W hW; go_simp; try with_reducible rfl); simp only [Act.put, List.setIfInBounds_toArray, List.set_cons_zero, List.set_cons_succ]
      refine sx_take (i := 14) (oi := ⟨some 55, _, _, _, _, _⟩) (v := ?_) rfl (by kernel_rfl) (by kernel_rfl) (by kernel_rfl) (fun _ _ _ h => h) rfl hX ?_ ?_; rotate_left; (intro W hW; go_simp; try with_reducible rfl); simp only [Act.put, List.setIfInBounds_toArray, List.set_cons_zero, List.set_cons_succ]
      refine sx_take (i := 15) (oi := ⟨some 56, _, _, _, _, _⟩) (v := ?_) rfl (by kernel_rfl) (by kernel_rfl) (by kernel_rfl) (fun _ _ _ h => h) rfl hX ?_ ?_; rotate_left; (intro W hW; go_simp; try with_reducible rfl); simp only [Act.put, List.setIfInBounds_toArray, List.set_cons_zero, List.set_cons_succ]
      refine sx_take (i := 16) (oi := ⟨some 57, _, _, _, _, _⟩) (v := ?_) rfl (by kernel_rfl) (by kernel_rfl) (by kernel_rfl) (fun _ _ _ h => h) rfl hX ?_ ?_; rotate_left; (intro W hW; go_simp; try with_reducible rfl); simp only [Act.put, List.setIfInBounds_toArray, List.set_cons_zero, List.set_cons_succ]
      refine sx_take (i := 17) (oi := ⟨some 58, _, _, _, _, _⟩) (v := ?_) rfl (by kernel_rfl) (by kernel_rfl) (by kernel_rfl) (fun _ _ _ h => h) rfl hX ?_ ?_; rotate_left; (intro W hW; go_simp; try with_reducible rfl); simp only [Act.put, List.setIfInBounds_toArray, List.set_cons_zero, List.set_cons_succ]
      refine sx_take (i := 18) (oi := ⟨some 59, _, _, _, _, _⟩) (v := ?_) rfl (by kernel_rfl) (by kernel_rfl) (by kernel_rfl) (fun _ _ _ h => h) rfl hX ?_ ?_; rotate_left; (intro W hW; go_simp; try with_reducible rfl); simp only [Act.put, List.setIfInBounds_toArray, List.set_cons_zero, List.set_cons_succ]
      refine sx_take (i := 19) (oi := ⟨some 60, _, _, _, _, _⟩) (v := ?_) rfl (by kernel_rfl) (by kernel_rfl) (by kernel_rfl) (fun _ _ _ h => h) rfl hX ?_ ?_; rotate_left; (intro W hW; go_simp; try with_reducible rfl); simp only [Act.put, List.setIfInBounds_toArray, List.set_cons_zero, List.set_cons_succ]
      refine sx_take (i := 20) (oi := ⟨some 8, _, _, _, _, _⟩) (v := ?_) rfl (by kernel_rfl) (by kernel_rfl) (by kernel_rfl) (fun _ _ _ h => h) rfl hX ?_ ?_; rotate_left; (intro W hW; go_simp; try with_reducible rfl); simp only [Act.put, List.setIfInBounds_toArray, List.set_cons_zero, List.set_cons_succ]
      refine wpAnyH_done (by kernel_rfl) ?_ _
      go_wp2
      go_ret
      exact ⟨rfl, hB5⟩
  · by_cases hs : s.length ≤ 100
    · have n1 : ¬ (100 < (s.length : Int)) := by omega
      have n2 : 100 < (t.length : Int) := by omega
      go_enter Try.func5, Try.ntmps5
      go_wp2_with fail
      refine (begun_any w).mono ?_
      rintro e w1 ⟨rfl, hB1⟩
      go_wp2_with fail
      go_ret
      exact ⟨rfl, hB1⟩
    · have n1 : 100 < (s.length : Int) := by omega
      go_enter Try.func5, Try.ntmps5
      go_wp2_with fail
      refine (begun_any w).mono ?_
      rintro e w1 ⟨rfl, hB1⟩
      go_wp2_with fail
      go_ret
      exact ⟨rfl, hB1⟩
end Go.Proofs.Ytofimimnjfhmfaa
