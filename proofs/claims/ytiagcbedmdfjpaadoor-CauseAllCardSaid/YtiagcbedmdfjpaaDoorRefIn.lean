/-
  What the reference's in answers. No statement is proved here.
-/
import Derived.Test.YtiagcbedmdfjpaaDoorCauseF
import Derived.Test.YtiagcbedmdfjpaaDoorWraps
namespace Go.Proofs.YtiagcbedmdfjpaaDoor
open Go.RowKit Go.Extern.Stop Go.Stop Go.Extern
set_option linter.unusedSimpArgs false
set_option linter.unusedVariables false

set_option maxHeartbeats 4000000 in
set_option maxRecDepth 1000000 in
theorem refIn_any {W : World} (vl : Value) (l : List Int) (k : Int) (hr : Row W vl (ints l)) (hl : l.length ≤ 1000) :
    Calls Tryd.prog 18 #[vl, .int .i64 k] W fun e w' => e = .returned (.bool (decide (k ∈ l))) ∧ w' = W := by
  have HR := Lib.hid hr
  obtain ⟨A, cap, rfl, a1, a2, a0, a3⟩ := hr
  rw [nums_length] at a1 HR ⊢
  clear a3 a0 a1 a2
  go_enter Tryd.func18, Tryd.ntmps18
  go_wp2
  go_loopw [5] (fun i wl => ∃ j : Nat, j ≤ l.length ∧ i = .int .i64 (j : Int) ∧ k ∉ l.take j ∧ wl = W) (fun i _ => l.length - (intOf i).toNat)
  case atStart => exact ⟨0, by omega, by simp, by simp, rfl⟩
  case round =>
    obtain ⟨j, hj, rfl, hni, rfl⟩ := hrel
    have HN := Lib.hid hni
    clear hni
    by_cases hjl : j < l.length
    · obtain ⟨b0, off, rfl, hb0, hcell⟩ := (HR.out).at_ (by rw [nums_length]; omega)
      have hcj := hcell j _ (nums_get _ l j hjl)
      have i1 : (j : Int) < (l.length : Int) := by omega
      obtain ⟨x, hx⟩ : ∃ x, x = l[j] := ⟨_, rfl⟩
      rw [← hx] at hcj
      have HX := Lib.hid hx
      clear hcell hx
      by_cases hxk : x = k
      · subst hxk
        go_wp2
        go_ret
        refine ⟨?_, rfl⟩
        rw [show decide (x ∈ l) = true by rw [HX.out]; simp]
        rfl
      · have hxk' : (x == k) = false := by simp [hxk]
        have HNE := Lib.hid hxk
        clear hxk
        go_wp2
        exact ⟨⟨j + 1, by omega, by congr 1, by
          rw [List.take_succ_eq_append_getElem hjl, List.mem_append, List.mem_singleton, ← HX.out]
          rintro (h | h)
          · exact HN.out h
          · exact HNE.out h.symm, trivial⟩, by simp [intOf] <;> omega⟩
    · obtain rfl : j = l.length := by omega
      have i1 : ¬ ((l.length : Int) < (l.length : Int)) := by omega
      go_wp2
      go_ret
      refine ⟨?_, rfl⟩
      rw [show decide (k ∈ l) = false by have := HN.out; rw [List.take_length] at this; simp [this]]
      rfl
end Go.Proofs.YtiagcbedmdfjpaaDoor
