/-
  What package cause's weightiest answers. No statement is proved here.
-/
import Derived.Test.YtiagcbedmdfjpaaDoorCauseA
import Derived.Test.YtiagcbedmdfjpaaDoorErrIs
namespace Go.Proofs.YtiagcbedmdfjpaaDoor
open Go.RowKit Go.Extern.Stop Go.Stop Go.Extern
set_option linter.unusedSimpArgs false
set_option linter.unusedVariables false

/-- The order in which a reply's code is looked for. -/
def ord : List Int := [12, 16, 9, 6, 8, 7, 10, 11, 14, 1]
/-- The code of a chain of these kinds. -/
def codeOf (l : List Int) : Int := (ord.find? fun k => decide (k ∈ l)).getD (l.headD 0)
/-- The variable of the package's own has the order. -/
def OrdAt (w : World) : Prop := ∀ i k, ord[i]? = some k → w.cell? ⟨0, i, none⟩ = some (.int .i64 k)
theorem OrdAt.stay {w w' : World} (h : OrdAt w) (hb : Below w.heap.size w w') : OrdAt w' := fun i k hk =>
  (hb.cell (p := ⟨0, i, none⟩) (lt_of_cell (h i k hk))).trans (h i k hk)
/-- The variable of package errors has its type. -/
abbrev EtAt (w : World) : Prop := w.cell? ⟨1, 0, none⟩ = some (.iface 82 (.agg #[.pointer (some ⟨2, 39, none⟩)]))
theorem EtAt.stay {w w' : World} (h : EtAt w) (hb : Below w.heap.size w w') : EtAt w' := (hb.cell (lt_of_cell h)).trans h

theorem ordIx0 (w : World) : (Instr.index 63 (.agg #[.int .i64 12, .int .i64 16, .int .i64 9, .int .i64 6, .int .i64 8, .int .i64 7, .int .i64 10, .int .i64 11, .int .i64 14, .int .i64 1]) (.int .i64 0)).run Tryd.prog w = .ok (.int .i64 12) w := by kernel_rfl
theorem ordIx1 (w : World) : (Instr.index 63 (.agg #[.int .i64 12, .int .i64 16, .int .i64 9, .int .i64 6, .int .i64 8, .int .i64 7, .int .i64 10, .int .i64 11, .int .i64 14, .int .i64 1]) (.int .i64 1)).run Tryd.prog w = .ok (.int .i64 16) w := by kernel_rfl
theorem ordIx2 (w : World) : (Instr.index 63 (.agg #[.int .i64 12, .int .i64 16, .int .i64 9, .int .i64 6, .int .i64 8, .int .i64 7, .int .i64 10, .int .i64 11, .int .i64 14, .int .i64 1]) (.int .i64 2)).run Tryd.prog w = .ok (.int .i64 9) w := by kernel_rfl
theorem ordIx3 (w : World) : (Instr.index 63 (.agg #[.int .i64 12, .int .i64 16, .int .i64 9, .int .i64 6, .int .i64 8, .int .i64 7, .int .i64 10, .int .i64 11, .int .i64 14, .int .i64 1]) (.int .i64 3)).run Tryd.prog w = .ok (.int .i64 6) w := by kernel_rfl
theorem ordIx4 (w : World) : (Instr.index 63 (.agg #[.int .i64 12, .int .i64 16, .int .i64 9, .int .i64 6, .int .i64 8, .int .i64 7, .int .i64 10, .int .i64 11, .int .i64 14, .int .i64 1]) (.int .i64 4)).run Tryd.prog w = .ok (.int .i64 8) w := by kernel_rfl
theorem ordIx5 (w : World) : (Instr.index 63 (.agg #[.int .i64 12, .int .i64 16, .int .i64 9, .int .i64 6, .int .i64 8, .int .i64 7, .int .i64 10, .int .i64 11, .int .i64 14, .int .i64 1]) (.int .i64 5)).run Tryd.prog w = .ok (.int .i64 7) w := by kernel_rfl
theorem ordIx6 (w : World) : (Instr.index 63 (.agg #[.int .i64 12, .int .i64 16, .int .i64 9, .int .i64 6, .int .i64 8, .int .i64 7, .int .i64 10, .int .i64 11, .int .i64 14, .int .i64 1]) (.int .i64 6)).run Tryd.prog w = .ok (.int .i64 10) w := by kernel_rfl
theorem ordIx7 (w : World) : (Instr.index 63 (.agg #[.int .i64 12, .int .i64 16, .int .i64 9, .int .i64 6, .int .i64 8, .int .i64 7, .int .i64 10, .int .i64 11, .int .i64 14, .int .i64 1]) (.int .i64 7)).run Tryd.prog w = .ok (.int .i64 11) w := by kernel_rfl
theorem ordIx8 (w : World) : (Instr.index 63 (.agg #[.int .i64 12, .int .i64 16, .int .i64 9, .int .i64 6, .int .i64 8, .int .i64 7, .int .i64 10, .int .i64 11, .int .i64 14, .int .i64 1]) (.int .i64 8)).run Tryd.prog w = .ok (.int .i64 14) w := by kernel_rfl
theorem ordIx9 (w : World) : (Instr.index 63 (.agg #[.int .i64 12, .int .i64 16, .int .i64 9, .int .i64 6, .int .i64 8, .int .i64 7, .int .i64 10, .int .i64 11, .int .i64 14, .int .i64 1]) (.int .i64 9)).run Tryd.prog w = .ok (.int .i64 1) w := by kernel_rfl

set_option maxHeartbeats 8000000 in
set_option maxRecDepth 1000000 in
/-- cause.weightiest at a chain. -/
theorem weightiest_any {W : World} (E : Value) (l : List Int) (p : Option Int) (hch : Ch W E l p) (ho : OrdAt W) :
    Calls Tryd.prog 19 #[E] W fun e w' => e = .returned (.int .i64 (codeOf l)) ∧ Below W.heap.size W w' := by
  have o0 := ho 0 12 rfl
  have o1 := ho 1 16 rfl
  have o2 := ho 2 9 rfl
  have o3 := ho 3 6 rfl
  have o4 := ho 4 8 rfl
  have o5 := ho 5 7 rfl
  have o6 := ho 6 10 rfl
  have o7 := ho 7 11 rfl
  have o8 := ho 8 14 rfl
  have o9 := ho 9 1 rfl
  have x0 := ordIx0
  have x1 := ordIx1
  have x2 := ordIx2
  have x3 := ordIx3
  have x4 := ordIx4
  have x5 := ordIx5
  have x6 := ordIx6
  have x7 := ordIx7
  have x8 := ordIx8
  have x9 := ordIx9
  have HC := Lib.hid hch
  have HO := Lib.hid (outermost_any E l p hch)
  clear hch ho
  go_enter Tryd.func19, Tryd.ntmps19
  go_wp2
  clear o0 o1 o2 o3 o4 o5 o6 o7 o8 o9
  refine wp_loop_rounds 11 ?_
  rw [rounds_succ]
  by_cases h0 : (12 : Int) ∈ l
  · have H0 := Lib.hid h0
    have d0 : decide ((12 : Int) ∈ l) = true := by simp [h0]
    clear h0
    go_wp2_with (first | (go_at_call 20; refine (is_any 12 E l p HC.out).mono ?_; rintro e w' ⟨rfl, rfl⟩) | go_in)
    go_ret
    exact ⟨by simp [codeOf, ord, H0.out], Below.refl _ _⟩
  have H0 := Lib.hid h0
  have d0 : decide ((12 : Int) ∈ l) = false := by simp [h0]
  clear h0
  go_wp2_with (first | (go_at_call 20; refine (is_any 12 E l p HC.out).mono ?_; rintro e w' ⟨rfl, rfl⟩) | go_in)
  rw [rounds_succ]
  by_cases h1 : (16 : Int) ∈ l
  · have H1 := Lib.hid h1
    have d1 : decide ((16 : Int) ∈ l) = true := by simp [h1]
    clear h1
    go_wp2_with (first | (go_at_call 20; refine (is_any 16 E l p HC.out).mono ?_; rintro e w' ⟨rfl, rfl⟩) | go_in)
    go_ret
    exact ⟨by simp [codeOf, ord, H0.out, H1.out], Below.refl _ _⟩
  have H1 := Lib.hid h1
  have d1 : decide ((16 : Int) ∈ l) = false := by simp [h1]
  clear h1
  go_wp2_with (first | (go_at_call 20; refine (is_any 16 E l p HC.out).mono ?_; rintro e w' ⟨rfl, rfl⟩) | go_in)
  rw [rounds_succ]
  by_cases h2 : (9 : Int) ∈ l
  · have H2 := Lib.hid h2
    have d2 : decide ((9 : Int) ∈ l) = true := by simp [h2]
    clear h2
    go_wp2_with (first | (go_at_call 20; refine (is_any 9 E l p HC.out).mono ?_; rintro e w' ⟨rfl, rfl⟩) | go_in)
    go_ret
    exact ⟨by simp [codeOf, ord, H0.out, H1.out, H2.out], Below.refl _ _⟩
  have H2 := Lib.hid h2
  have d2 : decide ((9 : Int) ∈ l) = false := by simp [h2]
  clear h2
  go_wp2_with (first | (go_at_call 20; refine (is_any 9 E l p HC.out).mono ?_; rintro e w' ⟨rfl, rfl⟩) | go_in)
  rw [rounds_succ]
  by_cases h3 : (6 : Int) ∈ l
  · have H3 := Lib.hid h3
    have d3 : decide ((6 : Int) ∈ l) = true := by simp [h3]
    clear h3
    go_wp2_with (first | (go_at_call 20; refine (is_any 6 E l p HC.out).mono ?_; rintro e w' ⟨rfl, rfl⟩) | go_in)
    go_ret
    exact ⟨by simp [codeOf, ord, H0.out, H1.out, H2.out, H3.out], Below.refl _ _⟩
  have H3 := Lib.hid h3
  have d3 : decide ((6 : Int) ∈ l) = false := by simp [h3]
  clear h3
  go_wp2_with (first | (go_at_call 20; refine (is_any 6 E l p HC.out).mono ?_; rintro e w' ⟨rfl, rfl⟩) | go_in)
  rw [rounds_succ]
  by_cases h4 : (8 : Int) ∈ l
  · have H4 := Lib.hid h4
    have d4 : decide ((8 : Int) ∈ l) = true := by simp [h4]
    clear h4
    go_wp2_with (first | (go_at_call 20; refine (is_any 8 E l p HC.out).mono ?_; rintro e w' ⟨rfl, rfl⟩) | go_in)
    go_ret
    exact ⟨by simp [codeOf, ord, H0.out, H1.out, H2.out, H3.out, H4.out], Below.refl _ _⟩
  have H4 := Lib.hid h4
  have d4 : decide ((8 : Int) ∈ l) = false := by simp [h4]
  clear h4
  go_wp2_with (first | (go_at_call 20; refine (is_any 8 E l p HC.out).mono ?_; rintro e w' ⟨rfl, rfl⟩) | go_in)
  rw [rounds_succ]
  by_cases h5 : (7 : Int) ∈ l
  · have H5 := Lib.hid h5
    have d5 : decide ((7 : Int) ∈ l) = true := by simp [h5]
    clear h5
    go_wp2_with (first | (go_at_call 20; refine (is_any 7 E l p HC.out).mono ?_; rintro e w' ⟨rfl, rfl⟩) | go_in)
    go_ret
    exact ⟨by simp [codeOf, ord, H0.out, H1.out, H2.out, H3.out, H4.out, H5.out], Below.refl _ _⟩
  have H5 := Lib.hid h5
  have d5 : decide ((7 : Int) ∈ l) = false := by simp [h5]
  clear h5
  go_wp2_with (first | (go_at_call 20; refine (is_any 7 E l p HC.out).mono ?_; rintro e w' ⟨rfl, rfl⟩) | go_in)
  rw [rounds_succ]
  by_cases h6 : (10 : Int) ∈ l
  · have H6 := Lib.hid h6
    have d6 : decide ((10 : Int) ∈ l) = true := by simp [h6]
    clear h6
    go_wp2_with (first | (go_at_call 20; refine (is_any 10 E l p HC.out).mono ?_; rintro e w' ⟨rfl, rfl⟩) | go_in)
    go_ret
    exact ⟨by simp [codeOf, ord, H0.out, H1.out, H2.out, H3.out, H4.out, H5.out, H6.out], Below.refl _ _⟩
  have H6 := Lib.hid h6
  have d6 : decide ((10 : Int) ∈ l) = false := by simp [h6]
  clear h6
  go_wp2_with (first | (go_at_call 20; refine (is_any 10 E l p HC.out).mono ?_; rintro e w' ⟨rfl, rfl⟩) | go_in)
  rw [rounds_succ]
  by_cases h7 : (11 : Int) ∈ l
  · have H7 := Lib.hid h7
    have d7 : decide ((11 : Int) ∈ l) = true := by simp [h7]
    clear h7
    go_wp2_with (first | (go_at_call 20; refine (is_any 11 E l p HC.out).mono ?_; rintro e w' ⟨rfl, rfl⟩) | go_in)
    go_ret
    exact ⟨by simp [codeOf, ord, H0.out, H1.out, H2.out, H3.out, H4.out, H5.out, H6.out, H7.out], Below.refl _ _⟩
  have H7 := Lib.hid h7
  have d7 : decide ((11 : Int) ∈ l) = false := by simp [h7]
  clear h7
  go_wp2_with (first | (go_at_call 20; refine (is_any 11 E l p HC.out).mono ?_; rintro e w' ⟨rfl, rfl⟩) | go_in)
  rw [rounds_succ]
  by_cases h8 : (14 : Int) ∈ l
  · have H8 := Lib.hid h8
    have d8 : decide ((14 : Int) ∈ l) = true := by simp [h8]
    clear h8
    go_wp2_with (first | (go_at_call 20; refine (is_any 14 E l p HC.out).mono ?_; rintro e w' ⟨rfl, rfl⟩) | go_in)
    go_ret
    exact ⟨by simp [codeOf, ord, H0.out, H1.out, H2.out, H3.out, H4.out, H5.out, H6.out, H7.out, H8.out], Below.refl _ _⟩
  have H8 := Lib.hid h8
  have d8 : decide ((14 : Int) ∈ l) = false := by simp [h8]
  clear h8
  go_wp2_with (first | (go_at_call 20; refine (is_any 14 E l p HC.out).mono ?_; rintro e w' ⟨rfl, rfl⟩) | go_in)
  rw [rounds_succ]
  by_cases h9 : (1 : Int) ∈ l
  · have H9 := Lib.hid h9
    have d9 : decide ((1 : Int) ∈ l) = true := by simp [h9]
    clear h9
    go_wp2_with (first | (go_at_call 20; refine (is_any 1 E l p HC.out).mono ?_; rintro e w' ⟨rfl, rfl⟩) | go_in)
    go_ret
    exact ⟨by simp [codeOf, ord, H0.out, H1.out, H2.out, H3.out, H4.out, H5.out, H6.out, H7.out, H8.out, H9.out], Below.refl _ _⟩
  have H9 := Lib.hid h9
  have d9 : decide ((1 : Int) ∈ l) = false := by simp [h9]
  clear h9
  go_wp2_with (first | (go_at_call 20; refine (is_any 1 E l p HC.out).mono ?_; rintro e w' ⟨rfl, rfl⟩) | go_in)
  rw [rounds_succ]
  go_wp2_with (first | (go_at_call 15; refine HO.out.mono ?_; rintro e w' ⟨rfl, hb'⟩) | go_in)
  go_ret
  exact ⟨by simp [codeOf, ord, H0.out, H1.out, H2.out, H3.out, H4.out, H5.out, H6.out, H7.out, H8.out, H9.out], hb'⟩
end Go.Proofs.YtiagcbedmdfjpaaDoor
