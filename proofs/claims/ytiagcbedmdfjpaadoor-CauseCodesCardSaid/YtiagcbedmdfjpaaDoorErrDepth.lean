/-
  errors.Unwrap and cause.depth, at a chain that package cause builds. No statement is proved here.
-/
import Derived.Test.YtiagcbedmdfjpaaDoorErr
namespace Go.Proofs.YtiagcbedmdfjpaaDoor
open Go.RowKit Go.Extern.Stop Go.Stop Go.Extern
set_option linter.unusedSimpArgs false
set_option linter.unusedVariables false

set_option maxHeartbeats 4000000 in
set_option maxRecDepth 1000000 in
/-- errors.Unwrap at a chain that is not nil. -/
theorem unwrap_any {W : World} (u b : Nat) (E' : Value) (hu : u = 53 ∨ u = 47) (h1 : W.cell? ⟨b, 1, none⟩ = some E') :
    Calls Tryd.prog 22 #[.iface u (.pointer (some ⟨b, 0, none⟩))] W fun e w' => e = .returned E' ∧ w' = W := by
  have uF := hasUnwrapF
  have uP := hasUnwrapP
  have nF := methodUnwrapF
  have nP := methodUnwrapP
  rcases hu with rfl | rfl
  all_goals
    go_enter Tryd.func22, Tryd.ntmps22
    go_wp2_with (go_at_call 50; refine (faultUnwrap b _ _ h1).mono ?_; rintro e w' ⟨rfl, rfl⟩)
    go_ret
    exact ⟨rfl, rfl⟩

set_option maxHeartbeats 4000000 in
set_option maxRecDepth 1000000 in
/-- cause.depth at a chain. -/
theorem depth_any {W : World} (E : Value) (l : List Int) (p : Option Int) (hch : Ch W E l p) (hl : l.length ≤ 1000) :
    Calls Tryd.prog 16 #[E] W fun e w' => e = .returned (.int .i64 (l.length : Int)) ∧ w' = W := by
  have HC := Lib.hid hch
  obtain ⟨L, hL⟩ : ∃ L, L = l.length := ⟨_, rfl⟩
  rw [← hL] at hl ⊢
  have HL := Lib.hid hL
  clear hch hL
  go_enter Tryd.func16, Tryd.ntmps16
  go_wp2
  go_loopw [2, 3] (fun n E' wl => wl = W ∧ ∃ (j : Nat) (l' : List Int) (p' : Option Int), Ch W E' l' p' ∧ j + l'.length = L ∧ n = .int .i64 (j : Int)) (fun _ E' _ => chLen W E')
  case atStart => exact ⟨rfl, 0, l, p, HC.out, by rw [HL.out]; omega, by simp⟩
  case round =>
    obtain ⟨rfl, j, l', p', hc', hj, rfl⟩ := hrel
    have hlen0 := chLen_eq hc'
    have hL0 := Lib.hid hlen0
    rcases hc'.top with ⟨rfl, rfl, _⟩ | ⟨u, b, k, E', l2, rfl, hu, rfl, h0, h1, p2, h2⟩
    · have hj' : (j : Int) = (L : Int) := by simp at hj; omega
      have hJ := Lib.hid hj'
      clear hj hj' hlen0 hc'
      go_wp2
      go_ret
      exact ⟨by rw [hJ.out]; rfl, rfl⟩
    · have H2 := Lib.hid h2
      have hj3 : j < L := by simp at hj; omega
      have HJ := Lib.hid hj
      have HU := Lib.hid hu
      clear hc' h2 hlen0 hj hu
      go_wp2_with (go_at_call 22; refine (unwrap_any u b E' HU.out h1).mono ?_; rintro e w' ⟨rfl, rfl⟩)
      go_roundw
      case rel => exact ⟨trivial, j + 1, l2, p2, H2.out, by have := HJ.out; simp at this; omega, by congr 1⟩
      case measure =>
        show chLen _ E' < _
        rw [chLen_eq H2.out, hL0.out]; simp
end Go.Proofs.YtiagcbedmdfjpaaDoor
