/-
  What package cause's wrap, outermost and position answer and leave. No statement is proved here.
-/
import Derived.Test.YtiagcbedmdfjpaaDoorErrAsT
import Derived.Test.YtiagcbedmdfjpaaDoorErrDepth
namespace Go.Proofs.YtiagcbedmdfjpaaDoor
open Go.RowKit Go.Extern.Stop Go.Stop Go.Extern
set_option linter.unusedSimpArgs false
set_option linter.unusedVariables false

theorem methodWhatF0 (b : Nat) (w : World) : (Go.method 226 53 (.pointer (some ⟨b, 0, none⟩)) "scriptory/cause.what").run Tryd.prog w
    = ((do let x ← loadVar 48 ⟨b, 0, none⟩; pure (51, x) : Sem (FuncId × Value))).run Tryd.prog w := by kernel_rfl
theorem methodWhatP0 (b : Nat) (w : World) : (Go.method 226 47 (.pointer (some ⟨b, 0, none⟩)) "scriptory/cause.what").run Tryd.prog w
    = ((do let x ← loadVar 48 ⟨b, 0, none⟩; pure (51, x) : Sem (FuncId × Value))).run Tryd.prog w := by kernel_rfl
theorem methodWhat (u b : Nat) (hu : u = 53 ∨ u = 47) (k : Int) (w : World) (h : w.cell? ⟨b, 0, none⟩ = some (.int .i64 k)) :
    (Go.method 226 u (.pointer (some ⟨b, 0, none⟩)) "scriptory/cause.what").run Tryd.prog w = .ok (51, .int .i64 k) w := by
  rcases hu with rfl | rfl
  · rw [methodWhatF0]
    simp [loadVar, isAgg, underlying, Tryd.underlying48, h, Result.andThen]
  · rw [methodWhatP0]
    simp [loadVar, isAgg, underlying, Tryd.underlying48, h, Result.andThen]

set_option maxRecDepth 1000000 in
theorem what_any (k : Int) (w : World) : Calls Tryd.prog 51 #[.int .i64 k] w fun e w' => e = .returned (.int .i64 k) ∧ w' = w := by
  go_enter Tryd.func51, Tryd.ntmps51
  go_wp2
  go_ret
  exact ⟨rfl, rfl⟩

set_option maxHeartbeats 4000000 in
set_option maxRecDepth 1000000 in
/-- cause.outermost at a chain. -/
theorem outermost_any {W : World} (E : Value) (l : List Int) (p : Option Int) (hch : Ch W E l p) :
    Calls Tryd.prog 15 #[E] W fun e w' => e = .returned (.int .i64 (l.headD 0)) ∧ Below W.heap.size W w' := by
  rcases hch.top with ⟨rfl, rfl, rfl⟩ | ⟨u, b, k, E', l2, rfl, hu, rfl, h0, h1, p2, h2⟩
  · clear hch
    go_enter Tryd.func15, Tryd.ntmps15
    go_wp2_with (go_at_call 21; refine (As_nil _ _).mono ?_; rintro e w' ⟨rfl, rfl⟩)
    go_ret
    exact ⟨rfl, (Below.refl _ _).alloc (Nat.le_refl _) _⟩
  · obtain ⟨W1, hW1⟩ : ∃ W1, W1 = W.alloc (.cells #[.nilIface] 57) := ⟨_, rfl⟩
    have t1 : W1.cell? ⟨W.heap.size, 0, none⟩ = some .nilIface := by rw [hW1, cell_new]; rfl
    have f1 : W1.frozen? ⟨W.heap.size, 0, none⟩ = false := by rw [hW1]; simp
    have b1 : Below W.heap.size W W1 := by rw [hW1]; exact (Below.refl _ _).alloc (Nat.le_refl _) _
    have HA : ∀ w0, w0 = W1 → Calls Tryd.prog 21 #[.iface u (.pointer (some ⟨b, 0, none⟩)), .iface 59 (.pointer (some ⟨W.heap.size, 0, none⟩))] w0 fun e w' =>
        e = .returned (.bool true) ∧ w'.cell? ⟨W.heap.size, 0, none⟩ = some (.iface u (.pointer (some ⟨b, 0, none⟩))) ∧ w'.cell? ⟨b, 0, none⟩ = some (.int .i64 k) ∧ Below W.heap.size W w' := by
      intro w0 hw0
      subst hw0
      refine (As_kinded u b W.heap.size hu _ _ t1 f1).mono fun e w' ⟨g1, g2, g3⟩ => ?_
      have hbl := b1.trans g3
      exact ⟨g1, g2, (hbl.cell (p := ⟨b, 0, none⟩) (lt_of_cell h0)).trans h0, hbl⟩
    have HAH := Lib.hid HA
    have HW1 := Lib.hid hW1
    have HU := Lib.hid hu
    clear HA hW1 t1 f1 b1 hch h0 h1 h2 hu
    go_enter Tryd.func15, Tryd.ntmps15
    go_wp2_with (first
      | (go_at_call 21; refine (HAH.out _ ?_).mono ?_; exact HW1.out.symm; rintro e w' ⟨rfl, hc1, hc2, hb'⟩; have mW := methodWhat u b HU.out k w' hc2)
      | (go_at_call 51; refine (what_any k _).mono ?_; rintro e w' ⟨rfl, rfl⟩))
    go_ret
    exact ⟨rfl, hb'⟩

set_option maxHeartbeats 4000000 in
set_option maxRecDepth 1000000 in
/-- cause.position at a chain. -/
theorem position_any {W : World} (E : Value) (l : List Int) (p : Option Int) (hch : Ch W E l p)
    (hg : W.cell? ⟨1, 0, none⟩ = some (.iface 82 (.agg #[.pointer (some ⟨2, 39, none⟩)]))) :
    Calls Tryd.prog 17 #[E] W fun e w' => e = .returned (.tuple #[.int .i64 (p.getD 0), .bool p.isSome]) ∧ Below W.heap.size W w' := by
  obtain ⟨W1, hW1⟩ : ∃ W1, W1 = W.alloc (.cells #[.pointer none] 47) := ⟨_, rfl⟩
  have t1 : W1.cell? ⟨W.heap.size, 0, none⟩ = some (.pointer none) := by rw [hW1, cell_new]; rfl
  have f1 : W1.frozen? ⟨W.heap.size, 0, none⟩ = false := by rw [hW1]; simp
  have b1 : Below W.heap.size W W1 := by rw [hW1]; exact (Below.refl _ _).alloc (Nat.le_refl _) _
  have g1 := (b1.cell (p := ⟨1, 0, none⟩) (lt_of_cell hg)).trans hg
  have HA : ∀ w0, w0 = W1 → Calls Tryd.prog 21 #[E, .iface 62 (.pointer (some ⟨W.heap.size, 0, none⟩))] w0 fun e w' =>
      e = .returned (.bool p.isSome) ∧ (∀ a, p = some a → ∃ b, w'.cell? ⟨b, 2, none⟩ = some (.int .i64 a) ∧ w'.cell? ⟨W.heap.size, 0, none⟩ = some (.pointer (some ⟨b, 0, none⟩))) ∧ Below W.heap.size W w' := by
    intro w0 hw0
    subst hw0
    refine (As_placed W.heap.size W _ E l p hch b1 (Nat.le_refl _) _ t1 f1 g1 (lt_of_cell hg)).mono fun e w' ⟨q1, q2, q3⟩ => ?_
    have hbl := b1.trans q3
    refine ⟨q1, fun a ha => ?_, hbl⟩
    obtain ⟨b, hb, hc, hp⟩ := q2 a ha
    exact ⟨b, (hbl.cell (p := ⟨b, 2, none⟩) hb).trans hc, hp⟩
  have HAH := Lib.hid HA
  have HW1 := Lib.hid hW1
  clear HA hW1 t1 f1 b1 g1 hch hg
  cases p with
  | none =>
    go_enter Tryd.func17, Tryd.ntmps17
    go_wp2_with (go_at_call 21; refine (HAH.out _ ?_).mono ?_; exact HW1.out.symm; rintro e w' ⟨rfl, _, hb'⟩)
    go_ret2
    exact ⟨rfl, hb'⟩
  | some a =>
    go_enter Tryd.func17, Tryd.ntmps17
    go_wp2_with (go_at_call 21; refine (HAH.out _ ?_).mono ?_; exact HW1.out.symm; rintro e w' ⟨rfl, hp', hb'⟩; obtain ⟨b, hc2, hc0⟩ := hp' a rfl)
    go_ret2
    exact ⟨rfl, hb'⟩
end Go.Proofs.YtiagcbedmdfjpaaDoor
