/-
  errors.As at a chain that package cause builds. No statement is proved here.
-/
import Derived.Test.YtiagcbedmdfjpaaDoorErrAsP
namespace Go.Proofs.YtiagcbedmdfjpaaDoor
open Go.RowKit Go.Extern.Stop Go.Stop Go.Extern
set_option linter.unusedSimpArgs false
set_option linter.unusedVariables false

set_option maxRecDepth 1000000 in
/-- errors.As(nil, target). -/
theorem As_nil (t : Value) (w : World) : Calls Tryd.prog 21 #[.nilIface, t] w fun e w' => e = .returned (.bool false) ∧ w' = w := by
  go_enter Tryd.func21, Tryd.ntmps21
  go_wp2
  go_ret
  exact ⟨rfl, rfl⟩

set_option maxHeartbeats 8000000 in
set_option maxRecDepth 1000000 in
/-- errors.As at an error of the package's, the target a *kinded. -/
theorem As_kinded (u b tb : Nat) (hu : u = 53 ∨ u = 47) (old : Value) (W : World) (ht : W.cell? ⟨tb, 0, none⟩ = some old) (hf : W.frozen? ⟨tb, 0, none⟩ = false) :
    Calls Tryd.prog 21 #[.iface u (.pointer (some ⟨b, 0, none⟩)), .iface 59 (.pointer (some ⟨tb, 0, none⟩))] W fun e w' =>
      e = .returned (.bool true) ∧ w'.cell? ⟨tb, 0, none⟩ = some (.iface u (.pointer (some ⟨b, 0, none⟩))) ∧ Below tb W w' := by
  have htl : tb < W.heap.size := lt_of_cell ht
  obtain ⟨W1, hW1⟩ : ∃ W1, W1 = W.alloc (.cells #[.pointer (some ⟨tb, 0, none⟩)] 59) := ⟨_, rfl⟩
  obtain ⟨W2, hW2⟩ : ∃ W2, W2 = W1.alloc (.cells #[.pointer (some ⟨2, 59, none⟩), .pointer (some ⟨W.heap.size, 0, none⟩), .int .u64 150] 71) := ⟨_, rfl⟩
  have s1 : W1.heap.size = W.heap.size + 1 := by rw [hW1]; simp
  have c1 : W1.cell? ⟨W.heap.size, 0, none⟩ = some (.pointer (some ⟨tb, 0, none⟩)) := by rw [hW1, cell_new]; rfl
  have v2 : W2.cell? ⟨W.heap.size, 0, none⟩ = some (.pointer (some ⟨tb, 0, none⟩)) := by rw [hW2]; exact cell_old _ _ _ _ c1
  have t2 : W2.cell? ⟨tb, 0, none⟩ = some old := by rw [hW2]; refine cell_old _ _ _ _ ?_; rw [hW1]; exact cell_old _ _ _ _ ht
  have f2 : W2.frozen? ⟨tb, 0, none⟩ = false := by
    rw [hW2]
    refine frozen_old _ _ _ (by rw [s1]; show tb < _; omega) ?_
    rw [hW1]
    exact frozen_old _ _ _ htl hf
  have b2 : Below tb W W2 := by rw [hW2, hW1]; exact ((Below.refl _ _).alloc (by omega) _).alloc (by simp; omega) _
  have n8 := asK_isNil ⟨W.heap.size, 0, none⟩ ⟨tb, 0, none⟩ W2 v2
  have HC : ∀ w0, w0 = W2 → Calls Tryd.prog 28 #[.iface u (.pointer (some ⟨b, 0, none⟩)), .iface 59 (.pointer (some ⟨tb, 0, none⟩)), .agg #[.pointer (some ⟨2, 59, none⟩), .pointer (some ⟨W.heap.size, 0, none⟩), .int .u64 150], .iface 82 (.agg #[.pointer (some ⟨2, 57, none⟩)])] w0 fun e w' =>
      e = .returned (.bool true) ∧ w'.cell? ⟨tb, 0, none⟩ = some (.iface u (.pointer (some ⟨b, 0, none⟩))) ∧ Below tb W w' := by
    intro w0 h0
    subst h0
    rcases hu with rfl | rfl
    · exact (as_kindedF b tb _ old _ v2 t2 f2).mono fun e w' ⟨h1, h2, h3⟩ => ⟨h1, h2, b2.trans h3⟩
    · exact (as_kindedQ b tb _ old _ v2 t2 f2).mono fun e w' ⟨h1, h2, h3⟩ => ⟨h1, h2, b2.trans h3⟩
  have HCH := Lib.hid HC
  have HW2 := Lib.hid (hW2.trans (by rw [hW1]))
  rw [hW2, hW1] at n8
  clear HC v2 t2 f2 b2 c1 s1 hW2 hW1 ht hf
  have f6 := asK_valueOf
  have f7 := asK_type
  have mK := asKindM
  have mE := asElemM
  have kT := asK_kind
  have kE := asK_kindE
  have eT := asK_elem
  have xV := ext_xV
  have xT := ext_xT
  have xN := ext_xN
  have xK := ext_xK
  have xL := ext_xL
  go_enter Tryd.func21, Tryd.ntmps21
  go_wp2_with (go_at_call 28; refine (HCH.out _ ?_).mono ?_; exact HW2.out.symm; rintro e w' ⟨rfl, hc', hb'⟩)
  go_ret
  exact ⟨rfl, hc', hb'⟩

set_option maxHeartbeats 8000000 in
set_option maxRecDepth 1000000 in
/-- errors.As at a chain, the target a **placed. -/
theorem As_placed (tb : Nat) (W0 W : World) (E : Value) (l : List Int) (p : Option Int) (hch : Ch W0 E l p) (hB : Below W0.heap.size W0 W) (htb : W0.heap.size ≤ tb)
    (old : Value) (ht : W.cell? ⟨tb, 0, none⟩ = some old) (hf : W.frozen? ⟨tb, 0, none⟩ = false) (hg : W.cell? ⟨1, 0, none⟩ = some (.iface 82 (.agg #[.pointer (some ⟨2, 39, none⟩)]))) (hg0 : 1 < W0.heap.size) :
    Calls Tryd.prog 21 #[E, .iface 62 (.pointer (some ⟨tb, 0, none⟩))] W fun e w' =>
      e = .returned (.bool p.isSome) ∧ (∀ a, p = some a → ∃ b, b < W0.heap.size ∧ W0.cell? ⟨b, 2, none⟩ = some (.int .i64 a) ∧ w'.cell? ⟨tb, 0, none⟩ = some (.pointer (some ⟨b, 0, none⟩))) ∧ Below tb W w' := by
  by_cases hn : l = []
  · rcases hch.top with ⟨rfl, rfl, rfl⟩ | ⟨_, _, _, _, _, _, _, rfl, _⟩
    · exact (As_nil _ W).mono fun e w' ⟨h1, h2⟩ => by subst h2; exact ⟨h1, fun a ha => (by cases ha), Below.refl _ _⟩
    · simp at hn
  have htl : tb < W.heap.size := lt_of_cell ht
  obtain ⟨W1, hW1⟩ : ∃ W1, W1 = W.alloc (.cells #[.pointer (some ⟨tb, 0, none⟩)] 62) := ⟨_, rfl⟩
  obtain ⟨W2, hW2⟩ : ∃ W2, W2 = W1.alloc (.cells #[.pointer (some ⟨2, 62, none⟩), .pointer (some ⟨W.heap.size, 0, none⟩), .int .u64 150] 71) := ⟨_, rfl⟩
  have s1 : W1.heap.size = W.heap.size + 1 := by rw [hW1]; simp
  have c1 : W1.cell? ⟨W.heap.size, 0, none⟩ = some (.pointer (some ⟨tb, 0, none⟩)) := by rw [hW1, cell_new]; rfl
  have v2 : W2.cell? ⟨W.heap.size, 0, none⟩ = some (.pointer (some ⟨tb, 0, none⟩)) := by rw [hW2]; exact cell_old _ _ _ _ c1
  have t2 : W2.cell? ⟨tb, 0, none⟩ = some old := by rw [hW2]; refine cell_old _ _ _ _ ?_; rw [hW1]; exact cell_old _ _ _ _ ht
  have f2 : W2.frozen? ⟨tb, 0, none⟩ = false := by
    rw [hW2]
    refine frozen_old _ _ _ (by rw [s1]; show tb < _; omega) ?_
    rw [hW1]
    exact frozen_old _ _ _ htl hf
  have b2 : Below tb W W2 := by rw [hW2, hW1]; exact ((Below.refl _ _).alloc (by omega) _).alloc (by simp; omega) _
  have n8 := asP_isNil ⟨W.heap.size, 0, none⟩ ⟨tb, 0, none⟩ W2 v2
  have hg2 : W2.cell? ⟨1, 0, none⟩ = some (.iface 82 (.agg #[.pointer (some ⟨2, 39, none⟩)])) := (b2.cell (p := ⟨1, 0, none⟩) (by show 1 < tb; omega)).trans hg
  have HC : ∀ w0, w0 = W2 → Calls Tryd.prog 28 #[E, .iface 62 (.pointer (some ⟨tb, 0, none⟩)), .agg #[.pointer (some ⟨2, 62, none⟩), .pointer (some ⟨W.heap.size, 0, none⟩), .int .u64 150], .iface 82 (.agg #[.pointer (some ⟨2, 47, none⟩)])] w0 fun e w' =>
      e = .returned (.bool p.isSome) ∧ (∀ a, p = some a → ∃ b, b < W0.heap.size ∧ W0.cell? ⟨b, 2, none⟩ = some (.int .i64 a) ∧ w'.cell? ⟨tb, 0, none⟩ = some (.pointer (some ⟨b, 0, none⟩))) ∧ Below tb W w' := by
    intro w0 h0
    subst h0
    exact (as_placed tb _ W0 _ E l p hch hn (hB.trans (b2.mono htb)) htb v2 old t2 f2).mono fun e w' ⟨h1, h2, h3⟩ => ⟨h1, h2, b2.trans h3⟩
  have HCH := Lib.hid HC
  have HW2 := Lib.hid (hW2.trans (by rw [hW1]))
  rw [hW2, hW1] at n8 hg2
  obtain ⟨u, b, rfl⟩ := hch.iface hn
  clear HC v2 t2 f2 b2 c1 s1 hW2 hW1 ht hf hg hB hch
  have f6 := asP_valueOf
  have f7 := asP_type
  have mK := asKindM
  have mE := asElemM
  have mI := asImplM
  have kT := asP_kind
  have kE := asP_kindE
  have eT := asP_elem
  have iT := asP_implements
  have xV := ext_xV
  have xT := ext_xT
  have xN := ext_xN
  have xK := ext_xK
  have xL := ext_xL
  have xI := ext_xI
  go_enter Tryd.func21, Tryd.ntmps21
  go_wp2_with (go_at_call 28; refine (HCH.out _ ?_).mono ?_; exact HW2.out.symm; rintro e w' ⟨rfl, hp', hb'⟩)
  go_ret
  exact ⟨rfl, hp', hb'⟩
end Go.Proofs.YtiagcbedmdfjpaaDoor
