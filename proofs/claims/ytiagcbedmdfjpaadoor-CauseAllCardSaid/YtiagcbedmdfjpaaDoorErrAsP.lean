/-
  errors.as at a chain that package cause builds, the target a **placed. No statement is proved here.
-/
import Derived.Test.YtiagcbedmdfjpaaDoorErrAs
namespace Go.Proofs.YtiagcbedmdfjpaaDoor
open Go.RowKit Go.Extern.Stop Go.Stop Go.Extern
set_option linter.unusedSimpArgs false
set_option linter.unusedVariables false

/-- The chain's placed error, if it has one. -/
theorem Ch.lt {w : World} {E : Value} {l : List Int} {p : Option Int} (h : Ch w E l p) : ∀ u b, E = .iface u (.pointer (some ⟨b, 0, none⟩)) → b < w.heap.size := by
  intro u b he
  cases h with
  | nil => cases he
  | placed b' a h0 h1 h2 => cases he; exact lt_of_cell h0
  | fault b' k E' l' p h0 h1 hc => cases he; exact lt_of_cell h0

set_option maxHeartbeats 8000000 in
set_option maxRecDepth 1000000 in
/-- errors.as at a chain that is not nil, the target a **placed. -/
theorem as_placed (tb vb : Nat) (W0 W : World) (E : Value) (l : List Int) (p : Option Int) (hch : Ch W0 E l p) (hn : l ≠ []) (hB : Below W0.heap.size W0 W) (htb : W0.heap.size ≤ tb)
    (hv : W.cell? ⟨vb, 0, none⟩ = some (.pointer (some ⟨tb, 0, none⟩))) (old : Value) (ht : W.cell? ⟨tb, 0, none⟩ = some old) (hf : W.frozen? ⟨tb, 0, none⟩ = false) :
    Calls Tryd.prog 28 #[E, .iface 62 (.pointer (some ⟨tb, 0, none⟩)), .agg #[.pointer (some ⟨2, 62, none⟩), .pointer (some ⟨vb, 0, none⟩), .int .u64 150], .iface 82 (.agg #[.pointer (some ⟨2, 47, none⟩)])] W fun e w' =>
      e = .returned (.bool p.isSome) ∧ (∀ a, p = some a → ∃ b, b < W0.heap.size ∧ W0.cell? ⟨b, 2, none⟩ = some (.int .i64 a) ∧ w'.cell? ⟨tb, 0, none⟩ = some (.pointer (some ⟨b, 0, none⟩))) ∧ Below tb W w' := by
  have htl : tb < W.heap.size := lt_of_cell ht
  obtain ⟨W1, hW1⟩ : ∃ W1, W1 = W.alloc (.cells #[.pointer (some ⟨2, 62, none⟩), .pointer (some ⟨vb, 0, none⟩), .int .u64 150] 71) := ⟨_, rfl⟩
  have el := asP_elemV ⟨vb, 0, none⟩ ⟨tb, 0, none⟩ W1 (by rw [hW1]; exact cell_old _ _ _ _ hv)
  have s1 : W1.heap.size = W.heap.size + 1 := by rw [hW1]; simp
  have c1 : W1.cell? ⟨tb, 0, none⟩ = some old := by rw [hW1]; exact cell_old _ _ _ _ ht
  have b1 : Below tb W W1 := by rw [hW1]; exact (Below.refl _ _).alloc (by omega) _
  have f1 : W1.frozen? ⟨tb, 0, none⟩ = false := by rw [hW1]; exact frozen_old _ _ _ htl hf
  have bx : W1.cell? ⟨W.heap.size, 0, none⟩ = some (.pointer (some ⟨2, 62, none⟩)) ∧ W1.cell? ⟨W.heap.size, 1, none⟩ = some (.pointer (some ⟨vb, 0, none⟩)) ∧ W1.cell? ⟨W.heap.size, 2, none⟩ = some (.int .u64 150) := by
    rw [hW1, cell_new, cell_new, cell_new]
    exact ⟨rfl, rfl, rfl⟩
  have BX := Lib.hid bx
  clear bx
  have hB1 : Below W0.heap.size W0 W1 := hB.trans (b1.mono htb)
  have HW1 := Lib.hid hW1
  have HB1 := Lib.hid hB1
  have C1 := Lib.hid c1
  have B1 := Lib.hid b1
  have F1 := Lib.hid f1
  have S1 := Lib.hid s1
  clear hv ht hf hB hW1 hB1 c1 b1 f1 s1
  have tF := asF_typeOf
  have tQ := asQ_typeOf
  have mA := asAsgM
  have aF := asF_asgP
  have aQ := asQ_asgP
  have nA := noAsF
  have uF := hasUnwrapF
  have nF := methodUnwrapF
  have vQ := asQ_valueOfS
  have xO := ext_xO
  have xA := ext_xA
  have xE := ext_xE
  have xV := ext_xV
  have xS := ext_xS
  go_enter Tryd.func28, Tryd.ntmps28
  go_wp2
  go_loopw [0] (fun E' wl => wl = W1 ∧ ∃ l', Ch W0 E' l' p ∧ l' ≠ []) (fun E' _ => chLen W0 E')
  case atStart => exact ⟨HW1.out.symm, l, hch, hn⟩
  case round =>
    obtain ⟨rfl, l', hc', hn'⟩ := hrel
    have hlen0 := chLen_eq hc'
    have hL0 := Lib.hid hlen0
    clear hlen0
    cases hc' with
    | nil => exact absurd rfl hn'
    | placed b a h0 h1 h2 =>
      have hbl : b < W0.heap.size := lt_of_cell h0
      obtain ⟨bx0, bx1, bx2⟩ := BX.out
      have vS := vQ ⟨b, 0, none⟩ wr
      obtain ⟨W2, hW2⟩ : ∃ W2, W2 = wr.alloc (.cells #[.pointer (some ⟨b, 0, none⟩)] 47) := ⟨_, rfl⟩
      have c2 : W2.cell? ⟨tb, 0, none⟩ = some old := by rw [hW2]; exact cell_old _ _ _ _ C1.out
      have b2 : Below tb W W2 := by rw [hW2]; exact B1.out.alloc (by have := S1.out; omega) _
      have st := asQ_setP ⟨tb, 0, none⟩ ⟨wr.heap.size, 0, none⟩ ⟨b, 0, none⟩ old W2 (by rw [hW2, cell_new]; rfl) c2
        (by rw [hW2]; exact frozen_old _ _ _ (by have := S1.out; show tb < _; omega) F1.out)
      rw [← hW2] at vS
      have C2 := Lib.hid c2
      have B2 := Lib.hid b2
      have H2 := Lib.hid h2
      clear hW2 c2 b2 h0 h1 h2 hn' vQ
      go_wp2
      go_ret
      refine ⟨rfl, ?_, B2.out.setCell (Nat.le_refl _) _⟩
      intro a' ha'
      cases ha'
      exact ⟨b, hbl, H2.out, cell_set _ _ _ _ C2.out⟩
    | fault b k E' l2 p h0 h1 h2 =>
      have h1' := (HB1.out.cell (p := ⟨b, 1, none⟩) (lt_of_cell h1)).trans h1
      have H2 := Lib.hid h2
      rcases h2.top with ⟨rfl, rfl, rfl⟩ | ⟨u2, b2, k2, E2, l3, rfl, _, rfl, _, _, _⟩
      · clear h0 h1 h2 hn'
        go_wp2_with (go_at_call 50; refine (faultUnwrap b _ _ h1').mono ?_; rintro e w' ⟨rfl, rfl⟩)
        go_ret
        exact ⟨rfl, fun a ha => (by cases ha), B1.out⟩
      · clear h0 h1 h2 hn'
        go_wp2_with (go_at_call 50; refine (faultUnwrap b _ _ h1').mono ?_; rintro e w' ⟨rfl, rfl⟩)
        go_roundw
        case rel => exact ⟨trivial, k2 :: l3, H2.out, by simp⟩
        case measure =>
          show chLen W0 (.iface u2 _) < _
          rw [chLen_eq H2.out, hL0.out]; simp
end Go.Proofs.YtiagcbedmdfjpaaDoor
