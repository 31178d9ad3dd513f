/-
  errors.Is, at a chain that package cause builds and a kind. No statement is proved here.
-/
import Derived.Test.YtiagcbedmdfjpaaDoorErr
namespace Go.Proofs.YtiagcbedmdfjpaaDoor
open Go.RowKit Go.Extern.Stop Go.Stop Go.Extern
set_option linter.unusedSimpArgs false
set_option linter.unusedVariables false

set_option maxHeartbeats 4000000 in
set_option maxRecDepth 1000000 in
/-- errors.is at a chain that is not nil. -/
theorem is_chain {W : World} (t : Int) (E : Value) (l : List Int) (p : Option Int) (hch : Ch W E l p) (hn : l ≠ []) :
    Calls Tryd.prog 24 #[E, .iface 48 (.int .i64 t), .bool true] W fun e w' => e = .returned (.bool (decide (t ∈ l))) ∧ w' = W := by
  have iF := hasIsF
  have iP := hasIsP
  have uF := hasUnwrapF
  have uP := hasUnwrapP
  have mF := methodIsF
  have mP := methodIsP
  have nF := methodUnwrapF
  have nP := methodUnwrapP
  go_enter Tryd.func24, Tryd.ntmps24
  go_wp2
  go_loopw [0] (fun E' wl => wl = W ∧ ∃ l' p', Ch W E' l' p' ∧ l' ≠ [] ∧ decide (t ∈ l) = decide (t ∈ l')) (fun E' _ => chLen W E')
  case atStart => exact ⟨rfl, l, p, hch, hn, rfl⟩
  case round =>
    obtain ⟨rfl, l', p', hc', hn', hiff⟩ := hrel
    have hlen0 := chLen_eq hc'
    have hH := Lib.hid hiff
    have hL0 := Lib.hid hlen0
    rcases hc'.top with ⟨_, h, _⟩ | ⟨u, b, k, E', l2, rfl, hu, rfl, h0, h1, p2, h2⟩
    · exact absurd h hn'
    clear hiff hlen0 hc' hch
    have H2 := Lib.hid h2
    have hty := fun hne => run_eql_iface_types (P := Tryd.prog) u 48 (.pointer (some ⟨b, 0, none⟩)) (.int .i64 t) Tryd.underlying39 hne wr
    have hE' : (l2 = [] ∧ E' = .nilIface) ∨ (l2 ≠ [] ∧ ∃ u v, E' = .iface u v) := by
      rcases h2.top with ⟨rfl, rfl, _⟩ | ⟨u, b, k, E', l3, rfl, _, rfl, _⟩
      · exact .inl ⟨rfl, rfl⟩
      · exact .inr ⟨by simp, _, _, rfl⟩
    clear h2 hn'
    by_cases htk : t = k
    · subst htk
      clear hE'
      have hr : decide (t = t) = true := by simp
      rcases hu with rfl | rfl
      all_goals
        replace hty := hty (by decide)
        go_wp2_with (first | (go_at_call 49; refine (faultIs b t t _ h0).mono ?_; rintro e w' ⟨rfl, rfl⟩))
        go_ret
        exact ⟨by rw [hH.out]; simp, rfl⟩
    · have hr : decide (t = k) = false := by simp [htk]
      rcases hE' with ⟨rfl, rfl⟩ | ⟨hl2, u2, v2, rfl⟩
      · rcases hu with rfl | rfl
        all_goals
          replace hty := hty (by decide)
          go_wp2_with (first
            | (go_at_call 49; refine (faultIs b k t _ h0).mono ?_; rintro e w' ⟨rfl, rfl⟩)
            | (go_at_call 50; refine (faultUnwrap b _ _ h1).mono ?_; rintro e w' ⟨rfl, rfl⟩))
          go_ret
          exact ⟨by rw [hH.out]; simp [htk], rfl⟩
      · rcases hu with rfl | rfl
        all_goals
          replace hty := hty (by decide)
          go_wp2_with (first
            | (go_at_call 49; refine (faultIs b k t _ h0).mono ?_; rintro e w' ⟨rfl, rfl⟩)
            | (go_at_call 50; refine (faultUnwrap b _ _ h1).mono ?_; rintro e w' ⟨rfl, rfl⟩))
          go_roundw
          case rel => exact ⟨trivial, l2, p2, H2.out, hl2, by rw [hH.out]; simp [htk]⟩
          case measure =>
            show chLen _ (.iface u2 v2) < _
            rw [chLen_eq H2.out, hL0.out]; simp

set_option maxHeartbeats 4000000 in
set_option maxRecDepth 1000000 in
/-- errors.Is at a chain and a kind. -/
theorem is_any {W : World} (t : Int) (E : Value) (l : List Int) (p : Option Int) (hch : Ch W E l p) :
    Calls Tryd.prog 20 #[E, .iface 48 (.int .i64 t)] W fun e w' => e = .returned (.bool (decide (t ∈ l))) ∧ w' = W := by
  by_cases hn : l = []
  · rcases hch.top with ⟨rfl, rfl, rfl⟩ | ⟨_, _, _, _, _, _, _, rfl, _⟩
    · have hnl := run_eql_iface_nil_left (P := Tryd.prog) W 48 (.int .i64 t) Tryd.underlying39
      go_enter Tryd.func20, Tryd.ntmps20
      go_wp2
      go_ret
      exact ⟨by simp, rfl⟩
    · simp at hn
  · have hX := is_chain t E l p hch hn
    have HX := Lib.hid hX
    obtain ⟨u, b, rfl⟩ := hch.iface hn
    have h8 := @run_callFunc_extern Tryd.prog 23 _ Extern.ReflectliteType.typeOf Tryd.func23 (by kernel_rfl) (by kernel_rfl) (by kernel_rfl) (by kernel_rfl)
    have h32 := @run_callFunc_extern Tryd.prog 57 _ (Extern.ReflectliteType.method fun t => do Extern.Rtype.noPackHeld "Comparable" t; pure (.bool (← typeInfo t).comparable)) Tryd.func57 (by kernel_rfl) (by kernel_rfl) (by kernel_rfl) (by kernel_rfl)
    have tT := isTypeOf
    have cT := isComparable
    have mR := isMethodComparable
    clear hX hch hn
    go_enter Tryd.func20, Tryd.ntmps20
    go_wp2_with (go_at_call 24; refine HX.out.mono ?_; rintro e w' ⟨rfl, rfl⟩)
    go_ret
    exact ⟨rfl, rfl⟩
end Go.Proofs.YtiagcbedmdfjpaaDoor
