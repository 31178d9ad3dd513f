/-
  What package cause's wrap answers and leaves. No statement is proved here.
-/
import Derived.Test.YtiagcbedmdfjpaaDoorCauseA
import Derived.Test.YtiagcbedmdfjpaaDoorRow
namespace Go.Proofs.YtiagcbedmdfjpaaDoor
open Go.RowKit Go.Extern.Stop Go.Stop Go.Extern
set_option linter.unusedSimpArgs false
set_option linter.unusedVariables false

/-- The kinds that are errors. -/
def fl (l : List Int) : List Int := l.filter fun k => decide (k ≠ 0)
theorem fl_append (l m : List Int) : fl (l ++ m) = fl l ++ fl m := by simp [fl]
/-- The chain of the first j kinds, the outermost one first. -/
def chn (l : List Int) (j : Nat) : List Int := (fl (l.take j)).reverse
/-- The place that the chain of the first j kinds has. -/
def plc (l : List Int) (a : Int) (j : Nat) : Option Int := if 0 < j ∧ l.head? = some 6 then some a else none
theorem chn_zero (l : List Int) : chn l 0 = [] := rfl
theorem plc_zero (l : List Int) (a : Int) : plc l a 0 = none := by simp [plc]
theorem chn_ok (l : List Int) (j : Nat) (h : j < l.length) (hk : l[j] = 0) : chn l (j + 1) = chn l j := by
  unfold chn
  rw [List.take_succ_eq_append_getElem h, fl_append, hk]
  simp [fl]
theorem chn_err (l : List Int) (j : Nat) (h : j < l.length) (hk : l[j] ≠ 0) : chn l (j + 1) = l[j] :: chn l j := by
  unfold chn
  rw [List.take_succ_eq_append_getElem h, fl_append]
  simp [fl, hk]
theorem plc_step (l : List Int) (a : Int) (j : Nat) (h : j < l.length) (hk : ¬ (l[j] = 6 ∧ j = 0)) : plc l a (j + 1) = plc l a j := by
  rcases Nat.eq_zero_or_pos j with rfl | hj
  · rw [plc_zero]
    cases l with
    | nil => simp at h
    | cons x r =>
      simp at hk
      simp [plc, hk]
  · simp [plc, hj]
theorem plc_six (l : List Int) (a : Int) (h : 0 < l.length) (hk : l[0] = 6) : plc l a 1 = some a := by
  cases l with
  | nil => simp at h
  | cons x r => simp at hk; simp [plc, hk]
theorem chn_len (l : List Int) (j : Nat) : (chn l j).length ≤ j := by
  unfold chn fl
  rw [List.length_reverse]
  refine Nat.le_trans (List.length_filter_le _ _) ?_
  rw [List.length_take]
  omega

set_option maxHeartbeats 4000000 in
set_option maxRecDepth 1000000 in
/-- cause.wrap. -/
theorem wrap_any {W : World} (vk : Value) (l : List Int) (a : Int) (hr : Row W vk (ints l)) (hl : l.length ≤ 1000) :
    Calls Tryd.prog 13 #[vk, .int .i64 a] W fun e w' => ∃ E, e = .returned E ∧ Ch w' E (chn l l.length) (plc l a l.length) ∧ Below W.heap.size W w' := by
  have HR := Lib.hid hr
  obtain ⟨A, cap, rfl, a1, a2, a0, a3⟩ := hr
  rw [nums_length] at a1 HR ⊢
  clear a3 a0 a1 a2
  go_enter Tryd.func13, Tryd.ntmps13
  go_wp2
  go_loopw [4, 9] (fun E i wl => ∃ j : Nat, j ≤ l.length ∧ i = .int .i64 (j : Int) ∧ Ch wl E (chn l j) (plc l a j) ∧ Below W.heap.size W wl) (fun _ i _ => l.length - (intOf i).toNat)
  case atStart => exact ⟨0, by omega, by simp, by rw [chn_zero, plc_zero]; exact .nil, Below.refl _ _⟩
  case round =>
    obtain ⟨j, hj, rfl, hC, hB⟩ := hrel
    have HC := Lib.hid hC
    have HB := Lib.hid hB
    clear hC
    by_cases hjl : j < l.length
    · obtain ⟨b0, off, rfl, hb0, hcell⟩ := (HR.out.below hB).at_ (by rw [nums_length]; omega)
      have hcj := hcell j _ (nums_get _ l j hjl)
      have i1 : (j : Int) < (l.length : Int) := by omega
      obtain ⟨k, hk⟩ : ∃ k, k = l[j] := ⟨_, rfl⟩
      rw [← hk] at hcj
      have HK := Lib.hid hk.symm
      clear hcell hk
      by_cases h0 : k = 0
      · subst h0
        go_wp2
        exact ⟨⟨j + 1, by omega, by congr 1, by rw [chn_ok l j hjl HK.out, plc_step l a j hjl (by rw [HK.out]; omega)]; exact HC.out, HB.out⟩, by simp [intOf] <;> omega⟩
      · have hz : (k == 0) = false := by simp [h0]
        by_cases h6 : k = 6 ∧ j = 0
        · obtain ⟨rfl, hj0⟩ := h6
          have e0 : ((j : Int) == 0) = true := by simp [hj0]
          have HJ := Lib.hid hj0
          clear hj0
          go_wp2
          refine ⟨⟨j + 1, by omega, by congr 1, ?_, (HB.out.alloc HB.out.size _)⟩, by simp [intOf] <;> omega⟩
          have hj0 := HJ.out
          subst hj0
          have c6 : chn l 1 = [6] := by rw [chn_err l 0 hjl (by rw [HK.out]; decide), HK.out, chn_zero]
          rw [c6, plc_six l a hjl HK.out]
          exact .placed _ _ (by rw [cell_new]; rfl) (by rw [cell_new]; rfl) (by rw [cell_new]; rfl)
        · have HN := Lib.hid h6
          have hC' : ∀ E, u4 = E → Ch (wr.alloc (.cells #[.int .i64 k, E] 50)) (.iface 53 (.pointer (some ⟨wr.heap.size, 0, none⟩))) (chn l (j + 1)) (plc l a (j + 1)) := by
            intro E hE
            subst hE
            rw [plc_step l a j hjl (by rw [HK.out]; exact HN.out), chn_err l j hjl (by rw [HK.out]; exact h0), HK.out]
            exact .fault _ _ _ _ _ (by rw [cell_new]; rfl) (by rw [cell_new]; rfl) (HC.out.stay ((Below.refl _ _).alloc (Nat.le_refl _) _))
          have HC' := Lib.hid hC'
          clear hC'
          have hu4 : u4 = .nilIface ∨ ∃ u b, u4 = .iface u (.pointer (some ⟨b, 0, none⟩)) := by
            rcases HC.out.top with ⟨h, _⟩ | ⟨u, b, _, _, _, h, _⟩
            · exact .inl h
            · exact .inr ⟨u, b, h⟩
          by_cases hk6 : k = 6
          · subst hk6
            have e0 : ((j : Int) == 0) = false := by simp; omega
            clear h6
            rcases hu4 with rfl | ⟨u, b, rfl⟩
            all_goals
              go_wp2
              exact ⟨⟨j + 1, by omega, by congr 1, HC'.out _ rfl, (HB.out.alloc HB.out.size _)⟩, by simp [intOf] <;> omega⟩
          · have e6 : (k == 6) = false := by simp [hk6]
            clear h6
            rcases hu4 with rfl | ⟨u, b, rfl⟩
            all_goals
              go_wp2
              exact ⟨⟨j + 1, by omega, by congr 1, HC'.out _ rfl, (HB.out.alloc HB.out.size _)⟩, by simp [intOf] <;> omega⟩
    · obtain rfl : j = l.length := by omega
      have i1 : ¬ ((l.length : Int) < (l.length : Int)) := by omega
      go_wp2
      go_ret
      exact ⟨_, rfl, HC.out, HB.out⟩
end Go.Proofs.YtiagcbedmdfjpaaDoor
