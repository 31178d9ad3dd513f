/-
  Facts of parts for SetWhole: together all bytes, rising, within each set or apart from it. No statement is proved here.
-/
import Derived.Test.YtaobeconjdeenaaDoorBsM
namespace Go.Proofs.YtaobeconjdeenaaDoor
open Go.RowKit
set_option linter.unusedSimpArgs false
set_option linter.unusedVariables false

/-- All of them together. -/
def uni (l : List (Nat → Bool)) : Nat → Bool := fun b => l.any fun q => q b
/-- How many bytes they have, one by one. -/
def sumL (l : List (Nat → Bool)) : Nat := (l.map fun q => (memJ q 256).length).sum
theorem uni_more (l : List (Nat → Bool)) (q : Nat → Bool) : uni (l ++ [q]) = fun b => uni l b || q b := by
  funext b
  simp [uni]
theorem sumL_more (l : List (Nat → Bool)) (q : Nat → Bool) : sumL (l ++ [q]) = sumL l + (memJ q 256).length := by simp [sumL]
theorem memJ_none {p : Nat → Bool} {n : Nat} (h : ∀ b, b < n → p b = false) : memJ p n = [] := by
  unfold memJ
  rw [List.map_eq_nil_iff, List.filter_eq_nil_iff]
  intro b hb
  rw [h b (List.mem_range.1 hb)]
  decide
theorem sumL_uni : ∀ {l : List (Nat → Bool)}, Apart l → sumL l = (memJ (uni l) 256).length
  | [], _ => by rw [memJ_none (p := uni []) (fun b _ => rfl)]; rfl
  | p :: r, h => by
    have h' := List.pairwise_cons.1 h
    have ih := sumL_uni (l := r) h'.2
    have hs := memJ_sum p (uni r) 256
    rw [memJ_none (p := fun b => p b && uni r b) (fun b hb => by
      cases hp : p b with
      | false => rfl
      | true =>
        show (true && uni r b) = false
        rw [Bool.true_and, Bool.eq_false_iff]
        intro hu
        obtain ⟨q, hq, hqb⟩ := List.any_eq_true.1 hu
        exact h'.1 q hq b hb ⟨hp, hqb⟩)] at hs
    have e1 : sumL (p :: r) = (memJ p 256).length + sumL r := by simp [sumL]
    have e2 : (fun b => p b || uni r b) = uni (p :: r) := by funext b; simp [uni]
    rw [e2] at hs
    simp only [List.length_nil, Nat.add_zero] at hs
    rw [e1, ih, hs]
theorem memJ_full {p : Nat → Bool} (h : ∀ b, b < 256 → p b = true) : (memJ p 256).length = 256 := by
  rw [memJ_congr (q := fun _ => true) h]
  unfold memJ
  rw [List.length_map, List.filter_eq_self.2 (fun _ _ => rfl), List.length_range]
theorem parts_uni (ps : List (Nat → Bool)) : (memJ (uni (parts ps)) 256).length = 256 := memJ_full fun b hb => by
  obtain ⟨q, hq, h⟩ := (parts_cut ps).all_ b hb
  exact List.any_eq_true.2 ⟨q, hq, h⟩
theorem parts_sum (ps : List (Nat → Bool)) : sumL (parts ps) = 256 := by rw [sumL_uni (parts_cut ps).apart, parts_uni]
theorem sumL_take_le (ps : List (Nat → Bool)) (i : Nat) : sumL ((parts ps).take i) ≤ 256 := by
  rw [sumL_uni (List.Pairwise.sublist (List.take_sublist _ _) (parts_cut ps).apart)]
  exact memJ_len _ 256
theorem cut_nonE' {ps cur : List (Nat → Bool)} (h : Cut ps cur) (q : Nat → Bool) (hq : q ∈ cur) : ∃ b, b < 256 ∧ q b = true := by
  obtain ⟨a, ha, hqa⟩ := h.some_ q hq
  exact ⟨a, ha, by rw [hqa a ha]; exact alikeS_refl ps a⟩
/-- A part's first byte. -/
theorem part_first {x : Nat → Bool} (h : ∃ b, b < 256 ∧ x b = true) : ∃ j, j < 256 ∧ x j = true ∧ (∀ b, b < j → x b = false) ∧ (memJ x 256)[0]? = some (UInt8.ofNat j) ∧ 0 < (memJ x 256).length := by
  have hh : (memJ x 256)[0]? = ((List.range 256).find? x).map UInt8.ofNat := by
    unfold memJ
    rw [List.getElem?_map, ← List.head?_eq_getElem?, List.head?_filter]
  cases hf : (List.range 256).find? x with
  | none =>
    obtain ⟨b, hb, hx⟩ := h
    have := List.find?_eq_none.1 hf b (List.mem_range.2 hb)
    exact absurd hx this
  | some j =>
    rw [hf] at hh
    obtain ⟨h1, h2, h3⟩ := List.find?_range_eq_some.1 hf
    refine ⟨j, List.mem_range.1 h2, h1, fun b hb => by simpa using h3 b hb, hh, ?_⟩
    exact (List.getElem?_eq_some_iff.1 hh).1
/-- The first bytes rise. -/
theorem first_rise {p q : Nat → Bool} {i j : Nat} (hl : lessS p q = true) (hap : ∀ b, b < 256 → ¬ (p b = true ∧ q b = true)) (hi : ∀ b, b < i → p b = false) (hi1 : p i = true) (hj : q j = true) (hj256 : j < 256) : i < j := by
  obtain ⟨k, hk, h1, h2, h3⟩ := (lessS_iff p q).1 hl
  have hki : ¬ k < i := fun h => by rw [hi k h] at h2; cases h2
  rcases Nat.lt_trichotomy j k with h | h | h
  · have e := h1 j h
    exact absurd ⟨e.trans hj, hj⟩ (hap j (by omega))
  · subst h
    rw [h3] at hj; cases hj
  · rcases Nat.lt_or_ge i j with h' | h'
    · exact h'
    · omega
/-- A part lies within a set of the list, or apart from it. -/
theorem part_in {ps : List (Nat → Bool)} {q s : Nat → Bool} (hq : q ∈ parts ps) (hs : s ∈ ps) : eqS (fun b => s b && q b) q = true ∨ (eqS (fun b => s b && q b) q = false ∧ (memJ (fun b => s b && q b) 256).length = 0) := by
  obtain ⟨a, ha, hqa⟩ := (parts_cut ps).some_ q hq
  have hal : ∀ b, b < 256 → q b = true → s a = s b := fun b hb h => by
    rw [hqa b hb] at h
    exact (alikeS_iff ps a b).1 h s hs
  cases hsa : s a with
  | true =>
    refine .inl ((eqS_iff _ _).2 fun b hb => ?_)
    cases hqb : q b with
    | false => simp
    | true => rw [← hal b hb hqb, hsa]; rfl
  | false =>
    have hn : ∀ b, b < 256 → (s b && q b) = false := fun b hb => by
      cases hqb : q b with
      | false => simp
      | true => rw [← hal b hb hqb, hsa]; rfl
    refine .inr ⟨?_, by rw [memJ_none hn]; rfl⟩
    rw [Bool.eq_false_iff]
    intro he
    have := (eqS_iff _ _).1 he a ha
    rw [hn a ha, hqa a ha, alikeS_refl] at this
    cases this
end Go.Proofs.YtaobeconjdeenaaDoor
