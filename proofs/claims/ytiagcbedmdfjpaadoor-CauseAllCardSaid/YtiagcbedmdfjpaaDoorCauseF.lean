/-
  What the statements' own helpers begun and kinds answer, for package cause. No statement is proved here.
-/
import Derived.Test.YtiagcbedmdfjpaaDoorCauseE
import Derived.Deep.QuietTactic
import Derived.BigQuiet
namespace Go.Proofs.YtiagcbedmdfjpaaDoor
open Go.RowKit Go.Extern.Stop Go.Stop Go.Extern
set_option linter.unusedSimpArgs false
set_option linter.unusedVariables false

theorem row_blk {w : World} {g n : Nat} {t : TypeId} {cs : List Value} (h : Blk w g t cs) (hn : cs.length = n) (hl : n ≤ 1048576) : Row w (.slice (some ⟨g, 0, none⟩) n n) cs := by
  subst hn
  refine ⟨_, _, rfl, Nat.le_refl _, by unfold maxLen; omega, (fun h => by cases h), fun _ => ⟨g, 0, rfl, h.lt, fun i u hu => ?_⟩⟩
  rw [Nat.zero_add, h.cell i]
  exact hu

/-- Are all of them kinds, and no more than 40? -/
def okK (l : List Int) : Bool := decide (l.length ≤ 40) && l.all fun k => decide (0 ≤ k) && decide (k ≤ 16)
theorem okK_all {l : List Int} (h : okK l = true) : l.length ≤ 40 ∧ ∀ k ∈ l, 0 ≤ k ∧ k ≤ 16 := by
  simpa [okK] using h

set_option maxHeartbeats 4000000 in
set_option maxRecDepth 1000000 in
theorem kinds_any {W : World} (vk : Value) (l : List Int) (hr : Row W vk (ints l)) :
    Calls Tryd.prog 8 #[vk] W fun e w' => e = .returned (.bool (okK l)) ∧ w' = W := by
  have HR := Lib.hid hr
  obtain ⟨A, cap, rfl, a1, a2, a0, a3⟩ := hr
  rw [nums_length] at a1 HR ⊢
  have hll : l.length ≤ 9223372036854775807 := by unfold maxLen at a2; omega
  clear a3 a0 a1 a2
  by_cases h40 : l.length ≤ 40
  · have n1 : ¬ (40 < (l.length : Int)) := by omega
    go_enter Tryd.func8, Tryd.ntmps8
    go_wp2
    go_loopw [3] (fun i wl => ∃ j : Nat, j ≤ l.length ∧ i = .int .i64 (j : Int) ∧ (∀ i, i < j → ∀ h : i < l.length, 0 ≤ l[i] ∧ l[i] ≤ 16) ∧ wl = W) (fun i _ => l.length - (intOf i).toNat)
    case atStart => exact ⟨0, by omega, by simp, fun i hi => by omega, rfl⟩
    case round =>
      obtain ⟨j, hj, rfl, hall, rfl⟩ := hrel
      have HA := Lib.hid hall
      clear hall
      by_cases hjl : j < l.length
      · obtain ⟨b0, off, rfl, hb0, hcell⟩ := (HR.out).at_ (by rw [nums_length]; omega)
        have hcj := hcell j _ (nums_get _ l j hjl)
        have i1 : (j : Int) < (l.length : Int) := by omega
        obtain ⟨k, hk⟩ : ∃ k, k = l[j] := ⟨_, rfl⟩
        rw [← hk] at hcj
        have HK := Lib.hid hk
        clear hcell hk
        by_cases hk0 : k < 0
        · go_wp2
          go_ret
          refine ⟨?_, rfl⟩
          have : okK l = false := by
            rcases h : okK l with _ | _
            · rfl
            · have := (okK_all h).2 l[j] (List.getElem_mem hjl); rw [← HK.out] at this; omega
          rw [this]; rfl
        · by_cases hk1 : 16 < k
          · go_wp2
            go_ret
            refine ⟨?_, rfl⟩
            have : okK l = false := by
              rcases h : okK l with _ | _
              · rfl
              · have := (okK_all h).2 l[j] (List.getElem_mem hjl); rw [← HK.out] at this; omega
            rw [this]; rfl
          · go_wp2
            exact ⟨⟨j + 1, by omega, by congr 1, fun i hi h => by
              rcases Nat.lt_or_ge i j with h1 | h1
              · exact HA.out i h1 h
              · obtain rfl : i = j := by omega
                rw [← HK.out]; omega, trivial⟩, by simp [intOf] <;> omega⟩
      · obtain rfl : j = l.length := by omega
        have i1 : ¬ ((l.length : Int) < (l.length : Int)) := by omega
        go_wp2
        go_ret
        refine ⟨?_, rfl⟩
        have : okK l = true := by
          simp only [okK, Bool.and_eq_true, decide_eq_true_eq, List.all_eq_true]
          refine ⟨h40, fun k hk => ?_⟩
          obtain ⟨i, hi, rfl⟩ := List.getElem_of_mem hk
          exact HA.out i hi hi
        rw [this]; rfl
  · have n1 : 40 < (l.length : Int) := by omega
    go_enter Tryd.func8, Tryd.ntmps8
    go_wp2
    go_ret
    exact ⟨by rw [show okK l = false by simp [okK, h40]]; rfl, rfl⟩

set_option maxHeartbeats 4000000 in
set_option maxRecDepth 1000000 in
theorem begun_any {W : World} (he : EtAt W) (ho : OrdAt W) :
    Calls Tryd.prog 7 #[] W fun e w' => e = .returned (.bool true) ∧ Below W.heap.size W w' := by
  have HE := Lib.hid he
  have HO := Lib.hid ho
  clear he ho
  go_enter Tryd.func7, Tryd.ntmps7
  go_wp2_with fail
  have b1 : Below W.heap.size W ((W.alloc (.cells #[.int .i64 6, .int .i64 1] 26)).alloc (.cells #[.int .i64 6, .int .i64 9] 26)) := ((Below.refl _ _).alloc (Nat.le_refl _) _).alloc (by simp) _
  have k1 := (Blk.new W 26 (ints [6, 1])).alloc (.cells #[.int .i64 6, .int .i64 9] 26)
  have k2 := Blk.new (W.alloc (.cells #[.int .i64 6, .int .i64 1] 26)) 26 (ints [6, 9])
  have s1 : (W.alloc (.cells #[.int .i64 6, .int .i64 1] 26)).heap.size = W.heap.size + 1 := by simp
  rw [s1] at k2
  refine (chain_any _ _ [6, 1] [6, 9] 7 (row_blk (n := 2) k1 rfl (by omega)) (row_blk (n := 2) k2 rfl (by omega)) (by simp) (by simp) (by decide) (HE.out.stay b1)).mono ?_
  rintro e w2 ⟨g, hg, he, hk, hb⟩
  rw [show firstOf [6, 1] = 1 by decide, show placeOf [6, 1] 7 = some 7 by decide, show deepOf [6, 1] = 2 by decide] at he
  replace hk : Blk w2 g 4 [.bool true, .bool false] := hk
  replace he : e = .returned (.agg #[.slice (some ⟨g, 0, none⟩) 2 2, .int .i64 1, .int .i64 7, .bool true, .int .i64 2]) := he
  subst he
  have HB := Lib.hid (b1.trans (hb.mono b1.size))
  have HK := Lib.hid hk
  clear b1 k1 k2 s1 hg hk hb
  go_wp2_with fail
  have b3 : Below w2.heap.size w2 ((w2.alloc (.cells #[.slice (some ⟨g, 0, none⟩) 2 2, .int .i64 1, .int .i64 7, .bool true, .int .i64 2] 28)).alloc (.cells #[.int .i64 6, .int .i64 1] 26)) := ((Below.refl _ _).alloc (Nat.le_refl _) _).alloc (by simp) _
  have k3 := (Blk.new w2 28 [.slice (some ⟨g, 0, none⟩) 2 2, .int .i64 1, .int .i64 7, .bool true, .int .i64 2]).alloc (.cells #[.int .i64 6, .int .i64 1] 26)
  have k4 := Blk.new (w2.alloc (.cells #[.slice (some ⟨g, 0, none⟩) 2 2, .int .i64 1, .int .i64 7, .bool true, .int .i64 2] 28)) 26 (ints [6, 1])
  have s3 : (w2.alloc (.cells #[.slice (some ⟨g, 0, none⟩) 2 2, .int .i64 1, .int .i64 7, .bool true, .int .i64 2] 28)).heap.size = w2.heap.size + 1 := by simp
  rw [s3] at k4
  have b4 := HB.out.trans (b3.mono HB.out.size)
  refine (code_any _ [6, 1] 7 (row_blk (n := 2) k4 rfl (by omega)) (by simp) (HE.out.stay b4) (HO.out.stay b4)).mono ?_
  rintro e w5 ⟨he, hb⟩
  replace he : e = .returned (.tuple #[.int .i64 6, .int .i64 7]) := he
  subst he
  have k5 := k3.below hb k3.lt
  have k6 := (HK.out.below b3 HK.out.lt).below hb (HK.out.below b3 HK.out.lt).lt
  have HB5 := Lib.hid (b4.trans (hb.mono b4.size))
  have c0 := k5.cell 0
  have c1 := k5.cell 1
  have c2 := k5.cell 2
  have c3 := k5.cell 3
  have c4 := k5.cell 4
  have d0 := k6.cell 0
  have d1 := k6.cell 1
  simp only [List.getElem?_cons_zero, List.getElem?_cons_succ] at c0 c1 c2 c3 c4 d0 d1
  clear b3 k3 k4 s3 b4 hb k5 k6
  go_wp2_with fail
  go_ret
  exact ⟨rfl, HB5.out⟩
end Go.Proofs.YtiagcbedmdfjpaaDoor
