/-
  The walk of the statement CausePlaces: the Go text returns true and turns nothing that was there. Conditions: the slice reads as kinds; the two variables of the packages' own hold what the program lays.
-/
import Derived.Test.YtiagcbedmdfjpaaDoorCauseF
namespace Go.Proofs.YtiagcbedmdfjpaaDoor
open Go.RowKit Go.Extern.Stop Go.Stop Go.Extern
set_option linter.unusedSimpArgs false
set_option linter.unusedVariables false

theorem info_errno : (Tryd.prog.info? 26).map (fun i => (i.zero, i.size, i.bytes)) = some (some (.int .i64 0), 1, 8) := by kernel_rfl

theorem place_six (l : List Int) (a : Int) : placeOf (6 :: l) a = some a := by simp [placeOf, plc]
theorem place_one (l : List Int) (a : Int) : placeOf (1 :: l) a = none := by simp [placeOf, plc]
theorem deep_cons (k : Int) (l : List Int) (h : k ≠ 0) : deepOf (k :: l) = deepOf l + 1 := by
  simp [deepOf, chn, fl, h]

set_option maxHeartbeats 8000000 in
set_option maxRecDepth 1000000 in
theorem places_walk {W : World} (vk : Value) (l : List Int) (a : Int) (hr : Row W vk (ints l)) (he : EtAt W) (ho : OrdAt W) :
    Calls Tryd.prog 6 #[vk, .int .i64 a] W fun e w' => e = .returned (.bool true) ∧ Below W.heap.size W w' := by
  have HR := Lib.hid hr
  have HE := Lib.hid he
  have HO := Lib.hid ho
  obtain ⟨A, cap, rfl, a1, a2, a0, a3⟩ := hr
  rw [nums_length] at a1 HR ⊢
  have hll : l.length ≤ 9223372036854775807 := by unfold maxLen at a2; omega
  clear a3 a0 a1 a2 he ho
  obtain ⟨i0, hi0, hz0, hz1, hz2⟩ := info_parts' info_errno
  by_cases hok : okK l = true ∧ l.length ≤ 20
  · obtain ⟨hok, h20⟩ := hok
    have n1 : ¬ (20 < (l.length : Int)) := by omega
    go_enter Tryd.func6, Tryd.ntmps6
    go_wp2_with fail
    refine (begun_any HE.out HO.out).mono ?_
    rintro e w1 ⟨rfl, hb1⟩
    have HB1 := Lib.hid hb1
    clear hb1
    go_wp2_with fail
    refine (kinds_any _ l (HR.out.below HB1.out)).mono ?_
    rintro e w1 ⟨he, rfl⟩
    rw [hok] at he
    subst he
    have hA1 : Below w1.heap.size w1 (w1.alloc (.cells #[.int .i64 6] 26)) := (Below.refl _ _).alloc (Nat.le_refl _) _
    have hO1 := (Blk.new w1 26 [.int .i64 6]).own (Nat.le_refl _) (by unfold maxLen; simp)
    go_wp2_with ((with_reducible refine atDst 19 ?_); refine wpList_appR (w0 := w1) rfl (.tmp 17) (.tmp 18) 22 rfl 26 i0 (.int .i64 0) 8 Tryd.underlying22 hi0 hz0 hz1 hz2 rfl _ _ _ rfl hO1 _ (ints l) rfl ((HR.out.below HB1.out).below hA1) (nums_one _ l) (by rw [nums_length]; simp; omega) (by omega) hA1 ?_; intro v2 w2 _ hr2 hb2 _; have HR2 := Lib.hid hr2; have HB2 := Lib.hid (HB1.out.trans (hb2.mono HB1.out.size)); clear hr2 hb2)
    obtain ⟨f1, hf1⟩ : ∃ f1, f1 = firstOf (6 :: l) := ⟨_, rfl⟩
    obtain ⟨f2, hf2⟩ : ∃ f2, f2 = firstOf (1 :: l) := ⟨_, rfl⟩
    obtain ⟨dd, hdd⟩ : ∃ dd : Int, dd = (deepOf l + 1 : Nat) := ⟨_, rfl⟩
    have HF1 := Lib.hid hf1
    have HF2 := Lib.hid hf2
    have HDD := Lib.hid hdd
    clear hf1 hf2 hdd hA1 hO1
    refine (chain_any v2 (.slice none 0 0) (6 :: l) [] a (by simpa [nums] using HR2.out) (Row.nil _) (by simp; omega) (by simp) (by simp) (HE.out.stay HB2.out)).mono ?_
    rintro e w3 ⟨g3, _, he3, _, hb3⟩
    rw [place_six, deep_cons 6 l (by decide), ← HF1.out, ← HDD.out] at he3
    replace he3 : e = .returned (.agg #[.slice (some ⟨g3, 0, none⟩) 0 0, .int .i64 f1, .int .i64 a, .bool true, .int .i64 dd]) := he3
    subst he3
    have HB3 := Lib.hid (HB2.out.trans (hb3.mono HB2.out.size))
    clear hb3
    have k4 := (Blk.new w3 28 [.slice (some ⟨g3, 0, none⟩) 0 0, .int .i64 f1, .int .i64 a, .bool true, .int .i64 dd]).alloc (.cells #[.int .i64 1] 26)
    have s4 : (w3.alloc (.cells #[.slice (some ⟨g3, 0, none⟩) 0 0, .int .i64 f1, .int .i64 a, .bool true, .int .i64 dd] 28)).heap.size = w3.heap.size + 1 := by simp
    have m4 := Blk.new (w3.alloc (.cells #[.slice (some ⟨g3, 0, none⟩) 0 0, .int .i64 f1, .int .i64 a, .bool true, .int .i64 dd] 28)) 26 [.int .i64 1]
    rw [s4] at m4
    have O4 := Lib.hid (m4.own (base := w3.heap.size) (Nat.le_succ _) (by unfold maxLen; simp))
    have K4 := Lib.hid k4
    have B4 := Lib.hid (show Below w3.heap.size w3 ((w3.alloc (.cells #[.slice (some ⟨g3, 0, none⟩) 0 0, .int .i64 f1, .int .i64 a, .bool true, .int .i64 dd] 28)).alloc (.cells #[.int .i64 1] 26)) from ((Below.refl _ _).alloc (Nat.le_refl _) _).alloc (by simp) _)
    clear k4 s4 m4
    go_wp2_with ((with_reducible refine atDst 24 ?_); refine wpList_appR (w0 := w3) rfl (.tmp 22) (.tmp 23) 22 rfl 26 i0 (.int .i64 0) 8 Tryd.underlying22 hi0 hz0 hz1 hz2 rfl _ _ _ rfl O4.out _ (ints l) rfl ((HR.out.below HB3.out).below B4.out) (nums_one _ l) (by rw [nums_length]; simp; omega) (by omega) B4.out ?_; intro v5 w5 _ hr5 hb5 hg5; have HR5 := Lib.hid hr5; have HT5 := Lib.hid (K4.out.grown hg5 (by show some w3.heap.size ≠ some (w3.heap.size + 1); simp)); have HB5 := Lib.hid (HB3.out.trans (hb5.mono HB3.out.size)); clear hr5 hb5 hg5)
    refine (chain_any v5 (.slice none 0 0) (1 :: l) [] a (by simpa [nums] using HR5.out) (Row.nil _) (by simp; omega) (by simp) (by simp) (HE.out.stay HB5.out)).mono ?_
    rintro e w6 ⟨g6, _, he6, _, hb6⟩
    rw [place_one, deep_cons 1 l (by decide), ← HF2.out, ← HDD.out] at he6
    replace he6 : e = .returned (.agg #[.slice (some ⟨g6, 0, none⟩) 0 0, .int .i64 f2, .int .i64 0, .bool false, .int .i64 dd]) := he6
    subst he6
    have HB6 := Lib.hid (HB5.out.trans (hb6.mono HB5.out.size))
    have HT6 := Lib.hid (HT5.out.below hb6 HT5.out.lt)
    clear hb6
    have k7 := HT6.out.alloc (.cells #[.slice (some ⟨g6, 0, none⟩) 0 0, .int .i64 f2, .int .i64 0, .bool false, .int .i64 dd] 28)
    have HB7 := Lib.hid (show Below W.heap.size W (w6.alloc (.cells #[.slice (some ⟨g6, 0, none⟩) 0 0, .int .i64 f2, .int .i64 0, .bool false, .int .i64 dd] 28)) from HB6.out.alloc HB6.out.size _)
    have c0 := k7.cell 0
    have c2 := k7.cell 2
    have c3 := k7.cell 3
    have c4 := k7.cell 4
    simp only [List.getElem?_cons_zero, List.getElem?_cons_succ] at c0 c2 c3 c4
    clear k7
    go_wp2_with fail
    go_ret
    exact ⟨rfl, HB7.out⟩
  · go_enter Tryd.func6, Tryd.ntmps6
    go_wp2_with fail
    refine (begun_any HE.out HO.out).mono ?_
    rintro e w1 ⟨rfl, hb1⟩
    have HB1 := Lib.hid hb1
    clear hb1
    go_wp2_with fail
    refine (kinds_any _ l (HR.out.below HB1.out)).mono ?_
    rintro e w1 ⟨he, rfl⟩
    cases hok2 : okK l with
    | false =>
      rw [hok2] at he
      subst he
      go_wp2_with fail
      go_ret
      exact ⟨rfl, HB1.out⟩
    | true =>
      have n1 : 20 < (l.length : Int) := by
        have : ¬ (l.length ≤ 20) := fun h => hok ⟨hok2, h⟩
        omega
      rw [hok2] at he
      subst he
      go_wp2_with fail
      go_ret
      exact ⟨rfl, HB1.out⟩
end Go.Proofs.YtiagcbedmdfjpaaDoor
