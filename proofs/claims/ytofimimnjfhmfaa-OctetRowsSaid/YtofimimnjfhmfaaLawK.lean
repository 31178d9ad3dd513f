/-
  That 'begun' answers true and turns nothing that was there: the first call of each statement of package octet. No conditions.
-/
import Derived.Test.YtofimimnjfhmfaaOctC
namespace Go.Proofs.Ytofimimnjfhmfaa
open Go.RowKit
set_option linter.unusedSimpArgs false
set_option linter.unusedVariables false

theorem row_new {w : World} {t : TypeId} (xs : List Value) (h : xs.length ≤ maxLen) : Row (w.alloc (.cells xs.toArray t)) (.slice (some ⟨w.heap.size, 0, none⟩) xs.length xs.length) xs :=
  Row.of_own ((Blk.new w t xs).own (Nat.zero_le _) h)

set_option maxHeartbeats 400000 in
theorem begun_any (w : World) :
    Calls Try.prog 8 #[] w fun e w' => e = .returned (.bool true) ∧ Below w.heap.size w w' := by
  have R1 := Lib.hid (row_new (w := w) (t := 5) (bvs [9, 1, 2]) (by simp [bvs, maxLen]))
  have hB1 : Below w.heap.size w (w.alloc (.cells (bvs [9, 1, 2]).toArray 5)) := (Below.refl _ _).alloc (Nat.le_refl _) _
  go_enter Try.func8, Try.ntmps8
  go_wp2_with fail
  refine (take_ok _ [9, 1, 2] 1 2 1 2 _ R1.out (by decide) rfl rfl (by decide) (by decide)).mono ?_
  rintro e w1 ⟨rfl, hw⟩
  replace hB1 : Below w.heap.size w w1 := by rw [← hw]; exact hB1
  clear hw R1
  have R2 := Lib.hid (row_new (w := w1) (t := 5) (bvs [1, 0, 7, 8]) (by simp [bvs, maxLen]))
  have hB2 : Below w.heap.size w (w1.alloc (.cells (bvs [1, 0, 7, 8]).toArray 5)) := hB1.alloc hB1.size _
  go_wp2_with fail
  refine (takeText_ok _ [1, 0, 7, 8] 5 _ R2.out (by decide) (by decide) (by decide) (by decide)).mono ?_
  rintro e w2 ⟨v2, rfl, ho2, hb2⟩
  replace hB2 : Below w.heap.size w w2 := hB2.trans (hb2.mono (by have := hB1.size; simp; omega))
  have O2 := Lib.hid (Row.of_own ho2)
  clear hb2 ho2 R2 hB1
  go_wp2_with fail
  refine (put_any _ [] 258 2 2 _ (Row.nil _) (by decide) (by decide) (.inr (.inr ⟨rfl, by decide⟩))).mono ?_
  rintro e w3 ⟨g, hg, rfl, hb3, hB3⟩
  have c2 : (convert 22 9 v2).run Try.prog w3 = .ok (.string ⟨#[7]⟩) w3 := conv_row (P := Try.prog) (O2.out.below hB3) 22 5 9 Try.underlying22 Try.underlying5 Try.underlying9
  have c3 : (convert 22 9 (.slice (some ⟨g, 0, none⟩) 2 2)).run Try.prog w3 = .ok (.string ⟨#[2, 1]⟩) w3 := conv_row (P := Try.prog) (Row.of_own (hb3.own (Nat.zero_le _) (by simp [bvs, le, maxLen]))) 22 5 9 Try.underlying22 Try.underlying5 Try.underlying9
  replace hB3 := hB2.trans (hB3.mono hB2.size)
  clear hb3 hg hB2 O2
  go_wp2
  go_ret
  exact ⟨rfl, hB3⟩
end Go.Proofs.Ytofimimnjfhmfaa
