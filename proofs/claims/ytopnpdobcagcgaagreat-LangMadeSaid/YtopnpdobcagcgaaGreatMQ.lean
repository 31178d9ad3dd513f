/-
  Texts of this proof, put together: RegT. No statement is proved here.
-/
import Derived.Test.YtopnpdobcagcgaaGreatMP
import Derived.Test.YtopnpdobcagcgaaGreatMI
namespace Go.Proofs.YtopnpdobcagcgaaGreat
open Go.RowKit
set_option linter.unusedVariables false
section
variable {P : Program} {ops : Array Oper} {Q : Exit → Act → World → Prop} {md : Region.Mode} {S : World → Prop}
theorem sg_two {i j : Nat} {oi oj : Oper} {fuel : Nat} {listed : Array Bool} {a : Act} {w : World} (hi : ops[i]? = some oi) (hj : ops[j]? = some oj) (hr : Region.ready md ops listed = [i, j])
  (hwi : Region.wanted oi (yielded ops a.tmps) = true) (hwj : Region.wanted oj (yielded ops a.tmps) = true) (hS : S w)
  (h1 : ∀ K : Act → World → Prop, (∀ a' w', S w' → wpAnyH P md ops Q S fuel (listed.setIfInBounds i true) a' w' → K a' w') → oi.wp P a w K Q)
  (h2 : ∀ K : Act → World → Prop, (∀ a' w', S w' → wpAnyH P md ops Q S fuel (listed.setIfInBounds j true) a' w' → K a' w') → oj.wp P a w K Q) :
  wpAnyH P md ops Q S (fuel + 1) listed a w := by
 refine wpAnyH_all hr (by simp) (fun k hk => ?_)
 have hk2 : k = i ∨ k = j := by simpa using hk
 unfold wpOp
 rcases hk2 with rfl | rfl
 ·rw [hi]
  simp only [hwi, if_true]
  exact .inl (h1 _ fun a' w' hx hk => ⟨hx, hk⟩)
 ·rw [hj]
  simp only [hwj, if_true]
  exact .inl (h2 _ fun a' w' hx hk => ⟨hx, hk⟩)
end
theorem grown_start (w : World) (r : Option Nat) : w.grownBy w.drew r := ⟨rfl, rfl, rfl, Nat.le_refl _, fun _ _ _ => rfl⟩
theorem grown_cell {w W : World} {r : Option Nat} (h : w.grownBy W r) {b o : Nat} {v : Value} (hb : b < w.heap.size) (hr : some b ≠ r) (hc : w.cell? ⟨b, o, none⟩ = some v) : W.cell? ⟨b, o, none⟩ = some v := by
 have := h.block b hb hr
 unfold World.cell? at hc ⊢
 simp only [this]
 exact hc
theorem grown_range {w W : World} {r : Option Nat} (h : w.grownBy W r) {b o : Nat} {cs : List Value} (hb : b < w.heap.size) (hr : some b ≠ r) (hc : w.rangeAt b o cs) : W.rangeAt b o cs :=
 fun j v hv => grown_cell h hb hr (hc j v hv)
theorem grown_blk {w W : World} {r : Option Nat} (h : w.grownBy W r) {b : Nat} {t : TypeId} {cs : List Value} (hr : some b ≠ r) (hc : Blk w b t cs) : Blk W b t cs := (h.block b hc.lt hr).trans hc
theorem grown_then {w W W' : World} {r : Option Nat} (h : w.grownBy W r) (hb : Below W.heap.size W W') : w.grownBy W' r :=
 ⟨hb.os.trans h.os, hb.tape.trans h.tape, hb.output.trans h.output, Nat.le_trans h.size hb.size, fun k hk hne => (hb.block k (Nat.lt_of_lt_of_le hk h.size)).trans (h.block k hk hne)⟩
end Go.Proofs.YtopnpdobcagcgaaGreat
