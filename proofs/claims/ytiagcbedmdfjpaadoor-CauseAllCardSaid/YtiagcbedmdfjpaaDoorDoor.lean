/-
  What the rows' condition on the listed package-level variables gives a walk, and a world that meets it. No statement is proved here.
-/
import Derived.Test.YtiagcbedmdfjpaaDoorRows
import Derived.Test.YtiagcbedmdfjpaaDoorRow
import Derived.Test.YtiagcbedmdfjpaaDoorCauseD
import Derived.ChangeSame
import Derived.ChangeVars
import Derived.JoinedOf
import Derived.RowKit
import Derived.RowKitTokens
import Derived.LaidLaws
import Derived.LaidHandle
import Derived.LaidMore
import Derived.LaidOnce
import Derived.Stop.Joined
import Derived.Lib.LaidTab
namespace Go.Proofs.YtiagcbedmdfjpaaDoor
open Go.ChangeShapes Go.WideShapes Go.ChangeAt Go.RowKit
set_option linter.unusedVariables false

theorem own : ownKnob Tryd.prog.godebug = none := by kernel_rfl
theorem laidOut : laidOutB Tryd.prog = true := by kernel_rfl

/-- The listed variables, with what they read as. -/
def laidL : List (String × DataW Unit) := [("errors.errorType", Rows.laid_errors_errorType), ("scriptory/cause.order", Rows.laid_scriptory_cause_order)]

/-- How many steps the run takes that lays the variables (the given tie has it). -/
abbrev doorSteps : Nat := 21
theorem gE : Tryd.prog.globalNamed "errors.errorType" = some 1 := by kernel_rfl
theorem gO : Tryd.prog.globalNamed "scriptory/cause.order" = some 0 := by kernel_rfl
theorem gOType : (Tryd.prog.globals[0]?).map (·.type) = some 63 := by kernel_rfl
theorem rtNamed : (Tryd.prog.cutTypes.find? (·.1 == "internal/reflectlite.rtype")).map (·.2) = some 82 := by kernel_rfl
theorem oneError : ((List.range 126).filter fun t => Tryd.prog.rowNamed t [101, 114, 114, 111, 114]) = [39] := by kernel_rfl
theorem typesSize : Tryd.prog.types.size = 126 := by kernel_rfl

theorem et_of_laid {W : World} (h : handlesMet Tryd.prog [("errors.errorType", Rows.laid_errors_errorType)] W) : EtAt W := by
  obtain ⟨name, u, ty, e1, e2, e3, e4, e5⟩ := h _ (List.mem_singleton.2 rfl)
  have en : name = [101, 114, 114, 111, 114] := (Option.some.inj e1).symm
  subst en
  obtain rfl := Option.some.inj (rtNamed.symm.trans e2)
  have hm : ty ∈ (List.range 126).filter fun t => Tryd.prog.rowNamed t [101, 114, 114, 111, 114] := List.mem_filter.2 ⟨List.mem_range.2 (by rw [← typesSize]; exact e3), e4⟩
  rw [oneError] at hm
  obtain rfl := List.mem_singleton.1 hm
  have hh : typeHandle Tryd.prog 39 = .pointer (some ⟨2, 39, none⟩) := by kernel_rfl
  rw [hh] at e5
  simpa using World.var?_cell gE e5 0
theorem of_laid {W : World} (h : laidMetH Tryd.prog laidL W) : EtAt W ∧ OrdAt W := by
  have h' : laidMet Tryd.prog [("scriptory/cause.order", Lib.tabData .i64 ord)] W ∧ handlesMet Tryd.prog [("errors.errorType", Rows.laid_errors_errorType)] W := h
  refine ⟨et_of_laid h'.2, ?_⟩
  have ht := Lib.tabIs_of_head gO gOType Tryd.underlying63 Tryd.underlying26 (by kernel_rfl) (by kernel_rfl) h'.1
  intro i k hk
  have hi : i < ord.length := (List.getElem?_eq_some_iff.1 hk).1
  have := ht.cell gO i hi
  rw [this]
  simp [List.getD, hk]
theorem door_met (os : Os) (args : Array Value) : laidMetH Tryd.prog laidL ((World.doorLaid Tryd.prog doorSteps os).forCall (fun _ _ => 0) ⟨#[], args, []⟩).memory :=
  laidMetH_of_parts3 (fuel := 8) (laidMet_of_run' 8 (by kernel_rfl) (by kernel_rfl)) (by kernel_rfl) (by kernel_rfl)
end Go.Proofs.YtiagcbedmdfjpaaDoor
