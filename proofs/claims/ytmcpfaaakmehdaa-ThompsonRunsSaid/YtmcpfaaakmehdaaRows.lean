/-
  NARROWER THAN 'FOR EVERY INPUT', by the rows' own cells (each row's printed sentence says how): ThompsonRefuses: loops.
  DERIVED. THE GIVEN ROWS OF THIS SEAT. 6 by the template 'for every input the law returns true; each argument reads behind the call as it read before'; 0 by the template 'total and deterministic' (their statements: YtmcpfaaakmehdaaTotals.lean).
  GIVEN WITH THE SEED: the statements are not yours to turn. If you find one false, say at which input.
  Laid BY PROGRAM, IN A SANDBOX (cutbox-rows.mjs): the forced cells as the released guide's own fill.sh prints them over the translation 6c36217852efe387… (all of the seat's roots in one cut). By AI agents, Wed Nov 11 2026. No macro, syntax, notation, axiom, sorry.
-/
import Derived.Test.YtmcpfaaakmehdaaChecked
import GoSem.Claim
import GoSem.ClaimJoined
import GoSem.ClaimMapViews
import Derived.JoinedTies
import Derived.KernelRfl
namespace Go.Proofs.Ytmcpfaaakmehdaa
/- THE CELL 'sum', in the pinned program and in every row, IS THE sha256 OF THE DUMP (.gsa) THAT YtmcpfaaakmehdaaProg.lean LOADS. Nothing in Lean hashes anything: it is a label: what it is worth is what the hold of that sum in a sandbox is worth. -/
noncomputable def Try.pinned : Pinned := { name := "ytmcpfaaakmehdaa", sum := "6c36217852efe387f2da33f68d60e56ce04424999e366cabdf91edc49339fcb4", checked := Try.checked }
namespace Rows
def none {H : Type} : Left H := { results := [], args := [] }

/-- 'scriptorylaw9.ThompsonRuns': WHATEVER THE INPUT: true; the input reads as it did. -/
def thompsonRunsSpec : ChangeSpec := { name := "thompsonRuns", fn := fun _ => fun
  | [d1, d2, d3, d4] => { results := [.lit (.bool true)], args := [d1, d2, d3, d4] }
  | _ => none }
def thompsonRunsRow : OpenClaim := { program := "ytmcpfaaakmehdaa", sum := "6c36217852efe387f2da33f68d60e56ce04424999e366cabdf91edc49339fcb4", func := "scriptory/scriptorylaw9.ThompsonRuns", spec := "thompsonRuns", unfollowed := true, recurses := true, apart := false }
def ThompsonRunsSaid : Prop := thompsonRunsRow.holds Try.pinned (OpenSpec.ofChange thompsonRunsSpec)

/-- ITS FALSE NEIGHBOUR: 'it returns false'. Refute it at one input. -/
def thompsonRunsWrong : ChangeSpec := { name := "thompsonRuns", fn := fun _ => fun
  | [d1, d2, d3, d4] => { results := [.lit (.bool false)], args := [d1, d2, d3, d4] }
  | _ => none }
def ThompsonRunsWrongFalsely : Prop := thompsonRunsRow.holds Try.pinned (OpenSpec.ofChange thompsonRunsWrong)

/-- 'scriptorylaw9.ThompsonBuilds': WHATEVER THE INPUT: true; the input reads as it did. -/
def thompsonBuildsSpec : ChangeSpec := { name := "thompsonBuilds", fn := fun _ => fun
  | [d1, d2] => { results := [.lit (.bool true)], args := [d1, d2] }
  | _ => none }
def thompsonBuildsRow : OpenClaim := { program := "ytmcpfaaakmehdaa", sum := "6c36217852efe387f2da33f68d60e56ce04424999e366cabdf91edc49339fcb4", func := "scriptory/scriptorylaw9.ThompsonBuilds", spec := "thompsonBuilds", unfollowed := true, recurses := true, apart := false }
def ThompsonBuildsSaid : Prop := thompsonBuildsRow.holds Try.pinned (OpenSpec.ofChange thompsonBuildsSpec)

/-- ITS FALSE NEIGHBOUR: 'it returns false'. Refute it at one input. -/
def thompsonBuildsWrong : ChangeSpec := { name := "thompsonBuilds", fn := fun _ => fun
  | [d1, d2] => { results := [.lit (.bool false)], args := [d1, d2] }
  | _ => none }
def ThompsonBuildsWrongFalsely : Prop := thompsonBuildsRow.holds Try.pinned (OpenSpec.ofChange thompsonBuildsWrong)

/-- 'scriptorylaw9.ThompsonRefuses': WHATEVER THE INPUT: true; the input reads as it did. -/
def thompsonRefusesSpec : ChangeSpec := { name := "thompsonRefuses", fn := fun _ => fun
  | [d] => { results := [.lit (.bool true)], args := [d] }
  | _ => none }
def thompsonRefusesRow : OpenClaim := { program := "ytmcpfaaakmehdaa", sum := "6c36217852efe387f2da33f68d60e56ce04424999e366cabdf91edc49339fcb4", func := "scriptory/scriptorylaw9.ThompsonRefuses", spec := "thompsonRefuses", unfollowed := true, recurses := true, loops := true, apart := false }
def ThompsonRefusesSaid : Prop := thompsonRefusesRow.holds Try.pinned (OpenSpec.ofChange thompsonRefusesSpec)

/-- ITS FALSE NEIGHBOUR: 'it returns false'. Refute it at one input. -/
def thompsonRefusesWrong : ChangeSpec := { name := "thompsonRefuses", fn := fun _ => fun
  | [d] => { results := [.lit (.bool false)], args := [d] }
  | _ => none }
def ThompsonRefusesWrongFalsely : Prop := thompsonRefusesRow.holds Try.pinned (OpenSpec.ofChange thompsonRefusesWrong)

/-- 'scriptorylaw9.ThompsonCloses': WHATEVER THE INPUT: true; the input reads as it did. -/
def thompsonClosesSpec : ChangeSpec := { name := "thompsonCloses", fn := fun _ => fun
  | [d1, d2, d3] => { results := [.lit (.bool true)], args := [d1, d2, d3] }
  | _ => none }
def thompsonClosesRow : OpenClaim := { program := "ytmcpfaaakmehdaa", sum := "6c36217852efe387f2da33f68d60e56ce04424999e366cabdf91edc49339fcb4", func := "scriptory/scriptorylaw9.ThompsonCloses", spec := "thompsonCloses", unfollowed := true, recurses := true, apart := false }
def ThompsonClosesSaid : Prop := thompsonClosesRow.holds Try.pinned (OpenSpec.ofChange thompsonClosesSpec)

/-- ITS FALSE NEIGHBOUR: 'it returns false'. Refute it at one input. -/
def thompsonClosesWrong : ChangeSpec := { name := "thompsonCloses", fn := fun _ => fun
  | [d1, d2, d3] => { results := [.lit (.bool false)], args := [d1, d2, d3] }
  | _ => none }
def ThompsonClosesWrongFalsely : Prop := thompsonClosesRow.holds Try.pinned (OpenSpec.ofChange thompsonClosesWrong)

/-- 'scriptorylaw9.ThompsonGoes': WHATEVER THE INPUT: true; the input reads as it did. -/
def thompsonGoesSpec : ChangeSpec := { name := "thompsonGoes", fn := fun _ => fun
  | [d1, d2] => { results := [.lit (.bool true)], args := [d1, d2] }
  | _ => none }
def thompsonGoesRow : OpenClaim := { program := "ytmcpfaaakmehdaa", sum := "6c36217852efe387f2da33f68d60e56ce04424999e366cabdf91edc49339fcb4", func := "scriptory/scriptorylaw9.ThompsonGoes", spec := "thompsonGoes", unfollowed := true, recurses := true, apart := false }
def ThompsonGoesSaid : Prop := thompsonGoesRow.holds Try.pinned (OpenSpec.ofChange thompsonGoesSpec)

/-- ITS FALSE NEIGHBOUR: 'it returns false'. Refute it at one input. -/
def thompsonGoesWrong : ChangeSpec := { name := "thompsonGoes", fn := fun _ => fun
  | [d1, d2] => { results := [.lit (.bool false)], args := [d1, d2] }
  | _ => none }
def ThompsonGoesWrongFalsely : Prop := thompsonGoesRow.holds Try.pinned (OpenSpec.ofChange thompsonGoesWrong)

/-- 'scriptorylaw9.ThompsonJoins': WHATEVER THE INPUT: true; the input reads as it did. -/
def thompsonJoinsSpec : ChangeSpec := { name := "thompsonJoins", fn := fun _ => fun
  | [d1, d2, d3] => { results := [.lit (.bool true)], args := [d1, d2, d3] }
  | _ => none }
def thompsonJoinsRow : OpenClaim := { program := "ytmcpfaaakmehdaa", sum := "6c36217852efe387f2da33f68d60e56ce04424999e366cabdf91edc49339fcb4", func := "scriptory/scriptorylaw9.ThompsonJoins", spec := "thompsonJoins", unfollowed := true, recurses := true, apart := false }
def ThompsonJoinsSaid : Prop := thompsonJoinsRow.holds Try.pinned (OpenSpec.ofChange thompsonJoinsSpec)

/-- ITS FALSE NEIGHBOUR: 'it returns false'. Refute it at one input. -/
def thompsonJoinsWrong : ChangeSpec := { name := "thompsonJoins", fn := fun _ => fun
  | [d1, d2, d3] => { results := [.lit (.bool false)], args := [d1, d2, d3] }
  | _ => none }
def ThompsonJoinsWrongFalsely : Prop := thompsonJoinsRow.holds Try.pinned (OpenSpec.ofChange thompsonJoinsWrong)

/- THE SECOND FORM. 'bulk': how many values and letters a reading holds, each counted each time it is reached (what is shared counts as often as it is met; a slice's spare places count too). A statement '..UptoSaid' is the law's where the arguments, and the package variables that the reading takes, are together of bulk at most 1048576: NARROWER than '..Said'. Prove '..Said' where nothing that the law and all that it calls make is longer than what came in: it says more and counts as full. Else prove '..UptoSaid'. A law counts once. -/
mutual
def uptoBulk {H : Type} : DataW H → Nat
  | .lit (.string bytes) => bytes.length + 1
  | .lit _ => 1
  | .nil => 1
  | .ptr d => uptoBulk d + 1
  | .slice elems spare => uptoBulkAll elems + uptoBulkAll spare + 1
  | .agg parts => uptoBulkAll parts + 1
  | .iface _ d => uptoBulk d + 1
  | .map entries => uptoBulkEntries entries + 1
  | .held _ => 1
def uptoBulkAll {H : Type} : List (DataW H) → Nat
  | [] => 0
  | d :: r => uptoBulk d + uptoBulkAll r
def uptoBulkEntries {H : Type} : List (Lit × DataW H) → Nat
  | [] => 0
  | x :: r => uptoBulkEntry x + uptoBulkEntries r
def uptoBulkEntry {H : Type} : Lit × DataW H → Nat
  | (.string bytes, d) => bytes.length + uptoBulk d + 1
  | (_, d) => uptoBulk d + 1
 end
def uptoSmall : (H : Type) → List (DataW H) → Bool := fun _ ds => decide (uptoBulkAll ds ≤ 1048576)
def OpenSpec.upto (s : _root_.Go.ChangeSpec) : _root_.Go.OpenSpec := { _root_.Go.OpenSpec.ofChange s with cond := some uptoSmall }

/-- 'scriptorylaw9.ThompsonRuns', WHERE WHAT IT READS IS OF BULK AT MOST 1048576: true; the input reads as it did. -/
def thompsonRunsUptoRow : OpenClaim := { program := "ytmcpfaaakmehdaa", sum := "6c36217852efe387f2da33f68d60e56ce04424999e366cabdf91edc49339fcb4", func := "scriptory/scriptorylaw9.ThompsonRuns", spec := "thompsonRuns", unfollowed := true, recurses := true, apart := false, narrowed := true }
def ThompsonRunsUptoSaid : Prop := thompsonRunsUptoRow.holds Try.pinned (OpenSpec.upto thompsonRunsSpec)

/-- 'scriptorylaw9.ThompsonBuilds', WHERE WHAT IT READS IS OF BULK AT MOST 1048576: true; the input reads as it did. -/
def thompsonBuildsUptoRow : OpenClaim := { program := "ytmcpfaaakmehdaa", sum := "6c36217852efe387f2da33f68d60e56ce04424999e366cabdf91edc49339fcb4", func := "scriptory/scriptorylaw9.ThompsonBuilds", spec := "thompsonBuilds", unfollowed := true, recurses := true, apart := false, narrowed := true }
def ThompsonBuildsUptoSaid : Prop := thompsonBuildsUptoRow.holds Try.pinned (OpenSpec.upto thompsonBuildsSpec)

/-- 'scriptorylaw9.ThompsonRefuses', WHERE WHAT IT READS IS OF BULK AT MOST 1048576: true; the input reads as it did. -/
def thompsonRefusesUptoRow : OpenClaim := { program := "ytmcpfaaakmehdaa", sum := "6c36217852efe387f2da33f68d60e56ce04424999e366cabdf91edc49339fcb4", func := "scriptory/scriptorylaw9.ThompsonRefuses", spec := "thompsonRefuses", unfollowed := true, recurses := true, loops := true, apart := false, narrowed := true }
def ThompsonRefusesUptoSaid : Prop := thompsonRefusesUptoRow.holds Try.pinned (OpenSpec.upto thompsonRefusesSpec)

/-- 'scriptorylaw9.ThompsonCloses', WHERE WHAT IT READS IS OF BULK AT MOST 1048576: true; the input reads as it did. -/
def thompsonClosesUptoRow : OpenClaim := { program := "ytmcpfaaakmehdaa", sum := "6c36217852efe387f2da33f68d60e56ce04424999e366cabdf91edc49339fcb4", func := "scriptory/scriptorylaw9.ThompsonCloses", spec := "thompsonCloses", unfollowed := true, recurses := true, apart := false, narrowed := true }
def ThompsonClosesUptoSaid : Prop := thompsonClosesUptoRow.holds Try.pinned (OpenSpec.upto thompsonClosesSpec)

/-- 'scriptorylaw9.ThompsonGoes', WHERE WHAT IT READS IS OF BULK AT MOST 1048576: true; the input reads as it did. -/
def thompsonGoesUptoRow : OpenClaim := { program := "ytmcpfaaakmehdaa", sum := "6c36217852efe387f2da33f68d60e56ce04424999e366cabdf91edc49339fcb4", func := "scriptory/scriptorylaw9.ThompsonGoes", spec := "thompsonGoes", unfollowed := true, recurses := true, apart := false, narrowed := true }
def ThompsonGoesUptoSaid : Prop := thompsonGoesUptoRow.holds Try.pinned (OpenSpec.upto thompsonGoesSpec)

/-- 'scriptorylaw9.ThompsonJoins', WHERE WHAT IT READS IS OF BULK AT MOST 1048576: true; the input reads as it did. -/
def thompsonJoinsUptoRow : OpenClaim := { program := "ytmcpfaaakmehdaa", sum := "6c36217852efe387f2da33f68d60e56ce04424999e366cabdf91edc49339fcb4", func := "scriptory/scriptorylaw9.ThompsonJoins", spec := "thompsonJoins", unfollowed := true, recurses := true, apart := false, narrowed := true }
def ThompsonJoinsUptoSaid : Prop := thompsonJoinsUptoRow.holds Try.pinned (OpenSpec.upto thompsonJoinsSpec)

end Rows
end Go.Proofs.Ytmcpfaaakmehdaa
