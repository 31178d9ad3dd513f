/-
  NARROWER THAN 'FOR EVERY INPUT', by the rows' own cells (each row's printed sentence says how): LangAll: loops.
  DERIVED. THE GIVEN ROWS OF THIS SEAT. 5 by the template 'for every input the law returns true; each argument reads behind the call as it read before'; 0 by the template 'total and deterministic' (their statements: YtopnpdobcagcgaaTotals.lean).
  GIVEN WITH THE SEED: the statements are not yours to turn. If you find one false, say at which input.
  Laid BY PROGRAM, IN A SANDBOX (cutbox-rows.mjs): the forced cells as the released guide's own fill.sh prints them over the translation ed72c8fe5f1b9601… (all of the seat's roots in one cut). By AI agents, Wed Nov 11 2026. No macro, syntax, notation, axiom, sorry.
-/
import Derived.Test.YtopnpdobcagcgaaChecked
import GoSem.Claim
import GoSem.ClaimJoined
import GoSem.ClaimMapViews
import Derived.JoinedTies
import Derived.KernelRfl
namespace Go.Proofs.Ytopnpdobcagcgaa
/- THE CELL 'sum', in the pinned program and in every row, IS THE sha256 OF THE DUMP (.gsa) THAT YtopnpdobcagcgaaProg.lean LOADS. Nothing in Lean hashes anything: it is a label: what it is worth is what the hold of that sum in a sandbox is worth. -/
noncomputable def Try.pinned : Pinned := { name := "ytopnpdobcagcgaa", sum := "ed72c8fe5f1b9601a53bd89447618cc64a326caaf6b7883a93c465f2692c110c", checked := Try.checked }
namespace Rows
def none {H : Type} : Left H := { results := [], args := [] }

/-- 'scriptorylaw8.LangAll': WHATEVER THE INPUT: true; the input reads as it did. -/
def langAllSpec : ChangeSpec := { name := "langAll", fn := fun _ => fun
  | [d1, d2] => { results := [.lit (.bool true)], args := [d1, d2] }
  | _ => none }
def langAllRow : OpenClaim := { program := "ytopnpdobcagcgaa", sum := "ed72c8fe5f1b9601a53bd89447618cc64a326caaf6b7883a93c465f2692c110c", func := "scriptory/scriptorylaw8.LangAll", spec := "langAll", unfollowed := true, recurses := true, loops := true, apart := false }
def LangAllSaid : Prop := langAllRow.holds Try.pinned (OpenSpec.ofChange langAllSpec)

/-- ITS FALSE NEIGHBOUR: 'it returns false'. Refute it at one input. -/
def langAllWrong : ChangeSpec := { name := "langAll", fn := fun _ => fun
  | [d1, d2] => { results := [.lit (.bool false)], args := [d1, d2] }
  | _ => none }
def LangAllWrongFalsely : Prop := langAllRow.holds Try.pinned (OpenSpec.ofChange langAllWrong)

/-- 'scriptorylaw8.LangMeans': WHATEVER THE INPUT: true; the input reads as it did. -/
def langMeansSpec : ChangeSpec := { name := "langMeans", fn := fun _ => fun
  | [d1, d2, d3] => { results := [.lit (.bool true)], args := [d1, d2, d3] }
  | _ => none }
def langMeansRow : OpenClaim := { program := "ytopnpdobcagcgaa", sum := "ed72c8fe5f1b9601a53bd89447618cc64a326caaf6b7883a93c465f2692c110c", func := "scriptory/scriptorylaw8.LangMeans", spec := "langMeans", unfollowed := true, recurses := true, apart := false }
def LangMeansSaid : Prop := langMeansRow.holds Try.pinned (OpenSpec.ofChange langMeansSpec)

/-- ITS FALSE NEIGHBOUR: 'it returns false'. Refute it at one input. -/
def langMeansWrong : ChangeSpec := { name := "langMeans", fn := fun _ => fun
  | [d1, d2, d3] => { results := [.lit (.bool false)], args := [d1, d2, d3] }
  | _ => none }
def LangMeansWrongFalsely : Prop := langMeansRow.holds Try.pinned (OpenSpec.ofChange langMeansWrong)

/-- 'scriptorylaw8.LangStar': WHATEVER THE INPUT: true; the input reads as it did. -/
def langStarSpec : ChangeSpec := { name := "langStar", fn := fun _ => fun
  | [d1, d2] => { results := [.lit (.bool true)], args := [d1, d2] }
  | _ => none }
def langStarRow : OpenClaim := { program := "ytopnpdobcagcgaa", sum := "ed72c8fe5f1b9601a53bd89447618cc64a326caaf6b7883a93c465f2692c110c", func := "scriptory/scriptorylaw8.LangStar", spec := "langStar", unfollowed := true, recurses := true, apart := false }
def LangStarSaid : Prop := langStarRow.holds Try.pinned (OpenSpec.ofChange langStarSpec)

/-- ITS FALSE NEIGHBOUR: 'it returns false'. Refute it at one input. -/
def langStarWrong : ChangeSpec := { name := "langStar", fn := fun _ => fun
  | [d1, d2] => { results := [.lit (.bool false)], args := [d1, d2] }
  | _ => none }
def LangStarWrongFalsely : Prop := langStarRow.holds Try.pinned (OpenSpec.ofChange langStarWrong)

/-- 'scriptorylaw8.LangSame': WHATEVER THE INPUT: true; the input reads as it did. -/
def langSameSpec : ChangeSpec := { name := "langSame", fn := fun _ => fun
  | [d1, d2, d3, d4] => { results := [.lit (.bool true)], args := [d1, d2, d3, d4] }
  | _ => none }
def langSameRow : OpenClaim := { program := "ytopnpdobcagcgaa", sum := "ed72c8fe5f1b9601a53bd89447618cc64a326caaf6b7883a93c465f2692c110c", func := "scriptory/scriptorylaw8.LangSame", spec := "langSame", unfollowed := true, recurses := true, apart := false }
def LangSameSaid : Prop := langSameRow.holds Try.pinned (OpenSpec.ofChange langSameSpec)

/-- ITS FALSE NEIGHBOUR: 'it returns false'. Refute it at one input. -/
def langSameWrong : ChangeSpec := { name := "langSame", fn := fun _ => fun
  | [d1, d2, d3, d4] => { results := [.lit (.bool false)], args := [d1, d2, d3, d4] }
  | _ => none }
def LangSameWrongFalsely : Prop := langSameRow.holds Try.pinned (OpenSpec.ofChange langSameWrong)

/-- 'scriptorylaw8.LangNone': WHATEVER THE INPUT: true; the input reads as it did. -/
def langNoneSpec : ChangeSpec := { name := "langNone", fn := fun _ => fun
  | [d] => { results := [.lit (.bool true)], args := [d] }
  | _ => none }
def langNoneRow : OpenClaim := { program := "ytopnpdobcagcgaa", sum := "ed72c8fe5f1b9601a53bd89447618cc64a326caaf6b7883a93c465f2692c110c", func := "scriptory/scriptorylaw8.LangNone", spec := "langNone", unfollowed := true, recurses := true, apart := false }
def LangNoneSaid : Prop := langNoneRow.holds Try.pinned (OpenSpec.ofChange langNoneSpec)

/-- ITS FALSE NEIGHBOUR: 'it returns false'. Refute it at one input. -/
def langNoneWrong : ChangeSpec := { name := "langNone", fn := fun _ => fun
  | [d] => { results := [.lit (.bool false)], args := [d] }
  | _ => none }
def LangNoneWrongFalsely : Prop := langNoneRow.holds Try.pinned (OpenSpec.ofChange langNoneWrong)

/- THE SECOND FORM. 'bulk': how many values and letters a reading holds, each counted each time it is reached (what is shared counts as often as it is met; a slice's spare places count too). A statement '..UptoSaid' is the law's where the arguments, and the package variables that the reading takes, are together of bulk at most 1048576: NARROWER than '..Said'. Prove '..Said' where nothing that the law and all that it calls make is longer than what came in: it says more and counts as full. Else prove '..UptoSaid'. A law counts once. -/
mutual
def uptoBulk {H : Type} : DataW H → Nat
  | .lit (.string bytes) => bytes.length + 1
  | .lit _ => 1
  | .nil => 1
  | .ptr d => uptoBulk d + 1
  | .slice elems spare => uptoBulkAll elems + uptoBulkAll spare + 1
  | .agg parts => uptoBulkAll parts + 1
  | .iface _ d => uptoBulk d + 1
  | .map entries => uptoBulkEntries entries + 1
  | .held _ => 1
def uptoBulkAll {H : Type} : List (DataW H) → Nat
  | [] => 0
  | d :: r => uptoBulk d + uptoBulkAll r
def uptoBulkEntries {H : Type} : List (Lit × DataW H) → Nat
  | [] => 0
  | x :: r => uptoBulkEntry x + uptoBulkEntries r
def uptoBulkEntry {H : Type} : Lit × DataW H → Nat
  | (.string bytes, d) => bytes.length + uptoBulk d + 1
  | (_, d) => uptoBulk d + 1
 end
def uptoSmall : (H : Type) → List (DataW H) → Bool := fun _ ds => decide (uptoBulkAll ds ≤ 1048576)
def OpenSpec.upto (s : _root_.Go.ChangeSpec) : _root_.Go.OpenSpec := { _root_.Go.OpenSpec.ofChange s with cond := some uptoSmall }

/-- 'scriptorylaw8.LangAll', WHERE WHAT IT READS IS OF BULK AT MOST 1048576: true; the input reads as it did. -/
def langAllUptoRow : OpenClaim := { program := "ytopnpdobcagcgaa", sum := "ed72c8fe5f1b9601a53bd89447618cc64a326caaf6b7883a93c465f2692c110c", func := "scriptory/scriptorylaw8.LangAll", spec := "langAll", unfollowed := true, recurses := true, loops := true, apart := false, narrowed := true }
def LangAllUptoSaid : Prop := langAllUptoRow.holds Try.pinned (OpenSpec.upto langAllSpec)

/-- 'scriptorylaw8.LangMeans', WHERE WHAT IT READS IS OF BULK AT MOST 1048576: true; the input reads as it did. -/
def langMeansUptoRow : OpenClaim := { program := "ytopnpdobcagcgaa", sum := "ed72c8fe5f1b9601a53bd89447618cc64a326caaf6b7883a93c465f2692c110c", func := "scriptory/scriptorylaw8.LangMeans", spec := "langMeans", unfollowed := true, recurses := true, apart := false, narrowed := true }
def LangMeansUptoSaid : Prop := langMeansUptoRow.holds Try.pinned (OpenSpec.upto langMeansSpec)

/-- 'scriptorylaw8.LangStar', WHERE WHAT IT READS IS OF BULK AT MOST 1048576: true; the input reads as it did. -/
def langStarUptoRow : OpenClaim := { program := "ytopnpdobcagcgaa", sum := "ed72c8fe5f1b9601a53bd89447618cc64a326caaf6b7883a93c465f2692c110c", func := "scriptory/scriptorylaw8.LangStar", spec := "langStar", unfollowed := true, recurses := true, apart := false, narrowed := true }
def LangStarUptoSaid : Prop := langStarUptoRow.holds Try.pinned (OpenSpec.upto langStarSpec)

/-- 'scriptorylaw8.LangSame', WHERE WHAT IT READS IS OF BULK AT MOST 1048576: true; the input reads as it did. -/
def langSameUptoRow : OpenClaim := { program := "ytopnpdobcagcgaa", sum := "ed72c8fe5f1b9601a53bd89447618cc64a326caaf6b7883a93c465f2692c110c", func := "scriptory/scriptorylaw8.LangSame", spec := "langSame", unfollowed := true, recurses := true, apart := false, narrowed := true }
def LangSameUptoSaid : Prop := langSameUptoRow.holds Try.pinned (OpenSpec.upto langSameSpec)

/-- 'scriptorylaw8.LangNone', WHERE WHAT IT READS IS OF BULK AT MOST 1048576: true; the input reads as it did. -/
def langNoneUptoRow : OpenClaim := { program := "ytopnpdobcagcgaa", sum := "ed72c8fe5f1b9601a53bd89447618cc64a326caaf6b7883a93c465f2692c110c", func := "scriptory/scriptorylaw8.LangNone", spec := "langNone", unfollowed := true, recurses := true, apart := false, narrowed := true }
def LangNoneUptoSaid : Prop := langNoneUptoRow.holds Try.pinned (OpenSpec.upto langNoneSpec)

end Rows
end Go.Proofs.Ytopnpdobcagcgaa
