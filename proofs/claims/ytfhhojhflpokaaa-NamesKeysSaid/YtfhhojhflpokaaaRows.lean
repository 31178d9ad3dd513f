/-
  No cell of these rows narrows 'for every input' (looked for: loops, veiled, ifaces, maps, wideKeys, modest, calm, conditions, laid).
  DERIVED. THE GIVEN ROWS OF THIS SEAT. 6 by the template 'for every input the law returns true; each argument reads behind the call as it read before'; 0 by the template 'total and deterministic' (their statements: YtfhhojhflpokaaaTotals.lean).
  GIVEN WITH THE SEED: the statements are not yours to turn. If you find one false, say at which input.
  Laid BY PROGRAM, IN A SANDBOX (cutbox-rows.mjs): the forced cells as the released guide's own fill.sh prints them over the translation 758070d8fd970d5b… (all of the seat's roots in one cut). By AI agents, Wed Nov 11 2026. No macro, syntax, notation, axiom, sorry.
-/
import Derived.Test.YtfhhojhflpokaaaChecked
import GoSem.Claim
import GoSem.ClaimJoined
import GoSem.ClaimMapViews
import Derived.JoinedTies
import Derived.KernelRfl
namespace Go.Proofs.Ytfhhojhflpokaaa
/- THE CELL 'sum', in the pinned program and in every row, IS THE sha256 OF THE DUMP (.gsa) THAT YtfhhojhflpokaaaProg.lean LOADS. Nothing in Lean hashes anything: it is a label: what it is worth is what the hold of that sum in a sandbox is worth. -/
noncomputable def Try.pinned : Pinned := { name := "ytfhhojhflpokaaa", sum := "758070d8fd970d5bbfac8317116cdf3ee2a6055c000ba6e65999d9f4321e3fa7", checked := Try.checked }
namespace Rows
def none {H : Type} : Left H := { results := [], args := [] }

/-- 'scriptorylaw3.NamesAll': WHATEVER THE INPUT: true; the input reads as it did. -/
def namesAllSpec : ChangeSpec := { name := "namesAll", fn := fun _ => fun
  | [d1, d2, d3] => { results := [.lit (.bool true)], args := [d1, d2, d3] }
  | _ => none }
def namesAllRow : OpenClaim := { program := "ytfhhojhflpokaaa", sum := "758070d8fd970d5bbfac8317116cdf3ee2a6055c000ba6e65999d9f4321e3fa7", func := "scriptory/scriptorylaw3.NamesAll", spec := "namesAll", inPlace := ["internal/bytealg.IndexByte", "internal/bytealg.Index"], named := ["internal/bytealg.MaxLen"], apart := false }
def NamesAllSaid : Prop := namesAllRow.holds Try.pinned (OpenSpec.ofChange namesAllSpec)

/-- ITS FALSE NEIGHBOUR: 'it returns false'. Refute it at one input. -/
def namesAllWrong : ChangeSpec := { name := "namesAll", fn := fun _ => fun
  | [d1, d2, d3] => { results := [.lit (.bool false)], args := [d1, d2, d3] }
  | _ => none }
def NamesAllWrongFalsely : Prop := namesAllRow.holds Try.pinned (OpenSpec.ofChange namesAllWrong)

/-- 'scriptorylaw3.NamesKeys': WHATEVER THE INPUT: true; the input reads as it did. -/
def namesKeysSpec : ChangeSpec := { name := "namesKeys", fn := fun _ => fun
  | [d] => { results := [.lit (.bool true)], args := [d] }
  | _ => none }
def namesKeysRow : OpenClaim := { program := "ytfhhojhflpokaaa", sum := "758070d8fd970d5bbfac8317116cdf3ee2a6055c000ba6e65999d9f4321e3fa7", func := "scriptory/scriptorylaw3.NamesKeys", spec := "namesKeys", inPlace := ["internal/bytealg.IndexByte", "internal/bytealg.Index"], named := ["internal/bytealg.MaxLen"], apart := false }
def NamesKeysSaid : Prop := namesKeysRow.holds Try.pinned (OpenSpec.ofChange namesKeysSpec)

/-- ITS FALSE NEIGHBOUR: 'it returns false'. Refute it at one input. -/
def namesKeysWrong : ChangeSpec := { name := "namesKeys", fn := fun _ => fun
  | [d] => { results := [.lit (.bool false)], args := [d] }
  | _ => none }
def NamesKeysWrongFalsely : Prop := namesKeysRow.holds Try.pinned (OpenSpec.ofChange namesKeysWrong)

/-- 'scriptorylaw3.NamesOrder': WHATEVER THE INPUT: true; the input reads as it did. -/
def namesOrderSpec : ChangeSpec := { name := "namesOrder", fn := fun _ => fun
  | [d1, d2, d3, d4, d5] => { results := [.lit (.bool true)], args := [d1, d2, d3, d4, d5] }
  | _ => none }
def namesOrderRow : OpenClaim := { program := "ytfhhojhflpokaaa", sum := "758070d8fd970d5bbfac8317116cdf3ee2a6055c000ba6e65999d9f4321e3fa7", func := "scriptory/scriptorylaw3.NamesOrder", spec := "namesOrder", inPlace := ["internal/bytealg.IndexByte", "internal/bytealg.Index"], named := ["internal/bytealg.MaxLen"], apart := false }
def NamesOrderSaid : Prop := namesOrderRow.holds Try.pinned (OpenSpec.ofChange namesOrderSpec)

/-- ITS FALSE NEIGHBOUR: 'it returns false'. Refute it at one input. -/
def namesOrderWrong : ChangeSpec := { name := "namesOrder", fn := fun _ => fun
  | [d1, d2, d3, d4, d5] => { results := [.lit (.bool false)], args := [d1, d2, d3, d4, d5] }
  | _ => none }
def NamesOrderWrongFalsely : Prop := namesOrderRow.holds Try.pinned (OpenSpec.ofChange namesOrderWrong)

/-- 'scriptorylaw3.NamesLine': WHATEVER THE INPUT: true; the input reads as it did. -/
def namesLineSpec : ChangeSpec := { name := "namesLine", fn := fun _ => fun
  | [d1, d2, d3] => { results := [.lit (.bool true)], args := [d1, d2, d3] }
  | _ => none }
def namesLineRow : OpenClaim := { program := "ytfhhojhflpokaaa", sum := "758070d8fd970d5bbfac8317116cdf3ee2a6055c000ba6e65999d9f4321e3fa7", func := "scriptory/scriptorylaw3.NamesLine", spec := "namesLine", inPlace := ["internal/bytealg.IndexByte", "internal/bytealg.Index"], named := ["internal/bytealg.MaxLen"], apart := false }
def NamesLineSaid : Prop := namesLineRow.holds Try.pinned (OpenSpec.ofChange namesLineSpec)

/-- ITS FALSE NEIGHBOUR: 'it returns false'. Refute it at one input. -/
def namesLineWrong : ChangeSpec := { name := "namesLine", fn := fun _ => fun
  | [d1, d2, d3] => { results := [.lit (.bool false)], args := [d1, d2, d3] }
  | _ => none }
def NamesLineWrongFalsely : Prop := namesLineRow.holds Try.pinned (OpenSpec.ofChange namesLineWrong)

/-- 'scriptorylaw3.NamesSpoilt': WHATEVER THE INPUT: true; the input reads as it did. -/
def namesSpoiltSpec : ChangeSpec := { name := "namesSpoilt", fn := fun _ => fun
  | [d1, d2, d3, d4, d5] => { results := [.lit (.bool true)], args := [d1, d2, d3, d4, d5] }
  | _ => none }
def namesSpoiltRow : OpenClaim := { program := "ytfhhojhflpokaaa", sum := "758070d8fd970d5bbfac8317116cdf3ee2a6055c000ba6e65999d9f4321e3fa7", func := "scriptory/scriptorylaw3.NamesSpoilt", spec := "namesSpoilt", inPlace := ["internal/bytealg.IndexByte", "internal/bytealg.Index"], named := ["internal/bytealg.MaxLen"], apart := false }
def NamesSpoiltSaid : Prop := namesSpoiltRow.holds Try.pinned (OpenSpec.ofChange namesSpoiltSpec)

/-- ITS FALSE NEIGHBOUR: 'it returns false'. Refute it at one input. -/
def namesSpoiltWrong : ChangeSpec := { name := "namesSpoilt", fn := fun _ => fun
  | [d1, d2, d3, d4, d5] => { results := [.lit (.bool false)], args := [d1, d2, d3, d4, d5] }
  | _ => none }
def NamesSpoiltWrongFalsely : Prop := namesSpoiltRow.holds Try.pinned (OpenSpec.ofChange namesSpoiltWrong)

/-- 'scriptorylaw3.NamesSigns': WHATEVER THE INPUT: true; the input reads as it did. -/
def namesSignsSpec : ChangeSpec := { name := "namesSigns", fn := fun _ => fun
  | [d1, d2] => { results := [.lit (.bool true)], args := [d1, d2] }
  | _ => none }
def namesSignsRow : OpenClaim := { program := "ytfhhojhflpokaaa", sum := "758070d8fd970d5bbfac8317116cdf3ee2a6055c000ba6e65999d9f4321e3fa7", func := "scriptory/scriptorylaw3.NamesSigns", spec := "namesSigns", inPlace := ["internal/bytealg.IndexByte", "internal/bytealg.Index"], named := ["internal/bytealg.MaxLen"], apart := false }
def NamesSignsSaid : Prop := namesSignsRow.holds Try.pinned (OpenSpec.ofChange namesSignsSpec)

/-- ITS FALSE NEIGHBOUR: 'it returns false'. Refute it at one input. -/
def namesSignsWrong : ChangeSpec := { name := "namesSigns", fn := fun _ => fun
  | [d1, d2] => { results := [.lit (.bool false)], args := [d1, d2] }
  | _ => none }
def NamesSignsWrongFalsely : Prop := namesSignsRow.holds Try.pinned (OpenSpec.ofChange namesSignsWrong)

/- THE SECOND FORM. 'bulk': how many values and letters a reading holds, each counted each time it is reached (what is shared counts as often as it is met; a slice's spare places count too). A statement '..UptoSaid' is the law's where the arguments, and the package variables that the reading takes, are together of bulk at most 1048576: NARROWER than '..Said'. Prove '..Said' where nothing that the law and all that it calls make is longer than what came in: it says more and counts as full. Else prove '..UptoSaid'. A law counts once. -/
mutual
def uptoBulk {H : Type} : DataW H → Nat
  | .lit (.string bytes) => bytes.length + 1
  | .lit _ => 1
  | .nil => 1
  | .ptr d => uptoBulk d + 1
  | .slice elems spare => uptoBulkAll elems + uptoBulkAll spare + 1
  | .agg parts => uptoBulkAll parts + 1
  | .iface _ d => uptoBulk d + 1
  | .map entries => uptoBulkEntries entries + 1
  | .held _ => 1
def uptoBulkAll {H : Type} : List (DataW H) → Nat
  | [] => 0
  | d :: r => uptoBulk d + uptoBulkAll r
def uptoBulkEntries {H : Type} : List (Lit × DataW H) → Nat
  | [] => 0
  | x :: r => uptoBulkEntry x + uptoBulkEntries r
def uptoBulkEntry {H : Type} : Lit × DataW H → Nat
  | (.string bytes, d) => bytes.length + uptoBulk d + 1
  | (_, d) => uptoBulk d + 1
 end
def uptoSmall : (H : Type) → List (DataW H) → Bool := fun _ ds => decide (uptoBulkAll ds ≤ 1048576)
def OpenSpec.upto (s : _root_.Go.ChangeSpec) : _root_.Go.OpenSpec := { _root_.Go.OpenSpec.ofChange s with cond := some uptoSmall }

/-- 'scriptorylaw3.NamesAll', WHERE WHAT IT READS IS OF BULK AT MOST 1048576: true; the input reads as it did. -/
def namesAllUptoRow : OpenClaim := { program := "ytfhhojhflpokaaa", sum := "758070d8fd970d5bbfac8317116cdf3ee2a6055c000ba6e65999d9f4321e3fa7", func := "scriptory/scriptorylaw3.NamesAll", spec := "namesAll", inPlace := ["internal/bytealg.IndexByte", "internal/bytealg.Index"], named := ["internal/bytealg.MaxLen"], apart := false, narrowed := true }
def NamesAllUptoSaid : Prop := namesAllUptoRow.holds Try.pinned (OpenSpec.upto namesAllSpec)

/-- 'scriptorylaw3.NamesKeys', WHERE WHAT IT READS IS OF BULK AT MOST 1048576: true; the input reads as it did. -/
def namesKeysUptoRow : OpenClaim := { program := "ytfhhojhflpokaaa", sum := "758070d8fd970d5bbfac8317116cdf3ee2a6055c000ba6e65999d9f4321e3fa7", func := "scriptory/scriptorylaw3.NamesKeys", spec := "namesKeys", inPlace := ["internal/bytealg.IndexByte", "internal/bytealg.Index"], named := ["internal/bytealg.MaxLen"], apart := false, narrowed := true }
def NamesKeysUptoSaid : Prop := namesKeysUptoRow.holds Try.pinned (OpenSpec.upto namesKeysSpec)

/-- 'scriptorylaw3.NamesOrder', WHERE WHAT IT READS IS OF BULK AT MOST 1048576: true; the input reads as it did. -/
def namesOrderUptoRow : OpenClaim := { program := "ytfhhojhflpokaaa", sum := "758070d8fd970d5bbfac8317116cdf3ee2a6055c000ba6e65999d9f4321e3fa7", func := "scriptory/scriptorylaw3.NamesOrder", spec := "namesOrder", inPlace := ["internal/bytealg.IndexByte", "internal/bytealg.Index"], named := ["internal/bytealg.MaxLen"], apart := false, narrowed := true }
def NamesOrderUptoSaid : Prop := namesOrderUptoRow.holds Try.pinned (OpenSpec.upto namesOrderSpec)

/-- 'scriptorylaw3.NamesLine', WHERE WHAT IT READS IS OF BULK AT MOST 1048576: true; the input reads as it did. -/
def namesLineUptoRow : OpenClaim := { program := "ytfhhojhflpokaaa", sum := "758070d8fd970d5bbfac8317116cdf3ee2a6055c000ba6e65999d9f4321e3fa7", func := "scriptory/scriptorylaw3.NamesLine", spec := "namesLine", inPlace := ["internal/bytealg.IndexByte", "internal/bytealg.Index"], named := ["internal/bytealg.MaxLen"], apart := false, narrowed := true }
def NamesLineUptoSaid : Prop := namesLineUptoRow.holds Try.pinned (OpenSpec.upto namesLineSpec)

/-- 'scriptorylaw3.NamesSpoilt', WHERE WHAT IT READS IS OF BULK AT MOST 1048576: true; the input reads as it did. -/
def namesSpoiltUptoRow : OpenClaim := { program := "ytfhhojhflpokaaa", sum := "758070d8fd970d5bbfac8317116cdf3ee2a6055c000ba6e65999d9f4321e3fa7", func := "scriptory/scriptorylaw3.NamesSpoilt", spec := "namesSpoilt", inPlace := ["internal/bytealg.IndexByte", "internal/bytealg.Index"], named := ["internal/bytealg.MaxLen"], apart := false, narrowed := true }
def NamesSpoiltUptoSaid : Prop := namesSpoiltUptoRow.holds Try.pinned (OpenSpec.upto namesSpoiltSpec)

/-- 'scriptorylaw3.NamesSigns', WHERE WHAT IT READS IS OF BULK AT MOST 1048576: true; the input reads as it did. -/
def namesSignsUptoRow : OpenClaim := { program := "ytfhhojhflpokaaa", sum := "758070d8fd970d5bbfac8317116cdf3ee2a6055c000ba6e65999d9f4321e3fa7", func := "scriptory/scriptorylaw3.NamesSigns", spec := "namesSigns", inPlace := ["internal/bytealg.IndexByte", "internal/bytealg.Index"], named := ["internal/bytealg.MaxLen"], apart := false, narrowed := true }
def NamesSignsUptoSaid : Prop := namesSignsUptoRow.holds Try.pinned (OpenSpec.upto namesSignsSpec)

end Rows
end Go.Proofs.Ytfhhojhflpokaaa
