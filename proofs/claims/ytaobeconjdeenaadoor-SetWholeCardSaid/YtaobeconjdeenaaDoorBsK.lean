/-
  Package byteset keeps the contracts that the walks of the statements take. No statement is proved here.
-/
import Derived.Test.YtaobeconjdeenaaDoorBsJ
import Derived.Test.YtaobeconjdeenaaDoorBsF
namespace Go.Proofs.YtaobeconjdeenaaDoor
open Go.RowKit
theorem bySet : BySet where
  has := bsHas_any
  of := bsOf_any
  range := bsRange_any
  or_ := bsOr_any
  and_ := bsAnd_any
  not_ := bsNot_any
  len := bsLen_any
  list := bsList_any
  less := bsLess_any
  parts := fun v ps w h hl => bsParts_any v ps w h hl
end Go.Proofs.YtaobeconjdeenaaDoor
