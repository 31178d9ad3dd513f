/-
  Texts of this proof, put together: LkP. No statement is proved here.
-/
import Derived.Test.YtiehefnbdijiaaaZK
import Derived.Test.YtiehefnbdijiaaaZZ
import Derived.Test.YtiehefnbdijiaaaZBB
namespace Go.Proofs.Ytiehefnbdijiaaa
open Go.RowKit
theorem psCC : PsC where
 product := fun D E cs es w hv he hm hme h64 => by
  refine (refProduct_any D E cs es 4 64 w hv he hm hme (by decide) (by decide) (by decide)).mono ?_
  rintro e w' (⟨n, xs, hn, hf, rfl, hx, hb⟩ | ⟨hno, _, _⟩)
  ·refine ⟨xs, prdN D E 4 n, rfl, hx, genN_may hf (Nat.le_trans hn (by decide)), ⟨psP D E, rfl⟩, fun u => ?_, hb⟩
   rw [acc_prd hf u]
   rfl
  ·obtain ⟨n, hn, hf⟩ := prd_fit hm hv.1 hme he.1
   exact absurd (hno n hf) (Nat.not_lt.2 (Nat.le_trans hn h64))
 shortest := fun P xs w hv hm ⟨ps, hc⟩ => refShortest_any P ps xs w hv hm hc
end Go.Proofs.Ytiehefnbdijiaaa
