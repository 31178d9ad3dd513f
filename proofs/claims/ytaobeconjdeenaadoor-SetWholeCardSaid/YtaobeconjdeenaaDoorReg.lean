/-
  A region that draws its order, walked once: what only reads, in every world that extends the one at hand, is taken as soon as it may come up; what makes memory comes up alone. No conditions; no statement is proved here.
-/
import Derived.Test.YtaobeconjdeenaaDoorBase
import Derived.Deep.RegionHeld
namespace Go.Proofs.YtaobeconjdeenaaDoor
open Go.RowKit

section
variable {P : Program} {ops : Array Oper} {Q : Exit → Act → World → Prop} {md : Region.Mode}

theorem held_mono {S T : World → Prop} (hST : ∀ w, S w → T w) : ∀ (fuel : Nat) (listed : Array Bool) (a : Act) (w : World), wpAnyH P md ops Q S fuel listed a w → wpAnyH P md ops Q T fuel listed a w
  | 0, _, _, _, h => h
  | fuel + 1, _, _, _, h => ⟨h.1, fun i hi => wpOp_mono (fun a' w' h' => ⟨hST _ h'.1, held_mono hST fuel _ a' w' h'.2⟩) (h.2 i hi)⟩

/-- The beginning. -/
theorem sx_start {id : Nat} {a : Act} {w : World} (hm : P.follows .mixedOrders = true)
    (h : ∀ W, Below w.heap.size w W → w.heap.size ≤ W.heap.size → wpAnyH P .any ops Q (Below W.heap.size W) ops.size (Array.replicate ops.size false) a W) : (Code.region id ops true).wp P Q a w := by
  refine wp_region_held_drew (S := Below w.heap.size w) hm (Below.refl _ _).drew (fun hS => held_mono (fun W hW => hS.trans (hW.mono hS.size)) _ _ _ _ (h _ hS hS.size))

/-- Operation i reads: it yields v in every world that extends the one at hand. -/
theorem sx_take {i : Nat} {oi : Oper} {v : Value} {fuel : Nat} {listed : Array Bool} {a : Act} {B : Nat} {w0 w : World} (hi : ops[i]? = some oi)
    (hs : Region.noSelect ops = true) (hf : Region.free md ops listed i = true) (hr : (Region.ready md ops listed).contains i = true)
    (hQ : ∀ c a w, Q (.panic c) (a.put oi.dst v) w → Q (.panic c) a w) (hw : Region.wanted oi (yielded ops a.tmps) = true) (hS : Below B w0 w)
    (hy : ∀ W, Below B w0 W → (execOp a.eval oi).run P W = .ok (.value v) W)
    (h : wpAnyH P md ops Q (Below B w0) fuel (listed.setIfInBounds i true) (a.put oi.dst v) w) : wpAnyH P md ops Q (Below B w0) (fuel + 1) listed a w :=
  wpAnyH_take hi hs hf hr hQ (.inl ⟨hw, hy⟩) hS h

/-- Operation i is passed over: its guard says no. -/
theorem sx_skip {i : Nat} {oi : Oper} {fuel : Nat} {listed : Array Bool} {a : Act} {B : Nat} {w0 w : World} (hi : ops[i]? = some oi)
    (hs : Region.noSelect ops = true) (hf : Region.free md ops listed i = true) (hr : (Region.ready md ops listed).contains i = true)
    (hQ : ∀ c a w, Q (.panic c) (a.put oi.dst undef) w → Q (.panic c) a w) (hw : Region.wanted oi (yielded ops a.tmps) = false) (hS : Below B w0 w)
    (h : wpAnyH P md ops Q (Below B w0) fuel (listed.setIfInBounds i true) (a.put oi.dst undef) w) : wpAnyH P md ops Q (Below B w0) (fuel + 1) listed a w :=
  wpAnyH_take hi hs hf hr hQ (.inr ⟨hw, rfl⟩) hS h

/-- Operation i is the only one that may come up: it may make memory. -/
theorem sx_act {i : Nat} {o : Oper} {fuel : Nat} {listed : Array Bool} {a : Act} {B : Nat} {w0 w : World} (hi : ops[i]? = some o) (hr : Region.ready md ops listed = [i])
    (hw : Region.wanted o (yielded ops a.tmps) = true) (hS : Below B w0 w) (hB : B ≤ w.heap.size)
    (h : ∀ K : Act → World → Prop, (∀ a' w', Below w.heap.size w w' → wpAnyH P md ops Q (Below w'.heap.size w') fuel (listed.setIfInBounds i true) a' w' → K a' w') → o.wp P a w K Q) :
    wpAnyH P md ops Q (Below B w0) (fuel + 1) listed a w := by
  refine wpAnyH_all hr (by simp) (fun j hj => ?_)
  have hji : j = i := by simpa using hj
  subst hji
  unfold wpOp
  rw [hi]
  simp only [hw, if_true]
  refine .inl (h _ fun a' w' hx hk => ⟨hS.trans (hx.mono hB), held_mono (fun W hW => ?_) _ _ _ _ hk⟩)
  exact (hS.trans (hx.mono hB)).trans (hW.mono (Nat.le_trans hB hx.size))

/-- .. the same where the operation may write what lies at B or above (an append in place). -/
theorem sx_actB {i : Nat} {o : Oper} {fuel : Nat} {listed : Array Bool} {a : Act} {B : Nat} {w0 w : World} (hi : ops[i]? = some o) (hr : Region.ready md ops listed = [i])
    (hw : Region.wanted o (yielded ops a.tmps) = true) (hS : Below B w0 w)
    (h : ∀ K : Act → World → Prop, (∀ a' w', Below B w w' → wpAnyH P md ops Q (Below B w0) fuel (listed.setIfInBounds i true) a' w' → K a' w') → o.wp P a w K Q) :
    wpAnyH P md ops Q (Below B w0) (fuel + 1) listed a w := by
  refine wpAnyH_all hr (by simp) (fun j hj => ?_)
  have hji : j = i := by simpa using hj
  subst hji
  unfold wpOp
  rw [hi]
  simp only [hw, if_true]
  exact .inl (h _ fun a' w' hx hk => ⟨hS.trans hx, hk⟩)

/-- .. two operations may come up next: each is run first in a way of its own. -/
theorem sx_two {i j : Nat} {oi oj : Oper} {fuel : Nat} {listed : Array Bool} {a : Act} {B : Nat} {w0 w : World} (hi : ops[i]? = some oi) (hj : ops[j]? = some oj) (hr : Region.ready md ops listed = [i, j])
    (hwi : Region.wanted oi (yielded ops a.tmps) = true) (hwj : Region.wanted oj (yielded ops a.tmps) = true) (hS : Below B w0 w)
    (h1 : ∀ K : Act → World → Prop, (∀ a' w', Below B w w' → wpAnyH P md ops Q (Below B w0) fuel (listed.setIfInBounds i true) a' w' → K a' w') → oi.wp P a w K Q)
    (h2 : ∀ K : Act → World → Prop, (∀ a' w', Below B w w' → wpAnyH P md ops Q (Below B w0) fuel (listed.setIfInBounds j true) a' w' → K a' w') → oj.wp P a w K Q) :
    wpAnyH P md ops Q (Below B w0) (fuel + 1) listed a w := by
  refine wpAnyH_all hr (by simp) (fun k hk => ?_)
  have hk2 : k = i ∨ k = j := by simpa using hk
  unfold wpOp
  rcases hk2 with rfl | rfl
  · rw [hi]
    simp only [hwi, if_true]
    exact .inl (h1 _ fun a' w' hx hk => ⟨hS.trans hx, hk⟩)
  · rw [hj]
    simp only [hwj, if_true]
    exact .inl (h2 _ fun a' w' hx hk => ⟨hS.trans hx, hk⟩)
/-- The beginning, by what lies below B: the world behind the draw by a name of its own. -/
theorem sx_startB {id : Nat} {a : Act} {w : World} {B : Nat} {w0 : World} (hm : P.follows .mixedOrders = true) (hS : Below B w0 w)
    (h : ∀ wd, wd = w.drew → Below B w0 wd → wpAnyH P .any ops Q (Below B w0) ops.size (Array.replicate ops.size false) a wd) : (Code.region id ops true).wp P Q a w :=
  wp_region_held_drew hm hS.drew (h _ rfl)
end
end Go.Proofs.YtaobeconjdeenaaDoor
