/-
  Texts of this proof, put together: LkT. No statement is proved here.
-/
import Derived.Test.YtiehefnbdijiaaaZR
import Derived.Test.YtiehefnbdijiaaaZI
import Derived.Test.YtiehefnbdijiaaaZC
import Derived.Test.YtiehefnbdijiaaaZG
namespace Go.Proofs.Ytiehefnbdijiaaa
open Go.RowKit
set_option linter.unusedSimpArgs false
set_option linter.unusedVariables false
def nmbV (n : Nat) (M : List Nat) : List Value := (List.range n).map fun q => .int .i64 (if q ∈ M then (ixOf M q : Int) else -1)
theorem nmbV_len (n : Nat) (M : List Nat) : (nmbV n M).length = n := by simp [nmbV]
theorem nmbV_get {n q : Nat} (M : List Nat) (h : q < n) : (nmbV n M)[q]? = some (.int .i64 (if q ∈ M then (ixOf M q : Int) else -1)) := by simp [nmbV, h]
theorem nmbV_nil (n : Nat) : nmbV n [] = List.replicate n (.int .i64 (-1)) := by
 apply List.ext_getElem?
 intro q
 by_cases h : q < n
 ·rw [nmbV_get _ h]; simp [h]
 ·rw [List.getElem?_eq_none (by rw [nmbV_len]; omega), List.getElem?_eq_none (by simp; omega)]
theorem nmbV_set {n y : Nat} {M : List Nat} (h : y ∉ M) : (nmbV n M).set y (.int .i64 (M.length : Int)) = nmbV n (M ++ [y]) := by
 apply List.ext_getElem?
 intro q
 by_cases hq : q < n
 ·rw [nmbV_get _ hq]
  by_cases e : y = q
  ·subst e
   rw [List.getElem?_set_self (by rw [nmbV_len]; exact hq), if_pos (by simp), idx_new h]
  ·rw [List.getElem?_set_ne e, nmbV_get _ hq]
   by_cases hm : q ∈ M
   ·rw [if_pos hm, if_pos (by simp [hm]), idx_app hm]
   ·rw [if_neg hm, if_neg (by simp [hm]; omega)]
 ·rw [List.getElem?_eq_none (by rw [List.length_set, nmbV_len]; omega), List.getElem?_eq_none (by rw [nmbV_len]; omega)]
def rwC (Rw : List Int) (K j : Nat) : List Int := Rw.take j ++ List.replicate (K - j) 0
theorem rwC_len {Rw : List Int} {K j : Nat} (h : Rw.length = K) (hj : j ≤ K) : (rwC Rw K j).length = K := by
 unfold rwC
 rw [List.length_append, List.length_take, List.length_replicate]
 omega
theorem rwC_zero (Rw : List Int) (K : Nat) : nums .i64 (rwC Rw K 0) = List.replicate K (.int .i64 0) := by simp [rwC, nums]
theorem rwC_all {Rw : List Int} {K : Nat} (h : Rw.length = K) : rwC Rw K K = Rw := by
 unfold rwC
 rw [List.take_of_length_le (by omega), Nat.sub_self]
 simp
theorem rwC_set {Rw : List Int} {K j : Nat} {x : Int} (h : Rw.length = K) (hj : j < K) (hx : Rw.take (j + 1) = Rw.take j ++ [x]) : (nums .i64 (rwC Rw K j)).set j (.int .i64 x) = nums .i64 (rwC Rw K (j + 1)) := by
 unfold rwC nums
 rw [hx]
 have hl : (Rw.take j).length = j := by rw [List.length_take]; omega
 rw [← List.map_set (f := fun n => Value.int .i64 n), List.set_append_right _ _ (by omega), hl, Nat.sub_self, show K - j = K - (j + 1) + 1 by omega, List.replicate_succ, List.set_cons_zero, List.append_assoc]
 rfl
structure Md4 (f : Nat → List Nat) (x0 : Nat) (e : Nat → Bool) (i n : Nat) (U : Nat → Value) (X : Nat → List Value) (M : List Nat) : Prop where
 a0 : X 0 = (List.range i).map fun q => U (q + 4)
 a1 : X 1 = bools (endsI e (Lq f x0 i) i)
 a2 : X 2 = nat64 M
 a3 : X 3 = nmbV n M
 ar : ∀ q r, (rowsI f (Lq f x0 i) i)[q]? = some r → X (q + 4) = nums .i64 r
section
variable {f : Nat → List Nat} {x0 : Nat} {e : Nat → Bool} {i n : Nat} {U : Nat → Value} {X : Nat → List Value} {M : List Nat}
theorem Md4.rowU (h : Md4 f x0 e i n U X M) (hi : i ≤ (Lq f x0 i).length) {v : Value} {l : List Value} : Md4 f x0 e i n (putV U (4 + i) v) (putX X (4 + i) l) M := by
 refine ⟨?_, by rw [putX_ne (by omega)]; exact h.a1, by rw [putX_ne (by omega)]; exact h.a2, by rw [putX_ne (by omega)]; exact h.a3, fun q r hr => ?_⟩
 ·rw [putX_ne (by omega), h.a0]
  refine List.map_congr_left fun q hq => ?_
  have := List.mem_range.1 hq
  rw [putV_ne (by omega)]
 ·have hq := (List.getElem?_eq_some_iff.1 hr).1
  rw [rowsI_len hi] at hq
  rw [putX_ne (by omega)]
  exact h.ar q r hr
theorem Md4.rowX (h : Md4 f x0 e i n U X M) (hi : i ≤ (Lq f x0 i).length) {l : List Value} : Md4 f x0 e i n U (putX X (4 + i) l) M := by
 refine ⟨by rw [putX_ne (by omega)]; exact h.a0, by rw [putX_ne (by omega)]; exact h.a1, by rw [putX_ne (by omega)]; exact h.a2, by rw [putX_ne (by omega)]; exact h.a3, fun q r hr => ?_⟩
 have hq := (List.getElem?_eq_some_iff.1 hr).1
 rw [rowsI_len hi] at hq
 rw [putX_ne (by omega)]
 exact h.ar q r hr
theorem Md4.push (h : Md4 f x0 e i n U X M) {v : Value} {y : Nat} (hy : y ∉ M) : Md4 f x0 e i n (putV U 2 v) (putX (putX X 3 ((X 3).set y (.int .i64 (M.length : Int)))) 2 (nat64 (M ++ [y]))) (M ++ [y]) := by
 refine ⟨?_, by rw [putX_ne (by decide), putX_ne (by decide)]; exact h.a1, putX_at _ _ _, by rw [putX_ne (by decide), putX_at, h.a3, nmbV_set hy], fun q r hr => ?_⟩
 ·rw [putX_ne (by decide), putX_ne (by decide), h.a0]
  exact List.map_congr_left fun q hq => by rw [putV_ne (by omega)]
 ·rw [putX_ne (by omega), putX_ne (by omega)]
  exact h.ar q r hr
theorem Md4.next (h : Md4 f x0 e i n U X M) {v vn ve : Value} {r : List Int} {b : Bool} {q : Nat} (hq : (Lq f x0 i)[i]? = some q) (hb : e q = b) (hr : r = rowI (Lq f x0 (i + 1)) (f q)) (hu : U (4 + i) = v) (hx : X (4 + i) = nums .i64 r) :
  Md4 f x0 e (i + 1) n (putV (putV U 0 vn) 1 ve) (putX (putX X 0 ((List.range i).map (fun q => U (q + 4)) ++ [v])) 1 (bools (endsI e (Lq f x0 i) i) ++ [.bool b])) M := by
 have hil := Nat.le_of_lt (List.getElem?_eq_some_iff.1 hq).1
 rw [Nat.add_comm 4 i] at hu hx
 refine ⟨?_, ?_, by rw [putX_ne (by omega), putX_ne (by omega)]; exact h.a2, by rw [putX_ne (by omega), putX_ne (by omega)]; exact h.a3, fun p y hy => ?_⟩
 ·rw [putX_ne (by omega), putX_at, List.range_succ, List.map_append]
  have e1 : (List.range i).map (fun q => putV (putV U 0 vn) 1 ve (q + 4)) = (List.range i).map fun q => U (q + 4) := List.map_congr_left fun p _ => by rw [putV_ne (by omega), putV_ne (by omega)]
  have e2 : putV (putV U 0 vn) 1 ve (i + 4) = v := by rw [putV_ne (by omega), putV_ne (by omega), hu]
  rw [e1, List.map_cons, List.map_nil, e2]
 ·rw [putX_at, endsI_next hq, hb]
  simp [bools]
 ·rw [putX_ne (by omega), putX_ne (by omega)]
  rw [rowsI_next hq] at hy
  have hl := rowsI_len (f := f) hil
  by_cases hp : p < i
  ·rw [List.getElem?_append_left (by omega)] at hy
   exact h.ar p y hy
  ·have hp2 := (List.getElem?_eq_some_iff.1 hy).1
   rw [List.length_append, hl] at hp2
   obtain rfl : p = i := by simp only [List.length_cons, List.length_nil] at hp2; omega
   rw [List.getElem?_append_right (by omega), hl, Nat.sub_self] at hy
   have e := Option.some.inj hy
   rw [hx, hr, e]
theorem Md4.dfa {w : World} {H : Nat} {cl : List UInt8} (h : Md4 f x0 e i n U X M) (ha : Apt w H (4 + i) U X) (hl : cl.length = 256) (hi : i ≤ (Lq f x0 i).length) :
  DfaV w (dcl cl (U 0) (U 1)) ⟨cl, rowsI f (Lq f x0 i) i, endsI e (Lq f x0 i) i⟩ := by
 have r0 : Row w (U 0) (X 0) := Row.of_own (ha.own 0 (by omega))
 have r1 : Row w (U 1) (X 1) := Row.of_own (ha.own 1 (by omega))
 refine ⟨hl, U 0, U 1, fun q => U (q + 4), rfl, ?_, fun j r hr => ?_, by rw [← h.a1]; exact r1⟩
 ·show Row w (U 0) ((List.range (rowsI f (Lq f x0 i) i).length).map _)
  rw [rowsI_len hi, ← h.a0]
  exact r0
 ·have hr : (rowsI f (Lq f x0 i) i)[j]? = some r := hr
  have hj := (List.getElem?_eq_some_iff.1 hr).1
  rw [rowsI_len hi] at hj
  have r2 : Row w (U (j + 4)) (X (j + 4)) := Row.of_own (ha.own (j + 4) (by omega))
  rw [h.ar j r hr] at r2
  exact r2
end
def qn4 (qv nv : Value) : Nat → Value := fun i => if i = 2 then qv else if i = 3 then nv else .slice none 0 0
def qn4X (l r : List Value) : Nat → List Value := fun i => if i = 2 then l else if i = 3 then r else []
theorem apt_qn4 {w : World} {H gq gn : Nat} {l r : List Value} (hq : Blk w gq 3 l) (hn : Blk w gn 3 r) (h1 : H ≤ gq) (h2 : H ≤ gn) (hne : gq ≠ gn) (l1 : l.length ≤ 2000) (l2 : r.length ≤ 2000) : Apt w H 4 (qn4 (.slice (some ⟨gq, 0, none⟩) l.length l.length) (.slice (some ⟨gn, 0, none⟩) r.length r.length)) (qn4X l r) := by
 have o2 := hq.own h1 (by unfold maxLen; omega)
 have o3 := hn.own h2 (by unfold maxLen; omega)
 refine ⟨fun i hi => ?_, fun i j hi hj hij k hk => ?_⟩
 ·have : i = 0 ∨ i = 1 ∨ i = 2 ∨ i = 3 := by omega
  rcases this with rfl | rfl | rfl | rfl
  ·exact ownC_nil _ _ _
  ·exact ownC_nil _ _ _
  ·exact o2
  ·exact o3
 ·have q1 : i = 0 ∨ i = 1 ∨ i = 2 ∨ i = 3 := by omega
  have q2 : j = 0 ∨ j = 1 ∨ j = 2 ∨ j = 3 := by omega
  rcases q1 with rfl | rfl | rfl | rfl
  ·cases (show (none : Option Nat) = some k from hk)
  ·cases (show (none : Option Nat) = some k from hk)
  ·have e1 := Option.some.inj (show some gq = some k from hk)
   rcases q2 with rfl | rfl | rfl | rfl
   ·exact fun h => by cases (show (none : Option Nat) = some k from h)
   ·exact fun h => by cases (show (none : Option Nat) = some k from h)
   ·exact absurd rfl hij
   ·intro h
    have e2 := Option.some.inj (show some gn = some k from h)
    exact hne (by rw [e1, e2])
  ·have e1 := Option.some.inj (show some gn = some k from hk)
   rcases q2 with rfl | rfl | rfl | rfl
   ·exact fun h => by cases (show (none : Option Nat) = some k from h)
   ·exact fun h => by cases (show (none : Option Nat) = some k from h)
   ·intro h
    have e2 := Option.some.inj (show some gq = some k from h)
    exact hne (by rw [e1, e2])
   ·exact absurd rfl hij
theorem Md4.zero {f : Nat → List Nat} {x0 : Nat} {e : Nat → Bool} {n : Nat} {qv nv : Value} : Md4 f x0 e 0 n (qn4 qv nv) (qn4X (nat64 [x0]) (nmbV n [x0])) [x0] :=
 ⟨rfl, rfl, rfl, rfl, fun q r h => by cases h⟩
def TQ (w5 : World) (gd b2 i q : Nat) (W : World) : Prop := Off (fun k => k = gd) w5 W ∧ W.cell? ⟨b2, i, none⟩ = some (.int .i64 (q : Int))
section
variable {w5 W W' : World} {gd b2 i q : Nat}
theorem TQ.below (h : TQ w5 gd b2 i q W) (hb : Below W.heap.size W W') (hl : b2 < W.heap.size) : TQ w5 gd b2 i q W' := ⟨h.1.then hb, (hb.cell (p := ⟨b2, i, none⟩) hl).trans h.2⟩
theorem TQ.grow (h : TQ w5 gd b2 i q W) {r : Option Nat} (hg : W.grownBy W' r) (hl : b2 < W.heap.size) (hr : ∀ k, r = some k → w5.heap.size ≤ k ∧ k ≠ b2) : TQ w5 gd b2 i q W' :=
 ⟨off_grow h.1 hg fun k hk => (hr k hk).1, (cell_of_block (hg.block b2 hl fun e => (hr b2 e.symm).2 rfl)).trans h.2⟩
theorem TQ.set (h : TQ w5 gd b2 i q W) (hne : b2 ≠ gd) (j : Nat) (v : Value) : TQ w5 gd b2 i q (W.setCell ⟨gd, j, none⟩ v) := ⟨h.1.trans (Off.set W j v rfl), (cell_of_block (Below.heap_setCell W ⟨gd, j, none⟩ v b2 hne)).trans h.2⟩
end
end Go.Proofs.Ytiehefnbdijiaaa
