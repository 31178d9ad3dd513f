/-
  Texts of this proof, put together: LkT, LkY, PxA, PxS, LvA. No statement is proved here.
-/
import Derived.Test.YtaakdebcagdfgaaZJ
import Derived.Test.YtaakdebcagdfgaaZK
import Derived.Test.YtaakdebcagdfgaaZI
import Derived.Laws.Bits64b
import Derived.Laws.CopyOwn
import Derived.Laws.CopyRow
import Derived.Test.YtaakdebcagdfgaaZC
import Derived.Test.YtaakdebcagdfgaaZH
import Derived.Test.YtaakdebcagdfgaaZA
import Derived.Test.YtaakdebcagdfgaaZB
import Derived.Test.YtaakdebcagdfgaaZF
import Derived.Test.YtaakdebcagdfgaaZE
import Derived.Test.YtaakdebcagdfgaaZG
namespace Go.Proofs.Ytaakdebcagdfgaa
open Go.RowKit
set_option linter.unusedSimpArgs false
set_option linter.unusedVariables false
def nmbV (n : Nat) (M : List Nat) : List Value := (List.range n).map fun q => .int .i64 (if q ∈ M then (ixOf M q : Int) else -1)
theorem nmbV_len (n : Nat) (M : List Nat) : (nmbV n M).length = n := by simp [nmbV]
theorem nmbV_get {n q : Nat} (M : List Nat) (h : q < n) : (nmbV n M)[q]? = some (.int .i64 (if q ∈ M then (ixOf M q : Int) else -1)) := by simp [nmbV, h]
theorem nmbV_set {n y : Nat} {M : List Nat} (h : y ∉ M) : (nmbV n M).set y (.int .i64 (M.length : Int)) = nmbV n (M ++ [y]) := by
 apply List.ext_getElem?
 intro q
 by_cases hq : q < n
 ·rw [nmbV_get _ hq]
  by_cases e : y = q
  ·subst e
   rw [List.getElem?_set_self (by rw [nmbV_len]; exact hq), if_pos (by simp), idx_new h]
  ·rw [List.getElem?_set_ne e, nmbV_get _ hq]
   by_cases hm : q ∈ M
   ·rw [if_pos hm, if_pos (by simp [hm]), idx_app hm]
   ·rw [if_neg hm, if_neg (by simp [hm]; omega)]
 ·rw [List.getElem?_eq_none (by rw [List.length_set, nmbV_len]; omega), List.getElem?_eq_none (by rw [nmbV_len]; omega)]
structure Md4 (f : Nat → List Nat) (x0 : Nat) (e : Nat → Bool) (i n : Nat) (U : Nat → Value) (X : Nat → List Value) (M : List Nat) : Prop where
 a0 : X 0 = (List.range i).map fun q => U (q + 4)
 a1 : X 1 = bools (endsI e (Lq f x0 i) i)
 a2 : X 2 = nat64 M
 a3 : X 3 = nmbV n M
 ar : ∀ q r, (rowsI f (Lq f x0 i) i)[q]? = some r → X (q + 4) = nums .i64 r
section
variable {f : Nat → List Nat} {x0 : Nat} {e : Nat → Bool} {i n : Nat} {U : Nat → Value} {X : Nat → List Value} {M : List Nat}
theorem Md4.rowU (h : Md4 f x0 e i n U X M) (hi : i ≤ (Lq f x0 i).length) {v : Value} {l : List Value} : Md4 f x0 e i n (putV U (4 + i) v) (putX X (4 + i) l) M := by
 refine ⟨?_, by rw [putX_ne (by omega)]; exact h.a1, by rw [putX_ne (by omega)]; exact h.a2, by rw [putX_ne (by omega)]; exact h.a3, fun q r hr => ?_⟩
 ·rw [putX_ne (by omega), h.a0]
  refine List.map_congr_left fun q hq => ?_
  have := List.mem_range.1 hq
  rw [putV_ne (by omega)]
 ·have hq := (List.getElem?_eq_some_iff.1 hr).1
  rw [rowsI_len hi] at hq
  rw [putX_ne (by omega)]
  exact h.ar q r hr
theorem Md4.push (h : Md4 f x0 e i n U X M) {v : Value} {y : Nat} (hy : y ∉ M) : Md4 f x0 e i n (putV U 2 v) (putX (putX X 3 ((X 3).set y (.int .i64 (M.length : Int)))) 2 (nat64 (M ++ [y]))) (M ++ [y]) := by
 refine ⟨?_, by rw [putX_ne (by decide), putX_ne (by decide)]; exact h.a1, putX_at _ _ _, by rw [putX_ne (by decide), putX_at, h.a3, nmbV_set hy], fun q r hr => ?_⟩
 ·rw [putX_ne (by decide), putX_ne (by decide), h.a0]
  exact List.map_congr_left fun q hq => by rw [putV_ne (by omega)]
 ·rw [putX_ne (by omega), putX_ne (by omega)]
  exact h.ar q r hr
theorem Md4.next (h : Md4 f x0 e i n U X M) {v vn ve : Value} {r : List Int} {b : Bool} {q : Nat} (hq : (Lq f x0 i)[i]? = some q) (hb : e q = b) (hr : r = rowI (Lq f x0 (i + 1)) (f q)) (hu : U (4 + i) = v) (hx : X (4 + i) = nums .i64 r) :
  Md4 f x0 e (i + 1) n (putV (putV U 0 vn) 1 ve) (putX (putX X 0 ((List.range i).map (fun q => U (q + 4)) ++ [v])) 1 (bools (endsI e (Lq f x0 i) i) ++ [.bool b])) M := by
 have hil := Nat.le_of_lt (List.getElem?_eq_some_iff.1 hq).1
 rw [Nat.add_comm 4 i] at hu hx
 refine ⟨?_, ?_, by rw [putX_ne (by omega), putX_ne (by omega)]; exact h.a2, by rw [putX_ne (by omega), putX_ne (by omega)]; exact h.a3, fun p y hy => ?_⟩
 ·rw [putX_ne (by omega), putX_at, List.range_succ, List.map_append]
  have e1 : (List.range i).map (fun q => putV (putV U 0 vn) 1 ve (q + 4)) = (List.range i).map fun q => U (q + 4) := List.map_congr_left fun p _ => by rw [putV_ne (by omega), putV_ne (by omega)]
  have e2 : putV (putV U 0 vn) 1 ve (i + 4) = v := by rw [putV_ne (by omega), putV_ne (by omega), hu]
  rw [e1, List.map_cons, List.map_nil, e2]
 ·rw [putX_at, endsI_next hq, hb]
  simp [bools]
 ·rw [putX_ne (by omega), putX_ne (by omega)]
  rw [rowsI_next hq] at hy
  have hl := rowsI_len (f := f) hil
  by_cases hp : p < i
  ·rw [List.getElem?_append_left (by omega)] at hy
   exact h.ar p y hy
  ·have hp2 := (List.getElem?_eq_some_iff.1 hy).1
   rw [List.length_append, hl] at hp2
   obtain rfl : p = i := by simp only [List.length_cons, List.length_nil] at hp2; omega
   rw [List.getElem?_append_right (by omega), hl, Nat.sub_self] at hy
   have e := Option.some.inj hy
   rw [hx, hr, e]
theorem Md4.dfa {w : World} {H : Nat} {cl : List UInt8} (h : Md4 f x0 e i n U X M) (ha : Apt w H (4 + i) U X) (hl : cl.length = 256) (hi : i ≤ (Lq f x0 i).length) :
  DfaV w (dcl cl (U 0) (U 1)) ⟨cl, rowsI f (Lq f x0 i) i, endsI e (Lq f x0 i) i⟩ := by
 have r0 : Row w (U 0) (X 0) := Row.of_own (ha.own 0 (by omega))
 have r1 : Row w (U 1) (X 1) := Row.of_own (ha.own 1 (by omega))
 refine ⟨hl, U 0, U 1, fun q => U (q + 4), rfl, ?_, fun j r hr => ?_, by rw [← h.a1]; exact r1⟩
 ·show Row w (U 0) ((List.range (rowsI f (Lq f x0 i) i).length).map _)
  rw [rowsI_len hi, ← h.a0]
  exact r0
 ·have hr : (rowsI f (Lq f x0 i) i)[j]? = some r := hr
  have hj := (List.getElem?_eq_some_iff.1 hr).1
  rw [rowsI_len hi] at hj
  have r2 : Row w (U (j + 4)) (X (j + 4)) := Row.of_own (ha.own (j + 4) (by omega))
  rw [h.ar j r hr] at r2
  exact r2
end
def qn4 (qv nv : Value) : Nat → Value := fun i => if i = 2 then qv else if i = 3 then nv else .slice none 0 0
def qn4X (l r : List Value) : Nat → List Value := fun i => if i = 2 then l else if i = 3 then r else []
theorem Md4.zero {f : Nat → List Nat} {x0 : Nat} {e : Nat → Bool} {n : Nat} {qv nv : Value} : Md4 f x0 e 0 n (qn4 qv nv) (qn4X (nat64 [x0]) (nmbV n [x0])) [x0] :=
 ⟨rfl, rfl, rfl, rfl, fun q r h => by cases h⟩
def TQ (w5 : World) (gd b2 i q : Nat) (W : World) : Prop := Off (fun k => k = gd) w5 W ∧ W.cell? ⟨b2, i, none⟩ = some (.int .i64 (q : Int))
section
variable {w5 W W' : World} {gd b2 i q : Nat}
theorem TQ.below (h : TQ w5 gd b2 i q W) (hb : Below W.heap.size W W') (hl : b2 < W.heap.size) : TQ w5 gd b2 i q W' := ⟨h.1.then hb, (hb.cell (p := ⟨b2, i, none⟩) hl).trans h.2⟩
theorem TQ.grow (h : TQ w5 gd b2 i q W) {r : Option Nat} (hg : W.grownBy W' r) (hl : b2 < W.heap.size) (hr : ∀ k, r = some k → w5.heap.size ≤ k ∧ k ≠ b2) : TQ w5 gd b2 i q W' :=
 ⟨off_grow h.1 hg fun k hk => (hr k hk).1, (cell_of_block (hg.block b2 hl fun e => (hr b2 e.symm).2 rfl)).trans h.2⟩
theorem TQ.set (h : TQ w5 gd b2 i q W) (hne : b2 ≠ gd) (j : Nat) (v : Value) : TQ w5 gd b2 i q (W.setCell ⟨gd, j, none⟩ v) := ⟨h.1.trans (Off.set W j v rfl), (cell_of_block (Below.heap_setCell W ⟨gd, j, none⟩ v b2 hne)).trans h.2⟩
end
structure ApG (ty : Nat → TypeId) (w : World) (H m : Nat) (U : Nat → Value) (X : Nat → List Value) : Prop where
 own : ∀ i, i < m → w.ownsRow H (ty i) 1 (U i) (X i).length (X i)
 inj : ∀ i j, i < m → j < m → i ≠ j → ∀ k, (U i).ownBlock = some k → (U j).ownBlock ≠ some k
section
variable {ty : Nat → TypeId} {w w' : World} {H m : Nat} {U : Nat → Value} {X : Nat → List Value}
theorem ApG.stay (h : ApG ty w H m U X) (hs : ∀ k, H ≤ k → k < w.heap.size → w'.heap[k]? = w.heap[k]?) : ApG ty w' H m U X :=
 ⟨fun i hi => own6_stay (h.own i hi) fun j hj => hs j (own6_lt (h.own i hi) j hj).2 (own6_lt (h.own i hi) j hj).1, h.inj⟩
theorem ApG.below (h : ApG ty w H m U X) (hb : Below w.heap.size w w') : ApG ty w' H m U X := h.stay fun k _ hk => hb.block k hk
theorem ApG.lt (h : ApG ty w H m U X) {i : Nat} (hi : i < m) : ∀ k, (U i).ownBlock = some k → k < w.heap.size ∧ H ≤ k := own6_lt (h.own i hi)
theorem ApG.grow (h : ApG ty w H m U X) {s : Nat} (hs : s < m) {v : Value} {l : List Value} (ho : w'.ownsRow H (ty s) 1 v l.length l) (hg : w.grownBy w' (U s).ownBlock) (hw : ∀ k, v.ownBlock = some k → (U s).ownBlock = some k ∨ w.heap.size ≤ k) :
  ApG ty w' H m (putV U s v) (putX X s l) := by
 have hkeep : ∀ i, i < m → i ≠ s → ∀ k, (U i).ownBlock = some k → w'.heap[k]? = w.heap[k]? := fun i hi hne k hk =>
  hg.block k (h.lt hi k hk).1 fun e => h.inj i s hi hs hne k hk (by first | exact e | exact e.symm)
 refine ⟨fun i hi => ?_, fun i j hi hj hij k hk => ?_⟩
 ·by_cases hne : i = s
  ·subst hne
   rw [putV_at, putX_at]
   exact ho
  ·rw [putV_ne hne, putX_ne hne]
   exact own6_stay (h.own i hi) fun j hj => hkeep i hi hne j hj
 ·by_cases hi2 : i = s
  ·have hj2 : j ≠ s := fun e => hij (by rw [hi2, e])
   rw [hi2, putV_at] at hk
   rw [putV_ne hj2]
   rcases hw k hk with e | e
   ·exact h.inj s j hs hj (Ne.symm hj2) k e
   ·exact fun e2 => absurd (h.lt hj k e2).1 (Nat.not_lt.2 e)
  ·rw [putV_ne hi2] at hk
   by_cases hj2 : j = s
   ·rw [hj2, putV_at]
    intro e2
    rcases hw k e2 with e | e
    ·exact h.inj s i hs hi (Ne.symm hi2) k e hk
    ·exact absurd (h.lt hi k hk).1 (Nat.not_lt.2 e)
   ·rw [putV_ne hj2]
    exact h.inj i j hi hj hij k hk
theorem ApG.more (h : ApG ty w H m U X) : ApG ty w H (m + 1) (putV U m (.slice none 0 0)) (putX X m []) := by
 refine ⟨fun i hi => ?_, fun i j hi hj hij k hk => ?_⟩
 ·by_cases hne : i = m
  ·subst hne
   rw [putV_at, putX_at]
   exact ownC_nil _ _ _
  ·rw [putV_ne hne, putX_ne hne]
   exact h.own i (by omega)
 ·by_cases hi2 : i = m
  ·rw [hi2, putV_at] at hk
   cases (show (none : Option Nat) = some k from hk)
  ·rw [putV_ne hi2] at hk
   by_cases hj2 : j = m
   ·rw [hj2, putV_at]
    intro e
    cases (show (none : Option Nat) = some k from e)
   ·rw [putV_ne hj2]
    exact h.inj i j (by omega) (by omega) hij k hk
theorem ApG.fewer (h : ApG ty w H (m + 1) U X) : ApG ty w H m U X := ⟨fun i hi => h.own i (by omega), fun i j hi hj => h.inj i j (by omega) (by omega)⟩
theorem ApG.set (h : ApG ty w H m U X) {s : Nat} (hs : s < m) {g n cap : Nat} (hv : U s = .slice (some ⟨g, 0, none⟩) n cap) {q : Nat} (hq : q < (X s).length) (u : Value) : ApG ty (w.setCell ⟨g, q, none⟩ u) H m U (putX X s ((X s).set q u)) := by
 refine ⟨fun i hi => ?_, h.inj⟩
 by_cases hne : i = s
 ·subst hne
  rw [putX_at, List.length_set]
  have h1 := h.own i hi
  rw [hv] at h1 ⊢
  have h2 : n = (X i).length := by
   rcases h1.2 with ⟨e, _⟩ | ⟨g', cap', cur, e, _⟩
   ·cases e
   ·injection e
  rw [← h2] at h1 ⊢
  exact own_set h1 hq u
 ·rw [putX_ne hne]
  refine own6_stay (h.own i hi) fun j hj => Below.heap_setCell w ⟨g, q, none⟩ u j fun e => h.inj s i hs hi (Ne.symm hne) g (by rw [hv]; rfl) (by rw [hj]; exact congrArg some e)
end
theorem ApG.add {ty : Nat → TypeId} {w : World} {H M : Nat} {U : Nat → Value} {X : Nat → List Value} {v : Value} {l : List Value} (h : ApG ty w H M U X) (ho : w.ownsRow H (ty M) 1 v l.length l) (hd : ∀ i, i < M → ∀ k, (U i).ownBlock = some k → v.ownBlock ≠ some k) : ApG ty w H (M + 1) (putV U M v) (putX X M l) := by
 refine ⟨fun i hi => ?_, fun i j hi hj hij k hk => ?_⟩
 ·by_cases e : i = M
  ·subst e
   rw [putV_at, putX_at]
   exact ho
  ·rw [putV_ne e, putX_ne e]
   exact h.own i (by omega)
 ·by_cases e : i = M
  ·subst e
   rw [putV_at] at hk
   rw [putV_ne (by omega)]
   exact fun hk2 => hd j (by omega) k hk2 hk
  ·rw [putV_ne e] at hk
   by_cases e2 : j = M
   ·subst e2
    rw [putV_at]
    exact hd i (by omega) k hk
   ·rw [putV_ne e2]
    exact h.inj i j (by omega) (by omega) hij k hk
def pr2 (x : Nat × Nat) : List Value := [.int .i64 (x.1 : Int), .int .i64 (x.2 : Int)]
def prs : List (Nat × Nat) → List Value
 | [] => []
 | x :: l => pr2 x ++ prs l
theorem prs_app : ∀ a b : List (Nat × Nat), prs (a ++ b) = prs a ++ prs b
 | [], _ => rfl
 | x :: a, b => by show pr2 x ++ prs (a ++ b) = pr2 x ++ prs a ++ prs b; rw [prs_app a b, List.append_assoc]
theorem prs_len : ∀ l : List (Nat × Nat), (prs l).length = l.length * 2
 | [] => rfl
 | x :: l => by
  show (pr2 x ++ prs l).length = (l.length + 1) * 2
  rw [List.length_append, prs_len l, Nat.add_mul, Nat.one_mul, Nat.add_comm]
  rfl
theorem prs_get : ∀ {l : List (Nat × Nat)} {i : Nat} {x : Nat × Nat}, l[i]? = some x → ∀ k, k < 2 → (prs l)[i * 2 + k]? = (pr2 x)[k]?
 | [], i, x, h, k, _ => by simp at h
 | y :: l, 0, x, h, k, hk => by
  have e : y = x := by simpa using h
  subst e
  show (pr2 y ++ prs l)[0 * 2 + k]? = _
  rw [Nat.zero_mul, Nat.zero_add, List.getElem?_append_left hk]
 | y :: l, i + 1, x, h, k, hk => by
  have h2 : l[i]? = some x := by simpa using h
  show (pr2 y ++ prs l)[(i + 1) * 2 + k]? = _
  rw [List.getElem?_append_right (by show 2 ≤ _; omega), show (i + 1) * 2 + k - (pr2 y).length = i * 2 + k by show (i + 1) * 2 + k - 2 = _; omega]
  exact prs_get h2 k hk
theorem prs_one : ∀ l : List (Nat × Nat), ∀ u ∈ prs l, u.oneCell' = true
 | [], u, h => by cases h
 | x :: l, u, h => by
  rcases List.mem_append.1 (show u ∈ pr2 x ++ prs l from h) with h | h
  ·simp only [pr2, List.mem_cons, List.mem_nil_iff, or_false] at h
   rcases h with rfl | rfl <;> rfl
  ·exact prs_one l u h
theorem inf_p2 : (Try.prog.info? 70).map (fun i => (i.zero, i.size, i.bytes)) = some (some (.agg (pr2 (0, 0)).toArray), 2, 16) := by kernel_rfl
theorem inf_p2s : (Try.prog.info? 70).map (·.size) = some 2 := by kernel_rfl
section
variable {ev : Operand → Value} {o : Oper} {p : Addr} {W : World} {A : Option Addr} {n c : Nat}
theorem px_ix (x i : Operand) (ho : o.op = .indexAddr 71 x i) {b off q : Nat} (hx : ev x = .slice (some ⟨b, off, none⟩) n c) (hi : ev i = .int .i64 (q : Int)) (hq : q < n) (W : World) : (execOp ev o).run Try.prog W = .ok (.value (.pointer (some ⟨b, off + q * 2, none⟩))) W := by
 have h1 : (q : Int) < (n : Int) := Int.ofNat_lt.2 hq
 have hs := inf_p2s
 obtain ⟨i2, hi2, hz2, hs2, _⟩ := infoP inf_p2
 simp only [execOp, ho, hx, hi]
 go_simp
theorem px_ix0 (x i : Operand) (ho : o.op = .indexAddr 71 x i) {b q : Nat} (hx : ev x = .slice (some ⟨b, 0, none⟩) n c) (hi : ev i = .int .i64 (q : Int)) (hq : q < n) (W : World) : (execOp ev o).run Try.prog W = .ok (.value (.pointer (some ⟨b, q * 2, none⟩))) W := by
 have := px_ix x i ho hx hi hq W
 rwa [Nat.zero_add] at this
theorem px_sub1 (x : Operand) {r : TypeId} (ho : o.op = .binOp .sub 3 x (.const (.int .i64 1)) r) {h : Int} (hx : ev x = .int .i64 h) (hc : ev (.const (.int .i64 1)) = .int .i64 1) {k : Nat} (hk : h = (k : Int) + 1) (h4 : k < 4) (W : World) : (execOp ev o).run Try.prog W = .ok (.value (.int .i64 (k : Int))) W := by
 subst hk
 simp only [execOp, ho, hx, hc]
 have : k = 0 ∨ k = 1 ∨ k = 2 ∨ k = 3 := by omega
 rcases this with rfl | rfl | rfl | rfl <;> (go_simp; try rfl)
theorem px_i0 (x : Operand) (ho : o.op = .indexAddr 70 x (.const (.int .i64 0))) {b off : Nat} (hx : ev x = .pointer (some ⟨b, off, none⟩)) (hc : ev (.const (.int .i64 0)) = .int .i64 0) (W : World) : (execOp ev o).run Try.prog W = .ok (.value (.pointer (some ⟨b, off, none⟩))) W := by
 simp only [execOp, ho, hx, hc]
 go_simp
theorem px_i1 (x : Operand) (ho : o.op = .indexAddr 70 x (.const (.int .i64 1))) {b off : Nat} (hx : ev x = .pointer (some ⟨b, off, none⟩)) (hc : ev (.const (.int .i64 1)) = .int .i64 1) (W : World) : (execOp ev o).run Try.prog W = .ok (.value (.pointer (some ⟨b, off + 1, none⟩))) W := by
 simp only [execOp, ho, hx, hc]
 go_simp
theorem px_ld (x : Operand) (ho : o.op = .load 70 x) {b off : Nat} (hx : ev x = .pointer (some ⟨b, off, none⟩)) {y : Nat × Nat} (hc : W.rangeAt b off (pr2 y)) : (execOp ev o).run Try.prog W = .ok (.value (.agg (pr2 y).toArray)) W := by
 simp only [execOp, ho, hx, Instr.loadAt, Instr.sureAddr, Sem.run_bind, Sem.run_pure, Result.andThen_ok, run_loadVar_mid W b off 70 (pr2 y) _ hc Try.underlying70 rfl inf_p2s]
theorem px_bld (x y : Operand) (ho : o.op = .build 70 #[(0, x), (1, y)]) {a b : Nat} (hx : ev x = .int .i64 (a : Int)) (hy : ev y = .int .i64 (b : Int)) (W : World) : (execOp ev o).run Try.prog W = .ok (.value (.agg (pr2 (a, b)).toArray)) W := by
 simp only [execOp, ho, hx, hy]
 go_simp
 rfl
theorem px_neU (x y : Operand) {r : TypeId} (ho : o.op = .binOp .neq 5 x y r) {u v : Int} (hx : ev x = .int .u8 u) (hy : ev y = .int .u8 v) {b : Bool} (hb : (u != v) = b) (W : World) : (execOp ev o).run Try.prog W = .ok (.value (.bool b)) W := by
 simp only [execOp, ho, hx, hy]
 subst hb
 by_cases h : u = v
 ·subst h
  go_simp
 ·have h2 : (u == v) = false := beq_eq_false_iff_ne.2 h
  go_simp
theorem px_ne (x y : Operand) (oT : TypeId) (ho : o.op = .binOp .neq 70 x y oT) {u v : Nat × Nat} (hx : ev x = .agg (pr2 u).toArray) (hy : ev y = .agg (pr2 v).toArray) (W : World) : (execOp ev o).run Try.prog W = .ok (.value (.bool (decide (u ≠ v)))) W := by
 have h1 := run_equalIn_nums (P := Try.prog) W 9998 70 3 2 .i64 Try.underlying70 Try.underlying3 (fun w => by go_simp) [(u.1 : Int), (u.2 : Int)] [(v.1 : Int), (v.2 : Int)] rfl rfl
 have hg : Try.prog.eqGuardType Try.prog.depth 70 = false := by kernel_rfl
 simp only [execOp, ho, hx, hy, Sem.run_bind, run_eqGuard_agg W .neq 70 x y _ _ hg, Result.andThen_ok]
 have e1 : (pr2 u).toArray = (nums .i64 [(u.1 : Int), (u.2 : Int)]).toArray := rfl
 have e2 : (pr2 v).toArray = (nums .i64 [(v.1 : Int), (v.2 : Int)]).toArray := rfl
 rw [run_neq_struct, e1, e2, show (10000 : Nat) = 9998 + 2 from rfl, h1]
 have e3 : (!([(u.1 : Int), (u.2 : Int)] == [(v.1 : Int), (v.2 : Int)])) = decide (u ≠ v) := by
  obtain ⟨a, b⟩ := u
  obtain ⟨c, d⟩ := v
  by_cases h : (a, b) = (c, d)
  ·injection h with h2 h3
   subst h2
   subst h3
   simp
  ·rw [decide_eq_true h, Bool.not_eq_true', beq_eq_false_iff_ne]
   intro h4
   injection h4 with h5 h6
   injection h6 with h6 _
   exact h (Prod.ext (Int.ofNat.inj h5) (Int.ofNat.inj h6))
 simp only [Result.andThen_ok, Sem.run_pure, e3]
theorem px_neB (x y : Operand) (oT : TypeId) (ho : o.op = .binOp .neq 70 x y oT) {u v : Nat × Nat} (hx : ev x = .agg (pr2 u).toArray) (hy : ev y = .agg (pr2 v).toArray) {b : Bool} (hb : decide (u ≠ v) = b) (W : World) : (execOp ev o).run Try.prog W = .ok (.value (.bool b)) W := hb ▸ px_ne x y oT ho hx hy W
end
section
variable {o : Oper} {a : Act} {w : World} {K : Act → World → Prop} {Q : Exit → Act → World → Prop}
theorem wp_rd {P : Program} {v : Value} (h : (execOp a.eval o).run P w = .ok (.value v) w) (hk : K (a.put o.dst v) w) : o.wp P a w K Q := by
 unfold Oper.wp
 rw [h]
 exact hk
theorem px_bld4 (x y u v : Operand) (ho : o.op = .buildSlice 26 4 #[(0, x), (1, y), (2, u), (3, v)]) (i : TypeInfo) (hi : Try.prog.info? 4 = some i) (hz : i.zero = some (.bool false)) (hs : i.size = 1) (b c d e : Bool) (hx : a.eval x = .bool b) (hy : a.eval y = .bool c) (hu : a.eval u = .bool d) (hv : a.eval v = .bool e)
  (h : ∀ w', Blk w' w.heap.size 4 (bools [b, c, d, e]) → Below w.heap.size w w' → K (a.put o.dst (.slice (some ⟨w.heap.size, 0, none⟩) 4 4)) w') : o.wp Try.prog a w K Q := by
 have hzv : (zeroValue 4).run Try.prog w = .ok (.bool false) w := by simp [zeroValue, typeInfo, hi, hz]
 have hrun : (Instr.buildSlice 26 4 #[(0, .bool b), (1, .bool c), (2, .bool d), (3, .bool e)]).run Try.prog w = .ok (.slice (some ⟨w.heap.size, 0, none⟩) 4 4) (w.alloc (.cells (bools [b, c, d, e]).toArray 4)) := by
  simp [Instr.buildSlice, run_underlying Try.underlying26, sizeOf, typeInfo, hi, hs, hzv, Value.cells, Instr.fill, bools, Array.range_succ, Array.range_zero', newRow]
 unfold Oper.wp
 simp only [execOp, ho, List.map_toArray, List.map_cons, List.map_nil, hx, hy, hu, hv, hrun, Sem.run_bind, Result.andThen_ok, Sem.run_pure]
 exact h _ (Blk.new w _ _) ((Below.refl _ _).alloc (Nat.le_refl _) _)
theorem px_bld1 (x : Operand) (ho : o.op = .buildSlice 71 1 #[(0, x)]) (y : Nat × Nat) (hx : a.eval x = .agg (pr2 y).toArray)
  (h : ∀ w', Blk w' w.heap.size 70 (prs [y]) → Below w.heap.size w w' → K (a.put o.dst (.slice (some ⟨w.heap.size, 0, none⟩) 1 1)) w') : o.wp Try.prog a w K Q := by
 obtain ⟨i, hi, hz, hs, _⟩ := infoP inf_p2
 have hzv : (zeroValue 70).run Try.prog w = .ok (.agg (pr2 (0, 0)).toArray) w := by simp [zeroValue, typeInfo, hi, hz]
 have hrun : (Instr.buildSlice 71 1 #[(0, .agg (pr2 y).toArray)]).run Try.prog w = .ok (.slice (some ⟨w.heap.size, 0, none⟩) 1 1) (w.alloc (.cells (prs [y]).toArray 70)) := by
  simp [Instr.buildSlice, run_underlying Try.underlying71, sizeOf, typeInfo, hi, hs, hzv, Value.cells, Instr.fill, pr2, prs, Array.range_succ, Array.range_zero', newRow]
 unfold Oper.wp
 simp only [execOp, ho, List.map_toArray, List.map_cons, List.map_nil, hx, hrun, Sem.run_bind, Result.andThen_ok, Sem.run_pure]
 exact h _ (Blk.new w _ _) ((Below.refl _ _).alloc (Nat.le_refl _) _)
theorem px_app {base : Nat} (s x : Operand) (ho : o.op = .call { callee := .builtin .append, args := #[s, x], argTypes := #[71, 71] })
  (v : Value) (M : List (Nat × Nat)) (hs : a.eval s = v) (hown : w.ownsRow base 70 2 v M.length (prs M))
  (g c : Nat) (tg : TypeId) (y : Nat × Nat) (hx : a.eval x = .slice (some ⟨g, 0, none⟩) 1 c) (hr : Blk w g tg (prs [y])) (hlen : M.length + 1 ≤ 1048576) (hb : base ≤ w.heap.size)
  (h : ∀ v' w', w'.ownsRow base 70 2 v' (M ++ [y]).length (prs (M ++ [y])) → w.grownBy w' v.ownBlock → (∀ k, v'.ownBlock = some k → v.ownBlock = some k ∨ w.heap.size ≤ k) → K (a.put o.dst v') w') : o.wp Try.prog a w K Q := by
 obtain ⟨i, hi, hz, hsz, hby⟩ := infoP inf_p2
 have hnews : ∀ j u, (prs [y])[j]? = some u → w.cell? ((⟨g, 0, none⟩ : Addr).add j) = some u := fun j u hj => by
  rw [Addr.add_lit, Nat.zero_add, hr.cell j]
  exact hj
 obtain ⟨v', w', hrun, hown', hgr, _⟩ := run_append_own (P := Try.prog) w base 71 o.type 70 i _ 2 16 Try.underlying71 hi hz hsz hby (by simp [Value.cells, pr2]) (by omega) v M.length (prs M) hown ⟨g, 0, none⟩ 1 c (prs [y]) rfl hnews (prs_one _) (by unfold maxLen; omega) (by omega) hb
 have hwh := append_where (P := Try.prog) (w := w) base 71 o.type 70 i _ 2 16 Try.underlying71 hi hz hsz hby (by omega) v M.length (prs M) hown ⟨g, 0, none⟩ 1 c (prs [y]) rfl hnews (prs_one _) (by unfold maxLen; omega) (by omega) hrun
 unfold Oper.wp execOp
 simp only [ho, resolve, invoke, builtin, Sem.run_bind, Sem.run_pure, Result.andThen_ok, List.map_toArray, List.map_cons, List.map_nil, hs, hx, hrun]
 refine h v' w' ?_ hgr hwh
 rw [List.length_append, prs_app]
 exact hown'
end
theorem own2_in {w : World} {base n : Nat} {e : TypeId} {v : Value} {M : List (Nat × Nat)} (h : w.ownsRow base e 2 v n (prs M)) (hn : 0 < n) : ∃ g c, v = .slice (some ⟨g, 0, none⟩) n c ∧ base ≤ g ∧ g < w.heap.size ∧ ∀ i x, i < n → M[i]? = some x → w.rangeAt g (i * 2) (pr2 x) := by
 rcases h.2 with ⟨_, h0⟩ | ⟨g, cap, cur, rfl, hb, hg, hnc, hm, hs, ht⟩
 ·omega
 ·refine ⟨g, cap, rfl, hb, (Array.getElem?_eq_some_iff.1 hg).1, fun i x hi hx k u hu => ?_⟩
  have hk : k < 2 := (List.getElem?_eq_some_iff.1 hu).1
  have e1 := prs_get hx k hk
  rw [hu, ← ht, List.getElem?_take, if_pos (by omega), Array.getElem?_toList] at e1
  rw [cell_of_row w g _ cur e (0, 0) hg, e1]
theorem own2_slice {w : World} {base n k : Nat} {e : TypeId} {v : Value} {xs : List Value} (h : w.ownsRow base e k v n xs) : ∃ A c, v = .slice A n c := by
 rcases h.2 with ⟨rfl, rfl⟩ | ⟨g, cap, cur, rfl, _⟩
 ·exact ⟨_, _, rfl⟩
 ·exact ⟨_, _, rfl⟩
structure ApS (ty : Nat → TypeId) (sz : Nat → Nat) (w : World) (H m : Nat) (U : Nat → Value) (X : Nat → List Value) : Prop where
 own : ∀ i, i < m → ∃ n, w.ownsRow H (ty i) (sz i) (U i) n (X i)
 inj : ∀ i j, i < m → j < m → i ≠ j → ∀ k, (U i).ownBlock = some k → (U j).ownBlock ≠ some k
section
variable {ty : Nat → TypeId} {sz : Nat → Nat} {w w' : World} {H m : Nat} {U : Nat → Value} {X : Nat → List Value}
theorem ApS.stay (h : ApS ty sz w H m U X) (hs : ∀ k, H ≤ k → k < w.heap.size → w'.heap[k]? = w.heap[k]?) : ApS ty sz w' H m U X :=
 ⟨fun i hi => by
  obtain ⟨n, ho⟩ := h.own i hi
  exact ⟨n, own6_stay ho fun j hj => hs j (own6_lt ho j hj).2 (own6_lt ho j hj).1⟩, h.inj⟩
theorem ApS.below (h : ApS ty sz w H m U X) (hb : Below w.heap.size w w') : ApS ty sz w' H m U X := h.stay fun k _ hk => hb.block k hk
theorem ApS.lt (h : ApS ty sz w H m U X) {i : Nat} (hi : i < m) : ∀ k, (U i).ownBlock = some k → k < w.heap.size ∧ H ≤ k := by
 obtain ⟨n, ho⟩ := h.own i hi
 exact own6_lt ho
theorem ApS.grow (h : ApS ty sz w H m U X) {s : Nat} (hs : s < m) {v : Value} {l : List Value} {n : Nat} (ho : w'.ownsRow H (ty s) (sz s) v n l) (hg : w.grownBy w' (U s).ownBlock) (hw : ∀ k, v.ownBlock = some k → (U s).ownBlock = some k ∨ w.heap.size ≤ k) :
  ApS ty sz w' H m (putV U s v) (putX X s l) := by
 have hkeep : ∀ i, i < m → i ≠ s → ∀ k, (U i).ownBlock = some k → w'.heap[k]? = w.heap[k]? := fun i hi hne k hk =>
  hg.block k (h.lt hi k hk).1 fun e => h.inj i s hi hs hne k hk (by first | exact e | exact e.symm)
 refine ⟨fun i hi => ?_, fun i j hi hj hij k hk => ?_⟩
 ·by_cases hne : i = s
  ·subst hne
   rw [putV_at, putX_at]
   exact ⟨_, ho⟩
  ·rw [putV_ne hne, putX_ne hne]
   obtain ⟨n2, ho2⟩ := h.own i hi
   exact ⟨n2, own6_stay ho2 fun j hj => hkeep i hi hne j hj⟩
 ·by_cases hi2 : i = s
  ·have hj2 : j ≠ s := fun e => hij (by rw [hi2, e])
   rw [hi2, putV_at] at hk
   rw [putV_ne hj2]
   rcases hw k hk with e | e
   ·exact h.inj s j hs hj (Ne.symm hj2) k e
   ·exact fun e2 => absurd (h.lt hj k e2).1 (Nat.not_lt.2 e)
  ·rw [putV_ne hi2] at hk
   by_cases hj2 : j = s
   ·rw [hj2, putV_at]
    intro e2
    rcases hw k e2 with e | e
    ·exact h.inj s i hs hi (Ne.symm hi2) k e hk
    ·exact absurd (h.lt hi k hk).1 (Nat.not_lt.2 e)
   ·rw [putV_ne hj2]
    exact h.inj i j hi hj hij k hk
theorem ApS.more (h : ApS ty sz w H m U X) : ApS ty sz w H (m + 1) (putV U m (.slice none 0 0)) (putX X m []) := by
 refine ⟨fun i hi => ?_, fun i j hi hj hij k hk => ?_⟩
 ·by_cases hne : i = m
  ·subst hne
   rw [putV_at, putX_at]
   exact ⟨0, by simp, .inl ⟨rfl, rfl⟩⟩
  ·rw [putV_ne hne, putX_ne hne]
   exact h.own i (by omega)
 ·by_cases hi2 : i = m
  ·rw [hi2, putV_at] at hk
   cases (show (none : Option Nat) = some k from hk)
  ·rw [putV_ne hi2] at hk
   by_cases hj2 : j = m
   ·rw [hj2, putV_at]
    intro e
    cases (show (none : Option Nat) = some k from e)
   ·rw [putV_ne hj2]
    exact h.inj i j (by omega) (by omega) hij k hk
theorem ApS.fewer (h : ApS ty sz w H (m + 1) U X) : ApS ty sz w H m U X := ⟨fun i hi => h.own i (by omega), fun i j hi hj => h.inj i j (by omega) (by omega)⟩
theorem ApS.own1 (h : ApS ty sz w H m U X) {i : Nat} (hi : i < m) (hz : sz i = 1) : w.ownsRow H (ty i) 1 (U i) (X i).length (X i) := by
 obtain ⟨n, ho⟩ := h.own i hi
 rw [hz] at ho
 have e : (X i).length = n := by rw [ho.1, Nat.mul_one]
 rw [e]
 exact ho
theorem ApS.own2 (h : ApS ty sz w H m U X) {i : Nat} (hi : i < m) (hz : sz i = 2) {M : List (Nat × Nat)} (hX : X i = prs M) : w.ownsRow H (ty i) 2 (U i) M.length (prs M) := by
 obtain ⟨n, ho⟩ := h.own i hi
 rw [hz, hX] at ho
 have e : (prs M).length = n * 2 := ho.1
 rw [prs_len] at e
 have e2 : M.length = n := by omega
 rw [e2]
 exact ho
end
theorem bools_bcs {E : List Bool} {n : Nat} (h : E.length = n) : bools E = bcs n fun q => E[q]?.getD false := by
 apply List.ext_getElem?
 intro q
 unfold bools bcs
 by_cases hq : q < n
 ·simp [hq, List.getElem?_eq_getElem (show q < E.length by omega)]
 ·rw [List.getElem?_eq_none (by simp; omega), List.getElem?_eq_none (by simp; omega)]
theorem pw_first {D : Dm} {n : Nat} {t0 : Nat → Bool} (h : t0 = fun q => D.ends[q]?.getD false) : Pw D n true t0 := by
 subst h
 refine ⟨fun q _ h => by simp only [h]; rfl, fun q _ h => .base ?_, fun h => (by cases h)⟩
 cases he : D.ends[q]? with
 | none => rw [he] at h; cases h
 | some b => rw [he] at h; rw [show b = true from h]
theorem Pw.liv {D : Dm} {n : Nat} {t : Nat → Bool} (h : Pw D n false t) : bcs n t = bcs n (livB D) :=
 bcs_congr fun q hq => by rw [Bool.eq_iff_iff, livB_iff]; exact h.done rfl q hq
theorem unm_own {w : World} {B g n cap : Nat} {t : Nat → Bool} (h : w.ownsRow B 4 1 (.slice (some ⟨g, 0, none⟩) n cap) n (bcs n t)) : unm n (cellB w g) = unm n t :=
 unm_congr fun q hq => by
  unfold cellB
  rw [(own_cell h (bcs_get t hq)).1]
theorem pv_far {D : Dm} {n g cap B : Nat} {t0 t : Nat → Bool} {ag : Bool} {i kk : Nat} {w w' : World} (h : Pv D n t0 ag i kk t) (h0 : w.ownsRow B 4 1 (.slice (some ⟨g, 0, none⟩) n cap) n (bcs n t0)) (h1 : w'.ownsRow B 4 1 (.slice (some ⟨g, 0, none⟩) n cap) n (bcs n t)) :
  farW g n (.bool ag) w' < farW g n (.bool true) w := by
 unfold farW
 rw [unm_own h0, unm_own h1]
 cases ag with
 | true =>
  have := h.less
  show 2 * unm n t + 1 < 2 * unm n t0 + 1
  omega
 | false =>
  have := unm_congr (h.still rfl)
  show 2 * unm n t + 0 < 2 * unm n t0 + 1
  omega
set_option maxHeartbeats 8000000 in
set_option maxRecDepth 1000000 in
theorem refLive11_any (D : Dm) (cs : List Value) (w : World) (hv : DfaV w cs D) (hm : MayD D) :
  Calls Try.prog 18 #[.agg cs.toArray] w fun e w' => ∃ v, e = .returned v ∧ Row w' v (bcs D.next.length (livB D)) ∧ Below w.heap.size w w' := by
 have V0 := qH hv
 have HM := qH hm
 have HDS := qH hv.size
 obtain ⟨An, Ae, cn, ce, vf, hl, hcs, hn, hr, he⟩ := hv.form
 have HL := qH hl
 obtain ⟨n, hnn⟩ : ∃ n, n = D.next.length := ⟨_, rfl⟩
 have HN := qH hnn
 have HEN := qH (show D.ends.length = n by rw [hnn]; exact hm.ends)
 rw [hm.ends, ← hnn] at hcs
 rw [← hnn] at hn ⊢
 have HCS := qH hcs
 have HRN := qH hn
 have HR := qH hr
 rw [hm.ends, ← hnn] at he
 have HE := qH he
 have HNP := qH (show 1 ≤ n by rw [hnn]; exact hm.pos)
 have HNF := qH (show n ≤ 2000 by rw [hnn]; exact hm.few)
 obtain ⟨k, hk⟩ : ∃ k, k = clsA D.cl := ⟨_, rfl⟩
 have HK := qH hk
 have HK2 := qH (show k ≤ 256 by rw [hk]; exact clsA_le _)
 clear hv hm hl hcs hn hr he hnn hk
 obtain ⟨i2, hi2, hz2, hs2, hy2⟩ := infoP inf_bool
 have HZ2 := qH (And.intro hz2 (And.intro hs2 hy2))
 clear hy2
 go_enter Try.func18, Try.ntmps18
 go_wp2_with (first
  | ((with_reducible refine atDst 1 ?_); refine wpList_box rfl 28 _ rfl cs rfl (Below.refl w.heap.size w) (Nat.le_refl _) ?_; intro w1 hk1 hb1 hs1 _; have K1 := qH hk1; have B1 := qH hb1; clear hk1 hb1 hs1; (try simp only [Act.put, qA, qB, qC]))
  | ((with_reducible refine atDst 7 ?_); refine wpList_ldArr rfl 28 _ rfl w.heap.size rfl 28 _ _ K1.out Try.underlying28 rfl HDS.out ?_; (try simp only [Act.put, qA, qB, qC])))
 refine (refMay11_any D cs w1 (V0.out.below B1.out) HM.out).mono ?_
 rintro e w2 ⟨rfl, hb⟩
 have K2 := qH (K1.out.below hb K1.out.lt)
 have BW2 := qH (B1.out.trans (hb.mono B1.out.size))
 clear hb
 have c256 : w2.cell? ⟨w.heap.size, 256, none⟩ = some (.slice An n cn) := by rw [K2.out.cell 256, HCS.out]; exact dcl_n HL.out
 have C256 := qH c256
 have HT1 := qH (show w.heap.size < w2.heap.size from K2.out.lt)
 have HRN2 := qH (HRN.out.below BW2.out)
 have HR2 := qH (fun i r h => (HR.out i r h).below BW2.out)
 have HE2 := qH (HE.out.below BW2.out)
 have p0 : (0 : Int) < (n : Int) := Int.ofNat_lt.2 HNP.out
 obtain ⟨t0, ht0⟩ : ∃ t0 : Nat → Bool, t0 = fun q => D.ends[q]?.getD false := ⟨_, rfl⟩
 have HT0 := qH ht0
 have HEB := qH (show bools D.ends = bcs n t0 by rw [ht0]; exact bools_bcs HEN.out)
 clear hz2 hs2 ht0 c256
 go_wp2_with (first
  | ((with_reducible refine atDst 10 ?_); refine wpList_bld0 rfl 26 4 rfl i2 Try.underlying26 hi2 (.bool false) HZ2.out.1 HZ2.out.2.1 ?_; intro w3 ho hb; have O3 := qH ho; have B3 := qH hb; have c257 : w3.cell? ⟨w.heap.size, 257, none⟩ = some (.slice Ae n ce) := (by rw [(K2.out.below hb K2.out.lt).cell 257, HCS.out]; exact dcl_e HL.out); clear ho hb; (try simp only [Act.put, qA, qB, qC]))
  | ((with_reducible refine atDst 13 ?_); refine wpList_appR (w0 := w2) rfl (.tmp 10) (.tmp 12) 26 rfl 4 i2 (.bool false) 1 Try.underlying26 hi2 HZ2.out.1 HZ2.out.2.1 HZ2.out.2.2 rfl _ 0 [] rfl O3.out _ (bools D.ends) rfl (HE2.out.below B3.out) (bools_one _) (by rw [HEB.out, bcs_len, Nat.zero_add]; exact Nat.le_trans HNF.out (by decide)) (by decide) B3.out ?_; intro v4 w4 ho hr hb _; have O4 := qH (show w4.ownsRow w2.heap.size 4 1 v4 n (bcs n t0) by (rw [HEB.out, Nat.zero_add, bcs_len, List.nil_append] at ho; exact ho)); have B4 := qH hb; obtain ⟨g, cap, rfl, _⟩ := own_form O4.out (Nat.lt_of_lt_of_le Nat.zero_lt_one HNP.out); clear ho hr hb; (try simp only [Act.put, qA, qB, qC])))
 have HGE := qH (own6_lt O4.out g rfl).2
 go_loopw [4] (fun v wl => ∃ (ag : Bool) (t : Nat → Bool), v = .bool ag ∧ Pw D n ag t ∧ wl.ownsRow w2.heap.size 4 1 (.slice (some ⟨g, 0, none⟩) n cap) n (bcs n t) ∧ Below w2.heap.size w2 wl) (fun v wl => farW g n v wl)
 case atStart => exact ⟨true, _, rfl, pw_first HT0.out, O4.out, B4.out⟩
 clear O3 B3 O4 B4
 obtain ⟨ag, t, rfl, hp, ht, hb⟩ := hrel
 have PQ := qH hp
 have TQ := qH ht
 have BQ := qH hb
 clear hp ht hb
 obtain ⟨wp, hwp⟩ : ∃ v : World, v = wr := ⟨_, rfl⟩
 subst hwp
 cases ag with
 | false =>
  have BE := qH (BW2.out.trans (BQ.out.mono BW2.out.size))
  have RE := qH (show Row wp (.slice (some ⟨g, 0, none⟩) n cap) (bcs n (livB D)) by
   rw [← PQ.out.liv]
   exact Row.of_own TQ.out)
  go_wp2_with fail
  go_ret
  exact ⟨_, rfl, RE.out, BE.out⟩
 | true =>
  go_wp2_with fail
  go_loopw [4, 5] (fun v iv wl => ∃ (ag : Bool) (i : Nat) (u : Nat → Bool), i ≤ n ∧ v = .bool ag ∧ iv = .int .i64 (i : Int) ∧ Pv D n t ag i 0 u ∧ wl.ownsRow w2.heap.size 4 1 (.slice (some ⟨g, 0, none⟩) n cap) n (bcs n u) ∧ Below w2.heap.size w2 wl) (fun _ iv _ => n - (intOf iv).toNat)
  case atStart => exact ⟨false, 0, t, Nat.zero_le _, rfl, by simp, Pv.start PQ.out.seeds PQ.out.sound, TQ.out, BQ.out⟩
  obtain ⟨ag, i, u, hi, rfl, rfl, hp, ht, hb⟩ := hrel
  have PR := qH hp
  have TR := qH ht
  have BR := qH hb
  clear hp ht hb
  obtain ⟨wi, hwi⟩ : ∃ v : World, v = wr := ⟨_, rfl⟩
  subst hwi
  by_cases hin : i < n
  ·have x1 : (i : Int) < (n : Int) := Int.ofNat_lt.2 hin
   have HI := qH hin
   have HMI := qH (sub_next hin)
   have e3 := wrap_one i (lt_bigN HI.out HNF.out)
   have e4 := wrap_one' i (lt_bigN HI.out HNF.out)
   obtain ⟨r, hr⟩ : ∃ r, D.next[i]? = some r := ⟨_, List.getElem?_eq_getElem (by rw [← HN.out]; exact hin)⟩
   have HRM := qH (List.mem_of_getElem? hr)
   have HS := qH hr
   have HRL := qH (show r.length = k by rw [HM.out.rows r HRM.out, HK.out])
   have HRI2 := qH (HR2.out i r hr)
   obtain ⟨Ar, cr, hvr, _⟩ := HR2.out i r hr
   rw [nums_length, HRL.out] at hvr
   obtain ⟨bn, on, rfl, hbn, hcn⟩ := HRN2.out.at_ (by rw [List.length_map, List.length_range]; exact HNP.out)
   have HCI2 := qH (show w2.cell? ⟨bn, on + i, none⟩ = some (.slice Ar k cr) from hcn i _ (by simp [hin, hvr]))
   have HBN := qH hbn
   rw [hvr] at HRI2
   clear hi hin hr hbn hcn hvr
   go_wp2_with fail
   go_loopw [4, 6] (fun v kv wl => ∃ (ag : Bool) (j : Nat) (u : Nat → Bool), j ≤ k ∧ v = .bool ag ∧ kv = .int .i64 (j : Int) ∧ Pv D n t ag i j u ∧ wl.ownsRow w2.heap.size 4 1 (.slice (some ⟨g, 0, none⟩) n cap) n (bcs n u) ∧ Below w2.heap.size w2 wl) (fun _ kv _ => k - (intOf kv).toNat)
   case atStart => exact ⟨ag, 0, u, Nat.zero_le _, rfl, by simp, PR.out, TR.out, BR.out⟩
   clear PR TR BR
   obtain ⟨ag, j, u, hj, rfl, rfl, hp, ht, hb⟩ := hrel
   have PR := qH hp
   have TR := qH ht
   have BR := qH hb
   have c256 := (BR.out.cell (p := ⟨w.heap.size, 256, none⟩) HT1.out).trans C256.out
   have hci := (BR.out.cell (p := ⟨bn, on + i, none⟩) HBN.out).trans HCI2.out
   have RX := qH (HRI2.out.below hb)
   have hti := (own_cell TR.out (bcs_get u HI.out)).1
   clear hp ht hb
   by_cases hjk : j < k
   ·have y1 : (j : Int) < (k : Int) := Int.ofNat_lt.2 hjk
    have HJ := qH hjk
    have HMJ := qH (sub_next hjk)
    have f3 := wrap_one j (lt_k256 hjk HK2.out)
    have f4 := wrap_one' j (lt_k256 hjk HK2.out)
    obtain ⟨x, hx⟩ : ∃ x, r[j]? = some x := ⟨_, List.getElem?_eq_getElem (by rw [HRL.out]; exact hjk)⟩
    have HX := qH hx
    obtain ⟨x0, xn⟩ := HM.out.to r HRM.out x (List.mem_of_getElem? hx)
    obtain ⟨p, rfl⟩ : ∃ p : Nat, x = (p : Int) := ⟨x.toNat, by omega⟩
    have HP := qH (show p < n by have := HN.out; omega)
    have p1 : (p : Int) < (n : Int) := Int.ofNat_lt.2 HP.out
    obtain ⟨br, or, rfl, hbr, hcr⟩ := RX.out.at_ (by rw [nums_length, HRL.out]; exact Nat.lt_of_le_of_lt (Nat.zero_le _) hjk)
    have hcx : wr.cell? ⟨br, or + j, none⟩ = some (.int .i64 (p : Int)) := hcr j _ (by simp [nums, hx])
    obtain ⟨y, hy⟩ : ∃ y, u i = y := ⟨_, rfl⟩
    rw [hy] at hti
    have HYI := qH hy
    clear hj hjk hx hbr hcr hy x0 xn
    cases y with
    | false =>
     have htp := (own_cell TR.out (bcs_get u HP.out)).1
     obtain ⟨c, hc⟩ : ∃ c, u p = c := ⟨_, rfl⟩
     rw [hc] at htp
     have HCC := qH hc
     clear hc
     cases c with
     | true =>
      have hfz := (own_cell TR.out (bcs_get u HI.out)).2
      have TE := qH (show (wr.setCell ⟨g, i, none⟩ (.bool true)).ownsRow w2.heap.size 4 1 (.slice (some ⟨g, 0, none⟩) n cap) n (bcs n (updB u i true)) by
       have := own_set TR.out (j := i) (by rw [bcs_len]; exact HI.out) (.bool true)
       rw [bcs_set] at this
       exact this)
      have BE := qH (BR.out.setCell (p := ⟨g, i, none⟩) HGE.out (Value.bool true))
      have PE := qH (PR.out.mark HS.out HI.out HYI.out HX.out (Int.natCast_nonneg _) p1 (by rw [Int.toNat_natCast]; exact HCC.out))
      go_wp2_with fail
      exact ⟨⟨true, j + 1, _, HJ.out, rfl, by congr 1, PE.out, TE.out, BE.out⟩, by simpa [intOf] using HMJ.out⟩
     | false =>
      have PE := qH (PR.out.skip HS.out HX.out (by rw [Int.toNat_natCast]; exact HCC.out))
      go_wp2_with fail
      exact ⟨⟨ag, j + 1, _, HJ.out, rfl, by congr 1, PE.out, TR.out, BR.out⟩, by simpa [intOf] using HMJ.out⟩
    | true =>
     have PE := qH (PR.out.next HS.out (.inr HYI.out))
     go_wp2_with fail
     exact ⟨⟨ag, i + 1, _, HI.out, rfl, by congr 1, PE.out, TR.out, BR.out⟩, by simpa [intOf] using HMI.out⟩
   ·obtain rfl : j = k := by omega
    have y1 : ¬ ((j : Int) < (j : Int)) := Int.lt_irrefl _
    have PE := qH (PR.out.next HS.out (.inl HRL.out.symm))
    clear hj hjk
    go_wp2_with fail
    exact ⟨⟨ag, i + 1, _, HI.out, rfl, by congr 1, PE.out, TR.out, BR.out⟩, by simpa [intOf] using HMI.out⟩
  ·obtain rfl : i = n := by omega
   have x1 : ¬ ((i : Int) < (i : Int)) := Int.lt_irrefl _
   have PA := qH (show Pw D i ag u from PR.out.all HN.out HEN.out (by have := HM.out.to; rw [← HN.out] at this; exact this))
   have PF := qH (pv_far PR.out TQ.out TR.out)
   clear hi hin
   go_wp2_with fail
   exact ⟨⟨ag, _, rfl, PA.out, TR.out, BR.out⟩, PF.out⟩
end Go.Proofs.Ytaakdebcagdfgaa
