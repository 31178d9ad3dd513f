/-
  Texts of this proof, put together: SbA, InfI, RegG, RegT, ThB, SpB, ThC. No statement is proved here.
-/
import Derived.Test.YteadghoojeehlaaGreatDoorXL
import Derived.Test.YteadghoojeehlaaGreatDoorProg
import Derived.Test.YteadghoojeehlaaGreatDoorXA
import Derived.Test.YteadghoojeehlaaGreatDoorXI
import Derived.Test.YteadghoojeehlaaGreatDoorXK
import Derived.Test.YteadghoojeehlaaGreatDoorXJ
namespace Go.Proofs.YteadghoojeehlaaGreatDoor
set_option linter.unusedSimpArgs false
set_option linter.unusedVariables false
set_option linter.unusedSectionVars false
section
variable {α : Type} [DecidableEq α]
def extL : List α → List α → List α
 | L, [] => L
 | L, x :: xs => extL (if x ∈ L then L else L ++ [x]) xs
theorem extL_app : ∀ (xs : List α) (L ys : List α), extL L (xs ++ ys) = extL (extL L xs) ys
 | [], _, _ => rfl
 | x :: xs, L, ys => extL_app xs _ ys
theorem extL_in {L : List α} {x : α} (h : x ∈ L) : extL L [x] = L := by simp [extL, h]
theorem extL_new {L : List α} {x : α} (h : x ∉ L) : extL L [x] = L ++ [x] := by simp [extL, h]
theorem extL_take {L xs : List α} {j : Nat} {x : α} (h : xs[j]? = some x) : extL L (xs.take (j + 1)) = extL (extL L (xs.take j)) [x] := by
 obtain ⟨hj, rfl⟩ := List.getElem?_eq_some_iff.1 h
 rw [List.take_succ_eq_append_getElem hj, extL_app]
theorem extL_pre : ∀ (xs L : List α), ∃ M, extL L xs = L ++ M
 | [], L => ⟨[], by simp [extL]⟩
 | x :: xs, L => by
  obtain ⟨M, hM⟩ := extL_pre xs (if x ∈ L then L else L ++ [x])
  by_cases h : x ∈ L
  ·rw [if_pos h] at hM
   exact ⟨M, by simp only [extL]; rw [if_pos h]; exact hM⟩
  ·rw [if_neg h] at hM
   exact ⟨[x] ++ M, by simp only [extL]; rw [if_neg h, hM, List.append_assoc]⟩
theorem extL_mem {y : α} : ∀ (xs L : List α), y ∈ extL L xs ↔ y ∈ L ∨ y ∈ xs
 | [], L => by simp [extL]
 | x :: xs, L => by
  simp only [extL]
  rw [extL_mem xs]
  by_cases h : x ∈ L
  ·rw [if_pos h]
   constructor
   ·rintro (h1 | h1)
    ·exact .inl h1
    ·exact .inr (List.mem_cons_of_mem _ h1)
   ·rintro (h1 | h1)
    ·exact .inl h1
    ·rcases List.mem_cons.1 h1 with rfl | h1
     ·exact .inl h
     ·exact .inr h1
  ·rw [if_neg h, List.mem_append, List.mem_singleton, List.mem_cons]
   constructor
   ·rintro ((h1 | h1) | h1)
    ·exact .inl h1
    ·exact .inr (.inl h1)
    ·exact .inr (.inr h1)
   ·rintro (h1 | h1 | h1)
    ·exact .inl (.inl h1)
    ·exact .inl (.inr h1)
    ·exact .inr h1
theorem nodup_snoc {L : List α} {x : α} (h : L.Nodup) (hx : x ∉ L) : (L ++ [x]).Nodup :=
 List.nodup_append.2 ⟨h, by simp, fun a ha b hb hab => by
  obtain rfl := List.mem_singleton.1 hb
  exact hx (hab ▸ ha)⟩
theorem extL_nodup : ∀ (xs L : List α), L.Nodup → (extL L xs).Nodup
 | [], _, h => h
 | x :: xs, L, h => by
  simp only [extL]
  by_cases hx : x ∈ L
  ·rw [if_pos hx]
   exact extL_nodup xs L h
  ·rw [if_neg hx]
   exact extL_nodup xs _ (nodup_snoc h hx)
theorem extL_le (xs L : List α) : L.length ≤ (extL L xs).length := by
 obtain ⟨M, hM⟩ := extL_pre xs L
 rw [hM, List.length_append]
 omega
theorem extL_len : ∀ (xs L : List α), (extL L xs).length ≤ L.length + xs.length
 | [], L => by simp [extL]
 | x :: xs, L => by
  simp only [extL]
  by_cases hx : x ∈ L
  ·rw [if_pos hx]
   have := extL_len xs L
   simp only [List.length_cons]
   omega
  ·rw [if_neg hx]
   have := extL_len xs (L ++ [x])
   simp only [List.length_append, List.length_cons, List.length_nil] at this ⊢
   omega
theorem extL_take_le (xs L : List α) (j : Nat) : (extL L (xs.take j)).length ≤ (extL L xs).length := by
 have h := extL_app (xs.take j) L (xs.drop j)
 rw [List.take_append_drop] at h
 rw [h]
 exact extL_le _ _
/-! ### places -/
def ixOf (L : List α) (x : α) : Nat := L.idxOf x
theorem idx_lt {L : List α} {x : α} (h : x ∈ L) : ixOf L x < L.length := List.idxOf_lt_length_of_mem h
theorem idx_get {L : List α} {x : α} (h : x ∈ L) : L[ixOf L x]? = some x := by
 have h1 : List.idxOf x L < L.length := idx_lt h
 show L[List.idxOf x L]? = some x
 rw [List.getElem?_eq_getElem h1, List.getElem_idxOf h1]
theorem idx_app {L M : List α} {x : α} (h : x ∈ L) : ixOf (L ++ M) x = ixOf L x := by
 unfold ixOf
 rw [List.idxOf_append, if_pos h]
theorem idx_new {L : List α} {x : α} (h : x ∉ L) : ixOf (L ++ [x]) x = L.length := by
 unfold ixOf
 rw [List.idxOf_append, if_neg h, List.idxOf_cons_self, Nat.zero_add]
theorem idx_is {L : List α} {x : α} {i : Nat} (hn : L.Nodup) (h : L[i]? = some x) : ixOf L x = i := by
 obtain ⟨hi, rfl⟩ := List.getElem?_eq_some_iff.1 h
 exact hn.idxOf_getElem i hi
def rowI (L xs : List α) : List Int := xs.map fun x => (ixOf L x : Int)
theorem rowI_len (L xs : List α) : (rowI L xs).length = xs.length := by simp [rowI]
theorem rowI_app {L M xs : List α} (h : ∀ x ∈ xs, x ∈ L) : rowI (L ++ M) xs = rowI L xs := by
 unfold rowI
 refine List.map_congr_left fun x hx => ?_
 rw [idx_app (h x hx)]
/-! ### round by round -/
variable (f : α → List α) (x0 : α)
def Lq : Nat → List α
 | 0 => [x0]
 | r + 1 => match (Lq r)[r]? with
  | some x => extL (Lq r) (f x)
  | none => Lq r
variable {f x0}
theorem Lq_step {r : Nat} {x : α} (h : (Lq f x0 r)[r]? = some x) : Lq f x0 (r + 1) = extL (Lq f x0 r) (f x) := by
 simp only [Lq, h]
theorem Lq_stop {r : Nat} (h : (Lq f x0 r).length ≤ r) : Lq f x0 (r + 1) = Lq f x0 r := by
 have : (Lq f x0 r)[r]? = none := List.getElem?_eq_none h
 simp only [Lq, this]
theorem Lq_one (r : Nat) : ∃ M, Lq f x0 (r + 1) = Lq f x0 r ++ M := by
 rcases Nat.lt_or_ge r (Lq f x0 r).length with h | h
 ·rw [Lq_step (List.getElem?_eq_getElem h)]
  exact extL_pre _ _
 ·rw [Lq_stop h]
  exact ⟨[], by simp⟩
theorem Lq_mono {r s : Nat} (h : r ≤ s) : ∃ M, Lq f x0 s = Lq f x0 r ++ M := by
 obtain ⟨d, rfl⟩ := Nat.le.dest h
 clear h
 induction d with
 | zero => exact ⟨[], by simp⟩
 | succ d ih =>
  obtain ⟨M, hM⟩ := ih
  obtain ⟨N, hN⟩ := Lq_one (f := f) (x0 := x0) (r + d)
  exact ⟨M ++ N, by rw [show r + (d + 1) = r + d + 1 from rfl, hN, hM, List.append_assoc]⟩
theorem Lq_le {r s : Nat} (h : r ≤ s) : (Lq f x0 r).length ≤ (Lq f x0 s).length := by
 obtain ⟨M, hM⟩ := Lq_mono (f := f) (x0 := x0) h
 rw [hM, List.length_append]
 omega
theorem Lq_mem {r s : Nat} (h : r ≤ s) {x : α} (hx : x ∈ Lq f x0 r) : x ∈ Lq f x0 s := by
 obtain ⟨M, hM⟩ := Lq_mono (f := f) (x0 := x0) h
 rw [hM]
 exact List.mem_append_left _ hx
theorem Lq_get {r s i : Nat} (h : r ≤ s) {x : α} (hx : (Lq f x0 r)[i]? = some x) : (Lq f x0 s)[i]? = some x := by
 obtain ⟨M, hM⟩ := Lq_mono (f := f) (x0 := x0) h
 rw [hM, List.getElem?_append_left (List.getElem?_eq_some_iff.1 hx).1]
 exact hx
theorem Lq_nodup : ∀ r, (Lq f x0 r).Nodup
 | 0 => by simp [Lq]
 | r + 1 => by
  rcases Nat.lt_or_ge r (Lq f x0 r).length with h | h
  ·rw [Lq_step (List.getElem?_eq_getElem h)]
   exact extL_nodup _ _ (Lq_nodup r)
  ·rw [Lq_stop h]
   exact Lq_nodup r
theorem Lq_pos (r : Nat) : 0 < (Lq f x0 r).length := by
 have := Lq_le (f := f) (x0 := x0) (Nat.zero_le r)
 simp only [Lq, List.length_cons, List.length_nil] at this
 omega
theorem Lq_all {p : α → Prop} (h0 : p x0) (hf : ∀ x, p x → ∀ y ∈ f x, p y) : ∀ r, ∀ x ∈ Lq f x0 r, p x
 | 0, x, hx => by
  obtain rfl := List.mem_singleton.1 hx
  exact h0
 | r + 1, x, hx => by
  rcases Nat.lt_or_ge r (Lq f x0 r).length with h | h
  ·rw [Lq_step (List.getElem?_eq_getElem h)] at hx
   rcases (extL_mem _ _).1 hx with h1 | h1
   ·exact Lq_all h0 hf r x h1
   ·exact hf _ (Lq_all h0 hf r _ (List.getElem_mem h)) x h1
  ·rw [Lq_stop h] at hx
   exact Lq_all h0 hf r x hx
theorem Lq_closed {r i : Nat} {x : α} (hi : i < r) (hx : (Lq f x0 i)[i]? = some x) : ∀ y ∈ f x, y ∈ Lq f x0 r := fun y hy => by
 refine Lq_mem (r := i + 1) hi ?_
 rw [Lq_step hx]
 exact (extL_mem _ _).2 (.inr hy)
def Fit (f : α → List α) (x0 : α) (n : Nat) : Prop := (Lq f x0 n).length = n
theorem fit_after {n r : Nat} (h : Fit f x0 n) (hr : n ≤ r) : Lq f x0 r = Lq f x0 n := by
 obtain ⟨d, rfl⟩ := Nat.le.dest hr
 clear hr
 induction d with
 | zero => rfl
 | succ d ih =>
  rw [show n + (d + 1) = n + d + 1 from rfl, Lq_stop, ih]
  rw [ih]
  unfold Fit at h
  omega
theorem fit_most {n : Nat} (h : Fit f x0 n) (r : Nat) : (Lq f x0 r).length ≤ n := by
 rcases Nat.le_total r n with h1 | h1
 ·have := Lq_le (f := f) (x0 := x0) h1
  unfold Fit at h
  omega
 ·rw [fit_after h h1]
  exact Nat.le_of_eq h
theorem fit_one {m n : Nat} (h : Fit f x0 m) (k : Fit f x0 n) : m = n := by
 have h1 := fit_most h n
 have h2 := fit_most k m
 unfold Fit at h k
 omega
def rowsI (f : α → List α) (L : List α) (m : Nat) : List (List Int) := (L.take m).map fun x => rowI L (f x)
theorem rowsI_len {L : List α} {m : Nat} (h : m ≤ L.length) : (rowsI f L m).length = m := by simp [rowsI]; omega
theorem rowsI_next {r : Nat} {x : α} (hx : (Lq f x0 r)[r]? = some x) : rowsI f (Lq f x0 (r + 1)) (r + 1) = rowsI f (Lq f x0 r) r ++ [rowI (Lq f x0 (r + 1)) (f x)] := by
 obtain ⟨M, hM⟩ := Lq_one (f := f) (x0 := x0) r
 obtain ⟨hr, hxe⟩ := List.getElem?_eq_some_iff.1 hx
 have h1 : (Lq f x0 (r + 1)).take (r + 1) = (Lq f x0 r).take r ++ [x] := by
  rw [hM, List.take_append_of_le_length (by omega), List.take_succ_eq_append_getElem hr, hxe]
 unfold rowsI
 rw [h1, List.map_append, List.map_cons, List.map_nil]
 congr 1
 refine List.map_congr_left fun y hy => ?_
 rw [hM]
 refine rowI_app fun z hz => ?_
 obtain ⟨i, hi, hiy⟩ := List.getElem_of_mem hy
 rw [List.length_take] at hi
 have hir : i < r := by omega
 rw [List.getElem_take] at hiy
 have hil : i < (Lq f x0 i).length := by
  refine Nat.lt_of_not_le fun hle => ?_
  have key : ∀ d, Lq f x0 (i + d) = Lq f x0 i := by
   intro d
   induction d with
   | zero => rfl
   | succ d ih => rw [show i + (d + 1) = i + d + 1 from rfl, Lq_stop (by rw [ih]; omega), ih]
  have e := key (r - i)
  rw [show i + (r - i) = r from by omega] at e
  rw [e] at hr
  omega
 have e1 : (Lq f x0 i)[i]? = some (Lq f x0 i)[i] := List.getElem?_eq_getElem hil
 have e2 := Lq_get (Nat.le_of_lt hir) e1
 rw [List.getElem?_eq_getElem (by omega), hiy] at e2
 injection e2 with e2
 rw [← e2] at e1
 exact Lq_closed hir e1 z hz
def endsI (p : α → Bool) (L : List α) (m : Nat) : List Bool := (L.take m).map p
theorem endsI_len {p : α → Bool} {L : List α} {m : Nat} (h : m ≤ L.length) : (endsI p L m).length = m := by simp [endsI]; omega
theorem endsI_next {p : α → Bool} {r : Nat} {x : α} (hx : (Lq f x0 r)[r]? = some x) : endsI p (Lq f x0 (r + 1)) (r + 1) = endsI p (Lq f x0 r) r ++ [p x] := by
 obtain ⟨M, hM⟩ := Lq_one (f := f) (x0 := x0) r
 obtain ⟨hr, hxe⟩ := List.getElem?_eq_some_iff.1 hx
 have h1 : (Lq f x0 (r + 1)).take (r + 1) = (Lq f x0 r).take r ++ [x] := by
  rw [hM, List.take_append_of_le_length (by omega), List.take_succ_eq_append_getElem hr, hxe]
 unfold endsI
 rw [h1, List.map_append, List.map_cons, List.map_nil]
theorem Lq_turn {r : Nat} (h : ∀ i, i < r → i < (Lq f x0 i).length) : r ≤ (Lq f x0 r).length := by
 cases r with
 | zero => exact Nat.zero_le _
 | succ r =>
  have h1 := h r (Nat.lt_succ_self r)
  have h2 := Lq_le (f := f) (x0 := x0) (Nat.le_succ r)
  exact Nat.le_trans h1 h2
end
open Go.RowKit
theorem inf_int : (Tryz.prog.info? 3).map (fun i => (i.zero, i.size, i.bytes)) = some (some (.int .i64 0), 1, 8) := by kernel_rfl
section
variable {P : Program} {ops : Array Oper} {Q : Exit → Act → World → Prop} {md : Region.Mode} {S : World → Prop}
theorem sg_take {i : Nat} {oi : Oper} {v : Value} {fuel : Nat} {listed : Array Bool} {a : Act} {w : World} (hi : ops[i]? = some oi)
  (hs : Region.noSelect ops = true) (hf : Region.free md ops listed i = true) (hr : (Region.ready md ops listed).contains i = true)
  (hQ : ∀ c a w, Q (.panic c) (a.put oi.dst v) w → Q (.panic c) a w) (hw : Region.wanted oi (yielded ops a.tmps) = true) (hS : S w)
  (hy : ∀ W, S W → (execOp a.eval oi).run P W = .ok (.value v) W)
  (h : wpAnyH P md ops Q S fuel (listed.setIfInBounds i true) (a.put oi.dst v) w) : wpAnyH P md ops Q S (fuel + 1) listed a w :=
 wpAnyH_take hi hs hf hr hQ (.inl ⟨hw, hy⟩) hS h
theorem sg_actB {i : Nat} {o : Oper} {fuel : Nat} {listed : Array Bool} {a : Act} {w : World} (hi : ops[i]? = some o) (hr : Region.ready md ops listed = [i])
  (hw : Region.wanted o (yielded ops a.tmps) = true) (hS : S w)
  (h : ∀ K : Act → World → Prop, (∀ a' w', S w' → wpAnyH P md ops Q S fuel (listed.setIfInBounds i true) a' w' → K a' w') → o.wp P a w K Q) :
  wpAnyH P md ops Q S (fuel + 1) listed a w := by
 refine wpAnyH_all hr (by simp) (fun j hj => ?_)
 have hji : j = i := by simpa using hj
 subst hji
 unfold wpOp
 rw [hi]
 simp only [hw, if_true]
 exact .inl (h _ fun a' w' hx hk => ⟨hx, hk⟩)
theorem sg_start {id : Nat} {a : Act} {w : World} (S : World → Prop) (hm : P.follows .mixedOrders = true) (hS : S w.drew)
  (h : ∀ wd, wd = w.drew → wpAnyH P .any ops Q S ops.size (Array.replicate ops.size false) a wd) : (Code.region id ops true).wp P Q a w :=
 wp_region_held_drew hm hS (fun _ => h _ rfl)
end
section
variable {P : Program} {ops : Array Oper} {Q : Exit → Act → World → Prop} {md : Region.Mode} {S : World → Prop}
theorem sg_two {i j : Nat} {oi oj : Oper} {fuel : Nat} {listed : Array Bool} {a : Act} {w : World} (hi : ops[i]? = some oi) (hj : ops[j]? = some oj) (hr : Region.ready md ops listed = [i, j])
  (hwi : Region.wanted oi (yielded ops a.tmps) = true) (hwj : Region.wanted oj (yielded ops a.tmps) = true) (hS : S w)
  (h1 : ∀ K : Act → World → Prop, (∀ a' w', S w' → wpAnyH P md ops Q S fuel (listed.setIfInBounds i true) a' w' → K a' w') → oi.wp P a w K Q)
  (h2 : ∀ K : Act → World → Prop, (∀ a' w', S w' → wpAnyH P md ops Q S fuel (listed.setIfInBounds j true) a' w' → K a' w') → oj.wp P a w K Q) :
  wpAnyH P md ops Q S (fuel + 1) listed a w := by
 refine wpAnyH_all hr (by simp) (fun k hk => ?_)
 have hk2 : k = i ∨ k = j := by simpa using hk
 unfold wpOp
 rcases hk2 with rfl | rfl
 ·rw [hi]
  simp only [hwi, if_true]
  exact .inl (h1 _ fun a' w' hx hk => ⟨hx, hk⟩)
 ·rw [hj]
  simp only [hwj, if_true]
  exact .inl (h2 _ fun a' w' hx hk => ⟨hx, hk⟩)
end
def stc (s : St) (v : Value) : List Value := wds s.set ++ [.int .i64 s.to, v]
theorem stc_len (s : St) (v : Value) : (stc s v).length = 6 := rfl
theorem stc_one (s : St) (A : Option Addr) (n c : Nat) : (stc s (.slice A n c)).all (·.oneCell') = true := rfl
def NfaV (w : World) (cs : List Value) (S : List St) (a z : Int) : Prop :=
 ∃ (A : Option Addr) (cap : Nat) (vf : Nat → Value), cs = [.slice A S.length cap, .int .i64 a, .int .i64 z] ∧ S.length ≤ cap ∧ cap ≤ maxLen ∧ (A = none → cap = 0) ∧
  (S ≠ [] → ∃ b off, A = some ⟨b, off, none⟩ ∧ b < w.heap.size ∧ ∀ i s, S[i]? = some s → w.rangeAt b (off + i * 6) (stc s (vf i))) ∧
  ∀ i s, S[i]? = some s → Row w (vf i) (ints s.free)
theorem NfaV.length {w : World} {cs : List Value} {S : List St} {a z : Int} (h : NfaV w cs S a z) : cs.length = 3 := by
 obtain ⟨_, _, _, rfl, _⟩ := h
 rfl
theorem NfaV.one {w : World} {cs : List Value} {S : List St} {a z : Int} (h : NfaV w cs S a z) : cs.all (·.oneCell') = true := by
 obtain ⟨_, _, _, rfl, _⟩ := h
 rfl
theorem NfaV.below {w w' : World} {cs : List Value} {S : List St} {a z : Int} (h : NfaV w cs S a z) (hb : Below w.heap.size w w') : NfaV w' cs S a z := by
 obtain ⟨A, cap, vf, h1, h2, h3, h0, h4, h5⟩ := h
 refine ⟨A, cap, vf, h1, h2, h3, h0, fun hne => ?_, fun i s hs => (h5 i s hs).below hb⟩
 obtain ⟨b, off, hA, hlt, hr⟩ := h4 hne
 exact ⟨b, off, hA, Nat.lt_of_lt_of_le hlt hb.size, fun i s hs => range_below (hr i s hs) hb hlt⟩
theorem NfaV.at_ {w : World} {A : Option Addr} {cap n : Nat} {a z : Int} {S : List St} (h : NfaV w [.slice A n cap, .int .i64 a, .int .i64 z] S a z) {i : Nat} {s : St} (hs : S[i]? = some s) :
  ∃ b off, A = some ⟨b, off, none⟩ ∧ b < w.heap.size ∧ w.rangeAt b (off + i * 6) (wds s.set) ∧ w.cell? ⟨b, off + i * 6 + 4, none⟩ = some (.int .i64 s.to) ∧
   ∃ Af cf, w.cell? ⟨b, off + i * 6 + 5, none⟩ = some (.slice Af s.free.length cf) ∧ Row w (.slice Af s.free.length cf) (ints s.free) := by
 obtain ⟨A', cap', vf, he, h2, h3, h0, h4, h5⟩ := h
 injection he with he _
 injection he with hA hn hc
 subst hA
 obtain ⟨b, off, rfl, hlt, hr⟩ := h4 (by rintro rfl; simp at hs)
 have h6 := hr i s hs
 have h7 := h5 i s hs
 refine ⟨b, off, rfl, hlt, fun j v hv => ?_, h6 4 _ rfl, ?_⟩
 ·have hj : j < 4 := by have := (List.getElem?_eq_some_iff.1 hv).1; rwa [wds_length] at this
  refine h6 j v ?_
  unfold stc
  rw [List.getElem?_append_left (by rw [wds_length]; exact hj)]
  exact hv
 ·obtain ⟨Af, cf, hvf, _⟩ := h7
  have hl : (ints s.free).length = s.free.length := nums_length _ _
  rw [hl] at hvf
  exact ⟨Af, cf, by rw [← hvf]; exact h6 5 _ rfl, by rw [← hvf]; exact h5 i s hs⟩
theorem NfaV.whole {w : World} {A : Option Addr} {cap n : Nat} {a z : Int} {S : List St} (h : NfaV w [.slice A n cap, .int .i64 a, .int .i64 z] S a z) {i : Nat} {s : St} (hs : S[i]? = some s) :
  ∃ b off Af cf, A = some ⟨b, off, none⟩ ∧ b < w.heap.size ∧ w.rangeAt b (off + i * 6) (stc s (.slice Af s.free.length cf)) ∧ Row w (.slice Af s.free.length cf) (ints s.free) := by
 obtain ⟨A', cap', vf, he, h2, h3, h0, h4, h5⟩ := h
 injection he with he _
 injection he with hA hn hc
 subst hA
 obtain ⟨b, off, rfl, hlt, hr⟩ := h4 (by rintro rfl; simp at hs)
 obtain ⟨Af, cf, hvf, _⟩ := h5 i s hs
 have hl : (ints s.free).length = s.free.length := nums_length _ _
 rw [hl] at hvf
 exact ⟨b, off, Af, cf, rfl, hlt, by rw [← hvf]; exact hr i s hs, by rw [← hvf]; exact h5 i s hs⟩
theorem NfaV.len {w : World} {cs : List Value} {S : List St} {a z : Int} (h : NfaV w cs S a z) : ∃ A cap, cs = [.slice A S.length cap, .int .i64 a, .int .i64 z] ∧ S.length ≤ cap ∧ cap ≤ maxLen ∧ (A = none → cap = 0) := by
 obtain ⟨A, cap, _, h1, h2, h3, h0, _⟩ := h
 exact ⟨A, cap, h1, h2, h3, h0⟩
def bcs (n : Nat) (f : Nat → Bool) : List Value := (List.range n).map fun q => .bool (f q)
theorem bcs_len (n : Nat) (f : Nat → Bool) : (bcs n f).length = n := by simp [bcs]
theorem bcs_get {n q : Nat} (f : Nat → Bool) (h : q < n) : (bcs n f)[q]? = some (.bool (f q)) := by simp [bcs, h]
theorem bcs_congr {n : Nat} {f g : Nat → Bool} (h : ∀ q, q < n → f q = g q) : bcs n f = bcs n g := by
 unfold bcs
 exact List.map_congr_left fun q hq => by rw [h q (List.mem_range.1 hq)]
theorem bcs_no (n : Nat) : List.replicate n (Value.bool false) = bcs n fun _ => false := by
 apply List.ext_getElem?
 intro q
 by_cases h : q < n
 ·rw [bcs_get _ h]; simp [h]
 ·rw [List.getElem?_eq_none (by simp; omega), List.getElem?_eq_none (by rw [bcs_len]; omega)]
def updB (f : Nat → Bool) (q : Nat) (b : Bool) : Nat → Bool := fun i => if i = q then b else f i
theorem bcs_set (n q : Nat) (f : Nat → Bool) (b : Bool) : (bcs n f).set q (.bool b) = bcs n (updB f q b) := by
 apply List.ext_getElem?
 intro i
 by_cases h : i < n
 ·rw [bcs_get _ h]
  unfold updB
  by_cases hi : i = q
  ·subst hi
   rw [List.getElem?_set_self (by rw [bcs_len]; exact h), if_pos rfl]
  ·rw [List.getElem?_set_ne (by omega), bcs_get _ h, if_neg hi]
 ·rw [List.getElem?_eq_none (by rw [List.length_set, bcs_len]; omega), List.getElem?_eq_none (by rw [bcs_len]; omega)]
def tops (n m : Nat) (bs : Nat → Nat) : List Value := (List.range n).map fun p => if p < m then .slice (some ⟨bs p, 0, none⟩) n n else .slice none 0 0
theorem tops_len (n m : Nat) (bs : Nat → Nat) : (tops n m bs).length = n := by simp [tops]
theorem tops_get {n m p : Nat} (bs : Nat → Nat) (h : p < n) : (tops n m bs)[p]? = some (if p < m then .slice (some ⟨bs p, 0, none⟩) n n else .slice none 0 0) := by simp [tops, h]
theorem tops_no (n : Nat) (bs : Nat → Nat) : List.replicate n (Value.slice none 0 0) = tops n 0 bs := by
 apply List.ext_getElem?
 intro q
 by_cases h : q < n
 ·rw [tops_get _ h]; simp [h]
 ·rw [List.getElem?_eq_none (by simp; omega), List.getElem?_eq_none (by rw [tops_len]; omega)]
def updN (bs : Nat → Nat) (m b : Nat) : Nat → Nat := fun i => if i = m then b else bs i
theorem tops_set (n m : Nat) (bs : Nat → Nat) (b : Nat) : (tops n m bs).set m (.slice (some ⟨b, 0, none⟩) n n) = tops n (m + 1) (updN bs m b) := by
 apply List.ext_getElem?
 intro i
 by_cases h : i < n
 ·rw [tops_get _ h]
  unfold updN
  by_cases hi : i = m
  ·subst hi
   rw [List.getElem?_set_self (by rw [tops_len]; exact h), if_pos (by omega), if_pos rfl]
  ·rw [List.getElem?_set_ne (by omega), tops_get _ h, if_neg hi]
   by_cases h2 : i < m
   ·rw [if_pos h2, if_pos (by omega)]
   ·rw [if_neg h2, if_neg (by omega)]
 ·rw [List.getElem?_eq_none (by rw [List.length_set, tops_len]; omega), List.getElem?_eq_none (by rw [tops_len]; omega)]
structure Tbl (w : World) (B g : Nat) (bs : Nat → Nat) (n m : Nat) (f : Nat → Nat → Bool) : Prop where
 top : Blk w g 29 (tops n m bs)
 row : ∀ p, p < m → Blk w (bs p) 4 (bcs n (f p))
 base : B ≤ g
 bbase : ∀ p, p < m → B ≤ bs p
 ne : ∀ p, p < m → bs p ≠ g
 inj : ∀ p q, p < m → q < m → bs p = bs q → p = q
def upd2 (f : Nat → Nat → Bool) (p q : Nat) (b : Bool) : Nat → Nat → Bool := fun i j => if i = p then updB (f p) q b j else f i j
section
variable {w w' : World} {B g n m p q : Nat} {bs : Nat → Nat} {f f' : Nat → Nat → Bool}
theorem Tbl.stay (h : Tbl w B g bs n m f) (hg : w'.heap[g]? = w.heap[g]?) (hb : ∀ p, p < m → w'.heap[bs p]? = w.heap[bs p]?) : Tbl w' B g bs n m f :=
 ⟨hg.trans h.top, fun p hp => (hb p hp).trans (h.row p hp), h.base, h.bbase, h.ne, h.inj⟩
theorem Tbl.below (h : Tbl w B g bs n m f) (hb : Below w.heap.size w w') : Tbl w' B g bs n m f :=
 h.stay (hb.block _ h.top.lt) fun p hp => hb.block _ (h.row p hp).lt
theorem Tbl.drew (h : Tbl w B g bs n m f) : Tbl w.drew B g bs n m f := ⟨h.top, h.row, h.base, h.bbase, h.ne, h.inj⟩
theorem Tbl.congr (h : Tbl w B g bs n m f) (he : ∀ p q, p < m → q < n → f p q = f' p q) : Tbl w B g bs n m f' :=
 ⟨h.top, fun p hp => by rw [← bcs_congr (fun q hq => he p q hp hq)]; exact h.row p hp, h.base, h.bbase, h.ne, h.inj⟩
theorem Tbl.mono {B' : Nat} (h : Tbl w B g bs n m f) (hB : B' ≤ B) : Tbl w B' g bs n m f :=
 ⟨h.top, h.row, Nat.le_trans hB h.base, fun p hp => Nat.le_trans hB (h.bbase p hp), h.ne, h.inj⟩
theorem Tbl.at_ (h : Tbl w B g bs n m f) (hp : p < n) (hm : p < m) : w.cell? ⟨g, p, none⟩ = some (.slice (some ⟨bs p, 0, none⟩) n n) := by
 rw [h.top.cell, tops_get _ hp, if_pos hm]
theorem Tbl.cell (h : Tbl w B g bs n m f) (hp : p < m) (hq : q < n) : w.cell? ⟨bs p, q, none⟩ = some (.bool (f p q)) := by
 rw [(h.row p hp).cell, bcs_get _ hq]
theorem Tbl.put (h : Tbl w B g bs n m f) (hp : p < m) (q : Nat) (b : Bool) : Tbl (w.setCell ⟨bs p, q, none⟩ (.bool b)) B g bs n m (upd2 f p q b) := by
 refine ⟨h.top.far (p := ⟨bs p, q, none⟩) (h.ne p hp).symm _, fun i hi => ?_, h.base, h.bbase, h.ne, h.inj⟩
 by_cases hip : i = p
 ·subst hip
  have := (h.row i hi).set q (.bool b)
  rw [bcs_set] at this
  have e : upd2 f i q b i = updB (f i) q b := by funext j; unfold upd2; rw [if_pos rfl]
  rw [e]
  exact this
 ·have e : upd2 f p q b i = f i := by funext j; unfold upd2; rw [if_neg hip]
  rw [e]
  exact (h.row i hi).far (p := ⟨bs p, q, none⟩) (fun he => hip (h.inj i p hi hp he)) _
theorem Tbl.new (h : Blk w g 29 (List.replicate n (.slice none 0 0))) (hB : B ≤ g) (bs : Nat → Nat) (f : Nat → Nat → Bool) : Tbl w B g bs n 0 f :=
 ⟨by rw [tops_no n bs] at h; exact h, fun p hp => absurd hp (Nat.not_lt_zero p), hB, fun p hp => absurd hp (Nat.not_lt_zero p), fun p hp => absurd hp (Nat.not_lt_zero p), fun p q hp => absurd hp (Nat.not_lt_zero p)⟩
theorem Tbl.more (h : Tbl w B g bs n m f) (hb : Below w.heap.size w w') (hk : Blk w' w.heap.size 4 (List.replicate n (.bool false))) (hf : ∀ q, f m q = false) :
  Tbl (w'.setCell ⟨g, m, none⟩ (.slice (some ⟨w.heap.size, 0, none⟩) n n)) B g (updN bs m w.heap.size) n (m + 1) f := by
 have hlt : ∀ p, p < m → bs p < w.heap.size := fun p hp => (h.row p hp).lt
 have hg : g < w.heap.size := h.top.lt
 have hu : ∀ p, p < m → updN bs m w.heap.size p = bs p := fun p hp => by unfold updN; rw [if_neg (by omega)]
 have hum : updN bs m w.heap.size m = w.heap.size := by unfold updN; rw [if_pos rfl]
 have hcase : ∀ p, p < m + 1 → p < m ∨ p = m := fun p hp => by omega
 have h1 := h.below hb
 refine ⟨?_, fun p hp => ?_, h.base, fun p hp => ?_, fun p hp => ?_, fun p q hp hq he => ?_⟩
 ·have := h1.top.set m (.slice (some ⟨w.heap.size, 0, none⟩) n n)
  rw [tops_set] at this
  exact this
 ·rcases hcase p hp with hp | rfl
  ·rw [hu p hp]
   exact (h1.row p hp).far (p := ⟨g, m, none⟩) (h.ne p hp) _
  ·rw [hum, bcs_congr (g := fun _ => false) fun q _ => hf q, ← bcs_no]
   exact hk.far (p := ⟨g, p, none⟩) (by show w.heap.size ≠ g; omega) _
 ·rcases hcase p hp with hp | rfl
  ·rw [hu p hp]; exact h.bbase p hp
  ·rw [hum]; exact Nat.le_trans h.base (Nat.le_of_lt hg)
 ·rcases hcase p hp with hp | rfl
  ·rw [hu p hp]; exact h.ne p hp
  ·rw [hum]; omega
 ·rcases hcase p hp with hp | rfl <;> rcases hcase q hq with hq | rfl
  ·rw [hu p hp, hu q hq] at he; exact h.inj p q hp hq he
  ·rw [hu p hp, hum] at he; have := hlt p hp; omega
  ·rw [hu q hq, hum] at he; have := hlt q hq; omega
  ·rfl
theorem Tbl.frozen (h : Tbl w B g bs n m f) (hp : p < m) (q : Nat) : w.frozen? ⟨bs p, q, none⟩ = false := (h.row p hp).frozen q
theorem Tbl.apart {B2 g2 n2 m2 : Nat} {bs2 : Nat → Nat} {f2 : Nat → Nat → Bool} (h : Tbl w B g bs n m f) (h2 : Tbl w B2 g2 bs2 n2 m2 f2) (hp : p < m) (hn : bs p < B2) (q : Nat) (b : Bool) : Tbl (w.setCell ⟨bs p, q, none⟩ (.bool b)) B2 g2 bs2 n2 m2 f2 :=
 ⟨h2.top.far (p := ⟨bs p, q, none⟩) (by have := h2.base; show g2 ≠ bs p; omega) _, fun i hi => (h2.row i hi).far (p := ⟨bs p, q, none⟩) (by have := h2.bbase i hi; show bs2 i ≠ bs p; omega) _, h2.base, h2.bbase, h2.ne, h2.inj⟩
end
/-! ### single cells in regions that draw -/
theorem inf_bool : (Tryz.prog.info? 4).map (fun i => (i.zero, i.size, i.bytes)) = some (some (.bool false), 1, 1) := by kernel_rfl
def sdJ (l : List Int) (j i : Nat) : Bool := (l.take j).any fun x => decide (x = (i : Int))
theorem sdJ_zero (l : List Int) : sdJ l 0 = fun _ => false := by funext i; simp [sdJ]
theorem sdJ_succ {l : List Int} {j : Nat} {x : Int} (h : l[j]? = some x) (i : Nat) : sdJ l (j + 1) i = (sdJ l j i || decide (x = (i : Int))) := by
 obtain ⟨hj, rfl⟩ := List.getElem?_eq_some_iff.1 h
 unfold sdJ
 rw [List.take_succ_eq_append_getElem hj, List.any_append]
 simp
theorem sdJ_in {l : List Int} {j : Nat} {x : Int} (h : l[j]? = some x) (h0 : 0 ≤ x) : updB (sdJ l j) x.toNat true = sdJ l (j + 1) := by
 funext i
 rw [sdJ_succ h]
 unfold updB
 by_cases hi : i = x.toNat
 ·rw [if_pos hi, decide_eq_true (by omega)]; simp
 ·rw [if_neg hi, decide_eq_false (by omega)]; simp
theorem sdJ_out {l : List Int} {j k i : Nat} {x : Int} (h : l[j]? = some x) (hx : ¬ (0 ≤ x ∧ x < (k : Int))) (hi : i < k) : sdJ l (j + 1) i = sdJ l j i := by
 rw [sdJ_succ h, decide_eq_false (by omega)]
 simp
theorem sdJ_all {l : List Int} {i : Nat} : sdJ l l.length i = true ↔ ofL l i := by
 unfold sdJ ofL
 rw [List.take_length, List.any_eq_true]
 constructor
 ·rintro ⟨x, hx, h⟩
  have : x = (i : Int) := by simpa using h
  rwa [← this]
 ·intro h; exact ⟨_, h, by simp⟩
structure Ps (S : List St) (P : Nat → Prop) (t0 : Nat → Bool) (ag : Bool) (i kk : Nat) (t : Nat → Bool) : Prop where
 seeds : ∀ q, q < S.length → P q → t q = true
 sound : ∀ q, q < S.length → t q = true → Rc S P q
 more : ∀ q, t0 q = true → t q = true
 still : ag = false → ∀ q, q < S.length → t q = t0 q
 new : ag = true → ∃ q, q < S.length ∧ t0 q = false ∧ t q = true
 done : ag = false → ∀ i' s, i' < i → S[i']? = some s → t i' = true → ∀ f ∈ s.free, t f.toNat = true
 part : ag = false → ∀ s, S[i]? = some s → t i = true → ∀ m f, m < kk → s.free[m]? = some f → t f.toNat = true
section
variable {S : List St} {P : Nat → Prop} {t0 t : Nat → Bool} {ag : Bool} {i kk : Nat}
theorem Ps.start (h1 : ∀ q, q < S.length → P q → t q = true) (h2 : ∀ q, q < S.length → t q = true → Rc S P q) : Ps S P t false 0 0 t :=
 ⟨h1, h2, fun _ h => h, fun _ _ _ => rfl, fun h => (by cases h), fun _ i' s h => absurd h (Nat.not_lt_zero i'), fun _ s _ _ m f h => absurd h (Nat.not_lt_zero m)⟩
theorem Ps.mark (h : Ps S P t0 ag i kk t) {s : St} (hs : S[i]? = some s) (ht : t i = true) {f : Int} (hf : s.free[kk]? = some f) (h0 : 0 ≤ f) (h1 : f < (S.length : Int)) : Ps S P t0 (ag || !t f.toNat) i (kk + 1) (updB t f.toNat true) := by
 have hi : i < S.length := (List.getElem?_eq_some_iff.1 hs).1
 have hfm : f ∈ s.free := List.mem_of_getElem? hf
 have hfn : f.toNat < S.length := by omega
 have hup : ∀ q, t q = true → updB t f.toNat true q = true := fun q hq => by unfold updB; split; rfl; exact hq
 by_cases hft : t f.toNat = true
 ·have e : updB t f.toNat true = t := by
   funext q
   unfold updB
   split
   ·next h => rw [h, hft]
   ·rfl
  rw [e, hft]
  simp only [Bool.not_true, Bool.or_false]
  refine ⟨h.seeds, h.sound, h.more, h.still, h.new, h.done, fun ha s' hs' ht' m f' hm hf' => ?_⟩
  rw [hs] at hs'
  injection hs' with hs'
  subst hs'
  rcases Nat.lt_or_ge m kk with hlt | hge
  ·exact h.part ha s hs ht' m f' hlt hf'
  ·obtain rfl : m = kk := by omega
   rw [hf] at hf'
   injection hf' with hf'
   rw [← hf']
   exact hft
 ·have hft' : t f.toNat = false := by simpa using hft
  rw [hft']
  simp only [Bool.not_false, Bool.or_true]
  refine ⟨fun q hq hp => hup q (h.seeds q hq hp), fun q hq hu => ?_, fun q hq => hup q (h.more q hq), fun h => (by cases h), fun _ => ⟨f.toNat, hfn, ?_, (by unfold updB; rw [if_pos rfl])⟩, fun h => (by cases h), fun h => (by cases h)⟩
  ·unfold updB at hu
   by_cases hqf : q = f.toNat
   ·rw [hqf]
    exact .go (h.sound i hi ht) hs (by rwa [Int.toNat_of_nonneg h0]) hfn
   ·rw [if_neg hqf] at hu
    exact h.sound q hq hu
  ·cases h0 : t0 f.toNat with
   | false => rfl
   | true => exact absurd (h.more _ h0) hft
theorem Ps.next (h : Ps S P t0 ag i kk t) {s : St} (hs : S[i]? = some s) (hk : kk = s.free.length ∨ t i = false) : Ps S P t0 ag (i + 1) 0 t := by
 refine ⟨h.seeds, h.sound, h.more, h.still, h.new, fun ha i' s' hi hs' ht' f hf => ?_, fun _ s _ _ m f h => absurd h (Nat.not_lt_zero m)⟩
 rcases Nat.lt_or_ge i' i with hlt | hge
 ·exact h.done ha i' s' hlt hs' ht' f hf
 ·obtain rfl : i' = i := by omega
  rw [hs] at hs'
  injection hs' with hs'
  subst hs'
  rcases hk with hk | hk
  ·obtain ⟨m, hm, hmf⟩ := List.getElem_of_mem hf
   exact h.part ha s hs ht' m f (by omega) (by rw [List.getElem?_eq_getElem hm, hmf])
  ·rw [ht'] at hk; cases hk
theorem Ps.end_ (h : Ps S P t0 false S.length kk t) {q : Nat} (hq : q < S.length) : t q = true ↔ Rc S P q :=
 rc_is h.seeds (fun i s hs ht j hj => by
  have := h.done rfl i s (List.getElem?_eq_some_iff.1 hs).1 hs ht _ hj
  simpa using this) h.sound q hq
def unm (n : Nat) (t : Nat → Bool) : Nat := ((List.range n).filter fun q => !t q).length
theorem unm_succ (n : Nat) (t : Nat → Bool) : unm (n + 1) t = unm n t + (if t n = true then 0 else 1) := by
 unfold unm
 rw [List.range_succ, List.filter_append, List.length_append]
 cases h : t n <;> simp [h]
theorem unm_more {u v : Nat → Bool} : ∀ {n : Nat}, (∀ q, u q = true → v q = true) → unm n v ≤ unm n u
 | 0, _ => Nat.le_refl _
 | n + 1, h => by
  have ih := unm_more (n := n) h
  rw [unm_succ, unm_succ]
  by_cases hu : u n = true
  ·rw [if_pos hu, if_pos (h n hu)]; omega
  ·rw [if_neg hu]; split <;> omega
theorem unm_less {u v : Nat → Bool} : ∀ {n : Nat}, (∀ q, u q = true → v q = true) → (∃ q, q < n ∧ u q = false ∧ v q = true) → unm n v < unm n u
 | 0, _, ⟨q, hq, _⟩ => absurd hq (Nat.not_lt_zero q)
 | n + 1, h, ⟨q, hq, h1, h2⟩ => by
  rw [unm_succ, unm_succ]
  rcases Nat.lt_or_ge q n with hlt | hge
  ·have ih := unm_less (n := n) h ⟨q, hlt, h1, h2⟩
   by_cases hu : u n = true
   ·rw [if_pos hu, if_pos (h n hu)]; omega
   ·rw [if_neg hu]; split <;> omega
  ·obtain rfl : q = n := by omega
   have ih := unm_more (n := q) h
   rw [if_pos h2, if_neg (by rw [h1]; simp)]
   omega
theorem Ps.less (h : Ps S P t0 true i kk t) : unm S.length t < unm S.length t0 := unm_less h.more (h.new rfl)
end
end Go.Proofs.YteadghoojeehlaaGreatDoor
