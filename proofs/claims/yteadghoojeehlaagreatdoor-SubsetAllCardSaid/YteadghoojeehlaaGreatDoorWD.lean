/-
  Texts of this proof, put together: SetO, RxA, RxMp, RxB, RxC, RxPp, PyA, PyB, PyC, ThA, RegG, RegT, ThB, OpenR, OpenN, SbA, InfI. No statement is proved here.
-/
import Derived.Test.YteadghoojeehlaaGreatDoorWB
import Derived.Test.YteadghoojeehlaaGreatDoorWC
import Derived.Deep.MidRow
import Derived.Test.YteadghoojeehlaaGreatDoorProg
import Derived.Test.YteadghoojeehlaaGreatDoorWA
import Derived.Test.YteadghoojeehlaaGreatDoorRows
import Derived.Deep.Strs
import Derived.OpenShut
namespace Go.Proofs.YteadghoojeehlaaGreatDoor
open Go.RowKit
set_option linter.unusedSimpArgs false
set_option linter.unusedVariables false
theorem lessS_iff (p q : Nat → Bool) : lessS p q = true ↔ ∃ j, j < 256 ∧ (∀ b, b < j → p b = q b) ∧ p j = true ∧ q j = false := by
 constructor
 ·intro h
  unfold lessS at h
  cases hf : (List.range 256).find? fun b => p b != q b with
  | none => rw [hf] at h; cases h
  | some j =>
   rw [hf] at h
   obtain ⟨h1, h2, h3⟩ := List.find?_range_eq_some.1 hf
   have hp : p j = true := h
   refine ⟨j, List.mem_range.1 h2, fun b hb => by simpa using h3 b hb, hp, ?_⟩
   rw [hp] at h1
   simpa using h1
 ·rintro ⟨j, hj, h1, h2, h3⟩
  rw [lessS_at hj h1 (by rw [h2, h3]; decide)]
  exact h2
theorem lessS_trans {p q r : Nat → Bool} (h : lessS p q = true) (k : lessS q r = true) : lessS p r = true := by
 obtain ⟨i, hi, a1, a2, a3⟩ := (lessS_iff p q).1 h
 obtain ⟨j, hj, b1, b2, b3⟩ := (lessS_iff q r).1 k
 rcases Nat.lt_trichotomy i j with hl | rfl | hl
 ·exact (lessS_iff p r).2 ⟨i, hi, fun b hb => (a1 b hb).trans (b1 b (by omega)), a2, by rw [← b1 i hl]; exact a3⟩
 ·rw [a3] at b2; cases b2
 ·exact (lessS_iff p r).2 ⟨j, hj, fun b hb => (a1 b (by omega)).trans (b1 b hb), by rw [a1 j hl]; exact b2, b3⟩
theorem lessS_not {p q : Nat → Bool} (h : lessS p q = false) : eqS p q = !lessS q p := by
 cases hk : lessS q p with
 | true =>
  obtain ⟨i, hi, a1, a2, a3⟩ := (lessS_iff q p).1 hk
  rw [Bool.not_true, Bool.eq_false_iff]
  intro he
  have := (eqS_iff p q).1 he i hi
  rw [a2, a3] at this
  cases this
 | false =>
  rw [Bool.not_false]
  refine (eqS_iff p q).2 ?_
  have : ∀ j, j ≤ 256 → ∀ b, b < j → p b = q b := by
   intro j
   induction j with
   | zero => intro _ b hb; omega
   | succ j ih =>
    intro hj b hb
    rcases Nat.lt_or_ge b j with h' | h'
    ·exact ih (by omega) b h'
    ·obtain rfl : b = j := by omega
     by_cases hne : p b = q b
     ·exact hne
     ·have e1 := lessS_at (p := p) (q := q) (by omega) (ih (by omega)) hne
      have e2 := lessS_at (p := q) (q := p) (by omega) (fun c hc => (ih (by omega) c hc).symm) (fun e => hne e.symm)
      rw [← e1, ← e2, h, hk]
  exact this 256 (Nat.le_refl _)
theorem lessS_irrefl (p : Nat → Bool) : lessS p p = false := lessS_none fun _ _ => rfl
theorem lessS_congr {p p' q q' : Nat → Bool} (h : ∀ b, b < 256 → p b = p' b) (k : ∀ b, b < 256 → q b = q' b) : lessS p q = lessS p' q' := by
 rw [Bool.eq_iff_iff, lessS_iff, lessS_iff]
 constructor
 ·rintro ⟨j, hj, h1, h2, h3⟩
  exact ⟨j, hj, fun b hb => by rw [← h b (by omega), ← k b (by omega)]; exact h1 b hb, by rw [← h j hj]; exact h2, by rw [← k j hj]; exact h3⟩
 ·rintro ⟨j, hj, h1, h2, h3⟩
  exact ⟨j, hj, fun b hb => by rw [h b (by omega), k b (by omega)]; exact h1 b hb, by rw [h j hj]; exact h2, by rw [k j hj]; exact h3⟩
/-! ### their line -/
def lex (d l : Int) : Int := if d = 0 then l else d
def kindD (k k' : Int) : Int := if k = k' then 0 else if k < k' then -1 else 1
def setD (k : Int) (s s' : Nat → Bool) : Int := if k = 3 then (if eqS s s' = false then (if lessS s s' then -1 else 1) else 0) else 0
theorem lex_zero (l : Int) : lex 0 l = l := rfl
theorem lex_ne {d : Int} (l : Int) (h : d ≠ 0) : lex d l = d := if_neg h
theorem cmpT_lex (k k' : Int) (s s' : Nat → Bool) (l l' : List T) : cmpT (.node k s l) (.node k' s' l') = lex (kindD k k') (lex (setD k s s') (cmpL l l')) := by
 simp only [cmpT]
 by_cases hk : k = k'
 ·have e1 : kindD k k' = 0 := if_pos hk
  rw [if_pos hk, e1, lex_zero]
  by_cases h3 : k = 3
  ·cases e : eqS s s' with
   | true =>
    have e2 : setD k s s' = 0 := by unfold setD; rw [if_pos h3, e]; rfl
    rw [if_neg (by rintro ⟨_, h⟩; cases h), e2, lex_zero]
   | false =>
    have e2 : setD k s s' = if lessS s s' then -1 else 1 := by unfold setD; rw [if_pos h3, e]; rfl
    rw [if_pos ⟨h3, rfl⟩, e2, lex_ne]
    cases lessS s s' <;> decide
  ·have e2 : setD k s s' = 0 := if_neg h3
   rw [if_neg (fun h => h3 h.1), e2, lex_zero]
 ·have e1 : kindD k k' = if k < k' then -1 else 1 := if_neg hk
  rw [if_neg hk, e1, lex_ne]
  by_cases h : k < k'
  ·rw [if_pos h]; decide
  ·rw [if_neg h]; decide
def ThereT (w : World) (g n : Nat) : Prop := ∀ j, j < n → w.there g (j * 6) 6
theorem ThereT.all {w : World} {g n : Nat} (h : ThereT w g n) (o m : Nat) (hm : o + m ≤ n * 6) : w.there g o m := fun j hj => by
 have hk : (o + j) / 6 < n := by omega
 have := h ((o + j) / 6) hk ((o + j) % 6) (Nat.mod_lt _ (by omega))
 rw [show (o + j) / 6 * 6 + (o + j) % 6 = o + j by omega] at this
 exact this
section
variable {w : World} {ops : Array Oper} {rest : List Oper} {o : Oper} {a : Act} {Q : Exit → Act → World → Prop}
end
theorem sub_next {m q : Nat} (h : q < m) : m - (q + 1) < m - q := by omega
def canS (s : Nat → Bool) : Prop := ∀ b, 256 ≤ b → s b = false
mutual
def canT : T → Prop
 | .node _ s l => canS s ∧ canL l
def canL : List T → Prop
 | [] => True
 | t :: r => canT t ∧ canL r
end
def fitsT (p k : Int) : Bool := if p = 2 then decide (k = 5) else decide (p ≠ 1) && decide (p ≠ k)
def countT (k : Int) (s : Nat → Bool) (n : Nat) : Bool :=
 if k = 3 then !eqS s zeroS && decide (n = 0) else if k = 1 ∨ k = 2 then decide (n = 0) else if k = 4 ∨ k = 5 then decide (2 ≤ n) else decide (k = 6) && decide (n = 1)
def folT (a b : T) : Bool := decide (cmpT b a < 0) && !(decide (a.kind = 3) && decide (b.kind = 3))
def ascF : List T → Bool
 | a :: b :: r => folT b a && ascF (b :: r)
 | _ => true
mutual
def plainT : T → Bool
 | .node k s l => (decide (k = 3) || eqS s zeroS) && countT k s l.length && plainL k l && (decide (k ≠ 5) || ascF l)
def plainL (k : Int) : List T → Bool
 | [] => true
 | a :: r => fitsT a.kind k && plainT a && plainL k r
end
theorem canL_iff : ∀ {l : List T}, canL l ↔ ∀ t ∈ l, canT t
 | [] => by simp [canL]
 | t :: r => by simp [canL, @canL_iff r]
theorem plainL_iff {k : Int} : ∀ {l : List T}, plainL k l = true ↔ ∀ t ∈ l, fitsT t.kind k = true ∧ plainT t = true
 | [] => by simp [plainL]
 | t :: r => by simp [plainL, @plainL_iff k r]
def good (t : T) : Prop := canT t ∧ plainT t = true
theorem good_node {k : Int} {s : Nat → Bool} {l : List T} : good (.node k s l) ↔ canS s ∧ (∀ t ∈ l, good t) ∧ (k = 3 ∨ eqS s zeroS = true) ∧ countT k s l.length = true ∧ (∀ t ∈ l, fitsT t.kind k = true) ∧ (k = 5 → ascF l = true) := by
 unfold good
 simp only [canT, plainT, canL_iff, Bool.and_eq_true, Bool.or_eq_true, decide_eq_true_eq, plainL_iff]
 constructor
 ·rintro ⟨⟨h1, h2⟩, ⟨⟨h3, h4⟩, h5⟩, h6⟩
  exact ⟨h1, fun t ht => ⟨h2 t ht, (h5 t ht).2⟩, h3, h4, fun t ht => (h5 t ht).1, fun h => by rcases h6 with h6 | h6; exact absurd h h6; exact h6⟩
 ·rintro ⟨h1, h2, h3, h4, h5, h6⟩
  refine ⟨⟨h1, fun t ht => (h2 t ht).1⟩, ⟨⟨h3, h4⟩, fun t ht => ⟨h5 t ht, (h2 t ht).2⟩⟩, ?_⟩
  by_cases h : k = 5
  ·exact .inr (h6 h)
  ·exact .inl h
theorem can_zero : canS zeroS := fun _ _ => rfl
/-! ### rising lists -/
theorem cmpL_at : ∀ (l m : List T) (j : Nat) (a b : T), (∀ (i : Nat) (x y : T), i < j → l[i]? = some x → m[i]? = some y → cmpT x y = 0) → l[j]? = some a → m[j]? = some b → cmpT a b ≠ 0 → cmpL l m = cmpT a b
 | [], _, j, a, b, _, ha, _, _ => by simp at ha
 | _ :: _, [], j, a, b, _, _, hb, _ => by simp at hb
 | x :: r, y :: s, 0, a, b, _, ha, hb, hne => by
  simp at ha hb
  subst ha
  subst hb
  simp only [cmpL]
  rw [if_neg hne]
 | x :: r, y :: s, j + 1, a, b, h, ha, hb, hne => by
  have h0 := h 0 x y (by omega) rfl rfl
  simp only [cmpL]
  rw [if_pos h0]
  exact cmpL_at r s j a b (fun i p q hi hp hq => h (i + 1) p q (by omega) (by simpa using hp) (by simpa using hq)) (by simpa using ha) (by simpa using hb) hne
theorem cmpL_end : ∀ (l m : List T), (∀ (i : Nat) (x y : T), l[i]? = some x → m[i]? = some y → cmpT x y = 0) → cmpL l m = if l.length < m.length then -1 else if m.length < l.length then 1 else 0
 | [], [], _ => rfl
 | [], _ :: _, _ => by simp [cmpL]
 | _ :: _, [], _ => by simp [cmpL]
 | x :: r, y :: s, h => by
  have h0 := h 0 x y rfl rfl
  have ih := cmpL_end r s fun i p q hp hq => h (i + 1) p q (by simpa using hp) (by simpa using hq)
  simp only [cmpL]
  rw [if_pos h0, ih]
  simp only [List.length_cons, Nat.add_lt_add_iff_right]
theorem good_set {s : Nat → Bool} (hc : canS s) (hs : eqS s zeroS = false) : good (.node 3 s []) :=
 good_node.2 ⟨hc, by simp, .inl rfl, by simp [countT, hs], by simp, by simp⟩
structure Pk (w : World) (g : Nat) (V : Value) (ps : List UInt8) (n : Nat) : Prop where
 blk : Blk w g 87 [V, .int .i64 (n : Int)]
 row : RowB g w V (bvs ps)
 le : n ≤ ps.length
 few : ps.length ≤ 1048576
theorem grown_belowG {w w' : World} {g : Nat} (h : w.grownBy w' (some g)) (hg : g < w.heap.size) : Below g w w' :=
 ⟨h.os, h.tape, h.output, h.size, fun k hk => h.block k (by omega) (fun e => by have := Option.some.inj e; omega)⟩
theorem Pk.grown {w w' : World} {g : Nat} {V : Value} {ps : List UInt8} {n n' : Nat} (h : Pk w g V ps n) (hg : w.grownBy w' (some g)) (hb : Blk w' g 87 [V, .int .i64 (n' : Int)]) (hn : n' ≤ ps.length) : Pk w' g V ps n' :=
 ⟨hb, h.row.below (grown_belowG hg h.blk.lt), hn, h.few⟩
theorem Pk.below {w w' : World} {g : Nat} {V : Value} {ps : List UInt8} {n : Nat} (h : Pk w g V ps n) (hb : Below w.heap.size w w') : Pk w' g V ps n :=
 ⟨h.blk.below hb h.blk.lt, h.row.below (hb.mono (Nat.le_of_lt h.blk.lt)), h.le, h.few⟩
theorem Pk.other {w w' : World} {g : Nat} {V : Value} {ps : List UInt8} {n : Nat} (h : Pk w g V ps n) (k : Nat) (hk : ∀ i, i ≠ k → w'.heap[i]? = w.heap[i]?) (hg : g < k) (hbl : Below k w w') : Pk w' g V ps n :=
 ⟨(hk g (by omega)).trans h.blk, h.row.below (hbl.mono (by omega)), h.le, h.few⟩
def listS (l : List Nat) : Nat → Bool := fun x => decide (x ∈ l)
theorem can_list {l : List Nat} (h : ∀ x ∈ l, x < 256) : canS (listS l) := fun x hx => by
 unfold listS
 exact decide_eq_false fun hm => by have := h x hm; omega
theorem refOfQ (v : Value) (l : List UInt8) (w : World) (hr : Row w v (bvs l)) (hl : l.length ≤ 1048576) (q : Nat → Bool) (hq : wds (fun b => decide (UInt8.ofNat b ∈ l)) = wds q) :
  Calls Tryz.prog 16 #[v] w fun e w' => e = .returned (.agg (wds q).toArray) ∧ Below w.heap.size w w' := by
 rw [← hq]
 exact refOf_any v l w hr hl
theorem ofNat_inj {b c : Nat} (hb : b < 256) (hc : c < 256) : UInt8.ofNat b = UInt8.ofNat c ↔ b = c := by
 constructor
 ·intro he
  have h1 := congrArg UInt8.toNat he
  rw [UInt8.toNat_ofNat', UInt8.toNat_ofNat', Nat.mod_eq_of_lt hc, Nat.mod_eq_of_lt hb] at h1
  exact h1
 ·intro h
  rw [h]
theorem wds_list1 {c : Nat} (hc : c < 256) (l : List UInt8) (hl : l = [UInt8.ofNat c]) (q : Nat → Bool) (hq : q = listS [c]) : wds (fun b => decide (UInt8.ofNat b ∈ l)) = wds q := by
 refine wds_congr fun b hb => ?_
 rw [hq]
 unfold listS
 rw [Bool.eq_iff_iff, decide_eq_true_iff, decide_eq_true_iff, hl, List.mem_singleton, List.mem_singleton]
 exact ofNat_inj hb hc
theorem refOf1 (c : Nat) (hc : c < 256) (v : Value) (w : World) (hr : Row w v (bvs [UInt8.ofNat c])) (q : Nat → Bool) (hq : q = listS [c]) :
  Calls Tryz.prog 16 #[v] w fun e w' => e = .returned (.agg (wds q).toArray) ∧ Below w.heap.size w w' := by
 obtain ⟨l, hl⟩ : ∃ l, l = [UInt8.ofNat c] := ⟨_, rfl⟩
 rw [← hl] at hr
 exact refOfQ v l w hr (by rw [hl, List.length_singleton]; omega) q (wds_list1 hc l hl q hq)
theorem good_none : good noneT := good_node.2 ⟨can_zero, by simp, .inr rfl, by simp [countT], by simp, by simp⟩
theorem good_bytes {s : Nat → Bool} (h : canS s) : good (bytesT s) := by
 unfold bytesT
 cases hs : eqS s zeroS with
 | true => exact good_none
 | false => exact good_set h hs
structure St where
 set : Nat → Bool
 to : Int
 free : List Int
structure MayN (S : List St) (a z : Int) : Prop where
 few : S.length ≤ 2000
 a0 : 0 ≤ a
 a1 : a < (S.length : Int)
 z0 : 0 ≤ z
 z1 : z < (S.length : Int)
 to : ∀ s ∈ S, s.to < (S.length : Int)
 free8 : ∀ s ∈ S, s.free.length ≤ 8
 free : ∀ s ∈ S, ∀ f ∈ s.free, 0 ≤ f ∧ f < (S.length : Int)
inductive Rc (S : List St) (P : Nat → Prop) : Nat → Prop
 | base {i : Nat} : P i → i < S.length → Rc S P i
 | go {i j : Nat} {s : St} : Rc S P i → S[i]? = some s → (j : Int) ∈ s.free → j < S.length → Rc S P j
theorem Rc.lt {S : List St} {P : Nat → Prop} {i : Nat} (h : Rc S P i) : i < S.length := by
 cases h with
 | base _ h => exact h
 | go _ _ _ h => exact h
theorem Rc.mono {S : List St} {P Q : Nat → Prop} {i : Nat} (h : Rc S P i) (hPQ : ∀ i, P i → Q i) : Rc S Q i := by
 induction h with
 | base h1 h2 => exact .base (hPQ _ h1) h2
 | go _ h2 h3 h4 ih => exact .go ih h2 h3 h4
theorem rc_is {S : List St} {P : Nat → Prop} {t : Nat → Bool} (h1 : ∀ i, i < S.length → P i → t i = true)
  (h2 : ∀ i s, S[i]? = some s → t i = true → ∀ j : Nat, (j : Int) ∈ s.free → t j = true) (h3 : ∀ i, i < S.length → t i = true → Rc S P i) (i : Nat) (hi : i < S.length) : t i = true ↔ Rc S P i := by
 refine ⟨h3 i hi, fun h => ?_⟩
 clear h3 hi
 induction h with
 | base a b => exact h1 _ b a
 | go _ b c _ ih => exact h2 _ _ b ih _ c
noncomputable def rcB (S : List St) (P : Nat → Prop) (i : Nat) : Bool := @decide (Rc S P i) (Classical.propDecidable _)
theorem rcB_iff {S : List St} {P : Nat → Prop} {i : Nat} : rcB S P i = true ↔ Rc S P i := by
 unfold rcB
 exact @decide_eq_true_iff _ (Classical.propDecidable _)
/-! ### rising lists of states -/
def risJ (t : Nat → Bool) (n : Nat) : List Int := ((List.range n).filter t).map fun i : Nat => (i : Int)
theorem risJ_succ (t : Nat → Bool) (n : Nat) : risJ t (n + 1) = if t n then risJ t n ++ [(n : Int)] else risJ t n := by
 unfold risJ
 rw [List.range_succ, List.filter_append, List.map_append]
 cases h : t n <;> simp [h]
theorem risJ_congr {t u : Nat → Bool} {n : Nat} (h : ∀ i, i < n → t i = u i) : risJ t n = risJ u n := by
 unfold risJ
 rw [List.filter_congr fun i hi => h i (List.mem_range.1 hi)]
theorem risJ_mem {t : Nat → Bool} {n : Nat} {x : Int} : x ∈ risJ t n ↔ ∃ i : Nat, x = (i : Int) ∧ i < n ∧ t i = true := by
 unfold risJ
 rw [List.mem_map]
 constructor
 ·rintro ⟨i, hi, rfl⟩
  have := List.mem_filter.1 hi
  exact ⟨i, rfl, List.mem_range.1 this.1, this.2⟩
 ·rintro ⟨i, rfl, h1, h2⟩
  exact ⟨i, List.mem_filter.2 ⟨List.mem_range.2 h1, h2⟩, rfl⟩
theorem risJ_len (t : Nat → Bool) (n : Nat) : (risJ t n).length ≤ n := by
 unfold risJ
 rw [List.length_map]
 have := List.length_filter_le t (List.range n)
 rwa [List.length_range] at this
theorem risJ_rise (t : Nat → Bool) (n : Nat) : (risJ t n).Pairwise (· < ·) := by
 unfold risJ
 rw [List.pairwise_map]
 exact (List.pairwise_lt_range.filter t).imp fun h => by omega
def ofL (l : List Int) (i : Nat) : Prop := (i : Int) ∈ l
noncomputable def clsN (S : List St) (l : List Int) : List Int := risJ (rcB S (ofL l)) S.length
theorem clsN_mem {S : List St} {l : List Int} {i : Nat} : (i : Int) ∈ clsN S l ↔ Rc S (ofL l) i := by
 unfold clsN
 rw [risJ_mem]
 constructor
 ·rintro ⟨j, hj, _, h⟩
  have : i = j := by omega
  subst this
  exact rcB_iff.1 h
 ·intro h
  exact ⟨i, rfl, h.lt, rcB_iff.2 h⟩
def goN (S : List St) (l : List Int) (b : Nat) : List Int := l.filterMap fun x => if 0 ≤ x then (S[x.toNat]?).bind fun s => if 0 ≤ s.to ∧ s.set b = true then some s.to else none else none
noncomputable def stpN (S : List St) (l : List Int) (b : Nat) : List Int := clsN S (goN S l b)
theorem goN_mem {S : List St} {l : List Int} {b : Nat} {x : Int} : x ∈ goN S l b ↔ ∃ (i : Nat) (s : St), (i : Int) ∈ l ∧ S[i]? = some s ∧ 0 ≤ s.to ∧ s.set b = true ∧ x = s.to := by
 unfold goN
 rw [List.mem_filterMap]
 constructor
 ·rintro ⟨y, hy, h⟩
  by_cases h0 : 0 ≤ y
  ·rw [if_pos h0] at h
   cases hs : S[y.toNat]? with
   | none => rw [hs] at h; cases h
   | some s =>
    rw [hs] at h
    have h : (if 0 ≤ s.to ∧ s.set b = true then some s.to else none) = some x := h
    by_cases hc : 0 ≤ s.to ∧ s.set b = true
    ·rw [if_pos hc] at h
     injection h with h
     exact ⟨y.toNat, s, by rwa [Int.toNat_of_nonneg h0], hs, hc.1, hc.2, h.symm⟩
    ·rw [if_neg hc] at h; cases h
  ·rw [if_neg h0] at h; cases h
 ·rintro ⟨i, s, h1, h2, h3, h4, rfl⟩
  refine ⟨(i : Int), h1, ?_⟩
  rw [if_pos (by omega), Int.toNat_natCast, h2]
  show (if 0 ≤ s.to ∧ s.set b = true then some s.to else none) = some s.to
  rw [if_pos ⟨h3, h4⟩]
/-! ### ways -/
inductive Way (S : List St) : Nat → List UInt8 → Nat → Prop
 | here {i : Nat} : i < S.length → Way S i [] i
 | free {i j k : Nat} {s : St} {w : List UInt8} : S[i]? = some s → (j : Int) ∈ s.free → Way S j w k → Way S i w k
 | byte {i j k : Nat} {s : St} {b : UInt8} {w : List UInt8} : S[i]? = some s → s.set b.toNat = true → s.to = (j : Int) → Way S j w k → Way S i (b :: w) k
theorem Way.lt {S : List St} {i k : Nat} {w : List UInt8} (h : Way S i w k) : i < S.length := by
 cases h with
 | here h => exact h
 | free h _ _ => exact (List.getElem?_eq_some_iff.1 h).1
 | byte h _ _ _ => exact (List.getElem?_eq_some_iff.1 h).1
theorem Way.lt2 {S : List St} {i k : Nat} {w : List UInt8} (h : Way S i w k) : k < S.length := by
 induction h with
 | here h => exact h
 | free _ _ _ ih => exact ih
 | byte _ _ _ _ ih => exact ih
theorem Way.app {S : List St} {i j k : Nat} {u v : List UInt8} (h : Way S i u j) (h2 : Way S j v k) : Way S i (u ++ v) k := by
 induction h with
 | here _ => exact h2
 | free a b _ ih => exact .free a b (ih h2)
 | byte a b c _ ih => exact .byte a b c (ih h2)
section
variable {P : Program} {ops : Array Oper} {Q : Exit → Act → World → Prop} {md : Region.Mode} {S : World → Prop}
theorem sg_take {i : Nat} {oi : Oper} {v : Value} {fuel : Nat} {listed : Array Bool} {a : Act} {w : World} (hi : ops[i]? = some oi)
  (hs : Region.noSelect ops = true) (hf : Region.free md ops listed i = true) (hr : (Region.ready md ops listed).contains i = true)
  (hQ : ∀ c a w, Q (.panic c) (a.put oi.dst v) w → Q (.panic c) a w) (hw : Region.wanted oi (yielded ops a.tmps) = true) (hS : S w)
  (hy : ∀ W, S W → (execOp a.eval oi).run P W = .ok (.value v) W)
  (h : wpAnyH P md ops Q S fuel (listed.setIfInBounds i true) (a.put oi.dst v) w) : wpAnyH P md ops Q S (fuel + 1) listed a w :=
 wpAnyH_take hi hs hf hr hQ (.inl ⟨hw, hy⟩) hS h
theorem sg_actB {i : Nat} {o : Oper} {fuel : Nat} {listed : Array Bool} {a : Act} {w : World} (hi : ops[i]? = some o) (hr : Region.ready md ops listed = [i])
  (hw : Region.wanted o (yielded ops a.tmps) = true) (hS : S w)
  (h : ∀ K : Act → World → Prop, (∀ a' w', S w' → wpAnyH P md ops Q S fuel (listed.setIfInBounds i true) a' w' → K a' w') → o.wp P a w K Q) :
  wpAnyH P md ops Q S (fuel + 1) listed a w := by
 refine wpAnyH_all hr (by simp) (fun j hj => ?_)
 have hji : j = i := by simpa using hj
 subst hji
 unfold wpOp
 rw [hi]
 simp only [hw, if_true]
 exact .inl (h _ fun a' w' hx hk => ⟨hx, hk⟩)
theorem sg_start {id : Nat} {a : Act} {w : World} (S : World → Prop) (hm : P.follows .mixedOrders = true) (hS : S w.drew)
  (h : ∀ wd, wd = w.drew → wpAnyH P .any ops Q S ops.size (Array.replicate ops.size false) a wd) : (Code.region id ops true).wp P Q a w :=
 wp_region_held_drew hm hS (fun _ => h _ rfl)
end
section
variable {P : Program} {ops : Array Oper} {Q : Exit → Act → World → Prop} {md : Region.Mode} {S : World → Prop}
theorem sg_two {i j : Nat} {oi oj : Oper} {fuel : Nat} {listed : Array Bool} {a : Act} {w : World} (hi : ops[i]? = some oi) (hj : ops[j]? = some oj) (hr : Region.ready md ops listed = [i, j])
  (hwi : Region.wanted oi (yielded ops a.tmps) = true) (hwj : Region.wanted oj (yielded ops a.tmps) = true) (hS : S w)
  (h1 : ∀ K : Act → World → Prop, (∀ a' w', S w' → wpAnyH P md ops Q S fuel (listed.setIfInBounds i true) a' w' → K a' w') → oi.wp P a w K Q)
  (h2 : ∀ K : Act → World → Prop, (∀ a' w', S w' → wpAnyH P md ops Q S fuel (listed.setIfInBounds j true) a' w' → K a' w') → oj.wp P a w K Q) :
  wpAnyH P md ops Q S (fuel + 1) listed a w := by
 refine wpAnyH_all hr (by simp) (fun k hk => ?_)
 have hk2 : k = i ∨ k = j := by simpa using hk
 unfold wpOp
 rcases hk2 with rfl | rfl
 ·rw [hi]
  simp only [hwi, if_true]
  exact .inl (h1 _ fun a' w' hx hk => ⟨hx, hk⟩)
 ·rw [hj]
  simp only [hwj, if_true]
  exact .inl (h2 _ fun a' w' hx hk => ⟨hx, hk⟩)
end
def stc (s : St) (v : Value) : List Value := wds s.set ++ [.int .i64 s.to, v]
theorem stc_len (s : St) (v : Value) : (stc s v).length = 6 := rfl
theorem stc_one (s : St) (A : Option Addr) (n c : Nat) : (stc s (.slice A n c)).all (·.oneCell') = true := rfl
def NfaV (w : World) (cs : List Value) (S : List St) (a z : Int) : Prop :=
 ∃ (A : Option Addr) (cap : Nat) (vf : Nat → Value), cs = [.slice A S.length cap, .int .i64 a, .int .i64 z] ∧ S.length ≤ cap ∧ cap ≤ maxLen ∧ (A = none → cap = 0) ∧
  (S ≠ [] → ∃ b off, A = some ⟨b, off, none⟩ ∧ b < w.heap.size ∧ ∀ i s, S[i]? = some s → w.rangeAt b (off + i * 6) (stc s (vf i))) ∧
  ∀ i s, S[i]? = some s → Row w (vf i) (ints s.free)
theorem NfaV.length {w : World} {cs : List Value} {S : List St} {a z : Int} (h : NfaV w cs S a z) : cs.length = 3 := by
 obtain ⟨_, _, _, rfl, _⟩ := h
 rfl
theorem NfaV.one {w : World} {cs : List Value} {S : List St} {a z : Int} (h : NfaV w cs S a z) : cs.all (·.oneCell') = true := by
 obtain ⟨_, _, _, rfl, _⟩ := h
 rfl
theorem NfaV.below {w w' : World} {cs : List Value} {S : List St} {a z : Int} (h : NfaV w cs S a z) (hb : Below w.heap.size w w') : NfaV w' cs S a z := by
 obtain ⟨A, cap, vf, h1, h2, h3, h0, h4, h5⟩ := h
 refine ⟨A, cap, vf, h1, h2, h3, h0, fun hne => ?_, fun i s hs => (h5 i s hs).below hb⟩
 obtain ⟨b, off, hA, hlt, hr⟩ := h4 hne
 exact ⟨b, off, hA, Nat.lt_of_lt_of_le hlt hb.size, fun i s hs => range_below (hr i s hs) hb hlt⟩
theorem NfaV.at_ {w : World} {A : Option Addr} {cap n : Nat} {a z : Int} {S : List St} (h : NfaV w [.slice A n cap, .int .i64 a, .int .i64 z] S a z) {i : Nat} {s : St} (hs : S[i]? = some s) :
  ∃ b off, A = some ⟨b, off, none⟩ ∧ b < w.heap.size ∧ w.rangeAt b (off + i * 6) (wds s.set) ∧ w.cell? ⟨b, off + i * 6 + 4, none⟩ = some (.int .i64 s.to) ∧
   ∃ Af cf, w.cell? ⟨b, off + i * 6 + 5, none⟩ = some (.slice Af s.free.length cf) ∧ Row w (.slice Af s.free.length cf) (ints s.free) := by
 obtain ⟨A', cap', vf, he, h2, h3, h0, h4, h5⟩ := h
 injection he with he _
 injection he with hA hn hc
 subst hA
 obtain ⟨b, off, rfl, hlt, hr⟩ := h4 (by rintro rfl; simp at hs)
 have h6 := hr i s hs
 have h7 := h5 i s hs
 refine ⟨b, off, rfl, hlt, fun j v hv => ?_, h6 4 _ rfl, ?_⟩
 ·have hj : j < 4 := by have := (List.getElem?_eq_some_iff.1 hv).1; rwa [wds_length] at this
  refine h6 j v ?_
  unfold stc
  rw [List.getElem?_append_left (by rw [wds_length]; exact hj)]
  exact hv
 ·obtain ⟨Af, cf, hvf, _⟩ := h7
  have hl : (ints s.free).length = s.free.length := nums_length _ _
  rw [hl] at hvf
  exact ⟨Af, cf, by rw [← hvf]; exact h6 5 _ rfl, by rw [← hvf]; exact h5 i s hs⟩
theorem NfaV.whole {w : World} {A : Option Addr} {cap n : Nat} {a z : Int} {S : List St} (h : NfaV w [.slice A n cap, .int .i64 a, .int .i64 z] S a z) {i : Nat} {s : St} (hs : S[i]? = some s) :
  ∃ b off Af cf, A = some ⟨b, off, none⟩ ∧ b < w.heap.size ∧ w.rangeAt b (off + i * 6) (stc s (.slice Af s.free.length cf)) ∧ Row w (.slice Af s.free.length cf) (ints s.free) := by
 obtain ⟨A', cap', vf, he, h2, h3, h0, h4, h5⟩ := h
 injection he with he _
 injection he with hA hn hc
 subst hA
 obtain ⟨b, off, rfl, hlt, hr⟩ := h4 (by rintro rfl; simp at hs)
 obtain ⟨Af, cf, hvf, _⟩ := h5 i s hs
 have hl : (ints s.free).length = s.free.length := nums_length _ _
 rw [hl] at hvf
 exact ⟨b, off, Af, cf, rfl, hlt, by rw [← hvf]; exact hr i s hs, by rw [← hvf]; exact h5 i s hs⟩
theorem NfaV.len {w : World} {cs : List Value} {S : List St} {a z : Int} (h : NfaV w cs S a z) : ∃ A cap, cs = [.slice A S.length cap, .int .i64 a, .int .i64 z] ∧ S.length ≤ cap ∧ cap ≤ maxLen ∧ (A = none → cap = 0) := by
 obtain ⟨A, cap, _, h1, h2, h3, h0, _⟩ := h
 exact ⟨A, cap, h1, h2, h3, h0⟩
def canonS (p : Nat → Bool) : Nat → Bool := fun b => decide (b < 256) && p b
theorem canon_wds (p : Nat → Bool) : wds (canonS p) = wds p := wds_congr fun b hb => by
 unfold canonS
 rw [decide_eq_true hb]
 rfl
theorem open_free {H : Type} {enc : TypeId × Value → H} {W : World} {m : Nat} {c : Value} {y : DataW H × List MemPlace}
  (h : DataW.trod enc Tryz.prog W 0 (fun _ => true) true m 53 [c] = some y) : ∃ l : List Int, Row W c (nums .i64 l) := by
 rcases Deep.open_slice Tryz.underlying53 h with ⟨he, _⟩ | ⟨a, len, cap, m2, n2, D, Pl, he, _⟩
 ·have hc : c = .slice none 0 0 := by simpa using he
  exact ⟨[], by rw [hc]; exact Row.nil W⟩
 ·have hc : c = .slice (some a) len cap := by simpa using he
  subst hc
  obtain ⟨l, _, hl⟩ := open_nums (P := Tryz.prog) (t := 53) (e := 3) (k := .i64) Tryz.underlying53 Tryz.underlying3 (by kernel_rfl) (enc := enc) (W := W) (d := y.1) (p := y.2) ⟨m, h⟩
  exact ⟨l, hl⟩
set_option maxRecDepth 100000 in
theorem open_nst {H : Type} {enc : TypeId × Value → H} {W : World} {fuel : Nat} {cs : List Value} {d : DataW H} {p : List MemPlace}
  (h : DataW.trod enc Tryz.prog W 0 (fun _ => true) true fuel 55 cs = some (d, p)) : ∃ (s : St) (v : Value), cs = stc s v ∧ Row W v (nums .i64 s.free) ∧ -9223372036854775808 ≤ s.to := by
 obtain ⟨y0, y1, y2, m, hx, hl, h0, h1, h2⟩ := Deep.trod_struct3 Tryz.underlying55 h
 have hl6 : cs.length = 6 := by rw [hl]; kernel_rfl
 match cs, hl6 with
 | [c0, c1, c2, c3, c4, c5], _ =>
  have h0' : DataW.trod enc Tryz.prog W 0 (fun _ => true) true m 43 [c0, c1, c2, c3] = some y0 := h0
  have h1' : DataW.trod enc Tryz.prog W 0 (fun _ => true) true m 3 [c4] = some y1 := h1
  have h2' : DataW.trod enc Tryz.prog W 0 (fun _ => true) true m 53 [c5] = some y2 := h2
  obtain ⟨k, hk, _, hkw⟩ := DataW.trod_int Tryz.underlying3 h1'
  obtain ⟨s, hs⟩ := set_of_trod Tryz.underlying43 Tryz.underlying41 (by kernel_rfl) (by kernel_rfl) h0'
  obtain ⟨l, hr⟩ := open_free h2'
  have hc4 : c4 = .int .i64 k := by simpa using hk
  refine ⟨⟨canonS s, k, l⟩, c5, ?_, hr, (bounds_i64 hkw).1⟩
  unfold stc
  rw [canon_wds, ← hs, hc4]
  rfl
set_option maxRecDepth 100000 in
theorem open_nfa_lo {H : Type} {enc : TypeId × Value → H} {W : World} {v : Value} {d : DataW H} {p : List MemPlace} (h : DataW.Trod enc Tryz.prog W 0 (fun _ => true) true 24 v d p) :
  ∃ (S : List St) (a z : Int), NfaV W v.cells.toList S a z ∧ ∀ s ∈ S, -9223372036854775808 ≤ s.to := by
 obtain ⟨fuel, h⟩ := h
 obtain ⟨cs, hcs⟩ : ∃ cs, cs = v.cells.toList := ⟨_, rfl⟩
 rw [← hcs] at h ⊢
 clear hcs
 obtain ⟨y0, y1, y2, m, hx, hl, h0, h1, h2⟩ := Deep.trod_struct3 Tryz.underlying24 h
 have hl3 : cs.length = 3 := by rw [hl]; kernel_rfl
 match cs, hl3 with
 | [c0, c1, c2], _ =>
  have h0' : DataW.trod enc Tryz.prog W 0 (fun _ => true) true m 22 [c0] = some y0 := h0
  have h1' : DataW.trod enc Tryz.prog W 0 (fun _ => true) true m 3 [c1] = some y1 := h1
  have h2' : DataW.trod enc Tryz.prog W 0 (fun _ => true) true m 3 [c2] = some y2 := h2
  obtain ⟨a, ha, _, _⟩ := DataW.trod_int Tryz.underlying3 h1'
  obtain ⟨z, hz, _, _⟩ := DataW.trod_int Tryz.underlying3 h2'
  have hc1 : c1 = .int .i64 a := by simpa using ha
  have hc2 : c2 = .int .i64 z := by simpa using hz
  rw [hc1, hc2]
  rcases Deep.open_slice Tryz.underlying22 h0' with ⟨he, _⟩ | ⟨ad, len, cap, m2, n2, D, Pl, he, _, hlc, hcm, hmm, hx2, hall⟩
  ·have hc0 : c0 = .slice none 0 0 := by simpa using he
   rw [hc0]
   exact ⟨[], a, z, ⟨none, 0, fun _ => .slice none 0 0, rfl, Nat.le_refl _, Nat.zero_le _, fun _ => rfl, fun h => absurd rfl h, fun i s h => by simp at h⟩, fun s h => by cases h⟩
  ·have hc0 : c0 = .slice (some ad) len cap := by simpa using he
   rw [hc0]
   have hml : len ≤ m2 := by rw [hmm]; split <;> omega
   obtain ⟨b, off, spot⟩ := ad
   have hce : Tryz.prog.cellsOf 55 = 6 := by kernel_rfl
   rcases Nat.eq_zero_or_pos len with hz0 | hpos
   ·subst hz0
    exact ⟨[], a, z, ⟨_, cap, fun _ => .slice none 0 0, rfl, Nat.zero_le _, hcm, (fun h => by cases h), fun h => absurd rfl h, fun i s h => by simp at h⟩, fun s h => by cases h⟩
   have hspot : spot = none := by
    obtain ⟨cs', g1, _⟩ := hall 0 (by omega)
    rw [hce] at g1
    obtain ⟨_, g2, g3⟩ := World.cells?_some g1
    have g4 := g3 0 (by omega)
    rw [List.getElem?_eq_getElem (by omega)] at g4
    simpa [Addr.add] using World.cell?_spot g4
   subst hspot
   have key : ∀ i, i < len → ∃ q : St × Value, W.rangeAt b (off + i * 6) (stc q.1 q.2) ∧ Row W q.2 (nums .i64 q.1.free) ∧ b < W.heap.size ∧ -9223372036854775808 ≤ q.1.to := by
    intro i hi
    obtain ⟨cs', g1, g2⟩ := hall i (by omega)
    obtain ⟨s, u, t1, t2, t3⟩ := open_nst g2
    rw [hce, Addr.add_mid] at g1
    refine ⟨(s, u), ?_, t2, (by have := World.cells?_block g1 (by omega); exact this), t3⟩
    rw [← t1]
    exact (cells_range g1).2
   haveI : Inhabited (St × Value) := ⟨(⟨fun _ => false, 0, []⟩, .slice none 0 0)⟩
   obtain ⟨f, hf⟩ := Deep.choose_lt key
   have hll : ((List.range len).map fun i => (f i).1).length = len := by simp
   have hat : ∀ i s, ((List.range len).map fun i => (f i).1)[i]? = some s → i < len ∧ s = (f i).1 := fun i s hs => by
    have hi : i < len := by have := (List.getElem?_eq_some_iff.1 hs).1; simpa using this
    exact ⟨hi, by simpa [hi] using hs.symm⟩
   refine ⟨(List.range len).map fun i => (f i).1, a, z, ⟨some ⟨b, off, none⟩, cap, fun i => (f i).2, by rw [hll], by rw [hll]; exact hlc, hcm, (fun h => by cases h), fun _ => ⟨b, off, rfl, (hf 0 hpos).2.2.1, fun i s hs => ?_⟩, fun i s hs => ?_⟩, fun s hs => ?_⟩
   ·obtain ⟨hi, rfl⟩ := hat i s hs
    exact (hf i hi).1
   ·obtain ⟨hi, rfl⟩ := hat i s hs
    exact (hf i hi).2.1
   ·obtain ⟨i, hi, rfl⟩ := List.mem_map.1 hs
    exact (hf i (List.mem_range.1 hi)).2.2.2
set_option linter.unusedSectionVars false
section
variable {α : Type} [DecidableEq α]
def extL : List α → List α → List α
 | L, [] => L
 | L, x :: xs => extL (if x ∈ L then L else L ++ [x]) xs
theorem extL_app : ∀ (xs : List α) (L ys : List α), extL L (xs ++ ys) = extL (extL L xs) ys
 | [], _, _ => rfl
 | x :: xs, L, ys => extL_app xs _ ys
theorem extL_in {L : List α} {x : α} (h : x ∈ L) : extL L [x] = L := by simp [extL, h]
theorem extL_new {L : List α} {x : α} (h : x ∉ L) : extL L [x] = L ++ [x] := by simp [extL, h]
theorem extL_take {L xs : List α} {j : Nat} {x : α} (h : xs[j]? = some x) : extL L (xs.take (j + 1)) = extL (extL L (xs.take j)) [x] := by
 obtain ⟨hj, rfl⟩ := List.getElem?_eq_some_iff.1 h
 rw [List.take_succ_eq_append_getElem hj, extL_app]
theorem extL_pre : ∀ (xs L : List α), ∃ M, extL L xs = L ++ M
 | [], L => ⟨[], by simp [extL]⟩
 | x :: xs, L => by
  obtain ⟨M, hM⟩ := extL_pre xs (if x ∈ L then L else L ++ [x])
  by_cases h : x ∈ L
  ·rw [if_pos h] at hM
   exact ⟨M, by simp only [extL]; rw [if_pos h]; exact hM⟩
  ·rw [if_neg h] at hM
   exact ⟨[x] ++ M, by simp only [extL]; rw [if_neg h, hM, List.append_assoc]⟩
theorem extL_mem {y : α} : ∀ (xs L : List α), y ∈ extL L xs ↔ y ∈ L ∨ y ∈ xs
 | [], L => by simp [extL]
 | x :: xs, L => by
  simp only [extL]
  rw [extL_mem xs]
  by_cases h : x ∈ L
  ·rw [if_pos h]
   constructor
   ·rintro (h1 | h1)
    ·exact .inl h1
    ·exact .inr (List.mem_cons_of_mem _ h1)
   ·rintro (h1 | h1)
    ·exact .inl h1
    ·rcases List.mem_cons.1 h1 with rfl | h1
     ·exact .inl h
     ·exact .inr h1
  ·rw [if_neg h, List.mem_append, List.mem_singleton, List.mem_cons]
   constructor
   ·rintro ((h1 | h1) | h1)
    ·exact .inl h1
    ·exact .inr (.inl h1)
    ·exact .inr (.inr h1)
   ·rintro (h1 | h1 | h1)
    ·exact .inl (.inl h1)
    ·exact .inl (.inr h1)
    ·exact .inr h1
theorem nodup_snoc {L : List α} {x : α} (h : L.Nodup) (hx : x ∉ L) : (L ++ [x]).Nodup :=
 List.nodup_append.2 ⟨h, by simp, fun a ha b hb hab => by
  obtain rfl := List.mem_singleton.1 hb
  exact hx (hab ▸ ha)⟩
theorem extL_nodup : ∀ (xs L : List α), L.Nodup → (extL L xs).Nodup
 | [], _, h => h
 | x :: xs, L, h => by
  simp only [extL]
  by_cases hx : x ∈ L
  ·rw [if_pos hx]
   exact extL_nodup xs L h
  ·rw [if_neg hx]
   exact extL_nodup xs _ (nodup_snoc h hx)
theorem extL_le (xs L : List α) : L.length ≤ (extL L xs).length := by
 obtain ⟨M, hM⟩ := extL_pre xs L
 rw [hM, List.length_append]
 omega
theorem extL_len : ∀ (xs L : List α), (extL L xs).length ≤ L.length + xs.length
 | [], L => by simp [extL]
 | x :: xs, L => by
  simp only [extL]
  by_cases hx : x ∈ L
  ·rw [if_pos hx]
   have := extL_len xs L
   simp only [List.length_cons]
   omega
  ·rw [if_neg hx]
   have := extL_len xs (L ++ [x])
   simp only [List.length_append, List.length_cons, List.length_nil] at this ⊢
   omega
theorem extL_take_le (xs L : List α) (j : Nat) : (extL L (xs.take j)).length ≤ (extL L xs).length := by
 have h := extL_app (xs.take j) L (xs.drop j)
 rw [List.take_append_drop] at h
 rw [h]
 exact extL_le _ _
/-! ### places -/
def ixOf (L : List α) (x : α) : Nat := L.idxOf x
theorem idx_lt {L : List α} {x : α} (h : x ∈ L) : ixOf L x < L.length := List.idxOf_lt_length_of_mem h
theorem idx_get {L : List α} {x : α} (h : x ∈ L) : L[ixOf L x]? = some x := by
 have h1 : List.idxOf x L < L.length := idx_lt h
 show L[List.idxOf x L]? = some x
 rw [List.getElem?_eq_getElem h1, List.getElem_idxOf h1]
theorem idx_app {L M : List α} {x : α} (h : x ∈ L) : ixOf (L ++ M) x = ixOf L x := by
 unfold ixOf
 rw [List.idxOf_append, if_pos h]
theorem idx_new {L : List α} {x : α} (h : x ∉ L) : ixOf (L ++ [x]) x = L.length := by
 unfold ixOf
 rw [List.idxOf_append, if_neg h, List.idxOf_cons_self, Nat.zero_add]
theorem idx_is {L : List α} {x : α} {i : Nat} (hn : L.Nodup) (h : L[i]? = some x) : ixOf L x = i := by
 obtain ⟨hi, rfl⟩ := List.getElem?_eq_some_iff.1 h
 exact hn.idxOf_getElem i hi
def rowI (L xs : List α) : List Int := xs.map fun x => (ixOf L x : Int)
theorem rowI_len (L xs : List α) : (rowI L xs).length = xs.length := by simp [rowI]
theorem rowI_app {L M xs : List α} (h : ∀ x ∈ xs, x ∈ L) : rowI (L ++ M) xs = rowI L xs := by
 unfold rowI
 refine List.map_congr_left fun x hx => ?_
 rw [idx_app (h x hx)]
/-! ### round by round -/
variable (f : α → List α) (x0 : α)
def Lq : Nat → List α
 | 0 => [x0]
 | r + 1 => match (Lq r)[r]? with
  | some x => extL (Lq r) (f x)
  | none => Lq r
variable {f x0}
theorem Lq_step {r : Nat} {x : α} (h : (Lq f x0 r)[r]? = some x) : Lq f x0 (r + 1) = extL (Lq f x0 r) (f x) := by
 simp only [Lq, h]
theorem Lq_stop {r : Nat} (h : (Lq f x0 r).length ≤ r) : Lq f x0 (r + 1) = Lq f x0 r := by
 have : (Lq f x0 r)[r]? = none := List.getElem?_eq_none h
 simp only [Lq, this]
theorem Lq_one (r : Nat) : ∃ M, Lq f x0 (r + 1) = Lq f x0 r ++ M := by
 rcases Nat.lt_or_ge r (Lq f x0 r).length with h | h
 ·rw [Lq_step (List.getElem?_eq_getElem h)]
  exact extL_pre _ _
 ·rw [Lq_stop h]
  exact ⟨[], by simp⟩
theorem Lq_mono {r s : Nat} (h : r ≤ s) : ∃ M, Lq f x0 s = Lq f x0 r ++ M := by
 obtain ⟨d, rfl⟩ := Nat.le.dest h
 clear h
 induction d with
 | zero => exact ⟨[], by simp⟩
 | succ d ih =>
  obtain ⟨M, hM⟩ := ih
  obtain ⟨N, hN⟩ := Lq_one (f := f) (x0 := x0) (r + d)
  exact ⟨M ++ N, by rw [show r + (d + 1) = r + d + 1 from rfl, hN, hM, List.append_assoc]⟩
theorem Lq_le {r s : Nat} (h : r ≤ s) : (Lq f x0 r).length ≤ (Lq f x0 s).length := by
 obtain ⟨M, hM⟩ := Lq_mono (f := f) (x0 := x0) h
 rw [hM, List.length_append]
 omega
theorem Lq_mem {r s : Nat} (h : r ≤ s) {x : α} (hx : x ∈ Lq f x0 r) : x ∈ Lq f x0 s := by
 obtain ⟨M, hM⟩ := Lq_mono (f := f) (x0 := x0) h
 rw [hM]
 exact List.mem_append_left _ hx
theorem Lq_get {r s i : Nat} (h : r ≤ s) {x : α} (hx : (Lq f x0 r)[i]? = some x) : (Lq f x0 s)[i]? = some x := by
 obtain ⟨M, hM⟩ := Lq_mono (f := f) (x0 := x0) h
 rw [hM, List.getElem?_append_left (List.getElem?_eq_some_iff.1 hx).1]
 exact hx
theorem Lq_nodup : ∀ r, (Lq f x0 r).Nodup
 | 0 => by simp [Lq]
 | r + 1 => by
  rcases Nat.lt_or_ge r (Lq f x0 r).length with h | h
  ·rw [Lq_step (List.getElem?_eq_getElem h)]
   exact extL_nodup _ _ (Lq_nodup r)
  ·rw [Lq_stop h]
   exact Lq_nodup r
theorem Lq_pos (r : Nat) : 0 < (Lq f x0 r).length := by
 have := Lq_le (f := f) (x0 := x0) (Nat.zero_le r)
 simp only [Lq, List.length_cons, List.length_nil] at this
 omega
theorem Lq_all {p : α → Prop} (h0 : p x0) (hf : ∀ x, p x → ∀ y ∈ f x, p y) : ∀ r, ∀ x ∈ Lq f x0 r, p x
 | 0, x, hx => by
  obtain rfl := List.mem_singleton.1 hx
  exact h0
 | r + 1, x, hx => by
  rcases Nat.lt_or_ge r (Lq f x0 r).length with h | h
  ·rw [Lq_step (List.getElem?_eq_getElem h)] at hx
   rcases (extL_mem _ _).1 hx with h1 | h1
   ·exact Lq_all h0 hf r x h1
   ·exact hf _ (Lq_all h0 hf r _ (List.getElem_mem h)) x h1
  ·rw [Lq_stop h] at hx
   exact Lq_all h0 hf r x hx
theorem Lq_closed {r i : Nat} {x : α} (hi : i < r) (hx : (Lq f x0 i)[i]? = some x) : ∀ y ∈ f x, y ∈ Lq f x0 r := fun y hy => by
 refine Lq_mem (r := i + 1) hi ?_
 rw [Lq_step hx]
 exact (extL_mem _ _).2 (.inr hy)
def Fit (f : α → List α) (x0 : α) (n : Nat) : Prop := (Lq f x0 n).length = n
theorem fit_after {n r : Nat} (h : Fit f x0 n) (hr : n ≤ r) : Lq f x0 r = Lq f x0 n := by
 obtain ⟨d, rfl⟩ := Nat.le.dest hr
 clear hr
 induction d with
 | zero => rfl
 | succ d ih =>
  rw [show n + (d + 1) = n + d + 1 from rfl, Lq_stop, ih]
  rw [ih]
  unfold Fit at h
  omega
theorem fit_most {n : Nat} (h : Fit f x0 n) (r : Nat) : (Lq f x0 r).length ≤ n := by
 rcases Nat.le_total r n with h1 | h1
 ·have := Lq_le (f := f) (x0 := x0) h1
  unfold Fit at h
  omega
 ·rw [fit_after h h1]
  exact Nat.le_of_eq h
theorem fit_one {m n : Nat} (h : Fit f x0 m) (k : Fit f x0 n) : m = n := by
 have h1 := fit_most h n
 have h2 := fit_most k m
 unfold Fit at h k
 omega
def rowsI (f : α → List α) (L : List α) (m : Nat) : List (List Int) := (L.take m).map fun x => rowI L (f x)
theorem rowsI_len {L : List α} {m : Nat} (h : m ≤ L.length) : (rowsI f L m).length = m := by simp [rowsI]; omega
theorem rowsI_next {r : Nat} {x : α} (hx : (Lq f x0 r)[r]? = some x) : rowsI f (Lq f x0 (r + 1)) (r + 1) = rowsI f (Lq f x0 r) r ++ [rowI (Lq f x0 (r + 1)) (f x)] := by
 obtain ⟨M, hM⟩ := Lq_one (f := f) (x0 := x0) r
 obtain ⟨hr, hxe⟩ := List.getElem?_eq_some_iff.1 hx
 have h1 : (Lq f x0 (r + 1)).take (r + 1) = (Lq f x0 r).take r ++ [x] := by
  rw [hM, List.take_append_of_le_length (by omega), List.take_succ_eq_append_getElem hr, hxe]
 unfold rowsI
 rw [h1, List.map_append, List.map_cons, List.map_nil]
 congr 1
 refine List.map_congr_left fun y hy => ?_
 rw [hM]
 refine rowI_app fun z hz => ?_
 obtain ⟨i, hi, hiy⟩ := List.getElem_of_mem hy
 rw [List.length_take] at hi
 have hir : i < r := by omega
 rw [List.getElem_take] at hiy
 have hil : i < (Lq f x0 i).length := by
  refine Nat.lt_of_not_le fun hle => ?_
  have key : ∀ d, Lq f x0 (i + d) = Lq f x0 i := by
   intro d
   induction d with
   | zero => rfl
   | succ d ih => rw [show i + (d + 1) = i + d + 1 from rfl, Lq_stop (by rw [ih]; omega), ih]
  have e := key (r - i)
  rw [show i + (r - i) = r from by omega] at e
  rw [e] at hr
  omega
 have e1 : (Lq f x0 i)[i]? = some (Lq f x0 i)[i] := List.getElem?_eq_getElem hil
 have e2 := Lq_get (Nat.le_of_lt hir) e1
 rw [List.getElem?_eq_getElem (by omega), hiy] at e2
 injection e2 with e2
 rw [← e2] at e1
 exact Lq_closed hir e1 z hz
def endsI (p : α → Bool) (L : List α) (m : Nat) : List Bool := (L.take m).map p
theorem endsI_len {p : α → Bool} {L : List α} {m : Nat} (h : m ≤ L.length) : (endsI p L m).length = m := by simp [endsI]; omega
theorem endsI_next {p : α → Bool} {r : Nat} {x : α} (hx : (Lq f x0 r)[r]? = some x) : endsI p (Lq f x0 (r + 1)) (r + 1) = endsI p (Lq f x0 r) r ++ [p x] := by
 obtain ⟨M, hM⟩ := Lq_one (f := f) (x0 := x0) r
 obtain ⟨hr, hxe⟩ := List.getElem?_eq_some_iff.1 hx
 have h1 : (Lq f x0 (r + 1)).take (r + 1) = (Lq f x0 r).take r ++ [x] := by
  rw [hM, List.take_append_of_le_length (by omega), List.take_succ_eq_append_getElem hr, hxe]
 unfold endsI
 rw [h1, List.map_append, List.map_cons, List.map_nil]
theorem Lq_turn {r : Nat} (h : ∀ i, i < r → i < (Lq f x0 i).length) : r ≤ (Lq f x0 r).length := by
 cases r with
 | zero => exact Nat.zero_le _
 | succ r =>
  have h1 := h r (Nat.lt_succ_self r)
  have h2 := Lq_le (f := f) (x0 := x0) (Nat.le_succ r)
  exact Nat.le_trans h1 h2
end
theorem inf_int : (Tryz.prog.info? 3).map (fun i => (i.zero, i.size, i.bytes)) = some (some (.int .i64 0), 1, 8) := by kernel_rfl
end Go.Proofs.YteadghoojeehlaaGreatDoor
