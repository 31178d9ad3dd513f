/-
  Texts of this proof, put together: (SpA) Which parts of a text are words: tables, as plain facts. No conditions; no statement is proved here. (SpB) How tables of bools lie in memory: rows of rows of the call's own. No statement is proved here. (SpC) The document's 'join' of two tables of bools. No statement is proved here.
-/
import Derived.Test.YtopnpdobcagcgaaQBD
namespace Go.Proofs.Ytopnpdobcagcgaa
open Go.RowKit
set_option linter.unusedSimpArgs false
set_option linter.unusedVariables false
noncomputable def spB (P : List UInt8 → Prop) (W : List UInt8) (i j : Nat) : Bool := @decide (i ≤ j ∧ j ≤ W.length ∧ P (seg W i j)) (Classical.propDecidable _)
theorem spB_iff {P : List UInt8 → Prop} {W : List UInt8} {i j : Nat} : spB P W i j = true ↔ i ≤ j ∧ j ≤ W.length ∧ P (seg W i j) := by
 unfold spB
 exact @decide_eq_true_iff _ (Classical.propDecidable _)
theorem spB_congr {P Q : List UInt8 → Prop} (W : List UInt8) (h : ∀ u, P u ↔ Q u) : spB P W = spB Q W := by
 funext i j
 rw [Bool.eq_iff_iff, spB_iff, spB_iff, h]
theorem spB_lg (t : T) (W : List UInt8) : spB (Lg t) W 0 W.length = lgB t W := by
 rw [Bool.eq_iff_iff, spB_iff, lgB_iff, seg_all]
 exact ⟨fun h => h.2.2, fun h => ⟨Nat.zero_le _, Nat.le_refl _, h⟩⟩
theorem spB_no {P : List UInt8 → Prop} {W : List UInt8} (h : ∀ u, ¬ P u) : spB P W = fun _ _ => false := by
 funext i j
 cases he : spB P W i j with
 | false => rfl
 | true => exact absurd (spB_iff.1 he).2.2 (h _)
theorem spB_nil {W : List UInt8} {i j : Nat} (hj : j ≤ W.length) : spB (fun u => u = []) W i j = decide (i = j) := by
 rw [Bool.eq_iff_iff, spB_iff, decide_eq_true_eq]
 constructor
 ·rintro ⟨a, b, c⟩; exact seg_nil a b c
 ·rintro rfl; exact ⟨Nat.le_refl _, hj, seg_same W i⟩
theorem spB_one {s : Nat → Bool} {W : List UInt8} {i j : Nat} : spB (fun u => ∃ b : UInt8, u = [b] ∧ s b.toNat = true) W i j = (decide (j = i + 1) && hitP s W i) := by
 rw [Bool.eq_iff_iff, spB_iff, Bool.and_eq_true, decide_eq_true_eq, hitP_iff]
 constructor
 ·rintro ⟨a, b, c⟩; exact (seg_one a b).1 c
 ·rintro ⟨rfl, b, h, hs⟩
  have h1 := (List.getElem?_eq_some_iff.1 h).1
  exact ⟨by omega, by omega, (seg_one (by omega) (by omega)).2 ⟨rfl, b, h, hs⟩⟩
theorem spB_or {P Q : List UInt8 → Prop} {W : List UInt8} (i j : Nat) : spB (fun u => P u ∨ Q u) W i j = (spB P W i j || spB Q W i j) := by
 rw [Bool.eq_iff_iff, Bool.or_eq_true, spB_iff, spB_iff, spB_iff]
 constructor
 ·rintro ⟨a, b, c | c⟩
  ·exact .inl ⟨a, b, c⟩
  ·exact .inr ⟨a, b, c⟩
 ·rintro (⟨a, b, c⟩ | ⟨a, b, c⟩)
  ·exact ⟨a, b, .inl c⟩
  ·exact ⟨a, b, .inr c⟩
def bhJ (f u : Nat → Nat → Bool) (i j q : Nat) : Bool := (List.range j).any fun k => (decide (i ≤ k ∧ k ≤ q) && f i k) && u k q
theorem bhJ_succ (f u : Nat → Nat → Bool) (i j q : Nat) : bhJ f u i (j + 1) q = (bhJ f u i j q || ((decide (i ≤ j ∧ j ≤ q) && f i j) && u j q)) := by
 unfold bhJ
 rw [List.range_succ, List.any_append]
 simp
theorem bhJ_iff {f u : Nat → Nat → Bool} {i j q : Nat} : bhJ f u i j q = true ↔ ∃ k, k < j ∧ i ≤ k ∧ k ≤ q ∧ f i k = true ∧ u k q = true := by
 unfold bhJ
 rw [List.any_eq_true]
 constructor
 ·rintro ⟨k, hk, h⟩
  rw [Bool.and_eq_true, Bool.and_eq_true, decide_eq_true_eq] at h
  exact ⟨k, List.mem_range.1 hk, h.1.1.1, h.1.1.2, h.1.2, h.2⟩
 ·rintro ⟨k, h1, h2, h3, h4, h5⟩
  refine ⟨k, List.mem_range.2 h1, ?_⟩
  rw [Bool.and_eq_true, Bool.and_eq_true, decide_eq_true_eq]
  exact ⟨⟨⟨h2, h3⟩, h4⟩, h5⟩
theorem bhJ_start (f u : Nat → Nat → Bool) (i : Nat) : bhJ f u i i = fun _ => false := by
 funext q
 cases h : bhJ f u i i q with
 | false => rfl
 | true => obtain ⟨k, h1, h2, _⟩ := bhJ_iff.1 h; omega
theorem bhJ_not {f u : Nat → Nat → Bool} {i j : Nat} (h : f i j = false) : bhJ f u i (j + 1) = bhJ f u i j := by
 funext q
 rw [bhJ_succ, h]
 simp
theorem bhJ_low {f u : Nat → Nat → Bool} {i j q : Nat} (h : q < j) : bhJ f u i (j + 1) q = bhJ f u i j q := by
 rw [bhJ_succ, decide_eq_false (by omega)]
 simp
theorem bhJ_at {f u : Nat → Nat → Bool} {i j q : Nat} (hi : i ≤ j) (hj : j ≤ q) (h : f i j = true) : bhJ f u i (j + 1) q = (bhJ f u i j q || u j q) := by
 rw [bhJ_succ, decide_eq_true (⟨hi, hj⟩ : i ≤ j ∧ j ≤ q), h]
 simp
theorem bhJ_words {P Q : List UInt8 → Prop} {W : List UInt8} {i q : Nat} (hq : q ≤ W.length) : bhJ (spB P W) (spB Q W) i (W.length + 1) q = spB (fun x => ∃ u v, x = u ++ v ∧ P u ∧ Q v) W i q := by
 rw [Bool.eq_iff_iff, bhJ_iff, spB_iff]
 constructor
 ·rintro ⟨k, h1, h2, h3, h4, h5⟩
  exact ⟨by omega, hq, _, _, seg_app h2 h3, (spB_iff.1 h4).2.2, (spB_iff.1 h5).2.2⟩
 ·rintro ⟨h1, _, h2⟩
  obtain ⟨k, a, b, c, d⟩ := (seg_two h1 hq).1 h2
  exact ⟨k, by omega, a, b, spB_iff.2 ⟨a, by omega, c⟩, spB_iff.2 ⟨b, hq, d⟩⟩
def stJ (u : Nat → Nat → Bool) (i : Nat) : Nat → Nat → Bool
 | 0, q => decide (q = i)
 | j + 1, q => stJ u i j q || ((decide (i ≤ j ∧ j < q) && stJ u i j j) && u j q)
theorem stJ_iff {u : Nat → Nat → Bool} {i q : Nat} : ∀ j, stJ u i j q = true ↔ q = i ∨ ∃ k, k < j ∧ i ≤ k ∧ k < q ∧ stJ u i k k = true ∧ u k q = true
 | 0 => by simp [stJ]
 | j + 1 => by
  rw [stJ, Bool.or_eq_true, Bool.and_eq_true, Bool.and_eq_true, decide_eq_true_eq, stJ_iff j]
  constructor
  ·rintro ((h | ⟨k, h1, h2⟩) | ⟨⟨⟨h1, h2⟩, h3⟩, h4⟩)
   ·exact .inl h
   ·exact .inr ⟨k, by omega, h2⟩
   ·exact .inr ⟨j, by omega, h1, h2, h3, h4⟩
  ·rintro (h | ⟨k, h1, h2, h3, h4, h5⟩)
   ·exact .inl (.inl h)
   rcases Nat.lt_or_ge k j with h | h
   ·exact .inl (.inr ⟨k, h, h2, h3, h4, h5⟩)
   ·obtain rfl : k = j := by omega
    exact .inr ⟨⟨⟨h2, h3⟩, h4⟩, h5⟩
theorem stJ_start (u : Nat → Nat → Bool) (i : Nat) : stJ u i i = fun q => decide (q = i) := by
 funext q
 rw [Bool.eq_iff_iff, stJ_iff, decide_eq_true_eq]
 constructor
 ·rintro (h | ⟨k, h1, h2, _⟩)
  ·exact h
  ·omega
 ·exact .inl
theorem stJ_low {u : Nat → Nat → Bool} {i j q : Nat} (h : q ≤ j) : stJ u i (j + 1) q = stJ u i j q := by
 rw [stJ, decide_eq_false (by omega)]
 simp
theorem stJ_not {u : Nat → Nat → Bool} {i j : Nat} (h : stJ u i j j = false) : stJ u i (j + 1) = stJ u i j := by
 funext q
 rw [stJ, h]
 simp
theorem stJ_at {u : Nat → Nat → Bool} {i j q : Nat} (hi : i ≤ j) (hj : j < q) (h : stJ u i j j = true) : stJ u i (j + 1) q = (stJ u i j q || u j q) := by
 rw [stJ, decide_eq_true (⟨hi, hj⟩ : i ≤ j ∧ j < q), h]
 simp
theorem stJ_words {P : List UInt8 → Prop} {W : List UInt8} {i : Nat} : ∀ (m q : Nat), q ≤ m → q ≤ W.length → ∀ j, q ≤ j → (stJ (spB P W) i j q = true ↔ i ≤ q ∧ StarL P (seg W i q))
 | m, q, hm, hq, j, hj => by
  rw [stJ_iff]
  constructor
  ·rintro (rfl | ⟨k, h1, h2, h3, h4, h5⟩)
   ·exact ⟨Nat.le_refl _, by rw [seg_same]; exact .nil⟩
   ·have h6 : k < m := by omega
    match m, h6 with
    | m + 1, h6 =>
     have ih := (stJ_words m k (by omega) (by omega) k (Nat.le_refl _)).1 h4
     exact ⟨by omega, (star_seg (by omega) hq).2 (.inr ⟨k, h2, h3, ih.2, (spB_iff.1 h5).2.2⟩)⟩
  ·rintro ⟨h1, h2⟩
   rcases (star_seg h1 hq).1 h2 with h | ⟨k, a, b, c, d⟩
   ·exact .inl h.symm
   ·have h6 : k < m := by omega
    match m, h6 with
    | m + 1, h6 =>
     have ih := (stJ_words m k (by omega) (by omega) k (Nat.le_refl _)).2 ⟨a, c⟩
     exact .inr ⟨k, by omega, a, b, ih, spB_iff.2 ⟨by omega, hq, d⟩⟩
theorem stJ_star {P : List UInt8 → Prop} {W : List UInt8} {i q : Nat} (hq : q ≤ W.length) : stJ (spB P W) i (W.length + 1) q = spB (StarL P) W i q := by
 rw [Bool.eq_iff_iff, stJ_words q q (Nat.le_refl _) hq _ (by omega), spB_iff]
 exact ⟨fun h => ⟨h.1, hq, h.2⟩, fun h => ⟨h.1, h.2.2⟩⟩
/-! ### by kinds -/
theorem sp_k2 {t : T} (h : t.kind = 2) {W : List UInt8} {i j : Nat} (hj : j ≤ W.length) : spB (Lg t) W i j = decide (i = j) := by
 rw [spB_congr W fun u => lg_k2 h u, spB_nil hj]
theorem sp_k3 (s : Nat → Bool) (l : List T) {W : List UInt8} {i j : Nat} : spB (Lg (.node 3 s l)) W i j = (decide (j = i + 1) && hitP s W i) := by
 rw [spB_congr W fun u => lg_set, spB_one]
theorem sp_altJ {l : List T} {j : Nat} {u : T} (h : l[j]? = some u) (W : List UInt8) (p q : Nat) : spB (LgA (l.take (j + 1))) W p q = (spB (LgA (l.take j)) W p q || spB (Lg u) W p q) := by
 obtain ⟨hi, rfl⟩ := List.getElem?_eq_some_iff.1 h
 rw [← spB_or]
 refine congrFun (congrFun (spB_congr W fun x => ?_) p) q
 rw [List.take_succ_eq_append_getElem hi, lgA_mem, lgA_mem]
 simp only [List.mem_append, List.mem_singleton]
 constructor
 ·rintro ⟨t, h | rfl, hx⟩
  ·exact .inl ⟨t, h, hx⟩
  ·exact .inr hx
 ·rintro (⟨t, h, hx⟩ | hx)
  ·exact ⟨t, .inl h, hx⟩
  ·exact ⟨_, .inr rfl, hx⟩
theorem sp_alt0 (l : List T) (W : List UInt8) : spB (LgA (l.take 0)) W = fun _ _ => false := spB_no fun u h => by rw [List.take_zero] at h; exact h
theorem sp_alt5 (s : Nat → Bool) (l : List T) (W : List UInt8) : spB (Lg (.node 5 s l)) W = spB (LgA (l.take l.length)) W := by
 rw [List.take_length]
 exact spB_congr W fun u => lg_alt
theorem sp_catJ {l : List T} {j : Nat} {u : T} (h : l[j]? = some u) (W : List UInt8) {p q : Nat} (hq : q ≤ W.length) : bhJ (spB (LgC (l.take j)) W) (spB (Lg u) W) p (W.length + 1) q = spB (LgC (l.take (j + 1))) W p q := by
 obtain ⟨hi, rfl⟩ := List.getElem?_eq_some_iff.1 h
 rw [bhJ_words hq]
 refine congrFun (congrFun (spB_congr W fun x => ?_) p) q
 rw [List.take_succ_eq_append_getElem hi, lgC_app]
 constructor
 ·rintro ⟨u, v, h, a, b⟩; exact ⟨u, v, h, a, (lgC_one _ _).2 b⟩
 ·rintro ⟨u, v, h, a, b⟩; exact ⟨u, v, h, a, (lgC_one _ _).1 b⟩
theorem sp_cat0 (l : List T) {W : List UInt8} {p q : Nat} (hq : q ≤ W.length) : spB (LgC (l.take 0)) W p q = decide (p = q) := by
 rw [← spB_nil hq]
 refine congrFun (congrFun (spB_congr W fun x => ?_) p) q
 rw [List.take_zero]
 rfl
theorem sp_cat4 (s : Nat → Bool) (l : List T) (W : List UInt8) : spB (Lg (.node 4 s l)) W = spB (LgC (l.take l.length)) W := by
 rw [List.take_length]
 exact spB_congr W fun u => lg_cat
theorem sp_star1 (s : Nat → Bool) (x : T) {W : List UInt8} {p q : Nat} (hq : q ≤ W.length) : stJ (spB (Lg x) W) p (W.length + 1) q = spB (Lg (.node 6 s [x])) W p q := by
 rw [stJ_star hq]
 refine (congrFun (congrFun (spB_congr W fun u => ?_) p) q)
 rw [lg_star]
 have h : LgO [x] = Lg x := by funext v; exact propext (lgO_one x v)
 rw [h]
theorem sp_star0 (s : Nat → Bool) (l : List T) (hl : l.length ≠ 1) {W : List UInt8} {p q : Nat} (hq : q ≤ W.length) : spB (Lg (.node 6 s l)) W p q = decide (p = q) := by
 rw [← spB_nil hq]
 refine congrFun (congrFun (spB_congr W fun u => ?_) p) q
 rw [lg_star]
 have hno : ∀ v, ¬ LgO l v := fun v h => by
  cases l with
  | nil => exact h
  | cons t r =>
   have h : r.length = 0 ∧ Lg t v := h
   exact hl (by rw [List.length_cons, h.1])
 constructor
 ·intro h
  induction h with
  | nil => rfl
  | app hu _ _ => exact absurd hu (hno _)
 ·rintro rfl; exact .nil
theorem sp_other {k : Int} (s : Nat → Bool) (l : List T) (W : List UInt8) (h2 : k ≠ 2) (h3 : k ≠ 3) (h4 : k ≠ 4) (h5 : k ≠ 5) (h6 : k ≠ 6) : spB (Lg (.node k s l)) W = fun _ _ => false :=
 spB_no fun u h => by
  rw [Lg, if_neg h2, if_neg h3, if_neg h4, if_neg h5, if_neg h6] at h
  exact h.elim
end Go.Proofs.Ytopnpdobcagcgaa
namespace Go.Proofs.Ytopnpdobcagcgaa
open Go.RowKit
set_option linter.unusedSimpArgs false
set_option linter.unusedVariables false
def bcs (n : Nat) (f : Nat → Bool) : List Value := (List.range n).map fun q => .bool (f q)
theorem bcs_len (n : Nat) (f : Nat → Bool) : (bcs n f).length = n := by simp [bcs]
theorem bcs_get {n q : Nat} (f : Nat → Bool) (h : q < n) : (bcs n f)[q]? = some (.bool (f q)) := by simp [bcs, h]
theorem bcs_congr {n : Nat} {f g : Nat → Bool} (h : ∀ q, q < n → f q = g q) : bcs n f = bcs n g := by
 unfold bcs
 exact List.map_congr_left fun q hq => by rw [h q (List.mem_range.1 hq)]
theorem bcs_no (n : Nat) : List.replicate n (Value.bool false) = bcs n fun _ => false := by
 apply List.ext_getElem?
 intro q
 by_cases h : q < n
 ·rw [bcs_get _ h]; simp [h]
 ·rw [List.getElem?_eq_none (by simp; omega), List.getElem?_eq_none (by rw [bcs_len]; omega)]
def updB (f : Nat → Bool) (q : Nat) (b : Bool) : Nat → Bool := fun i => if i = q then b else f i
theorem bcs_set (n q : Nat) (f : Nat → Bool) (b : Bool) : (bcs n f).set q (.bool b) = bcs n (updB f q b) := by
 apply List.ext_getElem?
 intro i
 by_cases h : i < n
 ·rw [bcs_get _ h]
  unfold updB
  by_cases hi : i = q
  ·subst hi
   rw [List.getElem?_set_self (by rw [bcs_len]; exact h), if_pos rfl]
  ·rw [List.getElem?_set_ne (by omega), bcs_get _ h, if_neg hi]
 ·rw [List.getElem?_eq_none (by rw [List.length_set, bcs_len]; omega), List.getElem?_eq_none (by rw [bcs_len]; omega)]
def tops (n m : Nat) (bs : Nat → Nat) : List Value := (List.range n).map fun p => if p < m then .slice (some ⟨bs p, 0, none⟩) n n else .slice none 0 0
theorem tops_len (n m : Nat) (bs : Nat → Nat) : (tops n m bs).length = n := by simp [tops]
theorem tops_get {n m p : Nat} (bs : Nat → Nat) (h : p < n) : (tops n m bs)[p]? = some (if p < m then .slice (some ⟨bs p, 0, none⟩) n n else .slice none 0 0) := by simp [tops, h]
theorem tops_no (n : Nat) (bs : Nat → Nat) : List.replicate n (Value.slice none 0 0) = tops n 0 bs := by
 apply List.ext_getElem?
 intro q
 by_cases h : q < n
 ·rw [tops_get _ h]; simp [h]
 ·rw [List.getElem?_eq_none (by simp; omega), List.getElem?_eq_none (by rw [tops_len]; omega)]
def updN (bs : Nat → Nat) (m b : Nat) : Nat → Nat := fun i => if i = m then b else bs i
theorem tops_set (n m : Nat) (bs : Nat → Nat) (b : Nat) : (tops n m bs).set m (.slice (some ⟨b, 0, none⟩) n n) = tops n (m + 1) (updN bs m b) := by
 apply List.ext_getElem?
 intro i
 by_cases h : i < n
 ·rw [tops_get _ h]
  unfold updN
  by_cases hi : i = m
  ·subst hi
   rw [List.getElem?_set_self (by rw [tops_len]; exact h), if_pos (by omega), if_pos rfl]
  ·rw [List.getElem?_set_ne (by omega), tops_get _ h, if_neg hi]
   by_cases h2 : i < m
   ·rw [if_pos h2, if_pos (by omega)]
   ·rw [if_neg h2, if_neg (by omega)]
 ·rw [List.getElem?_eq_none (by rw [List.length_set, tops_len]; omega), List.getElem?_eq_none (by rw [tops_len]; omega)]
structure Tbl (w : World) (B g : Nat) (bs : Nat → Nat) (n m : Nat) (f : Nat → Nat → Bool) : Prop where
 top : Blk w g 54 (tops n m bs)
 row : ∀ p, p < m → Blk w (bs p) 4 (bcs n (f p))
 base : B ≤ g
 bbase : ∀ p, p < m → B ≤ bs p
 ne : ∀ p, p < m → bs p ≠ g
 inj : ∀ p q, p < m → q < m → bs p = bs q → p = q
def upd2 (f : Nat → Nat → Bool) (p q : Nat) (b : Bool) : Nat → Nat → Bool := fun i j => if i = p then updB (f p) q b j else f i j
section
variable {w w' : World} {B g n m p q : Nat} {bs : Nat → Nat} {f f' : Nat → Nat → Bool}
theorem Tbl.stay (h : Tbl w B g bs n m f) (hg : w'.heap[g]? = w.heap[g]?) (hb : ∀ p, p < m → w'.heap[bs p]? = w.heap[bs p]?) : Tbl w' B g bs n m f :=
 ⟨hg.trans h.top, fun p hp => (hb p hp).trans (h.row p hp), h.base, h.bbase, h.ne, h.inj⟩
theorem Tbl.below (h : Tbl w B g bs n m f) (hb : Below w.heap.size w w') : Tbl w' B g bs n m f :=
 h.stay (hb.block _ h.top.lt) fun p hp => hb.block _ (h.row p hp).lt
theorem Tbl.drew (h : Tbl w B g bs n m f) : Tbl w.drew B g bs n m f := ⟨h.top, h.row, h.base, h.bbase, h.ne, h.inj⟩
theorem Tbl.congr (h : Tbl w B g bs n m f) (he : ∀ p q, p < m → q < n → f p q = f' p q) : Tbl w B g bs n m f' :=
 ⟨h.top, fun p hp => by rw [← bcs_congr (fun q hq => he p q hp hq)]; exact h.row p hp, h.base, h.bbase, h.ne, h.inj⟩
theorem Tbl.mono {B' : Nat} (h : Tbl w B g bs n m f) (hB : B' ≤ B) : Tbl w B' g bs n m f :=
 ⟨h.top, h.row, Nat.le_trans hB h.base, fun p hp => Nat.le_trans hB (h.bbase p hp), h.ne, h.inj⟩
theorem Tbl.at_ (h : Tbl w B g bs n m f) (hp : p < n) (hm : p < m) : w.cell? ⟨g, p, none⟩ = some (.slice (some ⟨bs p, 0, none⟩) n n) := by
 rw [h.top.cell, tops_get _ hp, if_pos hm]
theorem Tbl.nil_ (h : Tbl w B g bs n m f) (hp : p < n) (hm : ¬ p < m) : w.cell? ⟨g, p, none⟩ = some (.slice none 0 0) := by
 rw [h.top.cell, tops_get _ hp, if_neg hm]
theorem Tbl.cell (h : Tbl w B g bs n m f) (hp : p < m) (hq : q < n) : w.cell? ⟨bs p, q, none⟩ = some (.bool (f p q)) := by
 rw [(h.row p hp).cell, bcs_get _ hq]
theorem Tbl.put (h : Tbl w B g bs n m f) (hp : p < m) (q : Nat) (b : Bool) : Tbl (w.setCell ⟨bs p, q, none⟩ (.bool b)) B g bs n m (upd2 f p q b) := by
 refine ⟨h.top.far (p := ⟨bs p, q, none⟩) (h.ne p hp).symm _, fun i hi => ?_, h.base, h.bbase, h.ne, h.inj⟩
 by_cases hip : i = p
 ·subst hip
  have := (h.row i hi).set q (.bool b)
  rw [bcs_set] at this
  have e : upd2 f i q b i = updB (f i) q b := by funext j; unfold upd2; rw [if_pos rfl]
  rw [e]
  exact this
 ·have e : upd2 f p q b i = f i := by funext j; unfold upd2; rw [if_neg hip]
  rw [e]
  exact (h.row i hi).far (p := ⟨bs p, q, none⟩) (fun he => hip (h.inj i p hi hp he)) _
theorem Tbl.new (h : Blk w g 54 (List.replicate n (.slice none 0 0))) (hB : B ≤ g) (bs : Nat → Nat) (f : Nat → Nat → Bool) : Tbl w B g bs n 0 f :=
 ⟨by rw [tops_no n bs] at h; exact h, fun p hp => absurd hp (Nat.not_lt_zero p), hB, fun p hp => absurd hp (Nat.not_lt_zero p), fun p hp => absurd hp (Nat.not_lt_zero p), fun p q hp => absurd hp (Nat.not_lt_zero p)⟩
theorem Tbl.more (h : Tbl w B g bs n m f) (hb : Below w.heap.size w w') (hk : Blk w' w.heap.size 4 (List.replicate n (.bool false))) (hf : ∀ q, f m q = false) :
  Tbl (w'.setCell ⟨g, m, none⟩ (.slice (some ⟨w.heap.size, 0, none⟩) n n)) B g (updN bs m w.heap.size) n (m + 1) f := by
 have hlt : ∀ p, p < m → bs p < w.heap.size := fun p hp => (h.row p hp).lt
 have hg : g < w.heap.size := h.top.lt
 have hu : ∀ p, p < m → updN bs m w.heap.size p = bs p := fun p hp => by unfold updN; rw [if_neg (by omega)]
 have hum : updN bs m w.heap.size m = w.heap.size := by unfold updN; rw [if_pos rfl]
 have hcase : ∀ p, p < m + 1 → p < m ∨ p = m := fun p hp => by omega
 have h1 := h.below hb
 refine ⟨?_, fun p hp => ?_, h.base, fun p hp => ?_, fun p hp => ?_, fun p q hp hq he => ?_⟩
 ·have := h1.top.set m (.slice (some ⟨w.heap.size, 0, none⟩) n n)
  rw [tops_set] at this
  exact this
 ·rcases hcase p hp with hp | rfl
  ·rw [hu p hp]
   exact (h1.row p hp).far (p := ⟨g, m, none⟩) (h.ne p hp) _
  ·rw [hum, bcs_congr (g := fun _ => false) fun q _ => hf q, ← bcs_no]
   exact hk.far (p := ⟨g, p, none⟩) (by show w.heap.size ≠ g; omega) _
 ·rcases hcase p hp with hp | rfl
  ·rw [hu p hp]; exact h.bbase p hp
  ·rw [hum]; exact Nat.le_trans h.base (Nat.le_of_lt hg)
 ·rcases hcase p hp with hp | rfl
  ·rw [hu p hp]; exact h.ne p hp
  ·rw [hum]; omega
 ·rcases hcase p hp with hp | rfl <;> rcases hcase q hq with hq | rfl
  ·rw [hu p hp, hu q hq] at he; exact h.inj p q hp hq he
  ·rw [hu p hp, hum] at he; have := hlt p hp; omega
  ·rw [hu q hq, hum] at he; have := hlt q hq; omega
  ·rfl
theorem Tbl.frozen (h : Tbl w B g bs n m f) (hp : p < m) (q : Nat) : w.frozen? ⟨bs p, q, none⟩ = false := (h.row p hp).frozen q
theorem Tbl.tfrozen (h : Tbl w B g bs n m f) (p : Nat) : w.frozen? ⟨g, p, none⟩ = false := h.top.frozen p
theorem Tbl.apart {B2 g2 n2 m2 : Nat} {bs2 : Nat → Nat} {f2 : Nat → Nat → Bool} (h : Tbl w B g bs n m f) (h2 : Tbl w B2 g2 bs2 n2 m2 f2) (hp : p < m) (hn : bs p < B2) (q : Nat) (b : Bool) : Tbl (w.setCell ⟨bs p, q, none⟩ (.bool b)) B2 g2 bs2 n2 m2 f2 :=
 ⟨h2.top.far (p := ⟨bs p, q, none⟩) (by have := h2.base; show g2 ≠ bs p; omega) _, fun i hi => (h2.row i hi).far (p := ⟨bs p, q, none⟩) (by have := h2.bbase i hi; show bs2 i ≠ bs p; omega) _, h2.base, h2.bbase, h2.ne, h2.inj⟩
end
/-! ### single cells in regions that draw -/
theorem ld_b {ev : Operand → Value} {o : Oper} (x : Operand) (ho : o.op = .load 4 x) {p : Addr} (hx : ev x = .pointer (some p)) {b : Bool} {W : World} (hc : W.cell? p = some (.bool b)) : (execOp ev o).run Try.prog W = .ok (.value (.bool b)) W := by
 simp only [execOp, ho, hx]
 go_simp
theorem ld_bs {ev : Operand → Value} {o : Oper} (x : Operand) (ho : o.op = .load 54 x) {p : Addr} (hx : ev x = .pointer (some p)) {A : Option Addr} {n c : Nat} {W : World} (hc : W.cell? p = some (.slice A n c)) : (execOp ev o).run Try.prog W = .ok (.value (.slice A n c)) W := by
 simp only [execOp, ho, hx]
 go_simp
theorem wp_stB {o : Oper} {a : Act} {w : World} {K : Act → World → Prop} {Q : Exit → Act → World → Prop} (x y : Operand) (ho : o.op = .store 4 x y) (g q : Nat) (hx : a.eval x = .pointer (some ⟨g, q, none⟩)) (b : Bool) (hy : a.eval y = .bool b)
  (u : Value) (hc : w.cell? ⟨g, q, none⟩ = some u) (hf : w.frozen? ⟨g, q, none⟩ = false) (h : K (a.put o.dst undef) (w.setCell ⟨g, q, none⟩ (.bool b))) : o.wp Try.prog a w K Q := by
 unfold Oper.wp execOp
 simp only [ho, hx, hy]
 have hrun : (Instr.storeAt 4 (.pointer (some ⟨g, q, none⟩)) (.bool b)).run Try.prog w = .ok () (w.setCell ⟨g, q, none⟩ (.bool b)) := by
  go_simp
 simp only [Sem.run_bind, hrun, Result.andThen_ok, Sem.run_pure]
 exact h
theorem wp_ldB {o : Oper} {a : Act} {w : World} {K : Act → World → Prop} {Q : Exit → Act → World → Prop} (x : Operand) (ho : o.op = .load 4 x) {p : Addr} (hx : a.eval x = .pointer (some p)) {b : Bool} (hc : w.cell? p = some (.bool b)) (h : K (a.put o.dst (.bool b)) w) : o.wp Try.prog a w K Q := by
 unfold Oper.wp
 simp only [ld_b (ev := a.eval) x ho hx hc]
 exact h
theorem grown_set {w V : World} {g : Nat} (h : w.grownBy V (some g)) (q : Nat) (v : Value) : w.grownBy (V.setCell ⟨g, q, none⟩ v) (some g) :=
 ⟨h.os, h.tape, h.output, Nat.le_trans h.size (by simp [World.setCell]), fun k hk hn => (Below.heap_setCell V ⟨g, q, none⟩ v k (by rintro rfl; exact hn rfl)).trans (h.block k hk hn)⟩
theorem inf_bool : (Try.prog.info? 4).map (fun i => (i.zero, i.size, i.bytes)) = some (some (.bool false), 1, 1) := by kernel_rfl
theorem inf_bools : (Try.prog.info? 54).map (fun i => (i.zero, i.size, i.bytes)) = some (some (.slice none 0 0), 1, 24) := by kernel_rfl
end Go.Proofs.Ytopnpdobcagcgaa
namespace Go.Proofs.Ytopnpdobcagcgaa
open Go.RowKit
set_option linter.unusedSimpArgs false
set_option linter.unusedVariables false
def jnI (f u : Nat → Nat → Bool) (i j p q : Nat) : Bool := if p < i ∨ (p = i ∧ q < j) then f p q || u p q else f p q
theorem jnI_at (f u : Nat → Nat → Bool) (i j : Nat) : jnI f u i j i j = f i j := by unfold jnI; rw [if_neg (by omega)]
theorem jnI_put (f u : Nat → Nat → Bool) (i j : Nat) : upd2 (jnI f u i j) i j (f i j || u i j) = jnI f u i (j + 1) := by
 funext p q
 unfold upd2 updB jnI
 by_cases hp : p = i
 ·subst hp
  rw [if_pos rfl]
  by_cases hq : q = j
  ·subst hq
   rw [if_pos rfl, if_pos (.inr ⟨rfl, by omega⟩)]
  ·rw [if_neg hq]
   by_cases h : q < j
   ·rw [if_pos (.inr ⟨rfl, h⟩), if_pos (.inr ⟨rfl, by omega⟩)]
   ·rw [if_neg (by omega), if_neg (by omega)]
 ·rw [if_neg hp]
  by_cases h : p < i
  ·rw [if_pos (.inl h), if_pos (.inl h)]
  ·rw [if_neg (by omega), if_neg (by omega)]
theorem jnI_zero (f u : Nat → Nat → Bool) : jnI f u 0 0 = f := by funext p q; unfold jnI; rw [if_neg (by omega)]
theorem jnI_next {f u : Nat → Nat → Bool} {n i p q : Nat} (hq : q < n) : jnI f u i n p q = jnI f u (i + 1) 0 p q := by
 unfold jnI
 by_cases h : p < i ∨ (p = i ∧ q < n)
 ·rw [if_pos h, if_pos (by omega)]
 ·rw [if_neg h, if_neg (by omega)]
theorem jnI_all {f u : Nat → Nat → Bool} {n p q : Nat} (hp : p < n) : jnI f u n 0 p q = (f p q || u p q) := by unfold jnI; rw [if_pos (.inl hp)]
set_option maxHeartbeats 4000000 in
set_option maxRecDepth 1000000 in
theorem refJoin_any (n : Nat) (hn : n ≤ 1048576) {Bt gt Bu gu : Nat} {bt bu : Nat → Nat} {ft fu : Nat → Nat → Bool} (w : World) (ht : Tbl w Bt gt bt n n ft) (hu : Tbl w Bu gu bu n n fu) (hlt : ∀ p, p < n → bt p < Bu) :
  Calls Try.prog 54 #[.slice (some ⟨gt, 0, none⟩) n n, .slice (some ⟨gu, 0, none⟩) n n] w fun e w' => e = .returned (.tuple #[]) ∧ Tbl w' Bt gt bt n n (fun p q => ft p q || fu p q) ∧ Tbl w' Bu gu bu n n fu ∧ Below Bt w w' := by
 have HN := Lib.hid hn
 have T0 := Lib.hid ht
 have U0 := Lib.hid hu
 have HLT := Lib.hid hlt
 clear hn ht hu hlt
 go_enter Try.func54, Try.ntmps54
 go_wp2_with fail
 go_loopw [4] (fun iv wl => ∃ i : Nat, i ≤ n ∧ iv = .int .i64 (i : Int) ∧ Tbl wl Bt gt bt n n (jnI ft fu i 0) ∧ Tbl wl Bu gu bu n n fu ∧ Below Bt w wl) (fun iv _ => n - (intOf iv).toNat)
 case atStart => exact ⟨0, Nat.zero_le _, by simp, by rw [jnI_zero]; exact T0.out, U0.out, Below.refl _ _⟩
 case round =>
  obtain ⟨i, hi, rfl, hT, hU, hB⟩ := hrel
  have TQ := Lib.hid hT
  have UQ := Lib.hid hU
  have BQ := Lib.hid hB
  clear hT hU hB
  by_cases hin : i < n
  ·have i1 : (i : Int) < (n : Int) := Int.ofNat_lt.2 hin
   have HI := Lib.hid hin
   have HMI := Lib.hid (sub_next hin)
   have e3 := wrap_one i (by have := HN.out; omega)
   have e4 := wrap_one' i (by have := HN.out; omega)
   clear hi hin
   rename_i wq
   go_wp2_with fail
   go_loopw [5] (fun jv wl => ∃ j : Nat, j ≤ n ∧ jv = .int .i64 (j : Int) ∧ Tbl wl Bt gt bt n n (jnI ft fu i j) ∧ Tbl wl Bu gu bu n n fu ∧ Below Bt w wl) (fun jv _ => n - (intOf jv).toNat)
   case atStart => exact ⟨0, Nat.zero_le _, by simp, TQ.out, UQ.out, BQ.out⟩
   case round =>
    obtain ⟨j, hj, rfl, hT, hU, hB⟩ := hrel
    have TR := Lib.hid hT
    have UR := Lib.hid hU
    have BR := Lib.hid hB
    clear hT hU hB
    by_cases hjn : j < n
    ·have j1 : (j : Int) < (n : Int) := Int.ofNat_lt.2 hjn
     have HJ := Lib.hid hjn
     have HMJ := Lib.hid (sub_next hjn)
     have f3 := wrap_one j (by have := HN.out; omega)
     have f4 := wrap_one' j (by have := HN.out; omega)
     clear hj hjn
     obtain ⟨c, hc⟩ : ∃ c, ft i j = c := ⟨_, rfl⟩
     obtain ⟨u, hu⟩ : ∃ c, fu i j = c := ⟨_, rfl⟩
     have HUV := Lib.hid hu
     clear hu
     cases c with
     | true =>
      have HC := Lib.hid hc
      clear hc
      go_wp2_with fail
      refine sg_start (S := fun V => wr.grownBy V (some (bt i))) (by kernel_rfl) (grown_start _ _) (fun wd hwd => ?_)
      have hX : wr.grownBy wd (some (bt i)) := by rw [hwd]; exact grown_start _ _
      have TD := Lib.hid (show Tbl wd Bt gt bt n n (jnI ft fu i j) by rw [hwd]; exact TR.out.drew)
      have UD := Lib.hid (show Tbl wd Bu gu bu n n fu by rw [hwd]; exact UR.out.drew)
      have BD := Lib.hid (show Below Bt w wd by rw [hwd]; exact BR.out.drew)
      clear hwd
      have HT1 := Lib.hid (TR.out.at_ HI.out HI.out)
      have HU1 := Lib.hid (UR.out.at_ HI.out HI.out)
      have HU2 := Lib.hid (UR.out.cell HI.out HJ.out)
      have HT2 := Lib.hid (show wd.cell? ⟨bt i, j, none⟩ = some (.bool true) by rw [TD.out.cell HI.out HJ.out, jnI_at, HC.out])
      have HL1 := Lib.hid TR.out.top.lt
      have HL3 := Lib.hid UR.out.top.lt
      have HL4 := Lib.hid (UR.out.row i HI.out).lt
      have HE1 := Lib.hid (show some gt ≠ some (bt i) from fun h => TR.out.ne i HI.out (Option.some.inj h).symm)
      have HE3 := Lib.hid (show some gu ≠ some (bt i) from fun h => by have h1 := Option.some.inj h; have h2 := HLT.out i HI.out; have h3 := UR.out.base; omega)
      have HE4 := Lib.hid (show some (bu i) ≠ some (bt i) from fun h => by have h1 := Option.some.inj h; have h2 := HLT.out i HI.out; have h3 := UR.out.bbase i HI.out; omega)
      refine sg_take (i := 0) (oi := ⟨some 18, _, _, _, _, _⟩) (v := ?_) rfl (by kernel_rfl) (by kernel_rfl) (by kernel_rfl) (fun _ _ _ h => h) rfl hX ?_ ?_; rotate_left; (intro W hW; go_simp; try with_reducible rfl); simp only [Act.put, qA, qB, qC]
      refine sg_take (i := 1) (oi := ⟨some 19, _, _, _, _, _⟩) (v := ?_) rfl (by kernel_rfl) (by kernel_rfl) (by kernel_rfl) (fun _ _ _ h => h) rfl hX ?_ ?_; rotate_left; (intro W hW; go_simp; try with_reducible rfl); simp only [Act.put, qA, qB, qC]
      refine sg_take (i := 2) (oi := ⟨some 20, _, _, _, _, _⟩) (v := ?_) rfl (by kernel_rfl) (by kernel_rfl) (by kernel_rfl) (fun _ _ _ h => h) rfl hX ?_ ?_; rotate_left; (intro W hW; go_simp; try with_reducible rfl); simp only [Act.put, qA, qB, qC]
      refine sg_take (i := 3) (oi := ⟨some 21, _, _, _, _, _⟩) (v := .slice (some ⟨bt i, 0, none⟩) n n) rfl (by kernel_rfl) (by kernel_rfl) (by kernel_rfl) (fun _ _ _ h => h) rfl hX (fun V hV => ld_bs (.tmp 20) rfl rfl (grown_cell hV HL1.out HE1.out HT1.out)) ?_; simp only [Act.put, qA, qB, qC]
      refine sg_take (i := 4) (oi := ⟨some 22, _, _, _, _, _⟩) (v := ?_) rfl (by kernel_rfl) (by kernel_rfl) (by kernel_rfl) (fun _ _ _ h => h) rfl hX ?_ ?_; rotate_left; (intro W hW; go_simp; try with_reducible rfl); simp only [Act.put, qA, qB, qC]
      refine sg_take (i := 5) (oi := ⟨some 23, _, _, _, _, _⟩) (v := ?_) rfl (by kernel_rfl) (by kernel_rfl) (by kernel_rfl) (fun _ _ _ h => h) rfl hX ?_ ?_; rotate_left; (intro W hW; go_simp; try with_reducible rfl); simp only [Act.put, qA, qB, qC]
      refine sg_take (i := 6) (oi := ⟨some 24, _, _, _, _, _⟩) (v := ?_) rfl (by kernel_rfl) (by kernel_rfl) (by kernel_rfl) (fun _ _ _ h => h) rfl hX ?_ ?_; rotate_left; (intro W hW; go_simp; try with_reducible rfl); simp only [Act.put, qA, qB, qC]
      refine sg_take (i := 7) (oi := ⟨some 25, _, _, _, _, _⟩) (v := ?_) rfl (by kernel_rfl) (by kernel_rfl) (by kernel_rfl) (fun _ _ _ h => h) rfl hX ?_ ?_; rotate_left; (intro W hW; go_simp; try with_reducible rfl); simp only [Act.put, qA, qB, qC]
      refine sg_take (i := 8) (oi := ⟨some 26, _, _, _, _, _⟩) (v := .slice (some ⟨bt i, 0, none⟩) n n) rfl (by kernel_rfl) (by kernel_rfl) (by kernel_rfl) (fun _ _ _ h => h) rfl hX (fun V hV => ld_bs (.tmp 25) rfl rfl (grown_cell hV HL1.out HE1.out HT1.out)) ?_; simp only [Act.put, qA, qB, qC]
      refine sg_take (i := 9) (oi := ⟨some 27, _, _, _, _, _⟩) (v := ?_) rfl (by kernel_rfl) (by kernel_rfl) (by kernel_rfl) (fun _ _ _ h => h) rfl hX ?_ ?_; rotate_left; (intro W hW; go_simp; try with_reducible rfl); simp only [Act.put, qA, qB, qC]
      refine sg_take (i := 10) (oi := ⟨some 28, _, _, _, _, _⟩) (v := ?_) rfl (by kernel_rfl) (by kernel_rfl) (by kernel_rfl) (fun _ _ _ h => h) rfl hX ?_ ?_; rotate_left; (intro W hW; go_simp; try with_reducible rfl); simp only [Act.put, qA, qB, qC]
      refine sg_actB (i := 11) (o := ⟨some 29, _, _, _, _, _⟩) rfl (by kernel_rfl) rfl hX (fun K hK => ?_)
      refine wp_ldB (.tmp 28) rfl rfl HT2.out ?_
      refine hK _ _ hX ?_
      clear hK K
      (try simp only [Act.put, qA, qB, qC])
      refine sg_take (i := 12) (oi := ⟨some 30, _, _, _, _, _⟩) (v := ?_) rfl (by kernel_rfl) (by kernel_rfl) (by kernel_rfl) (fun _ _ _ h => h) rfl hX ?_ ?_; rotate_left; (intro W hW; go_simp; try with_reducible rfl); simp only [Act.put, qA, qB, qC]
      refine sg_skip (i := 13) (oi := ⟨some 31, _, _, _, _, _⟩) rfl (by kernel_rfl) (by kernel_rfl) (by kernel_rfl) (fun _ _ _ h => h) rfl hX ?_; simp only [Act.put, qA, qB, qC]
      refine sg_skip (i := 14) (oi := ⟨some 32, _, _, _, _, _⟩) rfl (by kernel_rfl) (by kernel_rfl) (by kernel_rfl) (fun _ _ _ h => h) rfl hX ?_; simp only [Act.put, qA, qB, qC]
      refine sg_skip (i := 15) (oi := ⟨some 33, _, _, _, _, _⟩) rfl (by kernel_rfl) (by kernel_rfl) (by kernel_rfl) (fun _ _ _ h => h) rfl hX ?_; simp only [Act.put, qA, qB, qC]
      refine sg_skip (i := 16) (oi := ⟨some 34, _, _, _, _, _⟩) rfl (by kernel_rfl) (by kernel_rfl) (by kernel_rfl) (fun _ _ _ h => h) rfl hX ?_; simp only [Act.put, qA, qB, qC]
      refine sg_skip (i := 17) (oi := ⟨some 35, _, _, _, _, _⟩) rfl (by kernel_rfl) (by kernel_rfl) (by kernel_rfl) (fun _ _ _ h => h) rfl hX ?_; simp only [Act.put, qA, qB, qC]
      refine sg_skip (i := 18) (oi := ⟨some 36, _, _, _, _, _⟩) rfl (by kernel_rfl) (by kernel_rfl) (by kernel_rfl) (fun _ _ _ h => h) rfl hX ?_; simp only [Act.put, qA, qB, qC]
      refine sg_skip (i := 19) (oi := ⟨some 37, _, _, _, _, _⟩) rfl (by kernel_rfl) (by kernel_rfl) (by kernel_rfl) (fun _ _ _ h => h) rfl hX ?_; simp only [Act.put, qA, qB, qC]
      refine sg_take (i := 20) (oi := ⟨some 38, _, _, _, _, _⟩) (v := ?_) rfl (by kernel_rfl) (by kernel_rfl) (by kernel_rfl) (fun _ _ _ h => h) rfl hX ?_ ?_; rotate_left; (intro W hW; go_simp; try with_reducible rfl); simp only [Act.put, qA, qB, qC]
      refine sg_take (i := 21) (oi := ⟨some 39, _, _, _, _, _⟩) (v := ?_) rfl (by kernel_rfl) (by kernel_rfl) (by kernel_rfl) (fun _ _ _ h => h) rfl hX ?_ ?_; rotate_left; (intro W hW; go_simp; try with_reducible rfl); simp only [Act.put, qA, qB, qC]
      refine sg_actB (i := 22) (o := ⟨none, _, _, _, _, _⟩) rfl (by kernel_rfl) rfl hX (fun K hK => ?_)
      refine wp_stB (.tmp 39) (.tmp 38) rfl (bt i) j rfl true rfl _ HT2.out (TD.out.frozen HI.out j) ?_
      refine hK _ _ (grown_set hX j _) ?_
      clear hK K
      refine wpAnyH_done (by kernel_rfl) ?_ _
      have TE := Lib.hid (TD.out.put HI.out j true)
      have UE := Lib.hid (TD.out.apart UD.out HI.out (HLT.out i HI.out) j true)
      have BE := Lib.hid (BD.out.setCell (p := ⟨bt i, j, none⟩) (TR.out.bbase i HI.out) (Value.bool true))
      have HV := Lib.hid (show (true : Bool) = (ft i j || fu i j) by rw [HC.out, HUV.out]; rfl)
      clear hX
      go_wp2_with fail
      refine ⟨⟨j + 1, HJ.out, by congr 1, ?_, UE.out, BE.out⟩, by simpa [intOf] using HMJ.out⟩
      rw [← jnI_put, ← HV.out]
      exact TE.out
     | false =>
      have HC := Lib.hid hc
      clear hc
      go_wp2_with fail
      refine sg_start (S := fun V => wr.grownBy V (some (bt i))) (by kernel_rfl) (grown_start _ _) (fun wd hwd => ?_)
      have hX : wr.grownBy wd (some (bt i)) := by rw [hwd]; exact grown_start _ _
      have TD := Lib.hid (show Tbl wd Bt gt bt n n (jnI ft fu i j) by rw [hwd]; exact TR.out.drew)
      have UD := Lib.hid (show Tbl wd Bu gu bu n n fu by rw [hwd]; exact UR.out.drew)
      have BD := Lib.hid (show Below Bt w wd by rw [hwd]; exact BR.out.drew)
      clear hwd
      have HT1 := Lib.hid (TR.out.at_ HI.out HI.out)
      have HU1 := Lib.hid (UR.out.at_ HI.out HI.out)
      have HU2 := Lib.hid (UR.out.cell HI.out HJ.out)
      have HT2 := Lib.hid (show wd.cell? ⟨bt i, j, none⟩ = some (.bool false) by rw [TD.out.cell HI.out HJ.out, jnI_at, HC.out])
      have HL1 := Lib.hid TR.out.top.lt
      have HL3 := Lib.hid UR.out.top.lt
      have HL4 := Lib.hid (UR.out.row i HI.out).lt
      have HE1 := Lib.hid (show some gt ≠ some (bt i) from fun h => TR.out.ne i HI.out (Option.some.inj h).symm)
      have HE3 := Lib.hid (show some gu ≠ some (bt i) from fun h => by have h1 := Option.some.inj h; have h2 := HLT.out i HI.out; have h3 := UR.out.base; omega)
      have HE4 := Lib.hid (show some (bu i) ≠ some (bt i) from fun h => by have h1 := Option.some.inj h; have h2 := HLT.out i HI.out; have h3 := UR.out.bbase i HI.out; omega)
      refine sg_take (i := 0) (oi := ⟨some 18, _, _, _, _, _⟩) (v := ?_) rfl (by kernel_rfl) (by kernel_rfl) (by kernel_rfl) (fun _ _ _ h => h) rfl hX ?_ ?_; rotate_left; (intro W hW; go_simp; try with_reducible rfl); simp only [Act.put, qA, qB, qC]
      refine sg_take (i := 1) (oi := ⟨some 19, _, _, _, _, _⟩) (v := ?_) rfl (by kernel_rfl) (by kernel_rfl) (by kernel_rfl) (fun _ _ _ h => h) rfl hX ?_ ?_; rotate_left; (intro W hW; go_simp; try with_reducible rfl); simp only [Act.put, qA, qB, qC]
      refine sg_take (i := 2) (oi := ⟨some 20, _, _, _, _, _⟩) (v := ?_) rfl (by kernel_rfl) (by kernel_rfl) (by kernel_rfl) (fun _ _ _ h => h) rfl hX ?_ ?_; rotate_left; (intro W hW; go_simp; try with_reducible rfl); simp only [Act.put, qA, qB, qC]
      refine sg_take (i := 3) (oi := ⟨some 21, _, _, _, _, _⟩) (v := .slice (some ⟨bt i, 0, none⟩) n n) rfl (by kernel_rfl) (by kernel_rfl) (by kernel_rfl) (fun _ _ _ h => h) rfl hX (fun V hV => ld_bs (.tmp 20) rfl rfl (grown_cell hV HL1.out HE1.out HT1.out)) ?_; simp only [Act.put, qA, qB, qC]
      refine sg_take (i := 4) (oi := ⟨some 22, _, _, _, _, _⟩) (v := ?_) rfl (by kernel_rfl) (by kernel_rfl) (by kernel_rfl) (fun _ _ _ h => h) rfl hX ?_ ?_; rotate_left; (intro W hW; go_simp; try with_reducible rfl); simp only [Act.put, qA, qB, qC]
      refine sg_take (i := 5) (oi := ⟨some 23, _, _, _, _, _⟩) (v := ?_) rfl (by kernel_rfl) (by kernel_rfl) (by kernel_rfl) (fun _ _ _ h => h) rfl hX ?_ ?_; rotate_left; (intro W hW; go_simp; try with_reducible rfl); simp only [Act.put, qA, qB, qC]
      refine sg_take (i := 6) (oi := ⟨some 24, _, _, _, _, _⟩) (v := ?_) rfl (by kernel_rfl) (by kernel_rfl) (by kernel_rfl) (fun _ _ _ h => h) rfl hX ?_ ?_; rotate_left; (intro W hW; go_simp; try with_reducible rfl); simp only [Act.put, qA, qB, qC]
      refine sg_take (i := 7) (oi := ⟨some 25, _, _, _, _, _⟩) (v := ?_) rfl (by kernel_rfl) (by kernel_rfl) (by kernel_rfl) (fun _ _ _ h => h) rfl hX ?_ ?_; rotate_left; (intro W hW; go_simp; try with_reducible rfl); simp only [Act.put, qA, qB, qC]
      refine sg_take (i := 8) (oi := ⟨some 26, _, _, _, _, _⟩) (v := .slice (some ⟨bt i, 0, none⟩) n n) rfl (by kernel_rfl) (by kernel_rfl) (by kernel_rfl) (fun _ _ _ h => h) rfl hX (fun V hV => ld_bs (.tmp 25) rfl rfl (grown_cell hV HL1.out HE1.out HT1.out)) ?_; simp only [Act.put, qA, qB, qC]
      refine sg_take (i := 9) (oi := ⟨some 27, _, _, _, _, _⟩) (v := ?_) rfl (by kernel_rfl) (by kernel_rfl) (by kernel_rfl) (fun _ _ _ h => h) rfl hX ?_ ?_; rotate_left; (intro W hW; go_simp; try with_reducible rfl); simp only [Act.put, qA, qB, qC]
      refine sg_take (i := 10) (oi := ⟨some 28, _, _, _, _, _⟩) (v := ?_) rfl (by kernel_rfl) (by kernel_rfl) (by kernel_rfl) (fun _ _ _ h => h) rfl hX ?_ ?_; rotate_left; (intro W hW; go_simp; try with_reducible rfl); simp only [Act.put, qA, qB, qC]
      refine sg_actB (i := 11) (o := ⟨some 29, _, _, _, _, _⟩) rfl (by kernel_rfl) rfl hX (fun K hK => ?_)
      refine wp_ldB (.tmp 28) rfl rfl HT2.out ?_
      refine hK _ _ hX ?_
      clear hK K
      (try simp only [Act.put, qA, qB, qC])
      refine sg_take (i := 12) (oi := ⟨some 30, _, _, _, _, _⟩) (v := ?_) rfl (by kernel_rfl) (by kernel_rfl) (by kernel_rfl) (fun _ _ _ h => h) rfl hX ?_ ?_; rotate_left; (intro W hW; go_simp; try with_reducible rfl); simp only [Act.put, qA, qB, qC]
      refine sg_take (i := 13) (oi := ⟨some 31, _, _, _, _, _⟩) (v := ?_) rfl (by kernel_rfl) (by kernel_rfl) (by kernel_rfl) (fun _ _ _ h => h) rfl hX ?_ ?_; rotate_left; (intro W hW; go_simp; try with_reducible rfl); simp only [Act.put, qA, qB, qC]
      refine sg_take (i := 14) (oi := ⟨some 32, _, _, _, _, _⟩) (v := ?_) rfl (by kernel_rfl) (by kernel_rfl) (by kernel_rfl) (fun _ _ _ h => h) rfl hX ?_ ?_; rotate_left; (intro W hW; go_simp; try with_reducible rfl); simp only [Act.put, qA, qB, qC]
      refine sg_take (i := 15) (oi := ⟨some 33, _, _, _, _, _⟩) (v := ?_) rfl (by kernel_rfl) (by kernel_rfl) (by kernel_rfl) (fun _ _ _ h => h) rfl hX ?_ ?_; rotate_left; (intro W hW; go_simp; try with_reducible rfl); simp only [Act.put, qA, qB, qC]
      refine sg_take (i := 16) (oi := ⟨some 34, _, _, _, _, _⟩) (v := .slice (some ⟨bu i, 0, none⟩) n n) rfl (by kernel_rfl) (by kernel_rfl) (by kernel_rfl) (fun _ _ _ h => h) rfl hX (fun V hV => ld_bs (.tmp 33) rfl rfl (grown_cell hV HL3.out HE3.out HU1.out)) ?_; simp only [Act.put, qA, qB, qC]
      refine sg_take (i := 17) (oi := ⟨some 35, _, _, _, _, _⟩) (v := ?_) rfl (by kernel_rfl) (by kernel_rfl) (by kernel_rfl) (fun _ _ _ h => h) rfl hX ?_ ?_; rotate_left; (intro W hW; go_simp; try with_reducible rfl); simp only [Act.put, qA, qB, qC]
      refine sg_take (i := 18) (oi := ⟨some 36, _, _, _, _, _⟩) (v := ?_) rfl (by kernel_rfl) (by kernel_rfl) (by kernel_rfl) (fun _ _ _ h => h) rfl hX ?_ ?_; rotate_left; (intro W hW; go_simp; try with_reducible rfl); simp only [Act.put, qA, qB, qC]
      refine sg_take (i := 19) (oi := ⟨some 37, _, _, _, _, _⟩) (v := .bool u) rfl (by kernel_rfl) (by kernel_rfl) (by kernel_rfl) (fun _ _ _ h => h) rfl hX (fun V hV => ld_b (.tmp 36) rfl rfl (grown_cell hV HL4.out HE4.out (HU2.out.trans (congrArg (fun x => some (Value.bool x)) HUV.out)))) ?_; simp only [Act.put, qA, qB, qC]
      refine sg_take (i := 20) (oi := ⟨some 38, _, _, _, _, _⟩) (v := ?_) rfl (by kernel_rfl) (by kernel_rfl) (by kernel_rfl) (fun _ _ _ h => h) rfl hX ?_ ?_; rotate_left; (intro W hW; go_simp; try with_reducible rfl); simp only [Act.put, qA, qB, qC]
      refine sg_take (i := 21) (oi := ⟨some 39, _, _, _, _, _⟩) (v := ?_) rfl (by kernel_rfl) (by kernel_rfl) (by kernel_rfl) (fun _ _ _ h => h) rfl hX ?_ ?_; rotate_left; (intro W hW; go_simp; try with_reducible rfl); simp only [Act.put, qA, qB, qC]
      refine sg_actB (i := 22) (o := ⟨none, _, _, _, _, _⟩) rfl (by kernel_rfl) rfl hX (fun K hK => ?_)
      refine wp_stB (.tmp 39) (.tmp 38) rfl (bt i) j rfl u rfl _ HT2.out (TD.out.frozen HI.out j) ?_
      refine hK _ _ (grown_set hX j _) ?_
      clear hK K
      refine wpAnyH_done (by kernel_rfl) ?_ _
      have TE := Lib.hid (TD.out.put HI.out j u)
      have UE := Lib.hid (TD.out.apart UD.out HI.out (HLT.out i HI.out) j u)
      have BE := Lib.hid (BD.out.setCell (p := ⟨bt i, j, none⟩) (TR.out.bbase i HI.out) (Value.bool u))
      have HV := Lib.hid (show (u : Bool) = (ft i j || fu i j) by rw [HC.out, HUV.out]; rfl)
      clear hX
      go_wp2_with fail
      refine ⟨⟨j + 1, HJ.out, by congr 1, ?_, UE.out, BE.out⟩, by simpa [intOf] using HMJ.out⟩
      rw [← jnI_put, ← HV.out]
      exact TE.out
    ·obtain rfl : j = n := by omega
     have j1 : ¬ ((j : Int) < (j : Int)) := by omega
     go_wp2_with fail
     refine ⟨⟨i + 1, HI.out, by congr 1, TR.out.congr fun p q _ hq => jnI_next hq, UR.out, BR.out⟩, by simpa [intOf] using HMI.out⟩
  ·obtain rfl : i = n := by omega
   have i1 : ¬ ((i : Int) < (i : Int)) := by omega
   go_wp2_with fail
   refine bodyPost_end (results_none rfl _ _ _) rfl ?_
   exact ⟨rfl, TQ.out.congr fun p q hp _ => jnI_all hp, UQ.out, BQ.out⟩
end Go.Proofs.Ytopnpdobcagcgaa
