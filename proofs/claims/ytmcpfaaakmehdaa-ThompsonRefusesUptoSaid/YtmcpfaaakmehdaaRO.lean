/-
  Texts of this proof, put together: SpA, SpB, ThC, ThD, Off. No statement is proved here.
-/
import Derived.Test.YtmcpfaaakmehdaaRN
import Derived.Test.YtmcpfaaakmehdaaRE
import Derived.Test.YtmcpfaaakmehdaaRA
namespace Go.Proofs.Ytmcpfaaakmehdaa
open Go.RowKit
set_option linter.unusedSimpArgs false
set_option linter.unusedVariables false
noncomputable def spB (P : List UInt8 → Prop) (W : List UInt8) (i j : Nat) : Bool := @decide (i ≤ j ∧ j ≤ W.length ∧ P (seg W i j)) (Classical.propDecidable _)
theorem spB_iff {P : List UInt8 → Prop} {W : List UInt8} {i j : Nat} : spB P W i j = true ↔ i ≤ j ∧ j ≤ W.length ∧ P (seg W i j) := by
 unfold spB
 exact @decide_eq_true_iff _ (Classical.propDecidable _)
theorem spB_congr {P Q : List UInt8 → Prop} (W : List UInt8) (h : ∀ u, P u ↔ Q u) : spB P W = spB Q W := by
 funext i j
 rw [Bool.eq_iff_iff, spB_iff, spB_iff, h]
theorem spB_lg (t : T) (W : List UInt8) : spB (Lg t) W 0 W.length = lgB t W := by
 rw [Bool.eq_iff_iff, spB_iff, lgB_iff, seg_all]
 exact ⟨fun h => h.2.2, fun h => ⟨Nat.zero_le _, Nat.le_refl _, h⟩⟩
theorem spB_no {P : List UInt8 → Prop} {W : List UInt8} (h : ∀ u, ¬ P u) : spB P W = fun _ _ => false := by
 funext i j
 cases he : spB P W i j with
 | false => rfl
 | true => exact absurd (spB_iff.1 he).2.2 (h _)
theorem spB_nil {W : List UInt8} {i j : Nat} (hj : j ≤ W.length) : spB (fun u => u = []) W i j = decide (i = j) := by
 rw [Bool.eq_iff_iff, spB_iff, decide_eq_true_eq]
 constructor
 ·rintro ⟨a, b, c⟩; exact seg_nil a b c
 ·rintro rfl; exact ⟨Nat.le_refl _, hj, seg_same W i⟩
theorem spB_one {s : Nat → Bool} {W : List UInt8} {i j : Nat} : spB (fun u => ∃ b : UInt8, u = [b] ∧ s b.toNat = true) W i j = (decide (j = i + 1) && hitP s W i) := by
 rw [Bool.eq_iff_iff, spB_iff, Bool.and_eq_true, decide_eq_true_eq, hitP_iff]
 constructor
 ·rintro ⟨a, b, c⟩; exact (seg_one a b).1 c
 ·rintro ⟨rfl, b, h, hs⟩
  have h1 := (List.getElem?_eq_some_iff.1 h).1
  exact ⟨by omega, by omega, (seg_one (by omega) (by omega)).2 ⟨rfl, b, h, hs⟩⟩
theorem spB_or {P Q : List UInt8 → Prop} {W : List UInt8} (i j : Nat) : spB (fun u => P u ∨ Q u) W i j = (spB P W i j || spB Q W i j) := by
 rw [Bool.eq_iff_iff, Bool.or_eq_true, spB_iff, spB_iff, spB_iff]
 constructor
 ·rintro ⟨a, b, c | c⟩
  ·exact .inl ⟨a, b, c⟩
  ·exact .inr ⟨a, b, c⟩
 ·rintro (⟨a, b, c⟩ | ⟨a, b, c⟩)
  ·exact ⟨a, b, .inl c⟩
  ·exact ⟨a, b, .inr c⟩
def bhJ (f u : Nat → Nat → Bool) (i j q : Nat) : Bool := (List.range j).any fun k => (decide (i ≤ k ∧ k ≤ q) && f i k) && u k q
theorem bhJ_succ (f u : Nat → Nat → Bool) (i j q : Nat) : bhJ f u i (j + 1) q = (bhJ f u i j q || ((decide (i ≤ j ∧ j ≤ q) && f i j) && u j q)) := by
 unfold bhJ
 rw [List.range_succ, List.any_append]
 simp
theorem bhJ_iff {f u : Nat → Nat → Bool} {i j q : Nat} : bhJ f u i j q = true ↔ ∃ k, k < j ∧ i ≤ k ∧ k ≤ q ∧ f i k = true ∧ u k q = true := by
 unfold bhJ
 rw [List.any_eq_true]
 constructor
 ·rintro ⟨k, hk, h⟩
  rw [Bool.and_eq_true, Bool.and_eq_true, decide_eq_true_eq] at h
  exact ⟨k, List.mem_range.1 hk, h.1.1.1, h.1.1.2, h.1.2, h.2⟩
 ·rintro ⟨k, h1, h2, h3, h4, h5⟩
  refine ⟨k, List.mem_range.2 h1, ?_⟩
  rw [Bool.and_eq_true, Bool.and_eq_true, decide_eq_true_eq]
  exact ⟨⟨⟨h2, h3⟩, h4⟩, h5⟩
theorem bhJ_start (f u : Nat → Nat → Bool) (i : Nat) : bhJ f u i i = fun _ => false := by
 funext q
 cases h : bhJ f u i i q with
 | false => rfl
 | true => obtain ⟨k, h1, h2, _⟩ := bhJ_iff.1 h; omega
theorem bhJ_not {f u : Nat → Nat → Bool} {i j : Nat} (h : f i j = false) : bhJ f u i (j + 1) = bhJ f u i j := by
 funext q
 rw [bhJ_succ, h]
 simp
theorem bhJ_low {f u : Nat → Nat → Bool} {i j q : Nat} (h : q < j) : bhJ f u i (j + 1) q = bhJ f u i j q := by
 rw [bhJ_succ, decide_eq_false (by omega)]
 simp
theorem bhJ_at {f u : Nat → Nat → Bool} {i j q : Nat} (hi : i ≤ j) (hj : j ≤ q) (h : f i j = true) : bhJ f u i (j + 1) q = (bhJ f u i j q || u j q) := by
 rw [bhJ_succ, decide_eq_true (⟨hi, hj⟩ : i ≤ j ∧ j ≤ q), h]
 simp
theorem bhJ_words {P Q : List UInt8 → Prop} {W : List UInt8} {i q : Nat} (hq : q ≤ W.length) : bhJ (spB P W) (spB Q W) i (W.length + 1) q = spB (fun x => ∃ u v, x = u ++ v ∧ P u ∧ Q v) W i q := by
 rw [Bool.eq_iff_iff, bhJ_iff, spB_iff]
 constructor
 ·rintro ⟨k, h1, h2, h3, h4, h5⟩
  exact ⟨by omega, hq, _, _, seg_app h2 h3, (spB_iff.1 h4).2.2, (spB_iff.1 h5).2.2⟩
 ·rintro ⟨h1, _, h2⟩
  obtain ⟨k, a, b, c, d⟩ := (seg_two h1 hq).1 h2
  exact ⟨k, by omega, a, b, spB_iff.2 ⟨a, by omega, c⟩, spB_iff.2 ⟨b, hq, d⟩⟩
def stJ (u : Nat → Nat → Bool) (i : Nat) : Nat → Nat → Bool
 | 0, q => decide (q = i)
 | j + 1, q => stJ u i j q || ((decide (i ≤ j ∧ j < q) && stJ u i j j) && u j q)
theorem stJ_iff {u : Nat → Nat → Bool} {i q : Nat} : ∀ j, stJ u i j q = true ↔ q = i ∨ ∃ k, k < j ∧ i ≤ k ∧ k < q ∧ stJ u i k k = true ∧ u k q = true
 | 0 => by simp [stJ]
 | j + 1 => by
  rw [stJ, Bool.or_eq_true, Bool.and_eq_true, Bool.and_eq_true, decide_eq_true_eq, stJ_iff j]
  constructor
  ·rintro ((h | ⟨k, h1, h2⟩) | ⟨⟨⟨h1, h2⟩, h3⟩, h4⟩)
   ·exact .inl h
   ·exact .inr ⟨k, by omega, h2⟩
   ·exact .inr ⟨j, by omega, h1, h2, h3, h4⟩
  ·rintro (h | ⟨k, h1, h2, h3, h4, h5⟩)
   ·exact .inl (.inl h)
   rcases Nat.lt_or_ge k j with h | h
   ·exact .inl (.inr ⟨k, h, h2, h3, h4, h5⟩)
   ·obtain rfl : k = j := by omega
    exact .inr ⟨⟨⟨h2, h3⟩, h4⟩, h5⟩
theorem stJ_start (u : Nat → Nat → Bool) (i : Nat) : stJ u i i = fun q => decide (q = i) := by
 funext q
 rw [Bool.eq_iff_iff, stJ_iff, decide_eq_true_eq]
 constructor
 ·rintro (h | ⟨k, h1, h2, _⟩)
  ·exact h
  ·omega
 ·exact .inl
theorem stJ_low {u : Nat → Nat → Bool} {i j q : Nat} (h : q ≤ j) : stJ u i (j + 1) q = stJ u i j q := by
 rw [stJ, decide_eq_false (by omega)]
 simp
theorem stJ_not {u : Nat → Nat → Bool} {i j : Nat} (h : stJ u i j j = false) : stJ u i (j + 1) = stJ u i j := by
 funext q
 rw [stJ, h]
 simp
theorem stJ_at {u : Nat → Nat → Bool} {i j q : Nat} (hi : i ≤ j) (hj : j < q) (h : stJ u i j j = true) : stJ u i (j + 1) q = (stJ u i j q || u j q) := by
 rw [stJ, decide_eq_true (⟨hi, hj⟩ : i ≤ j ∧ j < q), h]
 simp
theorem stJ_words {P : List UInt8 → Prop} {W : List UInt8} {i : Nat} : ∀ (m q : Nat), q ≤ m → q ≤ W.length → ∀ j, q ≤ j → (stJ (spB P W) i j q = true ↔ i ≤ q ∧ StarL P (seg W i q))
 | m, q, hm, hq, j, hj => by
  rw [stJ_iff]
  constructor
  ·rintro (rfl | ⟨k, h1, h2, h3, h4, h5⟩)
   ·exact ⟨Nat.le_refl _, by rw [seg_same]; exact .nil⟩
   ·have h6 : k < m := by omega
    match m, h6 with
    | m + 1, h6 =>
     have ih := (stJ_words m k (by omega) (by omega) k (Nat.le_refl _)).1 h4
     exact ⟨by omega, (star_seg (by omega) hq).2 (.inr ⟨k, h2, h3, ih.2, (spB_iff.1 h5).2.2⟩)⟩
  ·rintro ⟨h1, h2⟩
   rcases (star_seg h1 hq).1 h2 with h | ⟨k, a, b, c, d⟩
   ·exact .inl h.symm
   ·have h6 : k < m := by omega
    match m, h6 with
    | m + 1, h6 =>
     have ih := (stJ_words m k (by omega) (by omega) k (Nat.le_refl _)).2 ⟨a, c⟩
     exact .inr ⟨k, by omega, a, b, ih, spB_iff.2 ⟨by omega, hq, d⟩⟩
theorem stJ_star {P : List UInt8 → Prop} {W : List UInt8} {i q : Nat} (hq : q ≤ W.length) : stJ (spB P W) i (W.length + 1) q = spB (StarL P) W i q := by
 rw [Bool.eq_iff_iff, stJ_words q q (Nat.le_refl _) hq _ (by omega), spB_iff]
 exact ⟨fun h => ⟨h.1, hq, h.2⟩, fun h => ⟨h.1, h.2.2⟩⟩
/-! ### by kinds -/
theorem sp_k2 {t : T} (h : t.kind = 2) {W : List UInt8} {i j : Nat} (hj : j ≤ W.length) : spB (Lg t) W i j = decide (i = j) := by
 rw [spB_congr W fun u => lg_k2 h u, spB_nil hj]
theorem sp_k3 (s : Nat → Bool) (l : List T) {W : List UInt8} {i j : Nat} : spB (Lg (.node 3 s l)) W i j = (decide (j = i + 1) && hitP s W i) := by
 rw [spB_congr W fun u => lg_set, spB_one]
theorem sp_altJ {l : List T} {j : Nat} {u : T} (h : l[j]? = some u) (W : List UInt8) (p q : Nat) : spB (LgA (l.take (j + 1))) W p q = (spB (LgA (l.take j)) W p q || spB (Lg u) W p q) := by
 obtain ⟨hi, rfl⟩ := List.getElem?_eq_some_iff.1 h
 rw [← spB_or]
 refine congrFun (congrFun (spB_congr W fun x => ?_) p) q
 rw [List.take_succ_eq_append_getElem hi, lgA_mem, lgA_mem]
 simp only [List.mem_append, List.mem_singleton]
 constructor
 ·rintro ⟨t, h | rfl, hx⟩
  ·exact .inl ⟨t, h, hx⟩
  ·exact .inr hx
 ·rintro (⟨t, h, hx⟩ | hx)
  ·exact ⟨t, .inl h, hx⟩
  ·exact ⟨_, .inr rfl, hx⟩
theorem sp_alt0 (l : List T) (W : List UInt8) : spB (LgA (l.take 0)) W = fun _ _ => false := spB_no fun u h => by rw [List.take_zero] at h; exact h
theorem sp_alt5 (s : Nat → Bool) (l : List T) (W : List UInt8) : spB (Lg (.node 5 s l)) W = spB (LgA (l.take l.length)) W := by
 rw [List.take_length]
 exact spB_congr W fun u => lg_alt
theorem sp_catJ {l : List T} {j : Nat} {u : T} (h : l[j]? = some u) (W : List UInt8) {p q : Nat} (hq : q ≤ W.length) : bhJ (spB (LgC (l.take j)) W) (spB (Lg u) W) p (W.length + 1) q = spB (LgC (l.take (j + 1))) W p q := by
 obtain ⟨hi, rfl⟩ := List.getElem?_eq_some_iff.1 h
 rw [bhJ_words hq]
 refine congrFun (congrFun (spB_congr W fun x => ?_) p) q
 rw [List.take_succ_eq_append_getElem hi, lgC_app]
 constructor
 ·rintro ⟨u, v, h, a, b⟩; exact ⟨u, v, h, a, (lgC_one _ _).2 b⟩
 ·rintro ⟨u, v, h, a, b⟩; exact ⟨u, v, h, a, (lgC_one _ _).1 b⟩
theorem sp_cat0 (l : List T) {W : List UInt8} {p q : Nat} (hq : q ≤ W.length) : spB (LgC (l.take 0)) W p q = decide (p = q) := by
 rw [← spB_nil hq]
 refine congrFun (congrFun (spB_congr W fun x => ?_) p) q
 rw [List.take_zero]
 rfl
theorem sp_cat4 (s : Nat → Bool) (l : List T) (W : List UInt8) : spB (Lg (.node 4 s l)) W = spB (LgC (l.take l.length)) W := by
 rw [List.take_length]
 exact spB_congr W fun u => lg_cat
theorem sp_star1 (s : Nat → Bool) (x : T) {W : List UInt8} {p q : Nat} (hq : q ≤ W.length) : stJ (spB (Lg x) W) p (W.length + 1) q = spB (Lg (.node 6 s [x])) W p q := by
 rw [stJ_star hq]
 refine (congrFun (congrFun (spB_congr W fun u => ?_) p) q)
 rw [lg_star]
 have h : LgO [x] = Lg x := by funext v; exact propext (lgO_one x v)
 rw [h]
theorem sp_star0 (s : Nat → Bool) (l : List T) (hl : l.length ≠ 1) {W : List UInt8} {p q : Nat} (hq : q ≤ W.length) : spB (Lg (.node 6 s l)) W p q = decide (p = q) := by
 rw [← spB_nil hq]
 refine congrFun (congrFun (spB_congr W fun u => ?_) p) q
 rw [lg_star]
 have hno : ∀ v, ¬ LgO l v := fun v h => by
  cases l with
  | nil => exact h
  | cons t r =>
   have h : r.length = 0 ∧ Lg t v := h
   exact hl (by rw [List.length_cons, h.1])
 constructor
 ·intro h
  induction h with
  | nil => rfl
  | app hu _ _ => exact absurd hu (hno _)
 ·rintro rfl; exact .nil
theorem sp_other {k : Int} (s : Nat → Bool) (l : List T) (W : List UInt8) (h2 : k ≠ 2) (h3 : k ≠ 3) (h4 : k ≠ 4) (h5 : k ≠ 5) (h6 : k ≠ 6) : spB (Lg (.node k s l)) W = fun _ _ => false :=
 spB_no fun u h => by
  rw [Lg, if_neg h2, if_neg h3, if_neg h4, if_neg h5, if_neg h6] at h
  exact h.elim
def bcs (n : Nat) (f : Nat → Bool) : List Value := (List.range n).map fun q => .bool (f q)
theorem bcs_len (n : Nat) (f : Nat → Bool) : (bcs n f).length = n := by simp [bcs]
theorem bcs_get {n q : Nat} (f : Nat → Bool) (h : q < n) : (bcs n f)[q]? = some (.bool (f q)) := by simp [bcs, h]
theorem bcs_congr {n : Nat} {f g : Nat → Bool} (h : ∀ q, q < n → f q = g q) : bcs n f = bcs n g := by
 unfold bcs
 exact List.map_congr_left fun q hq => by rw [h q (List.mem_range.1 hq)]
theorem bcs_no (n : Nat) : List.replicate n (Value.bool false) = bcs n fun _ => false := by
 apply List.ext_getElem?
 intro q
 by_cases h : q < n
 ·rw [bcs_get _ h]; simp [h]
 ·rw [List.getElem?_eq_none (by simp; omega), List.getElem?_eq_none (by rw [bcs_len]; omega)]
def updB (f : Nat → Bool) (q : Nat) (b : Bool) : Nat → Bool := fun i => if i = q then b else f i
theorem bcs_set (n q : Nat) (f : Nat → Bool) (b : Bool) : (bcs n f).set q (.bool b) = bcs n (updB f q b) := by
 apply List.ext_getElem?
 intro i
 by_cases h : i < n
 ·rw [bcs_get _ h]
  unfold updB
  by_cases hi : i = q
  ·subst hi
   rw [List.getElem?_set_self (by rw [bcs_len]; exact h), if_pos rfl]
  ·rw [List.getElem?_set_ne (by omega), bcs_get _ h, if_neg hi]
 ·rw [List.getElem?_eq_none (by rw [List.length_set, bcs_len]; omega), List.getElem?_eq_none (by rw [bcs_len]; omega)]
def tops (n m : Nat) (bs : Nat → Nat) : List Value := (List.range n).map fun p => if p < m then .slice (some ⟨bs p, 0, none⟩) n n else .slice none 0 0
theorem tops_len (n m : Nat) (bs : Nat → Nat) : (tops n m bs).length = n := by simp [tops]
theorem tops_get {n m p : Nat} (bs : Nat → Nat) (h : p < n) : (tops n m bs)[p]? = some (if p < m then .slice (some ⟨bs p, 0, none⟩) n n else .slice none 0 0) := by simp [tops, h]
theorem tops_no (n : Nat) (bs : Nat → Nat) : List.replicate n (Value.slice none 0 0) = tops n 0 bs := by
 apply List.ext_getElem?
 intro q
 by_cases h : q < n
 ·rw [tops_get _ h]; simp [h]
 ·rw [List.getElem?_eq_none (by simp; omega), List.getElem?_eq_none (by rw [tops_len]; omega)]
def updN (bs : Nat → Nat) (m b : Nat) : Nat → Nat := fun i => if i = m then b else bs i
theorem tops_set (n m : Nat) (bs : Nat → Nat) (b : Nat) : (tops n m bs).set m (.slice (some ⟨b, 0, none⟩) n n) = tops n (m + 1) (updN bs m b) := by
 apply List.ext_getElem?
 intro i
 by_cases h : i < n
 ·rw [tops_get _ h]
  unfold updN
  by_cases hi : i = m
  ·subst hi
   rw [List.getElem?_set_self (by rw [tops_len]; exact h), if_pos (by omega), if_pos rfl]
  ·rw [List.getElem?_set_ne (by omega), tops_get _ h, if_neg hi]
   by_cases h2 : i < m
   ·rw [if_pos h2, if_pos (by omega)]
   ·rw [if_neg h2, if_neg (by omega)]
 ·rw [List.getElem?_eq_none (by rw [List.length_set, tops_len]; omega), List.getElem?_eq_none (by rw [tops_len]; omega)]
structure Tbl (w : World) (B g : Nat) (bs : Nat → Nat) (n m : Nat) (f : Nat → Nat → Bool) : Prop where
 top : Blk w g 66 (tops n m bs)
 row : ∀ p, p < m → Blk w (bs p) 4 (bcs n (f p))
 base : B ≤ g
 bbase : ∀ p, p < m → B ≤ bs p
 ne : ∀ p, p < m → bs p ≠ g
 inj : ∀ p q, p < m → q < m → bs p = bs q → p = q
def upd2 (f : Nat → Nat → Bool) (p q : Nat) (b : Bool) : Nat → Nat → Bool := fun i j => if i = p then updB (f p) q b j else f i j
section
variable {w w' : World} {B g n m p q : Nat} {bs : Nat → Nat} {f f' : Nat → Nat → Bool}
theorem Tbl.stay (h : Tbl w B g bs n m f) (hg : w'.heap[g]? = w.heap[g]?) (hb : ∀ p, p < m → w'.heap[bs p]? = w.heap[bs p]?) : Tbl w' B g bs n m f :=
 ⟨hg.trans h.top, fun p hp => (hb p hp).trans (h.row p hp), h.base, h.bbase, h.ne, h.inj⟩
theorem Tbl.below (h : Tbl w B g bs n m f) (hb : Below w.heap.size w w') : Tbl w' B g bs n m f :=
 h.stay (hb.block _ h.top.lt) fun p hp => hb.block _ (h.row p hp).lt
theorem Tbl.drew (h : Tbl w B g bs n m f) : Tbl w.drew B g bs n m f := ⟨h.top, h.row, h.base, h.bbase, h.ne, h.inj⟩
theorem Tbl.congr (h : Tbl w B g bs n m f) (he : ∀ p q, p < m → q < n → f p q = f' p q) : Tbl w B g bs n m f' :=
 ⟨h.top, fun p hp => by rw [← bcs_congr (fun q hq => he p q hp hq)]; exact h.row p hp, h.base, h.bbase, h.ne, h.inj⟩
theorem Tbl.mono {B' : Nat} (h : Tbl w B g bs n m f) (hB : B' ≤ B) : Tbl w B' g bs n m f :=
 ⟨h.top, h.row, Nat.le_trans hB h.base, fun p hp => Nat.le_trans hB (h.bbase p hp), h.ne, h.inj⟩
theorem Tbl.at_ (h : Tbl w B g bs n m f) (hp : p < n) (hm : p < m) : w.cell? ⟨g, p, none⟩ = some (.slice (some ⟨bs p, 0, none⟩) n n) := by
 rw [h.top.cell, tops_get _ hp, if_pos hm]
theorem Tbl.nil_ (h : Tbl w B g bs n m f) (hp : p < n) (hm : ¬ p < m) : w.cell? ⟨g, p, none⟩ = some (.slice none 0 0) := by
 rw [h.top.cell, tops_get _ hp, if_neg hm]
theorem Tbl.cell (h : Tbl w B g bs n m f) (hp : p < m) (hq : q < n) : w.cell? ⟨bs p, q, none⟩ = some (.bool (f p q)) := by
 rw [(h.row p hp).cell, bcs_get _ hq]
theorem Tbl.put (h : Tbl w B g bs n m f) (hp : p < m) (q : Nat) (b : Bool) : Tbl (w.setCell ⟨bs p, q, none⟩ (.bool b)) B g bs n m (upd2 f p q b) := by
 refine ⟨h.top.far (p := ⟨bs p, q, none⟩) (h.ne p hp).symm _, fun i hi => ?_, h.base, h.bbase, h.ne, h.inj⟩
 by_cases hip : i = p
 ·subst hip
  have := (h.row i hi).set q (.bool b)
  rw [bcs_set] at this
  have e : upd2 f i q b i = updB (f i) q b := by funext j; unfold upd2; rw [if_pos rfl]
  rw [e]
  exact this
 ·have e : upd2 f p q b i = f i := by funext j; unfold upd2; rw [if_neg hip]
  rw [e]
  exact (h.row i hi).far (p := ⟨bs p, q, none⟩) (fun he => hip (h.inj i p hi hp he)) _
theorem Tbl.new (h : Blk w g 66 (List.replicate n (.slice none 0 0))) (hB : B ≤ g) (bs : Nat → Nat) (f : Nat → Nat → Bool) : Tbl w B g bs n 0 f :=
 ⟨by rw [tops_no n bs] at h; exact h, fun p hp => absurd hp (Nat.not_lt_zero p), hB, fun p hp => absurd hp (Nat.not_lt_zero p), fun p hp => absurd hp (Nat.not_lt_zero p), fun p q hp => absurd hp (Nat.not_lt_zero p)⟩
theorem Tbl.more (h : Tbl w B g bs n m f) (hb : Below w.heap.size w w') (hk : Blk w' w.heap.size 4 (List.replicate n (.bool false))) (hf : ∀ q, f m q = false) :
  Tbl (w'.setCell ⟨g, m, none⟩ (.slice (some ⟨w.heap.size, 0, none⟩) n n)) B g (updN bs m w.heap.size) n (m + 1) f := by
 have hlt : ∀ p, p < m → bs p < w.heap.size := fun p hp => (h.row p hp).lt
 have hg : g < w.heap.size := h.top.lt
 have hu : ∀ p, p < m → updN bs m w.heap.size p = bs p := fun p hp => by unfold updN; rw [if_neg (by omega)]
 have hum : updN bs m w.heap.size m = w.heap.size := by unfold updN; rw [if_pos rfl]
 have hcase : ∀ p, p < m + 1 → p < m ∨ p = m := fun p hp => by omega
 have h1 := h.below hb
 refine ⟨?_, fun p hp => ?_, h.base, fun p hp => ?_, fun p hp => ?_, fun p q hp hq he => ?_⟩
 ·have := h1.top.set m (.slice (some ⟨w.heap.size, 0, none⟩) n n)
  rw [tops_set] at this
  exact this
 ·rcases hcase p hp with hp | rfl
  ·rw [hu p hp]
   exact (h1.row p hp).far (p := ⟨g, m, none⟩) (h.ne p hp) _
  ·rw [hum, bcs_congr (g := fun _ => false) fun q _ => hf q, ← bcs_no]
   exact hk.far (p := ⟨g, p, none⟩) (by show w.heap.size ≠ g; omega) _
 ·rcases hcase p hp with hp | rfl
  ·rw [hu p hp]; exact h.bbase p hp
  ·rw [hum]; exact Nat.le_trans h.base (Nat.le_of_lt hg)
 ·rcases hcase p hp with hp | rfl
  ·rw [hu p hp]; exact h.ne p hp
  ·rw [hum]; omega
 ·rcases hcase p hp with hp | rfl <;> rcases hcase q hq with hq | rfl
  ·rw [hu p hp, hu q hq] at he; exact h.inj p q hp hq he
  ·rw [hu p hp, hum] at he; have := hlt p hp; omega
  ·rw [hu q hq, hum] at he; have := hlt q hq; omega
  ·rfl
theorem Tbl.frozen (h : Tbl w B g bs n m f) (hp : p < m) (q : Nat) : w.frozen? ⟨bs p, q, none⟩ = false := (h.row p hp).frozen q
theorem Tbl.tfrozen (h : Tbl w B g bs n m f) (p : Nat) : w.frozen? ⟨g, p, none⟩ = false := h.top.frozen p
theorem Tbl.apart {B2 g2 n2 m2 : Nat} {bs2 : Nat → Nat} {f2 : Nat → Nat → Bool} (h : Tbl w B g bs n m f) (h2 : Tbl w B2 g2 bs2 n2 m2 f2) (hp : p < m) (hn : bs p < B2) (q : Nat) (b : Bool) : Tbl (w.setCell ⟨bs p, q, none⟩ (.bool b)) B2 g2 bs2 n2 m2 f2 :=
 ⟨h2.top.far (p := ⟨bs p, q, none⟩) (by have := h2.base; show g2 ≠ bs p; omega) _, fun i hi => (h2.row i hi).far (p := ⟨bs p, q, none⟩) (by have := h2.bbase i hi; show bs2 i ≠ bs p; omega) _, h2.base, h2.bbase, h2.ne, h2.inj⟩
end
/-! ### single cells in regions that draw -/
theorem ld_b {ev : Operand → Value} {o : Oper} (x : Operand) (ho : o.op = .load 4 x) {p : Addr} (hx : ev x = .pointer (some p)) {b : Bool} {W : World} (hc : W.cell? p = some (.bool b)) : (execOp ev o).run Try.prog W = .ok (.value (.bool b)) W := by
 simp only [execOp, ho, hx]
 go_simp
theorem ld_bs {ev : Operand → Value} {o : Oper} (x : Operand) (ho : o.op = .load 66 x) {p : Addr} (hx : ev x = .pointer (some p)) {A : Option Addr} {n c : Nat} {W : World} (hc : W.cell? p = some (.slice A n c)) : (execOp ev o).run Try.prog W = .ok (.value (.slice A n c)) W := by
 simp only [execOp, ho, hx]
 go_simp
theorem wp_stB {o : Oper} {a : Act} {w : World} {K : Act → World → Prop} {Q : Exit → Act → World → Prop} (x y : Operand) (ho : o.op = .store 4 x y) (g q : Nat) (hx : a.eval x = .pointer (some ⟨g, q, none⟩)) (b : Bool) (hy : a.eval y = .bool b)
  (u : Value) (hc : w.cell? ⟨g, q, none⟩ = some u) (hf : w.frozen? ⟨g, q, none⟩ = false) (h : K (a.put o.dst undef) (w.setCell ⟨g, q, none⟩ (.bool b))) : o.wp Try.prog a w K Q := by
 unfold Oper.wp execOp
 simp only [ho, hx, hy]
 have hrun : (Instr.storeAt 4 (.pointer (some ⟨g, q, none⟩)) (.bool b)).run Try.prog w = .ok () (w.setCell ⟨g, q, none⟩ (.bool b)) := by
  go_simp
 simp only [Sem.run_bind, hrun, Result.andThen_ok, Sem.run_pure]
 exact h
theorem wp_ldB {o : Oper} {a : Act} {w : World} {K : Act → World → Prop} {Q : Exit → Act → World → Prop} (x : Operand) (ho : o.op = .load 4 x) {p : Addr} (hx : a.eval x = .pointer (some p)) {b : Bool} (hc : w.cell? p = some (.bool b)) (h : K (a.put o.dst (.bool b)) w) : o.wp Try.prog a w K Q := by
 unfold Oper.wp
 simp only [ld_b (ev := a.eval) x ho hx hc]
 exact h
theorem grown_set {w V : World} {g : Nat} (h : w.grownBy V (some g)) (q : Nat) (v : Value) : w.grownBy (V.setCell ⟨g, q, none⟩ v) (some g) :=
 ⟨h.os, h.tape, h.output, Nat.le_trans h.size (by simp [World.setCell]), fun k hk hn => (Below.heap_setCell V ⟨g, q, none⟩ v k (by rintro rfl; exact hn rfl)).trans (h.block k hk hn)⟩
theorem inf_bool : (Try.prog.info? 4).map (fun i => (i.zero, i.size, i.bytes)) = some (some (.bool false), 1, 1) := by kernel_rfl
theorem inf_bools : (Try.prog.info? 66).map (fun i => (i.zero, i.size, i.bytes)) = some (some (.slice none 0 0), 1, 24) := by kernel_rfl
def sdJ (l : List Int) (j i : Nat) : Bool := (l.take j).any fun x => decide (x = (i : Int))
theorem sdJ_zero (l : List Int) : sdJ l 0 = fun _ => false := by funext i; simp [sdJ]
theorem sdJ_succ {l : List Int} {j : Nat} {x : Int} (h : l[j]? = some x) (i : Nat) : sdJ l (j + 1) i = (sdJ l j i || decide (x = (i : Int))) := by
 obtain ⟨hj, rfl⟩ := List.getElem?_eq_some_iff.1 h
 unfold sdJ
 rw [List.take_succ_eq_append_getElem hj, List.any_append]
 simp
theorem sdJ_in {l : List Int} {j : Nat} {x : Int} (h : l[j]? = some x) (h0 : 0 ≤ x) : updB (sdJ l j) x.toNat true = sdJ l (j + 1) := by
 funext i
 rw [sdJ_succ h]
 unfold updB
 by_cases hi : i = x.toNat
 ·rw [if_pos hi, decide_eq_true (by omega)]; simp
 ·rw [if_neg hi, decide_eq_false (by omega)]; simp
theorem sdJ_out {l : List Int} {j k i : Nat} {x : Int} (h : l[j]? = some x) (hx : ¬ (0 ≤ x ∧ x < (k : Int))) (hi : i < k) : sdJ l (j + 1) i = sdJ l j i := by
 rw [sdJ_succ h, decide_eq_false (by omega)]
 simp
theorem sdJ_all {l : List Int} {i : Nat} : sdJ l l.length i = true ↔ ofL l i := by
 unfold sdJ ofL
 rw [List.take_length, List.any_eq_true]
 constructor
 ·rintro ⟨x, hx, h⟩
  have : x = (i : Int) := by simpa using h
  rwa [← this]
 ·intro h; exact ⟨_, h, by simp⟩
structure Ps (S : List St) (P : Nat → Prop) (t0 : Nat → Bool) (ag : Bool) (i kk : Nat) (t : Nat → Bool) : Prop where
 seeds : ∀ q, q < S.length → P q → t q = true
 sound : ∀ q, q < S.length → t q = true → Rc S P q
 more : ∀ q, t0 q = true → t q = true
 still : ag = false → ∀ q, q < S.length → t q = t0 q
 new : ag = true → ∃ q, q < S.length ∧ t0 q = false ∧ t q = true
 done : ag = false → ∀ i' s, i' < i → S[i']? = some s → t i' = true → ∀ f ∈ s.free, t f.toNat = true
 part : ag = false → ∀ s, S[i]? = some s → t i = true → ∀ m f, m < kk → s.free[m]? = some f → t f.toNat = true
section
variable {S : List St} {P : Nat → Prop} {t0 t : Nat → Bool} {ag : Bool} {i kk : Nat}
theorem Ps.start (h1 : ∀ q, q < S.length → P q → t q = true) (h2 : ∀ q, q < S.length → t q = true → Rc S P q) : Ps S P t false 0 0 t :=
 ⟨h1, h2, fun _ h => h, fun _ _ _ => rfl, fun h => (by cases h), fun _ i' s h => absurd h (Nat.not_lt_zero i'), fun _ s _ _ m f h => absurd h (Nat.not_lt_zero m)⟩
theorem Ps.mark (h : Ps S P t0 ag i kk t) {s : St} (hs : S[i]? = some s) (ht : t i = true) {f : Int} (hf : s.free[kk]? = some f) (h0 : 0 ≤ f) (h1 : f < (S.length : Int)) : Ps S P t0 (ag || !t f.toNat) i (kk + 1) (updB t f.toNat true) := by
 have hi : i < S.length := (List.getElem?_eq_some_iff.1 hs).1
 have hfm : f ∈ s.free := List.mem_of_getElem? hf
 have hfn : f.toNat < S.length := by omega
 have hup : ∀ q, t q = true → updB t f.toNat true q = true := fun q hq => by unfold updB; split; rfl; exact hq
 by_cases hft : t f.toNat = true
 ·have e : updB t f.toNat true = t := by
   funext q
   unfold updB
   split
   ·next h => rw [h, hft]
   ·rfl
  rw [e, hft]
  simp only [Bool.not_true, Bool.or_false]
  refine ⟨h.seeds, h.sound, h.more, h.still, h.new, h.done, fun ha s' hs' ht' m f' hm hf' => ?_⟩
  rw [hs] at hs'
  injection hs' with hs'
  subst hs'
  rcases Nat.lt_or_ge m kk with hlt | hge
  ·exact h.part ha s hs ht' m f' hlt hf'
  ·obtain rfl : m = kk := by omega
   rw [hf] at hf'
   injection hf' with hf'
   rw [← hf']
   exact hft
 ·have hft' : t f.toNat = false := by simpa using hft
  rw [hft']
  simp only [Bool.not_false, Bool.or_true]
  refine ⟨fun q hq hp => hup q (h.seeds q hq hp), fun q hq hu => ?_, fun q hq => hup q (h.more q hq), fun h => (by cases h), fun _ => ⟨f.toNat, hfn, ?_, (by unfold updB; rw [if_pos rfl])⟩, fun h => (by cases h), fun h => (by cases h)⟩
  ·unfold updB at hu
   by_cases hqf : q = f.toNat
   ·rw [hqf]
    exact .go (h.sound i hi ht) hs (by rwa [Int.toNat_of_nonneg h0]) hfn
   ·rw [if_neg hqf] at hu
    exact h.sound q hq hu
  ·cases h0 : t0 f.toNat with
   | false => rfl
   | true => exact absurd (h.more _ h0) hft
theorem Ps.next (h : Ps S P t0 ag i kk t) {s : St} (hs : S[i]? = some s) (hk : kk = s.free.length ∨ t i = false) : Ps S P t0 ag (i + 1) 0 t := by
 refine ⟨h.seeds, h.sound, h.more, h.still, h.new, fun ha i' s' hi hs' ht' f hf => ?_, fun _ s _ _ m f h => absurd h (Nat.not_lt_zero m)⟩
 rcases Nat.lt_or_ge i' i with hlt | hge
 ·exact h.done ha i' s' hlt hs' ht' f hf
 ·obtain rfl : i' = i := by omega
  rw [hs] at hs'
  injection hs' with hs'
  subst hs'
  rcases hk with hk | hk
  ·obtain ⟨m, hm, hmf⟩ := List.getElem_of_mem hf
   exact h.part ha s hs ht' m f (by omega) (by rw [List.getElem?_eq_getElem hm, hmf])
  ·rw [ht'] at hk; cases hk
theorem Ps.end_ (h : Ps S P t0 false S.length kk t) {q : Nat} (hq : q < S.length) : t q = true ↔ Rc S P q :=
 rc_is h.seeds (fun i s hs ht j hj => by
  have := h.done rfl i s (List.getElem?_eq_some_iff.1 hs).1 hs ht _ hj
  simpa using this) h.sound q hq
def unm (n : Nat) (t : Nat → Bool) : Nat := ((List.range n).filter fun q => !t q).length
theorem unm_succ (n : Nat) (t : Nat → Bool) : unm (n + 1) t = unm n t + (if t n = true then 0 else 1) := by
 unfold unm
 rw [List.range_succ, List.filter_append, List.length_append]
 cases h : t n <;> simp [h]
theorem unm_more {u v : Nat → Bool} : ∀ {n : Nat}, (∀ q, u q = true → v q = true) → unm n v ≤ unm n u
 | 0, _ => Nat.le_refl _
 | n + 1, h => by
  have ih := unm_more (n := n) h
  rw [unm_succ, unm_succ]
  by_cases hu : u n = true
  ·rw [if_pos hu, if_pos (h n hu)]; omega
  ·rw [if_neg hu]; split <;> omega
theorem unm_less {u v : Nat → Bool} : ∀ {n : Nat}, (∀ q, u q = true → v q = true) → (∃ q, q < n ∧ u q = false ∧ v q = true) → unm n v < unm n u
 | 0, _, ⟨q, hq, _⟩ => absurd hq (Nat.not_lt_zero q)
 | n + 1, h, ⟨q, hq, h1, h2⟩ => by
  rw [unm_succ, unm_succ]
  rcases Nat.lt_or_ge q n with hlt | hge
  ·have ih := unm_less (n := n) h ⟨q, hlt, h1, h2⟩
   by_cases hu : u n = true
   ·rw [if_pos hu, if_pos (h n hu)]; omega
   ·rw [if_neg hu]; split <;> omega
  ·obtain rfl : q = n := by omega
   have ih := unm_more (n := q) h
   rw [if_pos h2, if_neg (by rw [h1]; simp)]
   omega
theorem Ps.less (h : Ps S P t0 true i kk t) : unm S.length t < unm S.length t0 := unm_less h.more (h.new rfl)
end
noncomputable def mayNB (S : List St) (a z : Int) : Bool := @decide (MayN S a z) (Classical.propDecidable _)
theorem mayNB_yes {S : List St} {a z : Int} (h : MayN S a z) : mayNB S a z = true := by
 unfold mayNB
 exact (@decide_eq_true_iff _ (Classical.propDecidable _)).2 h
theorem mayNB_no {S : List St} {a z : Int} (h : ¬ MayN S a z) : mayNB S a z = false := by
 unfold mayNB
 exact (@decide_eq_false_iff_not _ (Classical.propDecidable _)).2 h
theorem mayNB_iff {S : List St} {a z : Int} : mayNB S a z = true ↔ MayN S a z := by
 unfold mayNB
 exact @decide_eq_true_iff _ (Classical.propDecidable _)
theorem lt_bigN {i n : Nat} (h : i < n) (hn : n ≤ 2000) : i ≤ 4611686018427387904 := by omega
theorem size_nfa {cs : List Value} (h : cs.length = 3) : (Try.prog.info? 24).map (·.size) = some cs.length := by
 rw [h]
 kernel_rfl
theorem size_nst {cs : List Value} (h : cs.length = 6) : (Try.prog.info? 61).map (·.size) = some cs.length := by
 rw [h]
 kernel_rfl
theorem inf_nst : (Try.prog.info? 61).map (fun i => (i.zero, i.size, i.bytes)) = some (some (.agg (stc ⟨fun _ => false, 0, []⟩ (.slice none 0 0)).toArray), 6, 64) := by kernel_rfl
def okS (n : Nat) (s : St) : Prop := s.to < (n : Int) ∧ s.free.length ≤ 8 ∧ ∀ f ∈ s.free, 0 ≤ f ∧ f < (n : Int)
theorem MayN.ok {S : List St} {a z : Int} (h : MayN S a z) {i : Nat} {s : St} (hs : S[i]? = some s) : okS S.length s :=
 have hm := List.mem_of_getElem? hs
 ⟨h.to s hm, h.free8 s hm, h.free s hm⟩
set_option maxHeartbeats 4000000 in
set_option maxRecDepth 1000000 in
theorem refMayN_any (S : List St) (a z : Int) (cs : List Value) (w : World) (hv : NfaV w cs S a z) :
  Calls Try.prog 12 #[.agg cs.toArray] w fun e w' => e = .returned (.bool (mayNB S a z)) ∧ Below w.heap.size w w' := by
 have V := qH hv
 obtain ⟨A, cap, rfl, hlc, hcm, hA0⟩ := hv.len
 have HLC := qH hlc
 have HCM := qH hcm
 clear hv hlc hcm hA0
 by_cases h1 : 2000 < S.length
 ·have i1 : (2000 : Int) < (S.length : Int) := by omega
  have HF := qH (mayNB_no (S := S) (a := a) (z := z) fun h => by have := h.few; omega)
  clear h1
  go_enter Try.func12, Try.ntmps12
  go_wp2_with ((with_reducible refine atDst 1 ?_); refine wpList_box rfl 24 _ rfl [.slice A S.length cap, .int .i64 a, .int .i64 z] rfl (Below.refl w.heap.size w) (Nat.le_refl _) ?_; intro w1 hk1 hb1 hs1 _; have K1 := qH hk1; have B1 := qH hb1; have c0 := hk1.cell 0; have c1 := hk1.cell 1; have c2 := hk1.cell 2; clear hk1 hb1 hs1; (try simp only [Act.put, qA, qB, qC]))
  go_ret
  rw [HF.out]
  exact ⟨rfl, B1.out⟩
 have i1 : ¬ ((2000 : Int) < (S.length : Int)) := by omega
 by_cases h2 : a < 0
 ·have HF := qH (mayNB_no (S := S) (a := a) (z := z) fun h => by have := h.a0; omega)
  clear h1
  go_enter Try.func12, Try.ntmps12
  go_wp2_with ((with_reducible refine atDst 1 ?_); refine wpList_box rfl 24 _ rfl [.slice A S.length cap, .int .i64 a, .int .i64 z] rfl (Below.refl w.heap.size w) (Nat.le_refl _) ?_; intro w1 hk1 hb1 hs1 _; have K1 := qH hk1; have B1 := qH hb1; have c0 := hk1.cell 0; have c1 := hk1.cell 1; have c2 := hk1.cell 2; clear hk1 hb1 hs1; (try simp only [Act.put, qA, qB, qC]))
  go_ret
  rw [HF.out]
  exact ⟨rfl, B1.out⟩
 by_cases h3 : (S.length : Int) ≤ a
 ·have HF := qH (mayNB_no (S := S) (a := a) (z := z) fun h => by have := h.a1; omega)
  clear h1
  go_enter Try.func12, Try.ntmps12
  go_wp2_with ((with_reducible refine atDst 1 ?_); refine wpList_box rfl 24 _ rfl [.slice A S.length cap, .int .i64 a, .int .i64 z] rfl (Below.refl w.heap.size w) (Nat.le_refl _) ?_; intro w1 hk1 hb1 hs1 _; have K1 := qH hk1; have B1 := qH hb1; have c0 := hk1.cell 0; have c1 := hk1.cell 1; have c2 := hk1.cell 2; clear hk1 hb1 hs1; (try simp only [Act.put, qA, qB, qC]))
  go_ret
  rw [HF.out]
  exact ⟨rfl, B1.out⟩
 by_cases h4 : z < 0
 ·have HF := qH (mayNB_no (S := S) (a := a) (z := z) fun h => by have := h.z0; omega)
  clear h1
  go_enter Try.func12, Try.ntmps12
  go_wp2_with ((with_reducible refine atDst 1 ?_); refine wpList_box rfl 24 _ rfl [.slice A S.length cap, .int .i64 a, .int .i64 z] rfl (Below.refl w.heap.size w) (Nat.le_refl _) ?_; intro w1 hk1 hb1 hs1 _; have K1 := qH hk1; have B1 := qH hb1; have c0 := hk1.cell 0; have c1 := hk1.cell 1; have c2 := hk1.cell 2; clear hk1 hb1 hs1; (try simp only [Act.put, qA, qB, qC]))
  go_ret
  rw [HF.out]
  exact ⟨rfl, B1.out⟩
 by_cases h5 : (S.length : Int) ≤ z
 ·have HF := qH (mayNB_no (S := S) (a := a) (z := z) fun h => by have := h.z1; omega)
  clear h1
  go_enter Try.func12, Try.ntmps12
  go_wp2_with ((with_reducible refine atDst 1 ?_); refine wpList_box rfl 24 _ rfl [.slice A S.length cap, .int .i64 a, .int .i64 z] rfl (Below.refl w.heap.size w) (Nat.le_refl _) ?_; intro w1 hk1 hb1 hs1 _; have K1 := qH hk1; have B1 := qH hb1; have c0 := hk1.cell 0; have c1 := hk1.cell 1; have c2 := hk1.cell 2; clear hk1 hb1 hs1; (try simp only [Act.put, qA, qB, qC]))
  go_ret
  rw [HF.out]
  exact ⟨rfl, B1.out⟩
 have HMK := qH (show (∀ i s, S[i]? = some s → okS S.length s) → MayN S a z from fun h => ⟨by omega, by omega, by omega, by omega, by omega, fun s hs => by
   obtain ⟨i, hi, rfl⟩ := List.getElem_of_mem hs
   exact (h i _ (List.getElem?_eq_getElem hi)).1, fun s hs => by
   obtain ⟨i, hi, rfl⟩ := List.getElem_of_mem hs
   exact (h i _ (List.getElem?_eq_getElem hi)).2.1, fun s hs => by
   obtain ⟨i, hi, rfl⟩ := List.getElem_of_mem hs
   exact (h i _ (List.getElem?_eq_getElem hi)).2.2⟩)
 have HN := qH (show S.length ≤ 2000 by omega)
 obtain ⟨i0, hi0, hz0, hs0, hy0⟩ := infoP inf_nst
 obtain ⟨zz, hzz⟩ : ∃ z : List Value, z = stc ⟨fun _ => false, 0, []⟩ (.slice none 0 0) := ⟨_, rfl⟩
 have HZL := qH (show zz.length = 6 by rw [hzz]; rfl)
 have HZ0 := qH (show i0.zero = some (.agg zz.toArray) by rw [hzz]; exact hz0)
 clear h1 hzz hz0 hs0 hy0
 go_enter Try.func12, Try.ntmps12
 go_wp2_with ((with_reducible refine atDst 1 ?_); refine wpList_box rfl 24 _ rfl [.slice A S.length cap, .int .i64 a, .int .i64 z] rfl (Below.refl w.heap.size w) (Nat.le_refl _) ?_; intro w1 hk1 hb1 hs1 _; have K1 := qH hk1; have B1 := qH hb1; have c0 := hk1.cell 0; have c1 := hk1.cell 1; have c2 := hk1.cell 2; clear hk1 hb1 hs1; (try simp only [Act.put, qA, qB, qC]))
 go_loopw [4] (fun iv wl => ∃ i : Nat, i ≤ S.length ∧ iv = .int .i64 (i : Int) ∧ (∀ i' s, i' < i → S[i']? = some s → okS S.length s) ∧ Below w1.heap.size w1 wl) (fun iv _ => S.length - (intOf iv).toNat)
 case atStart => exact ⟨0, Nat.zero_le _, by simp, fun i' s h => absurd h (Nat.not_lt_zero i'), Below.refl _ _⟩
 obtain ⟨i, hi, rfl, hok, hb⟩ := hrel
 have HOK := qH hok
 have BR := qH hb
 have BW := qH (B1.out.trans (hb.mono B1.out.size))
 clear hok hb c0 c1 c2
 have KR := qH (K1.out.below BR.out K1.out.lt)
 have c0 := KR.out.cell 0
 by_cases hin : i < S.length
 ·have x1 : (i : Int) < (S.length : Int) := Int.ofNat_lt.2 hin
  have HI := qH hin
  have HMI := qH (sub_next hin)
  have e3 := wrap_one i (lt_bigN HI.out HN.out)
  have e4 := wrap_one' i (lt_bigN HI.out HN.out)
  obtain ⟨s, hs⟩ : ∃ s, S[i]? = some s := ⟨_, List.getElem?_eq_getElem hin⟩
  have HS := qH hs
  obtain ⟨b, off, Af, cf, rfl, hlt, hr, hrow⟩ := (V.out.below BW.out).whole hs
  have HR := qH hr
  have HROW := qH hrow
  clear hi hin hs hr hrow hlt
  obtain ⟨wq, hwq⟩ : ∃ v : World, v = wr := ⟨_, rfl⟩
  subst hwq
  obtain ⟨fl, hfl⟩ : ∃ n, n = s.free.length := ⟨_, rfl⟩
  have HFL := qH hfl
  obtain ⟨st, hst⟩ : ∃ l, l = stc s (.slice Af fl cf) := ⟨_, rfl⟩
  rw [← hfl] at HROW
  have HR2 := qH (show wq.rangeAt b (off + i * 6) st by rw [hst, hfl]; exact HR.out)
  have HT6 := qH (show st.length = 6 by rw [hst]; rfl)
  have HT1 := qH (show st.all (·.oneCell') = true by rw [hst]; exact stc_one _ _ _ _)
  have HT4 := qH (show st[4]? = some (.int .i64 s.to) by rw [hst]; rfl)
  have HT5 := qH (show st[5]? = some (.slice Af fl cf) by rw [hst]; rfl)
  obtain ⟨to, hto⟩ : ∃ n, n = s.to := ⟨_, rfl⟩
  have HTO := qH hto
  rw [← hto] at HT4
  clear hst hfl HR hto
  by_cases h1 : (S.length : Int) ≤ to
  ·have HT := qH (mayNB_no (S := S) (a := a) (z := z) fun h => by have h9 := (h.ok HS.out).1; rw [← HTO.out] at h9; omega)
   go_wp2_with (first
    | ((with_reducible refine atDst 43 ?_); refine wpList_load_mid rfl 61 _ rfl b (off + i * 6) rfl st _ HR2.out Try.underlying61 rfl (size_nst HT6.out) ?_; (try simp only [Act.put, qA, qB, qC]))
    | ((with_reducible refine atDst 5 ?_); refine wpList_new rfl 61 rfl i0 _ zz hi0 HZ0.out rfl (Below.refl wq.heap.size wq) (Nat.le_refl _) ?_; intro w4 hk hb hs ho; have K4 := qH hk; have B4 := qH hb; clear hk hb hs ho; (try simp only [Act.put, qA, qB, qC]))
    | ((with_reducible refine atStore 61 5 43 ?_); refine wpList_stBlk rfl 61 _ _ rfl wq.heap.size st rfl rfl 61 _ K4.out (size_nst HT6.out) (by rw [HZL.out, HT6.out]) HT1.out B4.out (Nat.le_refl _) ?_; intro w5 hk hb hs ho; have K5 := qH hk; have B5 := qH hb; have B5R := qH (BR.out.trans (hb.mono BR.out.size)); have BZ := qH (BW.out.trans (hb.mono BW.out.size)); have k4 := hk.cell 4; rw [HT4.out] at k4; have k5 := hk.cell 5; rw [HT5.out] at k5; clear hk hb hs ho; (try simp only [Act.put, qA, qB, qC])))
   go_ret
   rw [HT.out]
   exact ⟨rfl, BZ.out⟩
  by_cases h2 : 8 < fl
  ·have d1 : (8 : Int) < (fl : Int) := by omega
   have HT := qH (mayNB_no (S := S) (a := a) (z := z) fun h => by have h9 := (h.ok HS.out).2.1; rw [← HFL.out] at h9; omega)
   clear h2
   go_wp2_with (first
    | ((with_reducible refine atDst 43 ?_); refine wpList_load_mid rfl 61 _ rfl b (off + i * 6) rfl st _ HR2.out Try.underlying61 rfl (size_nst HT6.out) ?_; (try simp only [Act.put, qA, qB, qC]))
    | ((with_reducible refine atDst 5 ?_); refine wpList_new rfl 61 rfl i0 _ zz hi0 HZ0.out rfl (Below.refl wq.heap.size wq) (Nat.le_refl _) ?_; intro w4 hk hb hs ho; have K4 := qH hk; have B4 := qH hb; clear hk hb hs ho; (try simp only [Act.put, qA, qB, qC]))
    | ((with_reducible refine atStore 61 5 43 ?_); refine wpList_stBlk rfl 61 _ _ rfl wq.heap.size st rfl rfl 61 _ K4.out (size_nst HT6.out) (by rw [HZL.out, HT6.out]) HT1.out B4.out (Nat.le_refl _) ?_; intro w5 hk hb hs ho; have K5 := qH hk; have B5 := qH hb; have B5R := qH (BR.out.trans (hb.mono BR.out.size)); have BZ := qH (BW.out.trans (hb.mono BW.out.size)); have k4 := hk.cell 4; rw [HT4.out] at k4; have k5 := hk.cell 5; rw [HT5.out] at k5; clear hk hb hs ho; (try simp only [Act.put, qA, qB, qC])))
   go_ret
   rw [HT.out]
   exact ⟨rfl, BZ.out⟩
  have d1 : ¬ ((8 : Int) < (fl : Int)) := by omega
  have HF8 := qH (show fl ≤ 8 by omega)
  clear h2
  go_wp2_with (first
   | ((with_reducible refine atDst 43 ?_); refine wpList_load_mid rfl 61 _ rfl b (off + i * 6) rfl st _ HR2.out Try.underlying61 rfl (size_nst HT6.out) ?_; (try simp only [Act.put, qA, qB, qC]))
   | ((with_reducible refine atDst 5 ?_); refine wpList_new rfl 61 rfl i0 _ zz hi0 HZ0.out rfl (Below.refl wq.heap.size wq) (Nat.le_refl _) ?_; intro w4 hk hb hs ho; have K4 := qH hk; have B4 := qH hb; clear hk hb hs ho; (try simp only [Act.put, qA, qB, qC]))
   | ((with_reducible refine atStore 61 5 43 ?_); refine wpList_stBlk rfl 61 _ _ rfl wq.heap.size st rfl rfl 61 _ K4.out (size_nst HT6.out) (by rw [HZL.out, HT6.out]) HT1.out B4.out (Nat.le_refl _) ?_; intro w5 hk hb hs ho; have K5 := qH hk; have B5 := qH hb; have B5R := qH (BR.out.trans (hb.mono BR.out.size)); have BZ := qH (BW.out.trans (hb.mono BW.out.size)); have k4 := hk.cell 4; rw [HT4.out] at k4; have k5 := hk.cell 5; rw [HT5.out] at k5; clear hk hb hs ho; (try simp only [Act.put, qA, qB, qC])))
  go_loopw [6] (fun jv wl => ∃ j : Nat, j ≤ fl ∧ jv = .int .i64 (j : Int) ∧ (∀ m f, m < j → s.free[m]? = some f → 0 ≤ f ∧ f < (S.length : Int)) ∧ Below w5.heap.size w5 wl) (fun jv _ => fl - (intOf jv).toNat)
  case atStart => exact ⟨0, Nat.zero_le _, by simp, fun m f h => absurd h (Nat.not_lt_zero m), Below.refl _ _⟩
  clear k4 k5
  obtain ⟨j, hj, rfl, hfr, hb⟩ := hrel
  have HFR := qH hfr
  have B5J := qH hb
  have BJ := qH (B5R.out.trans (hb.mono B5R.out.size))
  have BY := qH (BZ.out.trans (hb.mono BZ.out.size))
  have k5 := (K5.out.below hb K5.out.lt).cell 5
  rw [HT5.out] at k5
  have RX := qH (HROW.out.below (B5.out.trans (hb.mono B5.out.size)))
  clear hfr hb
  by_cases hjf : j < fl
  ·have y1 : (j : Int) < (fl : Int) := Int.ofNat_lt.2 hjf
   have HJ := qH hjf
   have HMJ := qH (sub_next hjf)
   have f3 := wrap_one j (lt_bigN HJ.out (Nat.le_trans HF8.out (by decide)))
   have f4 := wrap_one' j (lt_bigN HJ.out (Nat.le_trans HF8.out (by decide)))
   obtain ⟨f, hf⟩ : ∃ f, s.free[j]? = some f := ⟨_, List.getElem?_eq_getElem (by rw [← HFL.out]; exact hjf)⟩
   have HF := qH hf
   obtain ⟨bf, of, rfl, hbf, hcf⟩ := RX.out.at_ (by rw [nums_length, ← HFL.out]; omega)
   have hcj := hcf j (.int .i64 f) (by
    obtain ⟨hjl, rfl⟩ := List.getElem?_eq_some_iff.1 hf
    exact nums_get _ _ _ hjl)
   clear hj hjf hf hcf hbf
   by_cases g1 : f < 0
   ·have HT := qH (mayNB_no (S := S) (a := a) (z := z) fun h => by have h9 := (h.ok HS.out).2.2 f (List.mem_of_getElem? HF.out); omega)
    go_wp2_with fail
    go_ret
    rw [HT.out]
    exact ⟨rfl, BY.out⟩
   by_cases g2 : (S.length : Int) ≤ f
   ·have HT := qH (mayNB_no (S := S) (a := a) (z := z) fun h => by have h9 := (h.ok HS.out).2.2 f (List.mem_of_getElem? HF.out); omega)
    go_wp2_with fail
    go_ret
    rw [HT.out]
    exact ⟨rfl, BY.out⟩
   have HFF := qH (show 0 ≤ f ∧ f < (S.length : Int) from ⟨by omega, by omega⟩)
   go_wp2_with fail
   refine ⟨⟨j + 1, HJ.out, by congr 1, fun m f' hm hf' => ?_, ?_⟩, by simpa [intOf] using HMJ.out⟩
   ·rcases Nat.lt_or_ge m j with hlt | hge
    ·exact HFR.out m f' hlt hf'
    ·obtain rfl : m = j := by omega
     rw [HF.out] at hf'
     injection hf' with hf'
     rw [← hf']
     exact HFF.out
   ·exact B5J.out
  obtain rfl : j = fl := by omega
  have y1 : ¬ ((j : Int) < (j : Int)) := by omega
  have HFA := qH (show okS S.length s from ⟨by rw [← HTO.out]; omega, by rw [← HFL.out]; exact HF8.out, fun f hf => by
   obtain ⟨m, hm, rfl⟩ := List.getElem_of_mem hf
   exact HFR.out m _ (by rw [HFL.out]; exact hm) (List.getElem?_eq_getElem hm)⟩)
  go_wp2_with fail
  refine ⟨⟨i + 1, HI.out, by congr 1, fun i' s' hi' hs' => ?_, BJ.out⟩, by simpa [intOf] using HMI.out⟩
  rcases Nat.lt_or_ge i' i with hlt | hge
  ·exact HOK.out i' s' hlt hs'
  ·obtain rfl : i' = i := by omega
   rw [HS.out] at hs'
   injection hs' with hs'
   rw [← hs']
   exact HFA.out
 ·obtain rfl : i = S.length := by omega
  have x1 : ¬ ((S.length : Int) < (S.length : Int)) := by omega
  have HT := qH (mayNB_yes (HMK.out fun i s hs => HOK.out i s (List.getElem?_eq_some_iff.1 hs).1 hs))
  go_wp2_with fail
  go_ret
  rw [HT.out]
  exact ⟨rfl, BW.out⟩
structure Off (D : Nat → Prop) (w w' : World) : Prop where
 os : w'.os = w.os
 tape : w'.tape = w.tape
 output : w'.output = w.output
 size : w.heap.size ≤ w'.heap.size
 block : ∀ k, k < w.heap.size → ¬ D k → w'.heap[k]? = w.heap[k]?
section
variable {D D' : Nat → Prop} {w w1 w2 w' : World} {B b o : Nat}
theorem Off.refl (D : Nat → Prop) (w : World) : Off D w w := ⟨rfl, rfl, rfl, Nat.le_refl _, fun _ _ _ => rfl⟩
theorem Off.start (D : Nat → Prop) (w : World) : Off D w w.drew := ⟨rfl, rfl, rfl, Nat.le_refl _, fun _ _ _ => rfl⟩
theorem Off.trans (h : Off D w w1) (k : Off D w1 w2) : Off D w w2 :=
 ⟨k.os.trans h.os, k.tape.trans h.tape, k.output.trans h.output, Nat.le_trans h.size k.size, fun i hi hn => (k.block i (Nat.lt_of_lt_of_le hi h.size) hn).trans (h.block i hi hn)⟩
theorem Off.mono (h : Off D w w') (hD : ∀ k, k < w.heap.size → D k → D' k) : Off D' w w' := ⟨h.os, h.tape, h.output, h.size, fun k hk hn => h.block k hk fun hd => hn (hD k hk hd)⟩
theorem Off.of (h : Below B w w') (hB : ∀ k, k < w.heap.size → ¬ D k → k < B) : Off D w w' := ⟨h.os, h.tape, h.output, h.size, fun k hk hn => h.block k (hB k hk hn)⟩
theorem Off.new (D : Nat → Prop) (h : Below w.heap.size w w') : Off D w w' := .of h fun k hk _ => hk
theorem Off.put {g : Nat} (h : Below B w w') (ho : ∀ k, k ≠ g → w'.heap[k]? = w.heap[k]?) (hD : w.heap.size ≤ g ∨ D g) : Off D w w' :=
 ⟨h.os, h.tape, h.output, h.size, fun k hk hn => ho k (by rintro rfl; rcases hD with h1 | h1; exact absurd hk (Nat.not_lt.2 h1); exact hn h1)⟩
theorem Off.grown {r : Option Nat} (h : w.grownBy w' r) (hD : ∀ k, r = some k → w.heap.size ≤ k ∨ D k) : Off D w w' :=
 ⟨h.os, h.tape, h.output, h.size, fun k hk hn => h.block k hk fun e => by rcases hD k e.symm with h1 | h1; exact absurd hk (Nat.not_lt.2 h1); exact hn h1⟩
theorem Off.set (w : World) {g : Nat} (i : Nat) (u : Value) (hD : D g) : Off D w (w.setCell ⟨g, i, none⟩ u) :=
 ⟨rfl, rfl, rfl, by simp [World.setCell], fun k hk hn => Below.heap_setCell w ⟨g, i, none⟩ u k (by rintro rfl; exact hn hD)⟩
theorem Off.setCells {g : Nat} (hD : D g) : ∀ (vs : List Value) (o : Nat) (w : World), Off D w (w.setCells g o vs)
 | [], _, w => Off.refl D w
 | v :: r, o, w => (Off.set w o v hD).trans (Off.setCells hD r (o + 1) _)
theorem Off.below (h : Off D w w') (hD : ∀ k, D k → B ≤ k) (hB : B ≤ w.heap.size) : Below B w w' := ⟨h.os, h.tape, h.output, h.size, fun k hk => h.block k (Nat.lt_of_lt_of_le hk hB) fun hd => absurd hk (Nat.not_lt.2 (hD k hd))⟩
theorem Off.cell (h : Off D w w') {v : Value} (hb : b < w.heap.size) (hn : ¬ D b) (hc : w.cell? ⟨b, o, none⟩ = some v) : w'.cell? ⟨b, o, none⟩ = some v := by
 have := h.block b hb hn
 unfold World.cell? at hc ⊢
 simp only [this]
 exact hc
theorem Off.range (h : Off D w w') {cs : List Value} (hb : b < w.heap.size) (hn : ¬ D b) (hc : w.rangeAt b o cs) : w'.rangeAt b o cs := fun j v hv => h.cell hb hn (hc j v hv)
theorem Off.blk (h : Off D w w') {t : TypeId} {cs : List Value} (hn : ¬ D b) (hc : Blk w b t cs) : Blk w' b t cs := (h.block b hc.lt hn).trans hc
theorem Off.then (h : Off D w w1) (hb : Below w1.heap.size w1 w2) : Off D w w2 := h.trans (Off.new D hb)
end
end Go.Proofs.Ytmcpfaaakmehdaa
