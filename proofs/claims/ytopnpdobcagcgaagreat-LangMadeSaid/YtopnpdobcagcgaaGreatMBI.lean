/-
  Texts of this proof, put together: LwY, SpA, SpB. No statement is proved here.
-/
import Derived.Test.YtopnpdobcagcgaaGreatMBF
import Derived.Test.YtopnpdobcagcgaaGreatMBH
import Derived.Test.YtopnpdobcagcgaaGreatMBD
namespace Go.Proofs.YtopnpdobcagcgaaGreat
open Go.RowKit
set_option linter.unusedSimpArgs false
set_option linter.unusedVariables false
/-! ### May -/
def mayV (t : T) : Int := if 400 < t.nodes then 4 else if 30 < t.depth then 5 else 0
set_option maxHeartbeats 4000000 in
set_option maxRecDepth 1000000 in
theorem refMay_any (t : T) (ht : good t) (hx : t.nodes ≤ 274877906944) (cs : List Value) (w : World) (hv : RxV w.heap.size w cs t) :
  Calls Tryz.prog 10 #[.agg cs.toArray] w fun e w' => e = .returned (.int .i64 (mayV t)) ∧ Below w.heap.size w w' := by
 have V := qH hv
 have HC6 := qH hv.length
 have HF := qH ht
 have HX := qH hx
 obtain ⟨n, hn⟩ : ∃ n, n = t.nodes := ⟨_, rfl⟩
 obtain ⟨m, hm⟩ : ∃ m, m = t.depth := ⟨_, rfl⟩
 have HN := qH hn
 have HM := qH hm
 have HR := qH (show mayV t = if 400 < n then 4 else if 30 < m then 5 else 0 by rw [hn, hm]; rfl)
 clear hv ht hx hn hm
 by_cases h1 : 400 < n
 ·have n1 : (400 : Int) < (n : Int) := by omega
  have HE := qH (show mayV t = 4 by rw [HR.out, if_pos h1])
  clear h1
  go_enter Tryz.func10, Tryz.ntmps10
  go_wp2_with (first
   | ((with_reducible refine atDst 1 ?_); refine wpList_box rfl 29 _ rfl cs rfl (Below.refl w.heap.size w) (Nat.le_refl _) ?_; intro w1 hk1 hb1 hs1 _; have K1 := qH hk1; have B1 := qH hb1; clear hk1 hb1 hs1; (try simp only [Act.put, qA, qB, qC]))
   | ((with_reducible refine atDst 4 ?_); refine wpList_ldArr rfl 29 _ rfl w.heap.size rfl 29 _ _ K1.out Tryz.underlying29 rfl (size_rx HC6.out) ?_; (try simp only [Act.put, qA, qB, qC])))
  refine (refNodes_any t.nodes t (Nat.le_refl _) (Nat.le_trans HX.out (by decide)) cs w1 ((V.out.stay B1.out).mono B1.out.size)).mono ?_
  rintro e w2 ⟨rfl, hb⟩
  rw [← HN.out]
  have B2 := qH (B1.out.trans (hb.mono B1.out.size))
  have K2 := qH (K1.out.below hb K1.out.lt)
  clear hb
  go_wp2_with fail
  go_ret
  exact ⟨congrArg (fun x => Ending.returned (.int .i64 x)) HE.out.symm, B2.out⟩
 have n1 : ¬ ((400 : Int) < (n : Int)) := by omega
 by_cases h2 : 30 < m
 ·have n2 : (30 : Int) < (m : Int) := by omega
  have HE := qH (show mayV t = 5 by rw [HR.out, if_neg h1, if_pos h2])
  clear h1 h2
  go_enter Tryz.func10, Tryz.ntmps10
  go_wp2_with (first
   | ((with_reducible refine atDst 1 ?_); refine wpList_box rfl 29 _ rfl cs rfl (Below.refl w.heap.size w) (Nat.le_refl _) ?_; intro w1 hk1 hb1 hs1 _; have K1 := qH hk1; have B1 := qH hb1; clear hk1 hb1 hs1; (try simp only [Act.put, qA, qB, qC]))
   | ((with_reducible refine atDst 4 ?_); refine wpList_ldArr rfl 29 _ rfl w.heap.size rfl 29 _ _ K1.out Tryz.underlying29 rfl (size_rx HC6.out) ?_; (try simp only [Act.put, qA, qB, qC])))
  refine (refNodes_any t.nodes t (Nat.le_refl _) (Nat.le_trans HX.out (by decide)) cs w1 ((V.out.stay B1.out).mono B1.out.size)).mono ?_
  rintro e w2 ⟨rfl, hb⟩
  rw [← HN.out]
  have B2 := qH (B1.out.trans (hb.mono B1.out.size))
  have K2 := qH (K1.out.below hb K1.out.lt)
  clear hb
  go_wp2_with ((with_reducible refine atDst 8 ?_); refine wpList_ldArr rfl 29 _ rfl w.heap.size rfl 29 _ _ K2.out Tryz.underlying29 rfl (size_rx HC6.out) ?_; (try simp only [Act.put, qA, qB, qC]))
  refine (refDepth_any t.nodes t (Nat.le_refl _) (Nat.le_trans HX.out (by decide)) cs w2 ((V.out.stay B2.out).mono B2.out.size)).mono ?_
  rintro e w3 ⟨rfl, hb⟩
  rw [← HM.out]
  have B3 := qH (B2.out.trans (hb.mono B2.out.size))
  have K3 := qH (K2.out.below hb K2.out.lt)
  clear hb
  go_wp2_with fail
  go_ret
  exact ⟨congrArg (fun x => Ending.returned (.int .i64 x)) HE.out.symm, B3.out⟩
 ·have n2 : ¬ ((30 : Int) < (m : Int)) := by omega
  have HE := qH (show mayV t = 0 by rw [HR.out, if_neg h1, if_neg h2])
  clear h1 h2
  go_enter Tryz.func10, Tryz.ntmps10
  go_wp2_with (first
   | ((with_reducible refine atDst 1 ?_); refine wpList_box rfl 29 _ rfl cs rfl (Below.refl w.heap.size w) (Nat.le_refl _) ?_; intro w1 hk1 hb1 hs1 _; have K1 := qH hk1; have B1 := qH hb1; clear hk1 hb1 hs1; (try simp only [Act.put, qA, qB, qC]))
   | ((with_reducible refine atDst 4 ?_); refine wpList_ldArr rfl 29 _ rfl w.heap.size rfl 29 _ _ K1.out Tryz.underlying29 rfl (size_rx HC6.out) ?_; (try simp only [Act.put, qA, qB, qC])))
  refine (refNodes_any t.nodes t (Nat.le_refl _) (Nat.le_trans HX.out (by decide)) cs w1 ((V.out.stay B1.out).mono B1.out.size)).mono ?_
  rintro e w2 ⟨rfl, hb⟩
  rw [← HN.out]
  have B2 := qH (B1.out.trans (hb.mono B1.out.size))
  have K2 := qH (K1.out.below hb K1.out.lt)
  clear hb
  go_wp2_with ((with_reducible refine atDst 8 ?_); refine wpList_ldArr rfl 29 _ rfl w.heap.size rfl 29 _ _ K2.out Tryz.underlying29 rfl (size_rx HC6.out) ?_; (try simp only [Act.put, qA, qB, qC]))
  refine (refDepth_any t.nodes t (Nat.le_refl _) (Nat.le_trans HX.out (by decide)) cs w2 ((V.out.stay B2.out).mono B2.out.size)).mono ?_
  rintro e w3 ⟨rfl, hb⟩
  rw [← HM.out]
  have B3 := qH (B2.out.trans (hb.mono B2.out.size))
  have K3 := qH (K2.out.below hb K2.out.lt)
  clear hb
  go_wp2_with ((with_reducible refine atDst 12 ?_); refine wpList_ldArr rfl 29 _ rfl w.heap.size rfl 29 _ _ K3.out Tryz.underlying29 rfl (size_rx HC6.out) ?_; (try simp only [Act.put, qA, qB, qC]))
  refine (refPlain_any t.nodes t (Nat.le_refl _) HX.out HF.out.1 cs w3 ((V.out.stay B3.out).mono B3.out.size)).mono ?_
  rintro e w4 ⟨rfl, hb⟩
  rw [HF.out.2]
  have B4 := qH (B3.out.trans (hb.mono B3.out.size))
  clear hb
  go_wp2_with fail
  go_ret
  exact ⟨congrArg (fun x => Ending.returned (.int .i64 x)) HE.out.symm, B4.out⟩
noncomputable def spB (P : List UInt8 → Prop) (W : List UInt8) (i j : Nat) : Bool := @decide (i ≤ j ∧ j ≤ W.length ∧ P (seg W i j)) (Classical.propDecidable _)
theorem spB_iff {P : List UInt8 → Prop} {W : List UInt8} {i j : Nat} : spB P W i j = true ↔ i ≤ j ∧ j ≤ W.length ∧ P (seg W i j) := by
 unfold spB
 exact @decide_eq_true_iff _ (Classical.propDecidable _)
theorem spB_congr {P Q : List UInt8 → Prop} (W : List UInt8) (h : ∀ u, P u ↔ Q u) : spB P W = spB Q W := by
 funext i j
 rw [Bool.eq_iff_iff, spB_iff, spB_iff, h]
theorem spB_lg (t : T) (W : List UInt8) : spB (Lg t) W 0 W.length = lgB t W := by
 rw [Bool.eq_iff_iff, spB_iff, lgB_iff, seg_all]
 exact ⟨fun h => h.2.2, fun h => ⟨Nat.zero_le _, Nat.le_refl _, h⟩⟩
theorem spB_no {P : List UInt8 → Prop} {W : List UInt8} (h : ∀ u, ¬ P u) : spB P W = fun _ _ => false := by
 funext i j
 cases he : spB P W i j with
 | false => rfl
 | true => exact absurd (spB_iff.1 he).2.2 (h _)
theorem spB_nil {W : List UInt8} {i j : Nat} (hj : j ≤ W.length) : spB (fun u => u = []) W i j = decide (i = j) := by
 rw [Bool.eq_iff_iff, spB_iff, decide_eq_true_eq]
 constructor
 ·rintro ⟨a, b, c⟩; exact seg_nil a b c
 ·rintro rfl; exact ⟨Nat.le_refl _, hj, seg_same W i⟩
theorem spB_one {s : Nat → Bool} {W : List UInt8} {i j : Nat} : spB (fun u => ∃ b : UInt8, u = [b] ∧ s b.toNat = true) W i j = (decide (j = i + 1) && hitP s W i) := by
 rw [Bool.eq_iff_iff, spB_iff, Bool.and_eq_true, decide_eq_true_eq, hitP_iff]
 constructor
 ·rintro ⟨a, b, c⟩; exact (seg_one a b).1 c
 ·rintro ⟨rfl, b, h, hs⟩
  have h1 := (List.getElem?_eq_some_iff.1 h).1
  exact ⟨by omega, by omega, (seg_one (by omega) (by omega)).2 ⟨rfl, b, h, hs⟩⟩
theorem spB_or {P Q : List UInt8 → Prop} {W : List UInt8} (i j : Nat) : spB (fun u => P u ∨ Q u) W i j = (spB P W i j || spB Q W i j) := by
 rw [Bool.eq_iff_iff, Bool.or_eq_true, spB_iff, spB_iff, spB_iff]
 constructor
 ·rintro ⟨a, b, c | c⟩
  ·exact .inl ⟨a, b, c⟩
  ·exact .inr ⟨a, b, c⟩
 ·rintro (⟨a, b, c⟩ | ⟨a, b, c⟩)
  ·exact ⟨a, b, .inl c⟩
  ·exact ⟨a, b, .inr c⟩
def bhJ (f u : Nat → Nat → Bool) (i j q : Nat) : Bool := (List.range j).any fun k => (decide (i ≤ k ∧ k ≤ q) && f i k) && u k q
theorem bhJ_succ (f u : Nat → Nat → Bool) (i j q : Nat) : bhJ f u i (j + 1) q = (bhJ f u i j q || ((decide (i ≤ j ∧ j ≤ q) && f i j) && u j q)) := by
 unfold bhJ
 rw [List.range_succ, List.any_append]
 simp
theorem bhJ_iff {f u : Nat → Nat → Bool} {i j q : Nat} : bhJ f u i j q = true ↔ ∃ k, k < j ∧ i ≤ k ∧ k ≤ q ∧ f i k = true ∧ u k q = true := by
 unfold bhJ
 rw [List.any_eq_true]
 constructor
 ·rintro ⟨k, hk, h⟩
  rw [Bool.and_eq_true, Bool.and_eq_true, decide_eq_true_eq] at h
  exact ⟨k, List.mem_range.1 hk, h.1.1.1, h.1.1.2, h.1.2, h.2⟩
 ·rintro ⟨k, h1, h2, h3, h4, h5⟩
  refine ⟨k, List.mem_range.2 h1, ?_⟩
  rw [Bool.and_eq_true, Bool.and_eq_true, decide_eq_true_eq]
  exact ⟨⟨⟨h2, h3⟩, h4⟩, h5⟩
theorem bhJ_start (f u : Nat → Nat → Bool) (i : Nat) : bhJ f u i i = fun _ => false := by
 funext q
 cases h : bhJ f u i i q with
 | false => rfl
 | true => obtain ⟨k, h1, h2, _⟩ := bhJ_iff.1 h; omega
theorem bhJ_not {f u : Nat → Nat → Bool} {i j : Nat} (h : f i j = false) : bhJ f u i (j + 1) = bhJ f u i j := by
 funext q
 rw [bhJ_succ, h]
 simp
theorem bhJ_low {f u : Nat → Nat → Bool} {i j q : Nat} (h : q < j) : bhJ f u i (j + 1) q = bhJ f u i j q := by
 rw [bhJ_succ, decide_eq_false (by omega)]
 simp
theorem bhJ_at {f u : Nat → Nat → Bool} {i j q : Nat} (hi : i ≤ j) (hj : j ≤ q) (h : f i j = true) : bhJ f u i (j + 1) q = (bhJ f u i j q || u j q) := by
 rw [bhJ_succ, decide_eq_true (⟨hi, hj⟩ : i ≤ j ∧ j ≤ q), h]
 simp
theorem bhJ_words {P Q : List UInt8 → Prop} {W : List UInt8} {i q : Nat} (hq : q ≤ W.length) : bhJ (spB P W) (spB Q W) i (W.length + 1) q = spB (fun x => ∃ u v, x = u ++ v ∧ P u ∧ Q v) W i q := by
 rw [Bool.eq_iff_iff, bhJ_iff, spB_iff]
 constructor
 ·rintro ⟨k, h1, h2, h3, h4, h5⟩
  exact ⟨by omega, hq, _, _, seg_app h2 h3, (spB_iff.1 h4).2.2, (spB_iff.1 h5).2.2⟩
 ·rintro ⟨h1, _, h2⟩
  obtain ⟨k, a, b, c, d⟩ := (seg_two h1 hq).1 h2
  exact ⟨k, by omega, a, b, spB_iff.2 ⟨a, by omega, c⟩, spB_iff.2 ⟨b, hq, d⟩⟩
def stJ (u : Nat → Nat → Bool) (i : Nat) : Nat → Nat → Bool
 | 0, q => decide (q = i)
 | j + 1, q => stJ u i j q || ((decide (i ≤ j ∧ j < q) && stJ u i j j) && u j q)
theorem stJ_iff {u : Nat → Nat → Bool} {i q : Nat} : ∀ j, stJ u i j q = true ↔ q = i ∨ ∃ k, k < j ∧ i ≤ k ∧ k < q ∧ stJ u i k k = true ∧ u k q = true
 | 0 => by simp [stJ]
 | j + 1 => by
  rw [stJ, Bool.or_eq_true, Bool.and_eq_true, Bool.and_eq_true, decide_eq_true_eq, stJ_iff j]
  constructor
  ·rintro ((h | ⟨k, h1, h2⟩) | ⟨⟨⟨h1, h2⟩, h3⟩, h4⟩)
   ·exact .inl h
   ·exact .inr ⟨k, by omega, h2⟩
   ·exact .inr ⟨j, by omega, h1, h2, h3, h4⟩
  ·rintro (h | ⟨k, h1, h2, h3, h4, h5⟩)
   ·exact .inl (.inl h)
   rcases Nat.lt_or_ge k j with h | h
   ·exact .inl (.inr ⟨k, h, h2, h3, h4, h5⟩)
   ·obtain rfl : k = j := by omega
    exact .inr ⟨⟨⟨h2, h3⟩, h4⟩, h5⟩
theorem stJ_start (u : Nat → Nat → Bool) (i : Nat) : stJ u i i = fun q => decide (q = i) := by
 funext q
 rw [Bool.eq_iff_iff, stJ_iff, decide_eq_true_eq]
 constructor
 ·rintro (h | ⟨k, h1, h2, _⟩)
  ·exact h
  ·omega
 ·exact .inl
theorem stJ_low {u : Nat → Nat → Bool} {i j q : Nat} (h : q ≤ j) : stJ u i (j + 1) q = stJ u i j q := by
 rw [stJ, decide_eq_false (by omega)]
 simp
theorem stJ_not {u : Nat → Nat → Bool} {i j : Nat} (h : stJ u i j j = false) : stJ u i (j + 1) = stJ u i j := by
 funext q
 rw [stJ, h]
 simp
theorem stJ_at {u : Nat → Nat → Bool} {i j q : Nat} (hi : i ≤ j) (hj : j < q) (h : stJ u i j j = true) : stJ u i (j + 1) q = (stJ u i j q || u j q) := by
 rw [stJ, decide_eq_true (⟨hi, hj⟩ : i ≤ j ∧ j < q), h]
 simp
theorem stJ_words {P : List UInt8 → Prop} {W : List UInt8} {i : Nat} : ∀ (m q : Nat), q ≤ m → q ≤ W.length → ∀ j, q ≤ j → (stJ (spB P W) i j q = true ↔ i ≤ q ∧ StarL P (seg W i q))
 | m, q, hm, hq, j, hj => by
  rw [stJ_iff]
  constructor
  ·rintro (rfl | ⟨k, h1, h2, h3, h4, h5⟩)
   ·exact ⟨Nat.le_refl _, by rw [seg_same]; exact .nil⟩
   ·have h6 : k < m := by omega
    match m, h6 with
    | m + 1, h6 =>
     have ih := (stJ_words m k (by omega) (by omega) k (Nat.le_refl _)).1 h4
     exact ⟨by omega, (star_seg (by omega) hq).2 (.inr ⟨k, h2, h3, ih.2, (spB_iff.1 h5).2.2⟩)⟩
  ·rintro ⟨h1, h2⟩
   rcases (star_seg h1 hq).1 h2 with h | ⟨k, a, b, c, d⟩
   ·exact .inl h.symm
   ·have h6 : k < m := by omega
    match m, h6 with
    | m + 1, h6 =>
     have ih := (stJ_words m k (by omega) (by omega) k (Nat.le_refl _)).2 ⟨a, c⟩
     exact .inr ⟨k, by omega, a, b, ih, spB_iff.2 ⟨by omega, hq, d⟩⟩
theorem stJ_star {P : List UInt8 → Prop} {W : List UInt8} {i q : Nat} (hq : q ≤ W.length) : stJ (spB P W) i (W.length + 1) q = spB (StarL P) W i q := by
 rw [Bool.eq_iff_iff, stJ_words q q (Nat.le_refl _) hq _ (by omega), spB_iff]
 exact ⟨fun h => ⟨h.1, hq, h.2⟩, fun h => ⟨h.1, h.2.2⟩⟩
/-! ### by kinds -/
theorem sp_k2 {t : T} (h : t.kind = 2) {W : List UInt8} {i j : Nat} (hj : j ≤ W.length) : spB (Lg t) W i j = decide (i = j) := by
 rw [spB_congr W fun u => lg_k2 h u, spB_nil hj]
theorem sp_k3 (s : Nat → Bool) (l : List T) {W : List UInt8} {i j : Nat} : spB (Lg (.node 3 s l)) W i j = (decide (j = i + 1) && hitP s W i) := by
 rw [spB_congr W fun u => lg_set, spB_one]
theorem sp_altJ {l : List T} {j : Nat} {u : T} (h : l[j]? = some u) (W : List UInt8) (p q : Nat) : spB (LgA (l.take (j + 1))) W p q = (spB (LgA (l.take j)) W p q || spB (Lg u) W p q) := by
 obtain ⟨hi, rfl⟩ := List.getElem?_eq_some_iff.1 h
 rw [← spB_or]
 refine congrFun (congrFun (spB_congr W fun x => ?_) p) q
 rw [List.take_succ_eq_append_getElem hi, lgA_mem, lgA_mem]
 simp only [List.mem_append, List.mem_singleton]
 constructor
 ·rintro ⟨t, h | rfl, hx⟩
  ·exact .inl ⟨t, h, hx⟩
  ·exact .inr hx
 ·rintro (⟨t, h, hx⟩ | hx)
  ·exact ⟨t, .inl h, hx⟩
  ·exact ⟨_, .inr rfl, hx⟩
theorem sp_alt0 (l : List T) (W : List UInt8) : spB (LgA (l.take 0)) W = fun _ _ => false := spB_no fun u h => by rw [List.take_zero] at h; exact h
theorem sp_alt5 (s : Nat → Bool) (l : List T) (W : List UInt8) : spB (Lg (.node 5 s l)) W = spB (LgA (l.take l.length)) W := by
 rw [List.take_length]
 exact spB_congr W fun u => lg_alt
theorem sp_catJ {l : List T} {j : Nat} {u : T} (h : l[j]? = some u) (W : List UInt8) {p q : Nat} (hq : q ≤ W.length) : bhJ (spB (LgC (l.take j)) W) (spB (Lg u) W) p (W.length + 1) q = spB (LgC (l.take (j + 1))) W p q := by
 obtain ⟨hi, rfl⟩ := List.getElem?_eq_some_iff.1 h
 rw [bhJ_words hq]
 refine congrFun (congrFun (spB_congr W fun x => ?_) p) q
 rw [List.take_succ_eq_append_getElem hi, lgC_app]
 constructor
 ·rintro ⟨u, v, h, a, b⟩; exact ⟨u, v, h, a, (lgC_one _ _).2 b⟩
 ·rintro ⟨u, v, h, a, b⟩; exact ⟨u, v, h, a, (lgC_one _ _).1 b⟩
theorem sp_cat0 (l : List T) {W : List UInt8} {p q : Nat} (hq : q ≤ W.length) : spB (LgC (l.take 0)) W p q = decide (p = q) := by
 rw [← spB_nil hq]
 refine congrFun (congrFun (spB_congr W fun x => ?_) p) q
 rw [List.take_zero]
 rfl
theorem sp_cat4 (s : Nat → Bool) (l : List T) (W : List UInt8) : spB (Lg (.node 4 s l)) W = spB (LgC (l.take l.length)) W := by
 rw [List.take_length]
 exact spB_congr W fun u => lg_cat
theorem sp_star1 (s : Nat → Bool) (x : T) {W : List UInt8} {p q : Nat} (hq : q ≤ W.length) : stJ (spB (Lg x) W) p (W.length + 1) q = spB (Lg (.node 6 s [x])) W p q := by
 rw [stJ_star hq]
 refine (congrFun (congrFun (spB_congr W fun u => ?_) p) q)
 rw [lg_star]
 have h : LgO [x] = Lg x := by funext v; exact propext (lgO_one x v)
 rw [h]
theorem sp_star0 (s : Nat → Bool) (l : List T) (hl : l.length ≠ 1) {W : List UInt8} {p q : Nat} (hq : q ≤ W.length) : spB (Lg (.node 6 s l)) W p q = decide (p = q) := by
 rw [← spB_nil hq]
 refine congrFun (congrFun (spB_congr W fun u => ?_) p) q
 rw [lg_star]
 have hno : ∀ v, ¬ LgO l v := fun v h => by
  cases l with
  | nil => exact h
  | cons t r =>
   have h : r.length = 0 ∧ Lg t v := h
   exact hl (by rw [List.length_cons, h.1])
 constructor
 ·intro h
  induction h with
  | nil => rfl
  | app hu _ _ => exact absurd hu (hno _)
 ·rintro rfl; exact .nil
theorem sp_other {k : Int} (s : Nat → Bool) (l : List T) (W : List UInt8) (h2 : k ≠ 2) (h3 : k ≠ 3) (h4 : k ≠ 4) (h5 : k ≠ 5) (h6 : k ≠ 6) : spB (Lg (.node k s l)) W = fun _ _ => false :=
 spB_no fun u h => by
  rw [Lg, if_neg h2, if_neg h3, if_neg h4, if_neg h5, if_neg h6] at h
  exact h.elim
def bcs (n : Nat) (f : Nat → Bool) : List Value := (List.range n).map fun q => .bool (f q)
theorem bcs_len (n : Nat) (f : Nat → Bool) : (bcs n f).length = n := by simp [bcs]
theorem bcs_get {n q : Nat} (f : Nat → Bool) (h : q < n) : (bcs n f)[q]? = some (.bool (f q)) := by simp [bcs, h]
theorem bcs_congr {n : Nat} {f g : Nat → Bool} (h : ∀ q, q < n → f q = g q) : bcs n f = bcs n g := by
 unfold bcs
 exact List.map_congr_left fun q hq => by rw [h q (List.mem_range.1 hq)]
theorem bcs_no (n : Nat) : List.replicate n (Value.bool false) = bcs n fun _ => false := by
 apply List.ext_getElem?
 intro q
 by_cases h : q < n
 ·rw [bcs_get _ h]; simp [h]
 ·rw [List.getElem?_eq_none (by simp; omega), List.getElem?_eq_none (by rw [bcs_len]; omega)]
def updB (f : Nat → Bool) (q : Nat) (b : Bool) : Nat → Bool := fun i => if i = q then b else f i
theorem bcs_set (n q : Nat) (f : Nat → Bool) (b : Bool) : (bcs n f).set q (.bool b) = bcs n (updB f q b) := by
 apply List.ext_getElem?
 intro i
 by_cases h : i < n
 ·rw [bcs_get _ h]
  unfold updB
  by_cases hi : i = q
  ·subst hi
   rw [List.getElem?_set_self (by rw [bcs_len]; exact h), if_pos rfl]
  ·rw [List.getElem?_set_ne (by omega), bcs_get _ h, if_neg hi]
 ·rw [List.getElem?_eq_none (by rw [List.length_set, bcs_len]; omega), List.getElem?_eq_none (by rw [bcs_len]; omega)]
def tops (n m : Nat) (bs : Nat → Nat) : List Value := (List.range n).map fun p => if p < m then .slice (some ⟨bs p, 0, none⟩) n n else .slice none 0 0
theorem tops_len (n m : Nat) (bs : Nat → Nat) : (tops n m bs).length = n := by simp [tops]
theorem tops_get {n m p : Nat} (bs : Nat → Nat) (h : p < n) : (tops n m bs)[p]? = some (if p < m then .slice (some ⟨bs p, 0, none⟩) n n else .slice none 0 0) := by simp [tops, h]
theorem tops_no (n : Nat) (bs : Nat → Nat) : List.replicate n (Value.slice none 0 0) = tops n 0 bs := by
 apply List.ext_getElem?
 intro q
 by_cases h : q < n
 ·rw [tops_get _ h]; simp [h]
 ·rw [List.getElem?_eq_none (by simp; omega), List.getElem?_eq_none (by rw [tops_len]; omega)]
def updN (bs : Nat → Nat) (m b : Nat) : Nat → Nat := fun i => if i = m then b else bs i
theorem tops_set (n m : Nat) (bs : Nat → Nat) (b : Nat) : (tops n m bs).set m (.slice (some ⟨b, 0, none⟩) n n) = tops n (m + 1) (updN bs m b) := by
 apply List.ext_getElem?
 intro i
 by_cases h : i < n
 ·rw [tops_get _ h]
  unfold updN
  by_cases hi : i = m
  ·subst hi
   rw [List.getElem?_set_self (by rw [tops_len]; exact h), if_pos (by omega), if_pos rfl]
  ·rw [List.getElem?_set_ne (by omega), tops_get _ h, if_neg hi]
   by_cases h2 : i < m
   ·rw [if_pos h2, if_pos (by omega)]
   ·rw [if_neg h2, if_neg (by omega)]
 ·rw [List.getElem?_eq_none (by rw [List.length_set, tops_len]; omega), List.getElem?_eq_none (by rw [tops_len]; omega)]
structure Tbl (w : World) (B g : Nat) (bs : Nat → Nat) (n m : Nat) (f : Nat → Nat → Bool) : Prop where
 top : Blk w g 57 (tops n m bs)
 row : ∀ p, p < m → Blk w (bs p) 4 (bcs n (f p))
 base : B ≤ g
 bbase : ∀ p, p < m → B ≤ bs p
 ne : ∀ p, p < m → bs p ≠ g
 inj : ∀ p q, p < m → q < m → bs p = bs q → p = q
def upd2 (f : Nat → Nat → Bool) (p q : Nat) (b : Bool) : Nat → Nat → Bool := fun i j => if i = p then updB (f p) q b j else f i j
section
variable {w w' : World} {B g n m p q : Nat} {bs : Nat → Nat} {f f' : Nat → Nat → Bool}
theorem Tbl.stay (h : Tbl w B g bs n m f) (hg : w'.heap[g]? = w.heap[g]?) (hb : ∀ p, p < m → w'.heap[bs p]? = w.heap[bs p]?) : Tbl w' B g bs n m f :=
 ⟨hg.trans h.top, fun p hp => (hb p hp).trans (h.row p hp), h.base, h.bbase, h.ne, h.inj⟩
theorem Tbl.below (h : Tbl w B g bs n m f) (hb : Below w.heap.size w w') : Tbl w' B g bs n m f :=
 h.stay (hb.block _ h.top.lt) fun p hp => hb.block _ (h.row p hp).lt
theorem Tbl.drew (h : Tbl w B g bs n m f) : Tbl w.drew B g bs n m f := ⟨h.top, h.row, h.base, h.bbase, h.ne, h.inj⟩
theorem Tbl.congr (h : Tbl w B g bs n m f) (he : ∀ p q, p < m → q < n → f p q = f' p q) : Tbl w B g bs n m f' :=
 ⟨h.top, fun p hp => by rw [← bcs_congr (fun q hq => he p q hp hq)]; exact h.row p hp, h.base, h.bbase, h.ne, h.inj⟩
theorem Tbl.mono {B' : Nat} (h : Tbl w B g bs n m f) (hB : B' ≤ B) : Tbl w B' g bs n m f :=
 ⟨h.top, h.row, Nat.le_trans hB h.base, fun p hp => Nat.le_trans hB (h.bbase p hp), h.ne, h.inj⟩
theorem Tbl.at_ (h : Tbl w B g bs n m f) (hp : p < n) (hm : p < m) : w.cell? ⟨g, p, none⟩ = some (.slice (some ⟨bs p, 0, none⟩) n n) := by
 rw [h.top.cell, tops_get _ hp, if_pos hm]
theorem Tbl.nil_ (h : Tbl w B g bs n m f) (hp : p < n) (hm : ¬ p < m) : w.cell? ⟨g, p, none⟩ = some (.slice none 0 0) := by
 rw [h.top.cell, tops_get _ hp, if_neg hm]
theorem Tbl.cell (h : Tbl w B g bs n m f) (hp : p < m) (hq : q < n) : w.cell? ⟨bs p, q, none⟩ = some (.bool (f p q)) := by
 rw [(h.row p hp).cell, bcs_get _ hq]
theorem Tbl.put (h : Tbl w B g bs n m f) (hp : p < m) (q : Nat) (b : Bool) : Tbl (w.setCell ⟨bs p, q, none⟩ (.bool b)) B g bs n m (upd2 f p q b) := by
 refine ⟨h.top.far (p := ⟨bs p, q, none⟩) (h.ne p hp).symm _, fun i hi => ?_, h.base, h.bbase, h.ne, h.inj⟩
 by_cases hip : i = p
 ·subst hip
  have := (h.row i hi).set q (.bool b)
  rw [bcs_set] at this
  have e : upd2 f i q b i = updB (f i) q b := by funext j; unfold upd2; rw [if_pos rfl]
  rw [e]
  exact this
 ·have e : upd2 f p q b i = f i := by funext j; unfold upd2; rw [if_neg hip]
  rw [e]
  exact (h.row i hi).far (p := ⟨bs p, q, none⟩) (fun he => hip (h.inj i p hi hp he)) _
theorem Tbl.new (h : Blk w g 57 (List.replicate n (.slice none 0 0))) (hB : B ≤ g) (bs : Nat → Nat) (f : Nat → Nat → Bool) : Tbl w B g bs n 0 f :=
 ⟨by rw [tops_no n bs] at h; exact h, fun p hp => absurd hp (Nat.not_lt_zero p), hB, fun p hp => absurd hp (Nat.not_lt_zero p), fun p hp => absurd hp (Nat.not_lt_zero p), fun p q hp => absurd hp (Nat.not_lt_zero p)⟩
theorem Tbl.more (h : Tbl w B g bs n m f) (hb : Below w.heap.size w w') (hk : Blk w' w.heap.size 4 (List.replicate n (.bool false))) (hf : ∀ q, f m q = false) :
  Tbl (w'.setCell ⟨g, m, none⟩ (.slice (some ⟨w.heap.size, 0, none⟩) n n)) B g (updN bs m w.heap.size) n (m + 1) f := by
 have hlt : ∀ p, p < m → bs p < w.heap.size := fun p hp => (h.row p hp).lt
 have hg : g < w.heap.size := h.top.lt
 have hu : ∀ p, p < m → updN bs m w.heap.size p = bs p := fun p hp => by unfold updN; rw [if_neg (by omega)]
 have hum : updN bs m w.heap.size m = w.heap.size := by unfold updN; rw [if_pos rfl]
 have hcase : ∀ p, p < m + 1 → p < m ∨ p = m := fun p hp => by omega
 have h1 := h.below hb
 refine ⟨?_, fun p hp => ?_, h.base, fun p hp => ?_, fun p hp => ?_, fun p q hp hq he => ?_⟩
 ·have := h1.top.set m (.slice (some ⟨w.heap.size, 0, none⟩) n n)
  rw [tops_set] at this
  exact this
 ·rcases hcase p hp with hp | rfl
  ·rw [hu p hp]
   exact (h1.row p hp).far (p := ⟨g, m, none⟩) (h.ne p hp) _
  ·rw [hum, bcs_congr (g := fun _ => false) fun q _ => hf q, ← bcs_no]
   exact hk.far (p := ⟨g, p, none⟩) (by show w.heap.size ≠ g; omega) _
 ·rcases hcase p hp with hp | rfl
  ·rw [hu p hp]; exact h.bbase p hp
  ·rw [hum]; exact Nat.le_trans h.base (Nat.le_of_lt hg)
 ·rcases hcase p hp with hp | rfl
  ·rw [hu p hp]; exact h.ne p hp
  ·rw [hum]; omega
 ·rcases hcase p hp with hp | rfl <;> rcases hcase q hq with hq | rfl
  ·rw [hu p hp, hu q hq] at he; exact h.inj p q hp hq he
  ·rw [hu p hp, hum] at he; have := hlt p hp; omega
  ·rw [hu q hq, hum] at he; have := hlt q hq; omega
  ·rfl
theorem Tbl.frozen (h : Tbl w B g bs n m f) (hp : p < m) (q : Nat) : w.frozen? ⟨bs p, q, none⟩ = false := (h.row p hp).frozen q
theorem Tbl.tfrozen (h : Tbl w B g bs n m f) (p : Nat) : w.frozen? ⟨g, p, none⟩ = false := h.top.frozen p
theorem Tbl.apart {B2 g2 n2 m2 : Nat} {bs2 : Nat → Nat} {f2 : Nat → Nat → Bool} (h : Tbl w B g bs n m f) (h2 : Tbl w B2 g2 bs2 n2 m2 f2) (hp : p < m) (hn : bs p < B2) (q : Nat) (b : Bool) : Tbl (w.setCell ⟨bs p, q, none⟩ (.bool b)) B2 g2 bs2 n2 m2 f2 :=
 ⟨h2.top.far (p := ⟨bs p, q, none⟩) (by have := h2.base; show g2 ≠ bs p; omega) _, fun i hi => (h2.row i hi).far (p := ⟨bs p, q, none⟩) (by have := h2.bbase i hi; show bs2 i ≠ bs p; omega) _, h2.base, h2.bbase, h2.ne, h2.inj⟩
end
/-! ### single cells in regions that draw -/
theorem ld_b {ev : Operand → Value} {o : Oper} (x : Operand) (ho : o.op = .load 4 x) {p : Addr} (hx : ev x = .pointer (some p)) {b : Bool} {W : World} (hc : W.cell? p = some (.bool b)) : (execOp ev o).run Tryz.prog W = .ok (.value (.bool b)) W := by
 simp only [execOp, ho, hx]
 go_simp
theorem ld_bs {ev : Operand → Value} {o : Oper} (x : Operand) (ho : o.op = .load 57 x) {p : Addr} (hx : ev x = .pointer (some p)) {A : Option Addr} {n c : Nat} {W : World} (hc : W.cell? p = some (.slice A n c)) : (execOp ev o).run Tryz.prog W = .ok (.value (.slice A n c)) W := by
 simp only [execOp, ho, hx]
 go_simp
theorem wp_stB {o : Oper} {a : Act} {w : World} {K : Act → World → Prop} {Q : Exit → Act → World → Prop} (x y : Operand) (ho : o.op = .store 4 x y) (g q : Nat) (hx : a.eval x = .pointer (some ⟨g, q, none⟩)) (b : Bool) (hy : a.eval y = .bool b)
  (u : Value) (hc : w.cell? ⟨g, q, none⟩ = some u) (hf : w.frozen? ⟨g, q, none⟩ = false) (h : K (a.put o.dst undef) (w.setCell ⟨g, q, none⟩ (.bool b))) : o.wp Tryz.prog a w K Q := by
 unfold Oper.wp execOp
 simp only [ho, hx, hy]
 have hrun : (Instr.storeAt 4 (.pointer (some ⟨g, q, none⟩)) (.bool b)).run Tryz.prog w = .ok () (w.setCell ⟨g, q, none⟩ (.bool b)) := by
  go_simp
 simp only [Sem.run_bind, hrun, Result.andThen_ok, Sem.run_pure]
 exact h
theorem wp_ldB {o : Oper} {a : Act} {w : World} {K : Act → World → Prop} {Q : Exit → Act → World → Prop} (x : Operand) (ho : o.op = .load 4 x) {p : Addr} (hx : a.eval x = .pointer (some p)) {b : Bool} (hc : w.cell? p = some (.bool b)) (h : K (a.put o.dst (.bool b)) w) : o.wp Tryz.prog a w K Q := by
 unfold Oper.wp
 simp only [ld_b (ev := a.eval) x ho hx hc]
 exact h
theorem grown_set {w V : World} {g : Nat} (h : w.grownBy V (some g)) (q : Nat) (v : Value) : w.grownBy (V.setCell ⟨g, q, none⟩ v) (some g) :=
 ⟨h.os, h.tape, h.output, Nat.le_trans h.size (by simp [World.setCell]), fun k hk hn => (Below.heap_setCell V ⟨g, q, none⟩ v k (by rintro rfl; exact hn rfl)).trans (h.block k hk hn)⟩
theorem inf_bool : (Tryz.prog.info? 4).map (fun i => (i.zero, i.size, i.bytes)) = some (some (.bool false), 1, 1) := by kernel_rfl
theorem inf_bools : (Tryz.prog.info? 57).map (fun i => (i.zero, i.size, i.bytes)) = some (some (.slice none 0 0), 1, 24) := by kernel_rfl
end Go.Proofs.YtopnpdobcagcgaaGreat
