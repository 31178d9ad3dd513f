/-
  Texts of this proof, put together: BsR, LgD, LwA, LgN. No statement is proved here.
-/
import Derived.Test.YtopnpdobcagcgaaGreatMN
import Derived.Test.YtopnpdobcagcgaaGreatMM
import Derived.Test.YtopnpdobcagcgaaGreatMC
namespace Go.Proofs.YtopnpdobcagcgaaGreat
open Go.RowKit
set_option linter.unusedSimpArgs false
set_option linter.unusedVariables false
set_option maxHeartbeats 400000 in
set_option maxRecDepth 100000 in
theorem bsRange_any (f t : Nat) (w : World) (hf : f < 256) (ht : t < 256) :
  Calls Tryz.prog 54 #[.int .u8 (f : Int), .int .u8 (t : Int)] w fun e w' => e = .returned (.agg (wds fun b => decide (f ≤ b ∧ b ≤ t)).toArray) ∧ Below w.heap.size w w' := by
 obtain ⟨p, hp⟩ : ∃ r : Nat → Bool, r = fun b => decide (b < t + 1) := ⟨_, rfl⟩
 obtain ⟨q, hq⟩ : ∃ r : Nat → Bool, r = fun b => decide (b < f) := ⟨_, rfl⟩
 obtain ⟨q2, hq2⟩ : ∃ r : Nat → Bool, r = fun b => !q b := ⟨_, rfl⟩
 obtain ⟨r, hr⟩ : ∃ r : Nat → Bool, r = fun b => p b && q2 b := ⟨_, rfl⟩
 have HRR := qH (show r = fun b => decide (f ≤ b ∧ b ≤ t) by
  rw [hr]
  funext b
  rw [hq2, hp, hq, Bool.eq_iff_iff]
  simp
  omega)
 have HP := qH hp
 have HQ := qH hq
 have HQ2 := qH hq2
 have HR := qH hr
 clear hp hq hq2 hr
 rw [← HRR.out]
 obtain ⟨i0, hi0, hz0⟩ := info_set
 obtain ⟨z, hz⟩ : ∃ z : Nat → Bool, z = fun _ => false := ⟨_, rfl⟩
 rw [← hz] at hz0
 clear hz
 obtain ⟨n, hn⟩ : ∃ n, n = t + 1 := ⟨_, rfl⟩
 have hw1 : wrap64 ((t : Int) + 1) = (n : Int) := by rw [hn]; exact IntWalk.wrap64_in _ (by omega)
 have hw2 : wrap64 (t : Int) = (t : Int) := IntWalk.wrap64_in _ (by omega)
 have hw3 : wrap64 (f : Int) = (f : Int) := IntWalk.wrap64_in _ (by omega)
 have hn2 : n ≤ 256 := by omega
 have HN := qH hn
 have HT := qH ht
 clear hn ht
 go_enter Tryz.func54, Tryz.ntmps54
 go_wp2_with ((with_reducible refine atDst 4 ?_); refine wpList_new rfl 26 rfl i0 _ (wds z) hi0 hz0 rfl (Below.refl w.heap.size w) (Nat.le_refl _) ?_; intro w2 hk2 hb2 hs2 ho2; have M2 := qH hk2; have B2 := qH hb2; clear hk2 hb2 hs2 ho2)
 have c1 := bsBelow_any n w2 hn2
 rw [show (fun b => decide (b < n)) = p by rw [HP.out, HN.out]] at c1
 refine c1.mono ?_
 clear c1
 intro e w3 h3
 obtain ⟨rfl, hb3⟩ := h3
 have M3 := qH (M2.out.below hb3 M2.out.lt)
 have B3 := qH (B2.out.trans (hb3.mono B2.out.size))
 clear hb3
 go_wp2_with fail
 refine (bsBelow_any f w3 (by omega)).mono ?_
 rintro e w4 ⟨rfl, hb4⟩
 rw [← HQ.out]
 have M4 := qH (M3.out.below hb4 M3.out.lt)
 have B4 := qH (B3.out.trans (hb4.mono B3.out.size))
 clear hb4
 go_wp2_with fail
 refine (bsNot_any q w4).mono ?_
 rintro e w5 ⟨rfl, hb5⟩
 rw [← HQ2.out]
 have M5 := qH (M4.out.below hb5 M4.out.lt)
 have B5 := qH (B4.out.trans (hb5.mono B4.out.size))
 clear hb5
 go_wp2_with fail
 have c4 := bsAnd_any p q2 w5
 rw [show (fun b => Bool.and (p b) (q2 b)) = r from HR.out.symm] at c4
 refine c4.mono ?_
 clear c4
 rintro e w6 ⟨rfl, hb6⟩
 have M6 := qH (M5.out.below hb6 M5.out.lt)
 have B6 := qH (B5.out.trans (hb6.mono B5.out.size))
 clear hb6
 go_wp2_with ((with_reducible refine atStore 26 4 13 ?_); refine wpList_stBlk rfl 26 _ _ rfl w.heap.size (wds r) rfl rfl 26 _ M6.out (size_set r) rfl (wds_all _) B6.out (Nat.le_refl _) ?_; intro w7 hk7 hb7 hs7 _; have K7 := qH hk7; have B7 := qH hb7; clear hk7 hb7)
 refine bodyPost_ret (results_blk rfl _ _ w.heap.size 26 _ _ rfl K7.out Tryz.underlying26 rfl (size_set r)) rfl ?_
 exact ⟨rfl, B7.out⟩
def seg (w : List UInt8) (i j : Nat) : List UInt8 := (w.take j).drop i
theorem seg_len (w : List UInt8) (i j : Nat) (hj : j ≤ w.length) : (seg w i j).length = j - i := by
 simp [seg]; omega
theorem seg_same (w : List UInt8) (i : Nat) : seg w i i = [] := by
 apply List.eq_nil_of_length_eq_zero
 simp [seg]
theorem seg_nil {w : List UInt8} {i j : Nat} (hi : i ≤ j) (hj : j ≤ w.length) (h : seg w i j = []) : i = j := by
 have := seg_len w i j hj
 rw [h] at this
 simp at this
 omega
theorem seg_all (w : List UInt8) : seg w 0 w.length = w := by simp [seg]
theorem seg_app {w : List UInt8} {i k j : Nat} (h1 : i ≤ k) (h2 : k ≤ j) : seg w i j = seg w i k ++ seg w k j := by
 apply List.ext_getElem?
 intro n
 simp only [seg]
 rw [List.getElem?_append]
 simp only [List.getElem?_drop, List.getElem?_take, List.length_drop, List.length_take]
 by_cases hw : k ≤ w.length
 ·rw [Nat.min_eq_left hw]
  by_cases hn : n < k - i
  ·rw [if_pos hn, if_pos (by omega), if_pos (by omega)]
  ·rw [if_neg hn, show k + (n - (k - i)) = i + n from by omega]
 ·rw [Nat.min_eq_right (by omega)]
  by_cases hn : n < w.length - i
  ·rw [if_pos hn, if_pos (by omega), if_pos (by omega)]
  ·rw [if_neg hn]
   have e1 : w[i + n]? = none := List.getElem?_eq_none (by omega)
   have e2 : w[k + (n - (w.length - i))]? = none := List.getElem?_eq_none (by omega)
   rw [e1, e2]
   split <;> split <;> rfl
theorem seg_split {w u v : List UInt8} {i j : Nat} (hi : i ≤ j) (hj : j ≤ w.length) (h : seg w i j = u ++ v) : i + u.length ≤ j ∧ u = seg w i (i + u.length) ∧ v = seg w (i + u.length) j := by
 have hl := seg_len w i j hj
 rw [h, List.length_append] at hl
 have h1 : i + u.length ≤ j := by omega
 have h2 := seg_app (w := w) (show i ≤ i + u.length by omega) h1
 rw [h] at h2
 have h3 := seg_len w i (i + u.length) (by omega)
 obtain ⟨a, b⟩ := List.append_inj h2 (by omega)
 exact ⟨h1, a, b⟩
theorem seg_two {w : List UInt8} {i j : Nat} {P Q : List UInt8 → Prop} (hi : i ≤ j) (hj : j ≤ w.length) :
  (∃ u v, seg w i j = u ++ v ∧ P u ∧ Q v) ↔ ∃ k, i ≤ k ∧ k ≤ j ∧ P (seg w i k) ∧ Q (seg w k j) := by
 constructor
 ·rintro ⟨u, v, h, hp, hq⟩
  obtain ⟨h1, h2, h3⟩ := seg_split hi hj h
  exact ⟨i + u.length, by omega, h1, h2 ▸ hp, h3 ▸ hq⟩
 ·rintro ⟨k, h1, h2, hp, hq⟩
  exact ⟨_, _, seg_app h1 h2, hp, hq⟩
theorem seg_one {w : List UInt8} {i j : Nat} {s : Nat → Bool} (hi : i ≤ j) (hj : j ≤ w.length) :
  (∃ b : UInt8, seg w i j = [b] ∧ s b.toNat = true) ↔ j = i + 1 ∧ ∃ b, w[i]? = some b ∧ s b.toNat = true := by
 have e : ∀ (h : i < w.length), seg w i (i + 1) = [w[i]] := fun h => by
  apply List.ext_getElem?
  intro n
  simp only [seg, List.getElem?_drop, List.getElem?_take]
  rcases Nat.eq_zero_or_pos n with rfl | hn
  ·simp [h]
  ·rw [if_neg (by omega)]
   symm
   exact List.getElem?_eq_none (by simp; omega)
 constructor
 ·rintro ⟨b, h, hs⟩
  have hl := seg_len w i j hj
  rw [h] at hl
  simp at hl
  obtain rfl : j = i + 1 := by omega
  rw [e (by omega)] at h
  injection h with h
  exact ⟨rfl, b, by rw [← h]; simp, hs⟩
 ·rintro ⟨rfl, b, h, hs⟩
  obtain ⟨h1, rfl⟩ := List.getElem?_eq_some_iff.1 h
  exact ⟨_, e h1, hs⟩
/-! ### any number -/
theorem starL_snoc {P : List UInt8 → Prop} {a b : List UInt8} (ha : StarL P a) (hb : P b) : StarL P (a ++ b) := by
 induction ha with
 | nil =>
  have := StarL.app hb (StarL.nil (P := P))
  rwa [List.append_nil] at this
 | app hu _ ih => rw [List.append_assoc]; exact .app hu ih
theorem starL_last {P : List UInt8 → Prop} {w : List UInt8} (h : StarL P w) : w = [] ∨ ∃ a b, w = a ++ b ∧ b ≠ [] ∧ StarL P a ∧ P b := by
 induction h with
 | nil => exact .inl rfl
 | @app u v hu hv ih =>
  rcases ih with rfl | ⟨a, b, rfl, hb, ha, hp⟩
  ·cases u with
   | nil => exact .inl rfl
   | cons c u => exact .inr ⟨[], c :: u, by simp, by simp, .nil, hu⟩
  ·exact .inr ⟨u ++ a, b, by rw [List.append_assoc], hb, .app hu ha, hp⟩
theorem star_seg {P : List UInt8 → Prop} {w : List UInt8} {i m : Nat} (hi : i ≤ m) (hm : m ≤ w.length) :
  StarL P (seg w i m) ↔ i = m ∨ ∃ j, i ≤ j ∧ j < m ∧ StarL P (seg w i j) ∧ P (seg w j m) := by
 constructor
 ·intro h
  rcases starL_last h with h | ⟨a, b, h, hb, ha, hp⟩
  ·exact .inl (seg_nil hi hm h)
  ·obtain ⟨h1, h2, h3⟩ := seg_split hi hm h
   refine .inr ⟨i + a.length, by omega, ?_, h2 ▸ ha, h3 ▸ hp⟩
   rcases Nat.lt_or_ge (i + a.length) m with h4 | h4
   ·exact h4
   ·have : i + a.length = m := by omega
    rw [this, seg_same] at h3
    exact absurd h3 hb
 ·rintro (rfl | ⟨j, h1, h2, h3, h4⟩)
  ·rw [seg_same]; exact .nil
  ·rw [seg_app h1 (Nat.le_of_lt h2)]
   exact starL_snoc h3 h4
/-! ### where words end that begin at one of these places -/
def Ends (P : List UInt8 → Prop) (w : List UInt8) (f : Nat → Bool) (p : Nat) : Prop := p ≤ w.length ∧ ∃ q, q ≤ p ∧ f q = true ∧ P (seg w q p)
noncomputable def endsB (P : List UInt8 → Prop) (w : List UInt8) (f : Nat → Bool) (p : Nat) : Bool := @decide (Ends P w f p) (Classical.propDecidable _)
theorem endsB_iff {P : List UInt8 → Prop} {w : List UInt8} {f : Nat → Bool} {p : Nat} : endsB P w f p = true ↔ Ends P w f p := by
 unfold endsB
 exact @decide_eq_true_iff _ (Classical.propDecidable _)
theorem ends_congr {P Q : List UInt8 → Prop} {w : List UInt8} {f g : Nat → Bool} (h : ∀ u, P u ↔ Q u) (hf : ∀ q, q ≤ w.length → f q = g q) : endsB P w f = endsB Q w g := by
 funext p
 rw [Bool.eq_iff_iff, endsB_iff, endsB_iff]
 constructor
 ·rintro ⟨a, q, b, c, d⟩; exact ⟨a, q, b, by rw [← hf q (by omega)]; exact c, (h _).1 d⟩
 ·rintro ⟨a, q, b, c, d⟩; exact ⟨a, q, b, by rw [hf q (by omega)]; exact c, (h _).2 d⟩
theorem ends_nil {w : List UInt8} {f : Nat → Bool} (hf : ∀ q, f q = true → q ≤ w.length) : endsB (fun u => u = []) w f = f := by
 funext p
 rw [Bool.eq_iff_iff, endsB_iff]
 constructor
 ·rintro ⟨a, q, b, c, d⟩
  rw [← seg_nil b a d]; exact c
 ·intro h; exact ⟨hf p h, p, Nat.le_refl _, h, seg_same w p⟩
theorem ends_le {P : List UInt8 → Prop} {w : List UInt8} {f : Nat → Bool} {p : Nat} (h : endsB P w f p = true) : p ≤ w.length := (endsB_iff.1 h).1
theorem ends_two {P Q : List UInt8 → Prop} {w : List UInt8} {f : Nat → Bool} : endsB Q w (endsB P w f) = endsB (fun x => ∃ u v, x = u ++ v ∧ P u ∧ Q v) w f := by
 funext p
 rw [Bool.eq_iff_iff, endsB_iff, endsB_iff]
 constructor
 ·rintro ⟨a, k, b, c, d⟩
  obtain ⟨_, q, h1, h2, h3⟩ := endsB_iff.1 c
  exact ⟨a, q, by omega, h2, _, _, seg_app h1 b, h3, d⟩
 ·rintro ⟨a, q, b, c, d⟩
  obtain ⟨k, h1, h2, h3, h4⟩ := (seg_two b a).1 d
  exact ⟨a, k, h2, endsB_iff.2 ⟨by omega, q, h1, c, h3⟩, h4⟩
theorem ends_or {P Q : List UInt8 → Prop} {w : List UInt8} {f : Nat → Bool} (p : Nat) : (endsB P w f p || endsB Q w f p) = endsB (fun u => P u ∨ Q u) w f p := by
 rw [Bool.eq_iff_iff, Bool.or_eq_true, endsB_iff, endsB_iff, endsB_iff]
 constructor
 ·rintro (⟨a, q, b, c, d⟩ | ⟨a, q, b, c, d⟩)
  ·exact ⟨a, q, b, c, .inl d⟩
  ·exact ⟨a, q, b, c, .inr d⟩
 ·rintro ⟨a, q, b, c, d | d⟩
  ·exact .inl ⟨a, q, b, c, d⟩
  ·exact .inr ⟨a, q, b, c, d⟩
theorem ends_no {P : List UInt8 → Prop} {w : List UInt8} {f : Nat → Bool} (h : ∀ u, ¬ P u) : endsB P w f = fun _ => false := by
 funext p
 cases he : endsB P w f p with
 | false => rfl
 | true =>
  obtain ⟨_, q, _, _, d⟩ := endsB_iff.1 he
  exact absurd d (h _)
theorem ends_set {s : Nat → Bool} {w : List UInt8} {f : Nat → Bool} (p : Nat) :
  endsB (fun u => ∃ b : UInt8, u = [b] ∧ s b.toNat = true) w f p = true ↔ ∃ q, p = q + 1 ∧ f q = true ∧ ∃ b, w[q]? = some b ∧ s b.toNat = true := by
 rw [endsB_iff]
 constructor
 ·rintro ⟨a, q, b, c, d⟩
  obtain ⟨h1, h2⟩ := (seg_one b a).1 d
  exact ⟨q, h1, c, h2⟩
 ·rintro ⟨q, rfl, c, b, h, hs⟩
  have h1 := (List.getElem?_eq_some_iff.1 h).1
  exact ⟨by omega, q, by omega, c, (seg_one (by omega) (by omega)).2 ⟨rfl, b, h, hs⟩⟩
noncomputable def rndJ (P : List UInt8 → Prop) (w : List UInt8) (f : Nat → Bool) : Nat → Nat → Bool
 | 0 => f
 | n + 1 => fun p => rndJ P w f n p || (rndJ P w f n n && endsB P w (fun q => decide (q = n)) p)
theorem ends_at {P : List UInt8 → Prop} {w : List UInt8} {n p : Nat} : endsB P w (fun q => decide (q = n)) p = true ↔ p ≤ w.length ∧ n ≤ p ∧ P (seg w n p) := by
 rw [endsB_iff]
 constructor
 ·rintro ⟨a, q, b, c, d⟩
  obtain rfl : q = n := by simpa using c
  exact ⟨a, b, d⟩
 ·rintro ⟨a, b, c⟩
  exact ⟨a, n, b, by simp, c⟩
theorem rnd_iff {P : List UInt8 → Prop} {w : List UInt8} {f : Nat → Bool} (hf : ∀ q, f q = true → q ≤ w.length) : ∀ (n : Nat), n ≤ w.length + 1 → ∀ p,
  rndJ P w f n p = true ↔ f p = true ∨ ∃ q, q < n ∧ Ends (StarL P) w f q ∧ p ≤ w.length ∧ q ≤ p ∧ P (seg w q p)
 | 0, _, p => by simp [rndJ]
 | n + 1, hn, p => by
  have ih := rnd_iff (P := P) (w := w) hf n (by omega)
  have hat : rndJ P w f n n = true ↔ Ends (StarL P) w f n := by
   rw [ih]
   constructor
   ·rintro (h | ⟨q, h1, ⟨h2, q0, h3, h4, h5⟩, h6, h7, h8⟩)
    ·exact ⟨by omega, n, Nat.le_refl _, h, by rw [seg_same]; exact .nil⟩
    ·exact ⟨by omega, q0, by omega, h4, by rw [seg_app h3 h7]; exact starL_snoc h5 h8⟩
   ·rintro ⟨h1, q, h2, h3, h4⟩
    rcases (star_seg h2 h1).1 h4 with rfl | ⟨j, h5, h6, h7, h8⟩
    ·exact .inl h3
    ·exact .inr ⟨j, h6, ⟨by omega, q, h5, h3, h7⟩, by omega, by omega, h8⟩
  rw [rndJ, Bool.or_eq_true, Bool.and_eq_true, ih, hat, ends_at]
  constructor
  ·rintro ((h | ⟨q, h1, h2⟩) | ⟨h1, h2, h3, h4⟩)
   ·exact .inl h
   ·exact .inr ⟨q, by omega, h2⟩
   ·exact .inr ⟨n, by omega, h1, h2, h3, h4⟩
  ·rintro (h | ⟨q, h1, h2, h3⟩)
   ·exact .inl (.inl h)
   ·rcases Nat.lt_or_ge q n with h4 | h4
    ·exact .inl (.inr ⟨q, h4, h2, h3⟩)
    ·obtain rfl : q = n := by omega
     exact .inr ⟨h2, h3⟩
theorem rnd_all {P : List UInt8 → Prop} {w : List UInt8} {f : Nat → Bool} (hf : ∀ q, f q = true → q ≤ w.length) : rndJ P w f (w.length + 1) = endsB (StarL P) w f := by
 funext p
 rw [Bool.eq_iff_iff, rnd_iff hf _ (Nat.le_refl _), endsB_iff]
 constructor
 ·rintro (h | ⟨q, h1, ⟨h2, q0, h3, h4, h5⟩, h6, h7, h8⟩)
  ·exact ⟨hf p h, p, Nat.le_refl _, h, by rw [seg_same]; exact .nil⟩
  ·exact ⟨h6, q0, by omega, h4, by rw [seg_app h3 h7]; exact starL_snoc h5 h8⟩
 ·rintro ⟨h1, q, h2, h3, h4⟩
  rcases (star_seg h2 h1).1 h4 with rfl | ⟨j, h5, h6, h7, h8⟩
  ·exact .inl h3
  ·exact .inr ⟨j, by omega, ⟨by omega, q, h5, h3, h7⟩, h1, by omega, h8⟩
set_option maxHeartbeats 1000000 in
set_option maxRecDepth 100000 in
theorem lPlace_any (n : Nat) (w : World) (hn : n < 256) :
  Calls Tryz.prog 33 #[.int .u8 (n : Int)] w fun e w' => e = .returned (.agg (wds fun b => decide (b = n)).toArray) ∧ Below w.heap.size w w' := by
 obtain ⟨r, hr⟩ : ∃ r : Nat → Bool, r = fun b => decide (b = n) := ⟨_, rfl⟩
 have HR := qH (show wds (fun b => decide (n ≤ b ∧ b ≤ n)) = wds r by rw [hr]; exact wds_congr fun b _ => decide_eq_decide.2 (by omega))
 have HN := qH hn
 rw [← hr]
 obtain ⟨i0, hi0, hz0⟩ := info_set
 obtain ⟨z, hz⟩ : ∃ z : Nat → Bool, z = fun _ => false := ⟨_, rfl⟩
 rw [← hz] at hz0
 clear hz hr hn
 go_enter Tryz.func33, Tryz.ntmps33
 go_wp2_with ((with_reducible refine atDst 2 ?_); refine wpList_new rfl 26 rfl i0 _ (wds z) hi0 hz0 rfl (Below.refl w.heap.size w) (Nat.le_refl _) ?_; intro w1 hk1 hb1 hs1 _; have K1 := qH hk1; have B1 := qH hb1; clear hk1 hb1 hs1)
 refine (bsRange_any n n w1 HN.out HN.out).mono ?_
 rintro e w2 ⟨rfl, hb2⟩
 rw [HR.out]
 have K2 := qH (K1.out.below hb2 K1.out.lt)
 have B2 := qH (B1.out.trans (hb2.mono B1.out.size))
 clear hb2
 go_wp2_with ((with_reducible refine atStore 26 2 5 ?_); refine wpList_stBlk rfl 26 _ _ rfl w.heap.size (wds r) rfl rfl 26 _ K2.out (size_set r) rfl (wds_all _) B2.out (Nat.le_refl _) ?_; intro w3 hk3 hb3 hs3 _; have K3 := qH hk3; have B3 := qH hb3; clear hk3 hb3)
 refine bodyPost_ret (results_blk rfl _ _ w.heap.size 26 _ _ rfl K3.out Tryz.underlying26 rfl (size_set r)) rfl ?_
 exact ⟨rfl, B3.out⟩
/-! ### behind -/
def shl (p : Nat → Bool) (b : Nat) : Bool := decide (0 < b) && p (b - 1)
def shlJ (p : Nat → Bool) (j b : Nat) : Bool := if b / 64 < j then shl p b else p b
theorem word_shlJ (p : Nat → Bool) (j i : Nat) : word (shlJ p j) i = if i < j then word (shl p) i else word p i := by
 by_cases h : i < j
 ·rw [if_pos h]
  exact wd_congr fun b hb => by unfold shlJ; rw [if_pos (by omega)]
 ·rw [if_neg h]
  exact wd_congr fun b hb => by unfold shlJ; rw [if_neg (by omega)]
theorem shlJ_next (p : Nat → Bool) (j : Nat) (hj : j < 4) : (wds (shlJ p j)).set j (.int .u64 (word (shl p) j : Int)) = wds (shlJ p (j + 1)) := by
 have h := word_shlJ p
 match j, hj with
 | 0, _ => simp [wds, h]
 | 1, _ => simp [wds, h]
 | 2, _ => simp [wds, h]
 | 3, _ => simp [wds, h]
theorem word_shl (p : Nat → Bool) (j : Nat) : (word p j * 2 % 18446744073709551616) ||| (if j = 0 then 0 else word p (j - 1) / 9223372036854775808) = word (shl p) j := by
 apply Nat.eq_of_testBit_eq
 intro b
 rw [Nat.testBit_or, show (18446744073709551616 : Nat) = 2 ^ 64 from rfl, Nat.testBit_mod_two_pow, show word p j * 2 = word p j <<< 1 by rw [Nat.shiftLeft_eq], Nat.testBit_shiftLeft]
 have e : (if j = 0 then 0 else word p (j - 1) / 9223372036854775808).testBit b = (decide (b = 0) && (decide (0 < j) && p (64 * j - 1))) := by
  by_cases hj : j = 0
  ·simp [hj]
  ·rw [if_neg hj, show (9223372036854775808 : Nat) = 2 ^ 63 from rfl, Nat.testBit_div_two_pow]
   unfold word
   rw [wd_bit]
   by_cases hb : b = 0
   ·subst hb
    have h1 : 64 * (j - 1) + (63 + 0) = 64 * j - 1 := by omega
    have h2 : 0 < j := by omega
    simp [h1, h2]
   ·have : ¬ (63 + b < 64) := by omega
    rw [Nat.add_comm 63 b] at this
    rw [decide_eq_false this, decide_eq_false hb, Bool.false_and, Bool.false_and]
 rw [e]
 unfold word shl
 rw [wd_bit, wd_bit]
 by_cases hb : b < 64
 ·by_cases h0 : b = 0
  ·subst h0
   simp
  ·have h1 : 1 ≤ b := by omega
   have h2 : b - 1 < 64 := by omega
   have h3 : 0 < 64 * j + b := by omega
   have h4 : 64 * j + (b - 1) = 64 * j + b - 1 := by omega
   simp [hb, h0, h1, h2, h3, h4]
 ·have h0 : b ≠ 0 := by omega
  simp [hb, h0]
theorem idxS0 (p : Nat → Bool) (w : World) : (Instr.index 26 (.agg (wds p).toArray) (.int .i64 0)).run Tryz.prog w = .ok (.int .u64 (word p 0 : Int)) w := by kernel_rfl
theorem idxS1 (p : Nat → Bool) (w : World) : (Instr.index 26 (.agg (wds p).toArray) (.int .i64 1)).run Tryz.prog w = .ok (.int .u64 (word p 1 : Int)) w := by kernel_rfl
theorem idxS2 (p : Nat → Bool) (w : World) : (Instr.index 26 (.agg (wds p).toArray) (.int .i64 2)).run Tryz.prog w = .ok (.int .u64 (word p 2 : Int)) w := by kernel_rfl
theorem idxS3 (p : Nat → Bool) (w : World) : (Instr.index 26 (.agg (wds p).toArray) (.int .i64 3)).run Tryz.prog w = .ok (.int .u64 (word p 3 : Int)) w := by kernel_rfl
theorem idxS (p : Nat → Bool) (j : Nat) (hj : j < 4) (w : World) : (Instr.index 26 (.agg (wds p).toArray) (.int .i64 (j : Int))).run Tryz.prog w = .ok (.int .u64 (word p j : Int)) w := by
 match j, hj with
 | 0, _ => exact idxS0 p w
 | 1, _ => exact idxS1 p w
 | 2, _ => exact idxS2 p w
 | 3, _ => exact idxS3 p w
set_option maxHeartbeats 2000000 in
set_option maxRecDepth 100000 in
theorem lBehind_any (p : Nat → Bool) (w : World) :
  Calls Tryz.prog 50 #[.agg (wds p).toArray] w fun e w' => e = .returned (.agg (wds (shl p)).toArray) ∧ Below w.heap.size w w' := by
 obtain ⟨i0, hi0, hz0⟩ := info_set
 obtain ⟨z, hz⟩ : ∃ z : Nat → Bool, z = fun _ => false := ⟨_, rfl⟩
 rw [← hz] at hz0
 clear hz
 obtain ⟨cs, hcs⟩ : ∃ cs, cs = wds p := ⟨_, rfl⟩
 have HSZ := qH (show (Tryz.prog.info? 26).map (·.size) = some cs.length by rw [hcs]; exact size_set p)
 have HG := qH (show ∀ (i : Nat) (_ : i < 4) (w : World), (Instr.index 26 (.agg cs.toArray) (.int .i64 (i : Int))).run Tryz.prog w = .ok (.int .u64 (word p i : Int)) w by rw [hcs]; exact idxS p)
 have HCS := qH hcs
 rw [← hcs]
 clear hcs
 go_enter Tryz.func50, Tryz.ntmps50
 go_wp2_with (first
  | ((with_reducible refine atDst 1 ?_); refine wpList_box rfl 26 _ rfl cs rfl (Below.refl w.heap.size w) (Nat.le_refl _) ?_; intro w1 hk1 hb1 hs1 _; have K1 := qH hk1; have B1 := qH hb1; clear hk1 hb1 hs1)
  | ((with_reducible refine atDst 2 ?_); refine wpList_new rfl 26 rfl i0 _ (wds z) hi0 hz0 rfl B1.out B1.out.size ?_; intro w2 hk2 hb2 hs2 ho2; have L2 := qH hk2; have B2 := qH hb2; have K2 := qH (show Blk w2 w.heap.size 26 cs from (ho2 _ K1.out.lt).trans K1.out); clear hk2 hb2 hs2 ho2)
  | ((with_reducible refine atDst 6 ?_); refine wpList_ldArr rfl 26 _ rfl w.heap.size rfl 26 _ _ K2.out Tryz.underlying26 rfl HSZ.out ?_))
 go_loopw [3, 7] (fun c i wl => ∃ j : Nat, j ≤ 4 ∧ i = .int .i64 (j : Int) ∧ c = .int .u64 ((if j = 0 then 0 else word p (j - 1) / 9223372036854775808 : Nat) : Int) ∧ Blk wl w.heap.size 26 (wds (shlJ p j)) ∧ Blk wl w1.heap.size 26 (wds z) ∧ Below w.heap.size w wl) (fun _ i _ => 4 - (intOf i).toNat)
 case atStart =>
  refine ⟨0, by omega, by simp, by simp, ?_, L2.out, B2.out⟩
  rw [wds_congr (q := p) fun b _ => by unfold shlJ; rw [if_neg (by omega)], ← HCS.out]
  exact K2.out
 case round =>
  obtain ⟨j, hj, rfl, rfl, hk, hl, hb⟩ := hrel
  have LR := qH hl
  have HKL := qH K1.out.lt
  clear hl
  have KR := qH hk
  have BR := qH hb
  clear hk hb
  by_cases hjl : j < 4
  ·have j1 : (j : Int) < 4 := by omega
   have hfz := KR.out.frozen j
   have hcr := KR.out.cell j
   rw [wds_get _ j hjl] at hcr
   have hix := HG.out j hjl
   obtain ⟨x, hx⟩ : ∃ x, x = word p j := ⟨_, rfl⟩
   obtain ⟨y, hy⟩ : ∃ y, y = (if j = 0 then 0 else word p (j - 1) / 9223372036854775808) := ⟨_, rfl⟩
   obtain ⟨z2, hz2⟩ : ∃ y, y = word (shlJ p j) j := ⟨_, rfl⟩
   rw [← hx] at hix
   rw [← hz2] at hcr
   rw [← hy]
   have HXY := qH (show (x * 2 % 18446744073709551616) ||| y = word (shl p) j by rw [hx, hy]; exact word_shl p j)
   have HX := qH hx
   have hly : y < 18446744073709551616 := by
    rw [hy]
    split
    ·omega
    ·have := word_lt p (j - 1); omega
   clear hx hy hz2
   have HLX := qH (show x < 18446744073709551616 by rw [HX.out]; exact word_lt _ _)
   have HLY := qH hly
   clear hly
   go_wp2_with fail
   refine ⟨⟨j + 1, by omega, by congr 1, ?_, ?_, LR.out.far (by have := HKL.out; show w1.heap.size ≠ w.heap.size; omega) _, BR.out.setCell (p := ⟨w.heap.size, j, none⟩) (Nat.le_refl _) _⟩, by simp [intOf] <;> omega⟩
   ·rw [if_neg (by omega), Nat.add_sub_cancel, ← HX.out]
    congr 1
   ·have hk := KR.out.set j (.int .u64 (word (shl p) j : Int))
    rw [shlJ_next p j hjl, ← HXY.out] at hk
    rw [IntKind.wrap_u64, show ((x : Int) * 2) % 18446744073709551616 = ((x * 2 % 18446744073709551616 : Nat) : Int) by omega, u64_or_nat _ y (Nat.mod_lt _ (by omega)) HLY.out]
    exact hk
  ·obtain rfl : j = 4 := by omega
   have k9 := KR.out
   rw [wds_congr (q := shl p) fun b hb => by unfold shlJ; rw [if_pos (by omega)]] at k9
   have K9 := qH k9
   clear k9 KR
   go_wp2_with (first
    | ((with_reducible refine atDst 20 ?_); refine wpList_ldArr rfl 26 _ rfl w.heap.size rfl 26 _ _ K9.out Tryz.underlying26 rfl (size_set _) ?_)
    | ((with_reducible refine atStore 26 2 20 ?_); refine wpList_stBlk rfl 26 _ _ rfl w1.heap.size (wds (shl p)) rfl rfl 26 _ LR.out (size_set _) rfl (wds_all _) BR.out B1.out.size ?_; intro w4 hk4 hb4 hs4 _; have K4 := qH hk4; have B4 := qH hb4; clear hk4 hb4))
   refine bodyPost_ret (results_blk rfl _ _ w1.heap.size 26 _ _ rfl K4.out Tryz.underlying26 rfl (size_set _)) rfl ?_
   exact ⟨rfl, B4.out⟩
/-! ### hits -/
def hitP (s : Nat → Bool) (l : List UInt8) (j : Nat) : Bool := match l[j]? with
 | some b => s b.toNat
 | none => false
theorem hitP_at {s : Nat → Bool} {l : List UInt8} {j : Nat} {b : UInt8} (h : l[j]? = some b) : hitP s l j = s b.toNat := by unfold hitP; rw [h]
theorem hitP_iff {s : Nat → Bool} {l : List UInt8} {j : Nat} : hitP s l j = true ↔ ∃ b, l[j]? = some b ∧ s b.toNat = true := by
 unfold hitP
 cases l[j]? <;> simp
theorem memJ_mem_at (p : Nat → Bool) (n b : Nat) (hn : n ≤ 256) (hb : b < 256) : decide (UInt8.ofNat b ∈ memJ p n) = (decide (b < n) && p b) := by
 rw [Bool.eq_iff_iff, decide_eq_true_iff, Bool.and_eq_true, decide_eq_true_iff]
 unfold memJ
 simp only [List.mem_map, List.mem_filter, List.mem_range]
 constructor
 ·rintro ⟨a, ⟨ha, hp⟩, he⟩
  have := congrArg UInt8.toNat he
  rw [UInt8.toNat_ofNat', UInt8.toNat_ofNat', Nat.mod_eq_of_lt (by omega), Nat.mod_eq_of_lt (by omega)] at this
  rw [← this]
  exact ⟨ha, hp⟩
 ·intro h
  exact ⟨b, h, rfl⟩
theorem wds_hits (s : Nat → Bool) (l : List UInt8) (h : l.length ≤ 256) : wds (fun b => decide (UInt8.ofNat b ∈ memJ (hitP s l) l.length)) = wds (hitP s l) := by
 refine wds_congr fun b hb => ?_
 rw [memJ_mem_at _ _ _ h hb]
 by_cases hl : b < l.length
 ·rw [decide_eq_true hl, Bool.true_and]
 ·rw [decide_eq_false hl, Bool.false_and]
  unfold hitP
  rw [List.getElem?_eq_none (by omega)]
set_option maxHeartbeats 2000000 in
set_option maxRecDepth 100000 in
theorem lHits_any (s : Nat → Bool) (V : Value) (l : List UInt8) (w : World) (hr : Row w V (bvs l)) (hl : l.length ≤ 200) :
  Calls Tryz.prog 49 #[.agg (wds s).toArray, V] w fun e w' => e = .returned (.agg (wds (hitP s l)).toArray) ∧ Below w.heap.size w w' := by
 obtain ⟨p, hp⟩ : ∃ p : Nat → Bool, p = hitP s l := ⟨_, rfl⟩
 have HWM := qH (show wds (fun b => decide (UInt8.ofNat b ∈ memJ p l.length)) = wds p by rw [hp]; exact wds_hits s l (by omega))
 have HPA := qH (show ∀ j b, l[j]? = some b → p j = s b.toNat by rw [hp]; exact fun j b h => hitP_at h)
 rw [← hp]
 have R0 := qH hr
 have HL := qH hl
 obtain ⟨A, cap, rfl, a1, a2, a0, a3⟩ := hr
 rw [bvs_length] at a1 R0 ⊢
 clear a3 a0 a2 a1 hp hl
 obtain ⟨i0, hi0, hz0⟩ := info_set
 obtain ⟨i1, hi1, hy0, hy1, hy2⟩ := infoP inf_u8
 obtain ⟨z, hz⟩ : ∃ z : Nat → Bool, z = fun _ => false := ⟨_, rfl⟩
 rw [← hz] at hz0
 clear hz
 go_enter Tryz.func49, Tryz.ntmps49
 go_wp2_with (first
  | ((with_reducible refine atDst 2 ?_); refine wpList_box rfl 26 _ rfl (wds s) rfl (Below.refl w.heap.size w) (Nat.le_refl _) ?_; intro w1 hk1 hb1 hs1 _; have K1 := qH hk1; have B1 := qH hb1; clear hk1 hb1 hs1)
  | ((with_reducible refine atDst 4 ?_); refine wpList_new rfl 26 rfl i0 _ (wds z) hi0 hz0 rfl B1.out B1.out.size ?_; intro w2 hk2 hb2 hs2 ho2; have L2 := qH hk2; have B2 := qH hb2; have K2 := qH (show Blk w2 w.heap.size 26 (wds s) from (ho2 _ K1.out.lt).trans K1.out); clear hk2 hb2 hs2 ho2))
 go_loopw [5, 10] (fun v i wl => ∃ j : Nat, j ≤ l.length ∧ i = .int .i64 (j : Int) ∧ wl.ownsRow w2.heap.size 5 1 v (memJ p j).length (bvs (memJ p j)) ∧ Below w2.heap.size w2 wl) (fun _ i _ => l.length - (intOf i).toNat)
 case atStart => exact ⟨0, by omega, by simp, ownN _ _ _, Below.refl _ _⟩
 case round =>
  obtain ⟨j, hj, rfl, ho, hb⟩ := hrel
  have HO := qH ho
  have HB := qH hb
  clear ho hb
  have HJ := qH hj
  by_cases hjl : j < l.length
  ·have j1 : (j : Int) < (l.length : Int) := Int.ofNat_lt.2 hjl
   have HW2 := qH (B2.out.trans (HB.out.mono B2.out.size))
   obtain ⟨b0, off, rfl, hb0, hcell⟩ := (R0.out.below HW2.out).at_ (by rw [bvs_length]; omega)
   have hcj := hcell j _ (bvs_get l j l[j] (List.getElem?_eq_getElem hjl))
   have hpj := HPA.out j l[j] (List.getElem?_eq_getElem hjl)
   obtain ⟨c, hc⟩ : ∃ c : UInt8, c = l[j] := ⟨_, rfl⟩
   rw [← hc] at hcj hpj
   have hlt := c.toNat_lt
   obtain ⟨n, hn⟩ : ∃ n, n = c.toNat := ⟨_, rfl⟩
   have hcj' : wr.cell? ⟨b0, off + j, none⟩ = some (.int .u8 (n : Int)) := by rw [hn]; exact hcj
   rw [← hn] at hlt hpj
   have HN := qH (show n < 256 from hlt)
   have KR := qH (K2.out.below HB.out K2.out.lt)
   obtain ⟨q, hq⟩ : ∃ q, q = s n := ⟨_, rfl⟩
   have HQ := qH hq
   rw [← hq] at hpj
   have hms := memJ_succ p j
   rw [hpj] at hms
   have HM := qH hms
   have HLN := qH (memJ_len p j)
   have HJ2 := qH (show j < 256 by have := HL.out; omega)
   have HJ3 := qH hjl
   have hj62 : j ≤ 4611686018427387904 := by have := HJ2.out; omega
   have e3 := wrap_one j hj62
   have e4 := wrap_one' j hj62
   clear hcell hc hcj hn hq hms hpj hlt hj62 hb0 hjl hj
   go_wp2_with ((with_reducible refine atDst 15 ?_); refine wpList_ldArr rfl 26 _ rfl w.heap.size rfl 26 _ _ KR.out Tryz.underlying26 rfl (size_set s) ?_; (try simp only [Act.put, qA, qB, qC]))
   refine (bsHas_any s n wr HN.out).mono ?_
   rintro e w3 ⟨rfl, hb3⟩
   rw [← HQ.out]
   have B3 := qH (HB.out.trans (hb3.mono HB.out.size))
   have O3 := qH (ownBelow HO.out hb3 (Nat.le_refl _))
   clear hb3
   cases q with
   | true =>
    have hw8 : IntKind.u8.wrap (j : Int) = (j : Int) := IntWalk.u8_in _ (by have := HJ2.out; omega)
    have R1 := qH (rowB (n := 1) (show Blk (w3.alloc (.cells #[.int .u8 (j : Int)] 5)) w3.heap.size 5 (bvs [UInt8.ofNat j]) by
     have := Blk.new w3 5 (bvs [UInt8.ofNat j])
     rw [show bvs [UInt8.ofNat j] = [.int .u8 (j : Int)] from congrArg (fun x => [x]) (bv_ofNat HJ2.out)] at this ⊢
     exact this) rfl (by omega))
    go_wp2_with ((with_reducible refine atDst 22 ?_); refine wpList_appR (w0 := w2) rfl (.tmp 18) (.tmp 21) 22 rfl 5 i1 (.int .u8 0) 1 Tryz.underlying22 hi1 hy0 hy1 hy2 rfl _ _ _ rfl (O3.out.alloc _) _ (bvs [UInt8.ofNat j]) rfl R1.out (bvs_one _) (by have := HLN.out; have := HJ2.out; rw [bvs_length]; simp; omega) (by omega) (B3.out.alloc B3.out.size _) ?_; intro v3 w4 ho4 _ hb4 _; have O4 := qH ho4; have B4 := qH hb4; clear ho4 hb4; (try simp only [Act.put, qA, qB, qC]))
    refine ⟨⟨j + 1, HJ3.out, by congr 1, ?_, B4.out⟩, by have := HJ3.out; simp [intOf] <;> omega⟩
    rw [HM.out]
    simp only [if_true, bvs_append, List.length_append]
    exact O4.out
   | false =>
    go_wp2_with fail
    refine ⟨⟨j + 1, HJ3.out, by congr 1, ?_, B3.out⟩, by have := HJ3.out; simp [intOf] <;> omega⟩
    rw [HM.out]
    simp only [Bool.false_eq_true, if_false]
    exact O3.out
  ·obtain rfl : j = l.length := by omega
   have j1 : ¬ ((l.length : Int) < (l.length : Int)) := by omega
   have HR := qH (Row.of_own HO.out)
   have HLN := qH (memJ_len p l.length)
   have K9 := qH (L2.out.below HB.out L2.out.lt)
   have B9 := qH (B2.out.trans (HB.out.mono B2.out.size))
   clear HO
   go_wp2_with fail
   refine (bsOf_any _ (memJ p l.length) wr HR.out (by have := HLN.out; have := HL.out; omega)).mono ?_
   rintro e w4 ⟨rfl, hb4⟩
   rw [HWM.out]
   have K10 := qH (K9.out.below hb4 K9.out.lt)
   have B10 := qH (B9.out.trans (hb4.mono B9.out.size))
   clear hb4
   go_wp2_with ((with_reducible refine atStore 26 4 25 ?_); refine wpList_stBlk rfl 26 _ _ rfl w1.heap.size (wds p) rfl rfl 26 _ K10.out (size_set p) rfl (wds_all _) B10.out B1.out.size ?_; intro w5 hk5 hb5 hs5 _; have K5 := qH hk5; have B5 := qH hb5; clear hk5 hb5)
   refine bodyPost_ret (results_blk rfl _ _ w1.heap.size 26 _ _ rfl K5.out Tryz.underlying26 rfl (size_set p)) rfl ?_
   exact ⟨rfl, B5.out⟩
theorem nullC_all : ∀ l : List T, nullC l = l.all nullT
 | [] => rfl
 | t :: r => by rw [nullC, nullC_all r, List.all_cons]
theorem nullA_any : ∀ l : List T, nullA l = l.any nullT
 | [] => rfl
 | t :: r => by rw [nullA, nullA_any r, List.any_cons]
theorem all_next {p : T → Bool} {l : List T} {j : Nat} {u : T} (h : l[j]? = some u) (ha : (l.take j).all p = true) (hu : p u = true) : (l.take (j + 1)).all p = true := by
 obtain ⟨hi, rfl⟩ := List.getElem?_eq_some_iff.1 h
 rw [List.take_succ_eq_append_getElem hi, List.all_append, ha]
 simp [hu]
theorem any_next {p : T → Bool} {l : List T} {j : Nat} {u : T} (h : l[j]? = some u) (ha : (l.take j).any p = false) (hu : p u = false) : (l.take (j + 1)).any p = false := by
 obtain ⟨hi, rfl⟩ := List.getElem?_eq_some_iff.1 h
 rw [List.take_succ_eq_append_getElem hi, List.any_append, ha]
 simp [hu]
theorem all_not {p : T → Bool} {l : List T} {j : Nat} {u : T} (h : l[j]? = some u) (hu : p u = false) : l.all p = false :=
 List.all_eq_false.2 ⟨u, List.mem_of_getElem? h, by rw [hu]; simp⟩
theorem any_is {p : T → Bool} {l : List T} {j : Nat} {u : T} (h : l[j]? = some u) (hu : p u = true) : l.any p = true :=
 List.any_eq_true.2 ⟨u, List.mem_of_getElem? h, hu⟩
set_option maxHeartbeats 4000000 in
set_option maxRecDepth 1000000 in
theorem refNull_any : ∀ (N : Nat) (t : T), t.nodes ≤ N → t.nodes ≤ 1099511627776 → ∀ (cs : List Value) (w : World), RxV w.heap.size w cs t →
  Calls Tryz.prog 38 #[.agg cs.toArray] w fun e w' => e = .returned (.bool (nullT t)) ∧ Below w.heap.size w w' := by
 intro N
 induction N with
 | zero => intro t h; have := nodes_pos t; omega
 | succ N ih =>
  rintro ⟨k, s, l⟩ hN hM cs w hv
  have IH := qH ih
  clear ih
  obtain ⟨A, cap, f, rfl, h1, h2, h0, h3, h4⟩ := hv.opened
  have H3 := qH h3
  have H4 := qH h4
  have HNN := qH (show T.nodes (.node k s l) = 1 + nodesL l by simp only [T.nodes])
  rw [HNN.out] at hN hM
  have HN := qH hN
  have HM := qH hM
  have HQ := qH (show nullT (.node k s l) = if k = 2 ∨ k = 6 then true else if k = 4 then l.all nullT else if k = 5 then l.any nullT else false by rw [nullT, nullC_all, nullA_any])
  obtain ⟨cs, hcs⟩ : ∃ cs, cs = Value.int .i64 k :: (wds s ++ [.slice A l.length cap]) := ⟨_, rfl⟩
  have HC0 := qH (show cs[0]? = some (.int .i64 k) by rw [hcs]; rfl)
  have HC5 := qH (show cs[5]? = some (.slice A l.length cap) by rw [hcs]; rfl)
  have HLL := qH (len_nodes l)
  obtain ⟨q, hq⟩ : ∃ q, q = nullT (.node k s l) := ⟨_, rfl⟩
  rw [← hcs, ← hq]
  rw [← hq] at HQ
  clear hv h1 h2 h0 h3 h4 hcs hN hM hq
  by_cases k2 : k = 2
  ·have hr : q = true := by rw [HQ.out, if_pos (.inl k2)]
   subst hr
   subst k2
   go_enter Tryz.func38, Tryz.ntmps38
   go_wp2_with ((with_reducible refine atDst 1 ?_); refine wpList_box rfl 29 _ rfl cs rfl (Below.refl w.heap.size w) (Nat.le_refl _) ?_; intro w1 hk1 hb1 hs1 _; have K1 := qH hk1; have B1 := qH hb1; have c0 := hk1.cell 0; rw [HC0.out] at c0; clear hk1 hb1 hs1)
   go_wp2_with fail
   go_ret
   exact ⟨rfl, B1.out⟩
  by_cases k6 : k = 6
  ·have hr : q = true := by rw [HQ.out, if_pos (.inr k6)]
   subst hr
   subst k6
   go_enter Tryz.func38, Tryz.ntmps38
   go_wp2_with ((with_reducible refine atDst 1 ?_); refine wpList_box rfl 29 _ rfl cs rfl (Below.refl w.heap.size w) (Nat.le_refl _) ?_; intro w1 hk1 hb1 hs1 _; have K1 := qH hk1; have B1 := qH hb1; have c0 := hk1.cell 0; rw [HC0.out] at c0; clear hk1 hb1 hs1)
   go_wp2_with fail
   go_ret
   exact ⟨rfl, B1.out⟩
  have z2 : (k == 2) = false := by simpa using k2
  have z6 : (k == 6) = false := by simpa using k6
  by_cases k4 : k = 4
  ·have HR := qH (show q = l.all nullT by rw [HQ.out, if_neg (by omega), if_pos k4])
   clear z2 z6 k2 k6 HQ
   subst k4
   go_enter Tryz.func38, Tryz.ntmps38
   go_wp2_with ((with_reducible refine atDst 1 ?_); refine wpList_box rfl 29 _ rfl cs rfl (Below.refl w.heap.size w) (Nat.le_refl _) ?_; intro w1 hk1 hb1 hs1 _; have K1 := qH hk1; have B1 := qH hb1; have c0 := hk1.cell 0; rw [HC0.out] at c0; clear hk1 hb1 hs1)
   go_loopw [3] (fun i wl => ∃ j : Nat, j ≤ l.length ∧ i = .int .i64 (j : Int) ∧ (l.take j).all nullT = true ∧ Below w1.heap.size w1 wl) (fun i _ => l.length - (intOf i).toNat)
   case atStart => exact ⟨0, by omega, by simp, by simp, Below.refl _ _⟩
   case round =>
    obtain ⟨j, hj, rfl, hf, hb⟩ := hrel
    have HB := qH hb
    have HF := qH hf
    clear hb hf
    have KR := qH (K1.out.below HB.out K1.out.lt)
    have c5 := KR.out.cell 5
    rw [HC5.out] at c5
    by_cases hjl : j < l.length
    ·have j1 : (j : Int) < (l.length : Int) := Int.ofNat_lt.2 hjl
     obtain ⟨b, off, rfl, hb, hrng⟩ := H3.out (by rintro rfl; simp at hjl)
     have BW := qH (B1.out.trans (HB.out.mono B1.out.size))
     obtain ⟨u, hu⟩ : ∃ u, l[j]? = some u := ⟨_, List.getElem?_eq_getElem hjl⟩
     have HV := qH (RxV.part H4.out BW.out BW.out.size hu)
     have HRG := qH (range_below (hrng j hjl) BW.out hb)
     have HU := qH hu
     have HUN := qH (show u.nodes ≤ N by have h1 := nodes_mem (List.mem_of_getElem? hu); have := HN.out; omega)
     have HUM := qH (show u.nodes ≤ 1099511627776 by have h1 := nodes_mem (List.mem_of_getElem? hu); have := HM.out; omega)
     have hj62 : j ≤ 4611686018427387904 := by have := HM.out; have := HLL.out; omega
     have e3 := wrap_one j hj62
     have e4 := wrap_one' j hj62
     clear hrng hu hj62
     go_wp2_with ((with_reducible refine atDst 23 ?_); refine wpList_load_mid rfl 29 _ rfl b (off + j * 6) rfl (f j) _ HRG.out Tryz.underlying29 rfl (size_rx HV.out.length) ?_)
     refine (IH.out u HUN.out HUM.out (f j) wr HV.out).mono ?_
     rintro e w2 ⟨rfl, hb2⟩
     have B2 := qH (HB.out.trans (hb2.mono HB.out.size))
     clear hb2
     obtain ⟨p, hp⟩ : ∃ p, p = nullT u := ⟨_, rfl⟩
     rw [← hp]
     cases p with
     | true =>
      have HP := qH hp
      clear hp
      go_wp2_with fail
      exact ⟨⟨j + 1, by omega, rfl, all_next HU.out HF.out HP.out.symm, B2.out⟩, by simp [intOf] <;> omega⟩
     | false =>
      have HP := qH hp
      clear hp
      have hq := HR.out.trans (all_not HU.out HP.out.symm)
      subst hq
      go_wp2_with fail
      go_ret
      exact ⟨rfl, B1.out.trans (B2.out.mono B1.out.size)⟩
    ·obtain rfl : j = l.length := by omega
     have j1 : ¬ ((l.length : Int) < (l.length : Int)) := by omega
     have B9 := qH (B1.out.trans (HB.out.mono B1.out.size))
     have HP := qH (show l.all nullT = true by have := HF.out; rwa [List.take_length] at this)
     have hq := HR.out.trans (HP.out)
     subst hq
     go_wp2_with fail
     go_ret
     exact ⟨rfl, B9.out⟩
  have z4 : (k == 4) = false := by simpa using k4
  by_cases k5 : k = 5
  ·have HR := qH (show q = l.any nullT by rw [HQ.out, if_neg (by omega), if_neg k4, if_pos k5])
   clear z2 z6 k2 k6 HQ z4 k4
   subst k5
   go_enter Tryz.func38, Tryz.ntmps38
   go_wp2_with ((with_reducible refine atDst 1 ?_); refine wpList_box rfl 29 _ rfl cs rfl (Below.refl w.heap.size w) (Nat.le_refl _) ?_; intro w1 hk1 hb1 hs1 _; have K1 := qH hk1; have B1 := qH hb1; have c0 := hk1.cell 0; rw [HC0.out] at c0; clear hk1 hb1 hs1)
   go_loopw [4] (fun i wl => ∃ j : Nat, j ≤ l.length ∧ i = .int .i64 (j : Int) ∧ (l.take j).any nullT = false ∧ Below w1.heap.size w1 wl) (fun i _ => l.length - (intOf i).toNat)
   case atStart => exact ⟨0, by omega, by simp, by simp, Below.refl _ _⟩
   case round =>
    obtain ⟨j, hj, rfl, hf, hb⟩ := hrel
    have HB := qH hb
    have HF := qH hf
    clear hb hf
    have KR := qH (K1.out.below HB.out K1.out.lt)
    have c5 := KR.out.cell 5
    rw [HC5.out] at c5
    by_cases hjl : j < l.length
    ·have j1 : (j : Int) < (l.length : Int) := Int.ofNat_lt.2 hjl
     obtain ⟨b, off, rfl, hb, hrng⟩ := H3.out (by rintro rfl; simp at hjl)
     have BW := qH (B1.out.trans (HB.out.mono B1.out.size))
     obtain ⟨u, hu⟩ : ∃ u, l[j]? = some u := ⟨_, List.getElem?_eq_getElem hjl⟩
     have HV := qH (RxV.part H4.out BW.out BW.out.size hu)
     have HRG := qH (range_below (hrng j hjl) BW.out hb)
     have HU := qH hu
     have HUN := qH (show u.nodes ≤ N by have h1 := nodes_mem (List.mem_of_getElem? hu); have := HN.out; omega)
     have HUM := qH (show u.nodes ≤ 1099511627776 by have h1 := nodes_mem (List.mem_of_getElem? hu); have := HM.out; omega)
     have hj62 : j ≤ 4611686018427387904 := by have := HM.out; have := HLL.out; omega
     have e3 := wrap_one j hj62
     have e4 := wrap_one' j hj62
     clear hrng hu hj62
     go_wp2_with ((with_reducible refine atDst 39 ?_); refine wpList_load_mid rfl 29 _ rfl b (off + j * 6) rfl (f j) _ HRG.out Tryz.underlying29 rfl (size_rx HV.out.length) ?_)
     refine (IH.out u HUN.out HUM.out (f j) wr HV.out).mono ?_
     rintro e w2 ⟨rfl, hb2⟩
     have B2 := qH (HB.out.trans (hb2.mono HB.out.size))
     clear hb2
     obtain ⟨p, hp⟩ : ∃ p, p = nullT u := ⟨_, rfl⟩
     rw [← hp]
     cases p with
     | true =>
      have HP := qH hp
      clear hp
      have hq := HR.out.trans (any_is HU.out HP.out.symm)
      subst hq
      go_wp2_with fail
      go_ret
      exact ⟨rfl, B1.out.trans (B2.out.mono B1.out.size)⟩
     | false =>
      have HP := qH hp
      clear hp
      go_wp2_with fail
      exact ⟨⟨j + 1, by omega, rfl, any_next HU.out HF.out HP.out.symm, B2.out⟩, by simp [intOf] <;> omega⟩
    ·obtain rfl : j = l.length := by omega
     have j1 : ¬ ((l.length : Int) < (l.length : Int)) := by omega
     have B9 := qH (B1.out.trans (HB.out.mono B1.out.size))
     have HP := qH (show l.any nullT = false by have := HF.out; rwa [List.take_length] at this)
     have hq := HR.out.trans (HP.out)
     subst hq
     go_wp2_with fail
     go_ret
     exact ⟨rfl, B9.out⟩
  have z5 : (k == 5) = false := by simpa using k5
  have hr : q = false := by rw [HQ.out, if_neg (by omega), if_neg k4, if_neg k5]
  subst hr
  clear k2 k4 k5 k6 HQ
  go_enter Tryz.func38, Tryz.ntmps38
  go_wp2_with ((with_reducible refine atDst 1 ?_); refine wpList_box rfl 29 _ rfl cs rfl (Below.refl w.heap.size w) (Nat.le_refl _) ?_; intro w1 hk1 hb1 hs1 _; have K1 := qH hk1; have B1 := qH hb1; have c0 := hk1.cell 0; rw [HC0.out] at c0; clear hk1 hb1 hs1)
  go_wp2_with fail
  go_ret
  exact ⟨rfl, B1.out⟩
end Go.Proofs.YtopnpdobcagcgaaGreat
