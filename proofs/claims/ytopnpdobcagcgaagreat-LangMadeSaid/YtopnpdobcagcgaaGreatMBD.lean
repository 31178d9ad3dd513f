/-
  Texts of this proof, put together: LwI. No statement is proved here.
-/
import Derived.Test.YtopnpdobcagcgaaGreatMBC
namespace Go.Proofs.YtopnpdobcagcgaaGreat
open Go.RowKit
set_option linter.unusedSimpArgs false
set_option linter.unusedVariables false
noncomputable def lgB (t : T) (W : List UInt8) : Bool := endsB (Lg t) W (fun q => decide (q = 0)) W.length
theorem lgB_iff {t : T} {W : List UInt8} : lgB t W = true ↔ Lg t W := by
 unfold lgB
 rw [endsB_iff]
 constructor
 ·rintro ⟨_, q, _, c, d⟩
  obtain rfl : q = 0 := by simpa using c
  rwa [seg_all] at d
 ·intro h
  exact ⟨Nat.le_refl _, 0, Nat.zero_le _, by simp, by rwa [seg_all]⟩
theorem lgB_of {t : T} {W : List UInt8} {b : Bool} (h : b = true ↔ Lg t W) : lgB t W = b := by
 rw [Bool.eq_iff_iff, lgB_iff, h]
set_option maxHeartbeats 2000000 in
set_option maxRecDepth 1000000 in
theorem lIn_any (t : T) (hn : t.nodes ≤ 2000) (W : List UInt8) (hW : W.length ≤ 200) (V : Value) (cs : List Value) (w : World) (hr : Row w V (bvs W)) (hv : RxV w.heap.size w cs t) :
  Calls Tryz.prog 12 #[.agg cs.toArray, V] w fun e w' => e = .returned (.bool (lgB t W)) ∧ Below w.heap.size w w' := by
 have X := qH hv
 have HC6 := qH hv.length
 have HN := qH hn
 have HW := qH hW
 have R := qH hr
 have HLG := qH (show decide (2000 < t.nodes) = false from decide_eq_false (by omega))
 obtain ⟨n, hn2⟩ : ∃ n, n = W.length := ⟨_, rfl⟩
 obtain ⟨A, cap, rfl, _⟩ := hr
 rw [bvs_length] at R ⊢
 have HNW := qH hn2
 have i1 : ¬ ((200 : Int) < (W.length : Int)) := by omega
 have hw8 : IntKind.u8.wrap (W.length : Int) = (W.length : Int) := IntWalk.u8_in _ (by omega)
 obtain ⟨b, hb⟩ : ∃ b, b = lgB t W := ⟨_, rfl⟩
 have HB := qH (show endsB (Lg t) W (fun q => decide (q = 0)) W.length = b from hb.symm)
 obtain ⟨f, hf⟩ : ∃ f : Nat → Bool, f = fun q => decide (q = 0) := ⟨_, rfl⟩
 have HF := qH hf
 have HFF := qH (show ∀ q, f q = true → q ≤ W.length from fun q h => by rw [hf] at h; have : q = 0 := (by simpa using h); omega)
 rw [← hb]
 clear hv hn hW hn2 hb hf
 go_enter Tryz.func12, Tryz.ntmps12
 go_wp2_with (first
  | ((with_reducible refine atDst 2 ?_); refine wpList_box rfl 29 _ rfl cs rfl (Below.refl w.heap.size w) (Nat.le_refl _) ?_; intro w1 hk1 hb1 hs1 _; have K1 := qH hk1; have B1 := qH hb1; clear hk1 hb1 hs1; (try simp only [Act.put, qA, qB, qC]))
  | ((with_reducible refine atDst 5 ?_); refine wpList_ldArr rfl 29 _ rfl w.heap.size rfl 29 _ _ K1.out Tryz.underlying29 rfl (size_rx HC6.out) ?_; (try simp only [Act.put, qA, qB, qC])))
 refine (lLarge_any t cs w1 ((X.out.stay B1.out).mono B1.out.size) false HLG.out).mono ?_
 rintro e w2 ⟨rfl, hb2⟩
 have B2 := qH (B1.out.trans (hb2.mono B1.out.size))
 have K2 := qH (K1.out.below hb2 K1.out.lt)
 clear hb2
 go_wp2_with ((with_reducible refine atDst 12 ?_); refine wpList_ldArr rfl 29 _ rfl w.heap.size rfl 29 _ _ K2.out Tryz.underlying29 rfl (size_rx HC6.out) ?_; (try simp only [Act.put, qA, qB, qC]))
 refine (lMatch_any _ t (Nat.le_refl _) HN.out W HW.out _ cs w2 (R.out.below B2.out) ((X.out.stay B2.out).mono B2.out.size)).mono ?_
 rintro e w3 ⟨g, rfl, hm3, hb3⟩
 have M3 := qH hm3
 have B3 := qH (B2.out.trans (hb3.mono B2.out.size))
 have S3 := qH B2.out.size
 clear hm3 hb3
 go_wp2_with fail
 refine (lPlace_any 0 w3 (by omega)).mono ?_
 rintro e w4 ⟨rfl, hb4⟩
 rw [← HF.out]
 have M4 := qH (M3.out.stay (w' := w4) fun k hk => hb4.block k hk.2)
 have S4 := qH hb4.size
 have B4 := qH (B3.out.trans (hb4.mono B3.out.size))
 clear hb4
 go_wp2_with fail
 refine (lEnds_any _ t (Nat.le_refl _) W HW.out _ g w4 M4.out (fun k hk => Nat.lt_of_lt_of_le hk.2 S4.out) f HFF.out).mono ?_
 rintro e w5 ⟨rfl, hm5, ho5⟩
 have B5 := qH (B4.out.trans (ho5.below (B := w.heap.size) (fun k hk => Nat.le_trans S3.out hk.1) B4.out.size))
 clear hm5 ho5
 go_wp2_with fail
 refine (bsHas_any (endsB (Lg t) W f) W.length w5 (by have := HW.out; omega)).mono ?_
 rintro e w6 ⟨rfl, hb6⟩
 have B6 := qH (B5.out.trans (hb6.mono B5.out.size))
 clear hb6
 rw [HF.out, HB.out]
 go_wp2_with fail
 go_ret
 exact ⟨rfl, B6.out⟩
end Go.Proofs.YtopnpdobcagcgaaGreat
