/-
  Texts of this proof, put together: SoI. No statement is proved here.
-/
import Derived.Test.YtbbodfpnneifgaaYL
namespace Go.Proofs.Ytbbodfpnneifgaa
open Go.RowKit
set_option linter.unusedSimpArgs false
set_option linter.unusedVariables false
def PivP (w : World) (a b : Nat) (e : Ending) (w' : World) : Prop :=
 ∃ j h : Nat, a ≤ j ∧ j < b ∧ e = .returned (.tuple #[.int .i64 (j : Int), .int .i64 (h : Int)]) ∧ Below w.heap.size w w'
set_option maxHeartbeats 4000000 in
set_option maxRecDepth 1000000 in
theorem pivY_any (g n cap : Nat) (zs : List Value) (l : List UInt8) (w : World) (hl : l.length = n) (hn : n ≤ 1048576) (hd : Dat w g zs l) (a b : Nat) (hab : a < b) (hb : b ≤ n) :
  Calls Try.prog 50 #[.slice (some ⟨g, 0, none⟩) n cap, .int .i64 (a : Int), .int .i64 (b : Int)] w fun e w' => PivP w a b e w' := by
 have SL := qH hl
 have HN := qH hn
 have SD := qH hd
 have HB := qH hb
 have HAB := qH hab
 obtain ⟨len, hlen⟩ : ∃ len, a + len = b := ⟨b - a, by omega⟩
 obtain ⟨q, hq⟩ : ∃ q, q = len / 4 := ⟨_, rfl⟩
 obtain ⟨q2, hq2⟩ : ∃ x, x = q * 2 := ⟨_, rfl⟩
 obtain ⟨q3, hq3⟩ : ∃ x, x = q * 3 := ⟨_, rfl⟩
 obtain ⟨i, hi⟩ : ∃ x, x = a + q := ⟨_, rfl⟩
 obtain ⟨j, hj⟩ : ∃ x, x = a + q2 := ⟨_, rfl⟩
 obtain ⟨k, hk⟩ : ∃ x, x = a + q3 := ⟨_, rfl⟩
 have s1 : (b : Int) - (a : Int) = (len : Int) := by omega
 have s2 : (len : Int) / 4 = (q : Int) := by omega
 have s3 : (q : Int) * 2 = (q2 : Int) := by omega
 have s4 : (q : Int) * 3 = (q3 : Int) := by omega
 have s5 : (a : Int) + (q : Int) = (i : Int) := by omega
 have s6 : (a : Int) + (q2 : Int) = (j : Int) := by omega
 have s7 : (a : Int) + (q3 : Int) = (k : Int) := by omega
 have m1 : len ≤ 4611686018427387904 := by omega
 have m2 : q ≤ 4611686018427387904 := by omega
 have m3 : q2 ≤ 4611686018427387904 := by omega
 have m4 : q3 ≤ 4611686018427387904 := by omega
 have m5 : i ≤ 4611686018427387904 := by omega
 have m6 : j ≤ 4611686018427387904 := by omega
 have m7 : k ≤ 4611686018427387904 := by omega
 have HI := qH (show a ≤ i ∧ i < b by omega)
 have HJ := qH (show a ≤ j ∧ j < b by omega)
 have HK := qH (show a ≤ k ∧ k < b by omega)
 have H50 := qH (show 50 ≤ len → a + 1 ≤ i ∧ i + 1 < b ∧ a + 1 ≤ j ∧ j + 1 < b ∧ a + 1 ≤ k ∧ k + 1 < b by omega)
 have hq1 : (q : Int) * 1 = (q : Int) := Int.mul_one _
 clear hq hq2 hq3 hi hj hk hlen hab hb hn hl hd
 have e1 : wrap64 ((b : Int) - (a : Int)) = (len : Int) := by rw [s1]; exact w64S len m1
 have e2 : IntKind.i64.wrap ((b : Int) - (a : Int)) = (len : Int) := by rw [s1]; exact k64S len m1
 have f1 : wrap64 ((len : Int) / 4) = (q : Int) := by rw [s2]; exact w64S q m2
 have f2 : IntKind.i64.wrap ((len : Int) / 4) = (q : Int) := by rw [s2]; exact k64S q m2
 have f3 := w64S q m2
 have f4 := k64S q m2
 have f5 : wrap64 ((q : Int) * 2) = (q2 : Int) := by rw [s3]; exact w64S q2 m3
 have f6 : IntKind.i64.wrap ((q : Int) * 2) = (q2 : Int) := by rw [s3]; exact k64S q2 m3
 have f7 : wrap64 ((q : Int) * 3) = (q3 : Int) := by rw [s4]; exact w64S q3 m4
 have f8 : IntKind.i64.wrap ((q : Int) * 3) = (q3 : Int) := by rw [s4]; exact k64S q3 m4
 have f9 : wrap64 ((a : Int) + (q : Int)) = (i : Int) := by rw [s5]; exact w64S i m5
 have f10 : IntKind.i64.wrap ((a : Int) + (q : Int)) = (i : Int) := by rw [s5]; exact k64S i m5
 have f11 : wrap64 ((a : Int) + (q2 : Int)) = (j : Int) := by rw [s6]; exact w64S j m6
 have f12 : IntKind.i64.wrap ((a : Int) + (q2 : Int)) = (j : Int) := by rw [s6]; exact k64S j m6
 have f13 : wrap64 ((a : Int) + (q3 : Int)) = (k : Int) := by rw [s7]; exact w64S k m7
 have f14 : IntKind.i64.wrap ((a : Int) + (q3 : Int)) = (k : Int) := by rw [s7]; exact k64S k m7
 clear s1 s2 s3 s4 s5 s6 s7 m1 m2 m3 m4 m5 m6 m7 hq1
 by_cases h8 : 8 ≤ len
 ·have x1 : (8 : Int) ≤ (len : Int) := Int.ofNat_le.2 h8
  by_cases h5 : 50 ≤ len
  ·have x2 : (50 : Int) ≤ (len : Int) := Int.ofNat_le.2 h5
   have H5 := qH (H50.out h5)
   clear H50
   obtain ⟨i1, hi1⟩ : ∃ x, x + 1 = i := ⟨i - 1, Nat.sub_add_cancel (Nat.le_trans (Nat.le_add_left 1 a) H5.out.1)⟩
   obtain ⟨j1, hj1⟩ : ∃ x, x + 1 = j := ⟨j - 1, Nat.sub_add_cancel (Nat.le_trans (Nat.le_add_left 1 a) H5.out.2.2.1)⟩
   obtain ⟨k1, hk1⟩ : ∃ x, x + 1 = k := ⟨k - 1, Nat.sub_add_cancel (Nat.le_trans (Nat.le_add_left 1 a) H5.out.2.2.2.2.1)⟩
   have HI1 := qH hi1
   have HJ1 := qH hj1
   have HK1 := qH hk1
   clear hi1 hj1 hk1
   go_enter Try.func50, Try.ntmps50
   go_wp2_with fail
   obtain ⟨wa, hwa⟩ : ∃ x, x = w.alloc (Obj.cells #[Value.int IntKind.i64 0] 3) := ⟨_, rfl⟩
   try rw [← hwa]
   obtain ⟨s, hs⟩ : ∃ r, r = w.heap.size := ⟨_, rfl⟩
   have RB := qH (show Blk wa s 3 [.int .i64 ((0 : Nat) : Int)] by rw [hwa, hs]; exact Blk.new w _ [.int .i64 0])
   have BA := qH (show Below w.heap.size w wa by rw [hwa]; exact (Below.refl _ _).alloc (Nat.le_refl _) _)
   have HR := qH (show w.heap.size ≤ s by rw [hs]; exact Nat.le_refl _)
   have HGS := qH (show g ≠ s by have := SD.out.lt; rw [hs]; exact Nat.ne_of_lt this)
   have SDA := qH (SD.out.below BA.out SD.out.lt)
   try rw [← hs]
   clear hwa hs
   refine (medAY_any g n cap zs l wa SL.out HN.out SDA.out i i1 HI1.out (Nat.lt_of_lt_of_le H5.out.2.1 HB.out) s 0 RB.out (by decide) HGS.out).mono ?_
   rintro e wb ⟨x, kx, h1, h2, rfl, h3, h4⟩
   have xE := qH h1
   have kxL := qH h2
   have kxB := qH h3
   have wbD := qH (show Dat wb g zs l from SDA.out.keep (h4.block g SDA.out.lt fun e => HGS.out (Option.some.inj e)))
   have wbB := qH (show Below w.heap.size w wb from BA.out.grown h4 BA.out.size (fun k hk => by rw [← Option.some.inj hk]; exact HR.out))
   clear h1 h2 h3 h4
   go_wp2_with fail
   refine (medAY_any g n cap zs l wb SL.out HN.out wbD.out j j1 HJ1.out (Nat.lt_of_lt_of_le H5.out.2.2.2.1 HB.out) s kx kxB.out (Nat.le_trans kxL.out (by decide)) HGS.out).mono ?_
   rintro e wc ⟨y, ky, h1, h2, rfl, h3, h4⟩
   have yE := qH h1
   have kyL := qH h2
   have kyB := qH h3
   have wcD := qH (show Dat wc g zs l from wbD.out.keep (h4.block g wbD.out.lt fun e => HGS.out (Option.some.inj e)))
   have wcB := qH (show Below w.heap.size w wc from wbB.out.grown h4 wbB.out.size (fun k hk => by rw [← Option.some.inj hk]; exact HR.out))
   clear h1 h2 h3 h4
   go_wp2_with fail
   refine (medAY_any g n cap zs l wc SL.out HN.out wcD.out k k1 HK1.out (Nat.lt_of_lt_of_le H5.out.2.2.2.2.2 HB.out) s ky kyB.out (Nat.le_trans kyL.out (Nat.le_trans (Nat.add_le_add_right kxL.out 3) (by decide))) HGS.out).mono ?_
   rintro e wd ⟨z, kz, h1, h2, rfl, h3, h4⟩
   have zE := qH h1
   have kzL := qH h2
   have kzB := qH h3
   have wdD := qH (show Dat wd g zs l from wcD.out.keep (h4.block g wcD.out.lt fun e => HGS.out (Option.some.inj e)))
   have wdB := qH (show Below w.heap.size w wd from wcB.out.grown h4 wcB.out.size (fun k hk => by rw [← Option.some.inj hk]; exact HR.out))
   clear h1 h2 h3 h4
   have HX := qH (show a ≤ x ∧ x < b by have h1 := xE.out; have h2 := HI1.out; have h3 := H5.out; clear e1 e2 f1 f2 f3 f4 f5 f6 f7 f8 f9 f10 f11 f12 f13 f14; omega)
   have HY := qH (show a ≤ y ∧ y < b by have h1 := yE.out; have h2 := HJ1.out; have h3 := H5.out; clear e1 e2 f1 f2 f3 f4 f5 f6 f7 f8 f9 f10 f11 f12 f13 f14; omega)
   have HZ := qH (show a ≤ z ∧ z < b by have h1 := zE.out; have h2 := HK1.out; have h3 := H5.out; clear e1 e2 f1 f2 f3 f4 f5 f6 f7 f8 f9 f10 f11 f12 f13 f14; omega)
   go_wp2_with fail
   refine (medY_any g n cap zs l wd SL.out HN.out wdD.out x y z (Nat.lt_of_lt_of_le HX.out.2 HB.out) (Nat.lt_of_lt_of_le HY.out.2 HB.out) (Nat.lt_of_lt_of_le HZ.out.2 HB.out) s kz kzB.out (by have h1 := kxL.out; have h2 := kyL.out; have h3 := kzL.out; clear e1 e2 f1 f2 f3 f4 f5 f6 f7 f8 f9 f10 f11 f12 f13 f14; omega) HGS.out).mono ?_
   rintro e we ⟨u, ku, h1, h2, rfl, h3, h4⟩
   have uE := qH h1
   have kuL := qH h2
   have kuB := qH h3
   have weD := qH (show Dat we g zs l from wdD.out.keep (h4.block g wdD.out.lt fun e => HGS.out (Option.some.inj e)))
   have weB := qH (show Below w.heap.size w we from wdB.out.grown h4 wdB.out.size (fun k hk => by rw [← Option.some.inj hk]; exact HR.out))
   clear h1 h2 h3 h4
   have HU := qH (show a ≤ u ∧ u < b by rcases uE.out with h | h | h <;> rw [h]; exact HX.out; exact HY.out; exact HZ.out)
   have c0 := kuB.out.cell 0
   simp only [List.getElem?_cons_zero] at c0
   by_cases hz : ku = 0
   ·have z1 : ((ku : Nat) : Int) = 0 := by rw [hz]; rfl
    have z2 : decide (((ku : Nat) : Int) = 0) = true := decide_eq_true z1
    subst hz
    go_wp2_with fail
    go_ret2
    exact ⟨u, 1, HU.out.1, HU.out.2, rfl, weB.out⟩
   ·have z1 : ¬ (((ku : Nat) : Int) = 0) := fun h => hz (Int.ofNat_eq_zero.1 h)
    have z2 : decide (((ku : Nat) : Int) = 0) = false := decide_eq_false z1
    by_cases hy : ku = 12
    ·subst hy
     go_wp2_with fail
     go_ret2
     exact ⟨u, 2, HU.out.1, HU.out.2, rfl, weB.out⟩
    ·have y1 : ¬ (((ku : Nat) : Int) = 12) := fun h => hy (Int.ofNat.inj h)
     have y2 : decide (((ku : Nat) : Int) = 12) = false := decide_eq_false y1
     go_wp2_with fail
     go_ret2
     exact ⟨u, 0, HU.out.1, HU.out.2, rfl, weB.out⟩
  ·have x2 : ¬ ((50 : Int) ≤ (len : Int)) := fun h => h5 (Int.ofNat_le.1 h)
   clear H50
   go_enter Try.func50, Try.ntmps50
   go_wp2_with fail
   obtain ⟨wa, hwa⟩ : ∃ x, x = w.alloc (Obj.cells #[Value.int IntKind.i64 0] 3) := ⟨_, rfl⟩
   try rw [← hwa]
   obtain ⟨s, hs⟩ : ∃ r, r = w.heap.size := ⟨_, rfl⟩
   have RB := qH (show Blk wa s 3 [.int .i64 ((0 : Nat) : Int)] by rw [hwa, hs]; exact Blk.new w _ [.int .i64 0])
   have BA := qH (show Below w.heap.size w wa by rw [hwa]; exact (Below.refl _ _).alloc (Nat.le_refl _) _)
   have HR := qH (show w.heap.size ≤ s by rw [hs]; exact Nat.le_refl _)
   have HGS := qH (show g ≠ s by have := SD.out.lt; rw [hs]; exact Nat.ne_of_lt this)
   have SDA := qH (SD.out.below BA.out SD.out.lt)
   try rw [← hs]
   clear hwa hs
   refine (medY_any g n cap zs l wa SL.out HN.out SDA.out i j k (Nat.lt_of_lt_of_le HI.out.2 HB.out) (Nat.lt_of_lt_of_le HJ.out.2 HB.out) (Nat.lt_of_lt_of_le HK.out.2 HB.out) s 0 RB.out (by decide) HGS.out).mono ?_
   rintro e we ⟨u, ku, h1, h2, rfl, h3, h4⟩
   have uE := qH h1
   have kuL := qH h2
   have kuB := qH h3
   have weD := qH (show Dat we g zs l from SDA.out.keep (h4.block g SDA.out.lt fun e => HGS.out (Option.some.inj e)))
   have weB := qH (show Below w.heap.size w we from BA.out.grown h4 BA.out.size (fun k hk => by rw [← Option.some.inj hk]; exact HR.out))
   clear h1 h2 h3 h4
   have HU := qH (show a ≤ u ∧ u < b by rcases uE.out with h | h | h <;> rw [h]; exact HI.out; exact HJ.out; exact HK.out)
   have c0 := kuB.out.cell 0
   simp only [List.getElem?_cons_zero] at c0
   by_cases hz : ku = 0
   ·have z1 : ((ku : Nat) : Int) = 0 := by rw [hz]; rfl
    have z2 : decide (((ku : Nat) : Int) = 0) = true := decide_eq_true z1
    subst hz
    go_wp2_with fail
    go_ret2
    exact ⟨u, 1, HU.out.1, HU.out.2, rfl, weB.out⟩
   ·have z1 : ¬ (((ku : Nat) : Int) = 0) := fun h => hz (Int.ofNat_eq_zero.1 h)
    have z2 : decide (((ku : Nat) : Int) = 0) = false := decide_eq_false z1
    by_cases hy : ku = 12
    ·subst hy
     go_wp2_with fail
     go_ret2
     exact ⟨u, 2, HU.out.1, HU.out.2, rfl, weB.out⟩
    ·have y1 : ¬ (((ku : Nat) : Int) = 12) := fun h => hy (Int.ofNat.inj h)
     have y2 : decide (((ku : Nat) : Int) = 12) = false := decide_eq_false y1
     go_wp2_with fail
     go_ret2
     exact ⟨u, 0, HU.out.1, HU.out.2, rfl, weB.out⟩
 ·have x1 : ¬ ((8 : Int) ≤ (len : Int)) := fun h => h8 (Int.ofNat_le.1 h)
  have BA := qH ((Below.refl w.heap.size w).alloc (Nat.le_refl _) (Obj.cells #[Value.int IntKind.i64 0] 3))
  go_enter Try.func50, Try.ntmps50
  go_wp2_with fail
  go_ret2
  exact ⟨j, 1, HJ.out.1, HJ.out.2, rfl, BA.out⟩
end Go.Proofs.Ytbbodfpnneifgaa
