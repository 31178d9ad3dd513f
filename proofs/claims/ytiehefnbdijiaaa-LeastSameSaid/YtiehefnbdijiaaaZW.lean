/-
  Texts of this proof, put together: MdB, SoO, McA, McB, LkN. No statement is proved here.
-/
import Derived.Test.YtiehefnbdijiaaaZE
import Derived.Test.YtiehefnbdijiaaaZC
import Derived.Test.YtiehefnbdijiaaaZF
import Derived.Test.YtiehefnbdijiaaaZR
import Derived.Test.YtiehefnbdijiaaaZJ
namespace Go.Proofs.Ytiehefnbdijiaaa
open Go.RowKit
set_option linter.unusedSimpArgs false
set_option linter.unusedVariables false
noncomputable def mayDB (D : Dm) : Bool := @decide (MayD D) (Classical.propDecidable _)
theorem mayDB_iff {D : Dm} : mayDB D = true ↔ MayD D := by
 unfold mayDB
 exact @decide_eq_true_iff _ (Classical.propDecidable _)
theorem mayDB_yes {D : Dm} (h : MayD D) : mayDB D = true := mayDB_iff.2 h
theorem mayDB_no {D : Dm} (h : ¬ MayD D) : mayDB D = false := by
 cases hm : mayDB D with
 | false => rfl
 | true => exact absurd (mayDB_iff.1 hm) h
def okR (n k : Nat) (r : List Int) : Prop := r.length = k ∧ ∀ x ∈ r, 0 ≤ x ∧ x < (n : Int)
theorem may_rows {D : Dm} (h1 : 1 ≤ D.next.length) (h2 : D.next.length ≤ 2000) (h3 : D.ends.length = D.next.length) (h4 : ∀ (i : Nat) r, D.next[i]? = some r → okR D.next.length (clsA D.cl) r) : MayD D := by
 refine ⟨h1, h2, h3, fun r hr => ?_, fun r hr x hx => ?_⟩
 ·obtain ⟨i, hi⟩ := List.mem_iff_getElem?.1 hr
  exact (h4 i r hi).1
 ·obtain ⟨i, hi⟩ := List.mem_iff_getElem?.1 hr
  exact (h4 i r hi).2 x hx
def maxL (l : List UInt8) : Nat := l.foldl (fun m c => max m c.toNat) 0
theorem maxL_snoc (l : List UInt8) (c : UInt8) : maxL (l ++ [c]) = max (maxL l) c.toNat := by simp [maxL]
theorem maxL_up {l : List UInt8} : ∀ {c : UInt8}, c ∈ l → c.toNat ≤ maxL l := by
 have h : ∀ (l : List UInt8) (k : Nat), k ≤ l.foldl (fun m c => max m c.toNat) k ∧ ∀ c ∈ l, c.toNat ≤ l.foldl (fun m c => max m c.toNat) k := by
  intro l
  induction l with
  | nil => intro k; exact ⟨Nat.le_refl _, fun c hc => by cases hc⟩
  | cons a r ih =>
   intro k
   have h1 := ih (max k a.toNat)
   refine ⟨Nat.le_trans (Nat.le_max_left _ _) h1.1, fun c hc => ?_⟩
   rcases List.mem_cons.1 hc with rfl | hc
   ·exact Nat.le_trans (Nat.le_max_right _ _) h1.1
   ·exact h1.2 c hc
 exact fun {c} hc => (h l 0).2 c hc
theorem maxL_in {l : List UInt8} (hl : l ≠ []) : ∃ c ∈ l, c.toNat = maxL l := by
 have h : ∀ (l : List UInt8) (k : Nat), l.foldl (fun m c => max m c.toNat) k = k ∨ ∃ c ∈ l, c.toNat = l.foldl (fun m c => max m c.toNat) k := by
  intro l
  induction l with
  | nil => intro k; exact .inl rfl
  | cons a r ih =>
   intro k
   rcases ih (max k a.toNat) with h1 | ⟨c, hc, h1⟩
   ·rcases Nat.le_total k a.toNat with h2 | h2
    ·exact .inr ⟨a, List.mem_cons_self, by rw [List.foldl_cons, h1, Nat.max_eq_right h2]⟩
    ·exact .inl (by rw [List.foldl_cons, h1, Nat.max_eq_left h2])
   ·exact .inr ⟨c, List.mem_cons_of_mem _ hc, h1⟩
 rcases h l 0 with h1 | h1
 ·obtain ⟨a, ha⟩ := List.exists_mem_of_ne_nil l hl
  refine ⟨a, ha, ?_⟩
  have := maxL_up ha
  unfold maxL at this ⊢
  omega
 ·exact h1
theorem maxL_take {l : List UInt8} {i : Nat} {c : UInt8} (h : l[i]? = some c) : maxL (l.take (i + 1)) = max (maxL (l.take i)) c.toNat := by
 have hi := (List.getElem?_eq_some_iff.1 h).1
 rw [List.take_succ_eq_append_getElem hi, maxL_snoc]
 rw [(List.getElem?_eq_some_iff.1 h).2]
theorem maxL_lt {l : List UInt8} : maxL l < 256 := by
 by_cases h : l = []
 ·rw [h]; decide
 ·obtain ⟨c, _, hc⟩ := maxL_in h
  rw [← hc]
  exact c.toNat_lt
theorem maxJ (m k : Nat) : max (m : Int) (k : Int) = ((max m k : Nat) : Int) := by omega
theorem maxI (m k : Nat) : (if m < k then (k : Int) else (m : Int)) = ((max m k : Nat) : Int) := by split <;> omega
set_option maxHeartbeats 4000000 in
set_option maxRecDepth 1000000 in
theorem maxY_any (l : List UInt8) (v : Value) (w : World) (hr : Row w v (bvs l)) (h1 : 0 < l.length) (hn : l.length ≤ 1048576) :
  Calls Try.prog 38 #[v] w fun e w' => e = .returned (.int .u8 (maxL l : Int)) ∧ w' = w := by
 have HR := qH hr
 have HN := qH hn
 obtain ⟨A, cap, hv, _⟩ := hr
 subst hv
 obtain ⟨b, off, rfl, _, hc⟩ := HR.out.at_ (by rw [bvs_length]; exact h1)
 obtain ⟨n, hnn⟩ : ∃ n, n = (bvs l).length := ⟨_, rfl⟩
 have HNL := qH (show n = l.length by rw [hnn, bvs_length])
 rw [← hnn] at HR ⊢
 have HC := qH (show ∀ (i : Nat) (c : UInt8), l[i]? = some c → w.cell? ⟨b, off + i, none⟩ = some (.int .u8 (c.toNat : Int)) from fun i c h => hc i _ (bvs_get l i c h))
 have x0 : ¬ ((n : Int) < 1) := by rw [HNL.out]; omega
 have x1 : (0 : Int) < (n : Int) := by rw [HNL.out]; omega
 obtain ⟨c0, hc0⟩ : ∃ c, l[0]? = some c := ⟨_, List.getElem?_eq_getElem h1⟩
 have HC0 := qH hc0
 have y0 : w.cell? ⟨b, off, none⟩ = some (.int .u8 (c0.toNat : Int)) := HC.out 0 c0 hc0
 have HM0 := qH (show c0.toNat = maxL (l.take 1) by rw [maxL_take hc0]; simp [maxL])
 have H1 := qH (show 1 ≤ n by rw [HNL.out]; exact h1)
 clear hn hc hnn hc0 h1
 go_enter Try.func38, Try.ntmps38
 go_wp2_with fail
 go_loopw [3, 4] (fun mv iv wl => ∃ i m : Nat, mv = .int .u8 (m : Int) ∧ iv = .int .i64 (i : Int) ∧ i ≤ n ∧ m = maxL (l.take i) ∧ wl = w) (fun _ iv _ => n - (intOf iv).toNat)
 case atStart => exact ⟨1, c0.toNat, rfl, rfl, H1.out, HM0.out, rfl⟩
 obtain ⟨i, m, rfl, rfl, hi, hm, hw⟩ := hrel
 have hw2 := hw.symm
 subst hw2
 have HM := qH hm
 have HI := qH hi
 clear hw hm hi
 by_cases hin : i < n
 ·have z1 : (i : Int) < (n : Int) := Int.ofNat_lt.2 hin
  obtain ⟨c, hc⟩ : ∃ c, l[i]? = some c := ⟨_, List.getElem?_eq_getElem (by rw [← HNL.out]; exact hin)⟩
  have z2 := HC.out i c hc
  have HMX := qH (show max m c.toNat = maxL (l.take (i + 1)) by rw [maxL_take hc, HM.out])
  have HMI := qH (sub_next hin)
  have HI1 := qH (show i + 1 ≤ n from hin)
  have f1 := wrap_one i (Nat.le_trans HI.out (by rw [HNL.out]; exact Nat.le_trans HN.out (by decide)))
  have f2 := wrap_one' i (Nat.le_trans HI.out (by rw [HNL.out]; exact Nat.le_trans HN.out (by decide)))
  clear hin hc
  go_wp2_with fail
  exact ⟨⟨i + 1, max m c.toNat, congrArg (Value.int .u8) (by first | exact maxI m c.toNat | exact maxJ m c.toNat), by simp, HI1.out, HMX.out, trivial⟩, by simpa [intOf] using HMI.out⟩
 ·obtain rfl : i = n := Nat.le_antisymm HI.out (Nat.le_of_not_lt hin)
  have z1 : ¬ ((i : Int) < (i : Int)) := Int.lt_irrefl _
  have HFIN := qH (show m = maxL l by rw [HM.out, List.take_of_length_le (by rw [HNL.out]; exact Nat.le_refl _)])
  clear hin
  go_wp2_with fail
  go_ret
  rw [HFIN.out]
  exact ⟨rfl, rfl⟩
theorem cls_max {cl : List UInt8} (hl : cl.length = 256) : clsA cl = maxL cl + 1 := by
 have hne : cl ≠ [] := by intro h; rw [h] at hl; cases hl
 obtain ⟨c, hc, he⟩ := maxL_in hne
 apply Nat.le_antisymm
 ·have h : ∀ i, clsD cl i ≤ maxL cl + 1 := by
   intro i
   induction i with
   | zero => exact Nat.zero_le _
   | succ i ih =>
    rcases Nat.lt_or_ge i cl.length with hi | hi
    ·rw [clsD_next (List.getElem?_eq_getElem hi)]
     have := maxL_up (List.getElem_mem hi)
     omega
    ·have : clsD cl (i + 1) = clsD cl i := by
      unfold clsD
      rw [List.take_of_length_le hi, List.take_of_length_le (by omega)]
     rw [this]
     exact ih
  exact h 256
 ·obtain ⟨j, hj⟩ := List.mem_iff_getElem?.1 hc
  have := clsA_lt hl hj
  omega
theorem cls_row {w : World} {g : Nat} {t : TypeId} {cl : List UInt8} {vn ve : Value} (h : Blk w g t (dcl cl vn ve)) (hl : cl.length = 256) : Row w (.slice (some ⟨g, 0, none⟩) 256 256) (bvs cl) := by
 have hl2 : (bvs cl).length = 256 := by rw [bvs_length, hl]
 refine ⟨some ⟨g, 0, none⟩, 256, by rw [hl2], by rw [hl2]; exact Nat.le_refl _, by decide, (fun h => by cases h), fun _ => ⟨g, 0, rfl, h.lt, fun i u hu => ?_⟩⟩
 have hi : i < 256 := by rw [← hl2]; exact (List.getElem?_eq_some_iff.1 hu).1
 rw [Nat.zero_add, Blk.cell h, dcl_cl hl hi]
 exact hu
set_option maxHeartbeats 4000000 in
set_option maxRecDepth 1000000 in
theorem mCount_any (D : Dm) (cs : List Value) (w : World) (hv : DfaV w cs D) :
  Calls Try.prog 22 #[.agg cs.toArray] w fun e w' => e = .returned (.int .i64 (clsA D.cl : Int)) ∧ Below w.heap.size w w' := by
 obtain ⟨An, Ae, cn, ce, vf, hl, hcs, hn, hr, he⟩ := hv.form
 have HL := qH hl
 have HCS := qH hcs
 obtain ⟨m, hm⟩ : ∃ m, m = maxL D.cl := ⟨_, rfl⟩
 have HM := qH hm
 have HMB := qH (show m < 256 by rw [hm]; exact maxL_lt)
 have f1 := wrap_one m (Nat.le_trans (Nat.le_of_lt HMB.out) (by decide))
 have f2 := wrap_one' m (Nat.le_trans (Nat.le_of_lt HMB.out) (by decide))
 have f3 := w64S m (Nat.le_trans (Nat.le_of_lt HMB.out) (by decide))
 have f4 := k64S m (Nat.le_trans (Nat.le_of_lt HMB.out) (by decide))
 have HE := qH (show clsA D.cl = m + 1 by rw [cls_max hl, hm])
 rw [HE.out]
 clear hv hl hcs hn hr he hm
 go_enter Try.func22, Try.ntmps22
 go_wp2_with ((with_reducible refine atDst 1 ?_); refine wpList_box rfl 28 _ rfl cs rfl (Below.refl w.heap.size w) (Nat.le_refl _) ?_; intro w1 hk1 hb1 hs1 _; have K1 := qH hk1; have B1 := qH hb1; clear hk1 hb1 hs1; (try simp only [Act.put, qA, qB, qC]))
 refine (maxY_any D.cl _ w1 (cls_row (vn := .slice An D.next.length cn) (ve := .slice Ae D.ends.length ce) (by rw [← HCS.out]; exact K1.out) HL.out) (by rw [HL.out]; decide) (by rw [HL.out]; decide)).mono ?_
 rintro e w2 ⟨rfl, hw⟩
 subst hw
 rw [← HM.out]
 go_wp2_with fail
 go_ret
 exact ⟨rfl, B1.out⟩
def hasD (n : Nat) (x : Int) : Bool := decide (0 ≤ x ∧ x < (n : Int))
set_option maxHeartbeats 4000000 in
set_option maxRecDepth 1000000 in
theorem mHas_any (D : Dm) (x : Int) (cs : List Value) (w : World) (hv : DfaV w cs D) :
  Calls Try.prog 23 #[.agg cs.toArray, .int .i64 x] w fun e w' => e = .returned (.bool (hasD D.next.length x)) ∧ Below w.heap.size w w' := by
 obtain ⟨An, Ae, cn, ce, vf, hl, hcs, hn, hr, he⟩ := hv.form
 obtain ⟨n, hnn⟩ : ∃ n, n = D.next.length := ⟨_, rfl⟩
 rw [← hnn] at hcs ⊢
 have HL := qH hl
 have HCS := qH hcs
 clear hv hl hcs hn hr he hnn
 by_cases h0 : 0 ≤ x
 ·by_cases h1 : x < (n : Int)
  ·have HH := qH (show hasD n x = true from decide_eq_true ⟨h0, h1⟩)
   have y0 : decide (0 ≤ x) = true := decide_eq_true h0
   have y1 : decide (x < (n : Int)) = true := decide_eq_true h1
   rw [HH.out]
   go_enter Try.func23, Try.ntmps23
   go_wp2_with ((with_reducible refine atDst 2 ?_); refine wpList_box rfl 28 _ rfl cs rfl (Below.refl w.heap.size w) (Nat.le_refl _) ?_; intro w1 hk1 hb1 hs1 _; have K1 := qH hk1; have B1 := qH hb1; (have c256 : w1.cell? ⟨w.heap.size, 256, none⟩ = some (.slice An n cn) := by rw [hk1.cell 256, HCS.out]; exact dcl_n HL.out); clear hk1 hb1 hs1; (try simp only [Act.put, qA, qB, qC]))
   go_ret
   exact ⟨rfl, B1.out⟩
  ·have HH := qH (show hasD n x = false from decide_eq_false fun h => h1 h.2)
   have y0 : decide (0 ≤ x) = true := decide_eq_true h0
   have y1 : decide (x < (n : Int)) = false := decide_eq_false h1
   rw [HH.out]
   go_enter Try.func23, Try.ntmps23
   go_wp2_with ((with_reducible refine atDst 2 ?_); refine wpList_box rfl 28 _ rfl cs rfl (Below.refl w.heap.size w) (Nat.le_refl _) ?_; intro w1 hk1 hb1 hs1 _; have K1 := qH hk1; have B1 := qH hb1; (have c256 : w1.cell? ⟨w.heap.size, 256, none⟩ = some (.slice An n cn) := by rw [hk1.cell 256, HCS.out]; exact dcl_n HL.out); clear hk1 hb1 hs1; (try simp only [Act.put, qA, qB, qC]))
   go_ret
   exact ⟨rfl, B1.out⟩
 ·have HH := qH (show hasD n x = false from decide_eq_false fun h => h0 h.1)
  have y0 : decide (0 ≤ x) = false := decide_eq_false h0
  rw [HH.out]
  go_enter Try.func23, Try.ntmps23
  go_wp2_with ((with_reducible refine atDst 2 ?_); refine wpList_box rfl 28 _ rfl cs rfl (Below.refl w.heap.size w) (Nat.le_refl _) ?_; intro w1 hk1 hb1 hs1 _; have K1 := qH hk1; have B1 := qH hb1; (skip); clear hk1 hb1 hs1; (try simp only [Act.put, qA, qB, qC]))
  go_ret
  exact ⟨rfl, B1.out⟩
set_option maxHeartbeats 8000000 in
set_option maxRecDepth 1000000 in
theorem mMay_any (D : Dm) (cs : List Value) (w : World) (hv : DfaV w cs D) :
  Calls Try.prog 17 #[.agg cs.toArray] w fun e w' => e = .returned (.bool (mayDB D)) ∧ Below w.heap.size w w' := by
 have V0 := qH hv
 have HDS := qH hv.size
 obtain ⟨An, Ae, cn, ce, vf, hl, hcs, hn, hr, he⟩ := hv.form
 have HL := qH hl
 obtain ⟨n, hnn⟩ : ∃ n, n = D.next.length := ⟨_, rfl⟩
 obtain ⟨ne, hne⟩ : ∃ ne, ne = D.ends.length := ⟨_, rfl⟩
 have HN := qH hnn
 have HNE := qH hne
 rw [← hnn, ← hne] at hcs
 rw [← hnn] at hn
 have HCS := qH hcs
 have HRN := qH hn
 have HR := qH hr
 obtain ⟨k, hk⟩ : ∃ k, k = clsA D.cl := ⟨_, rfl⟩
 have HK := qH hk
 have HK2 := qH (show k ≤ 256 by rw [hk]; exact clsA_le _)
 clear hv hl hcs hn hr he hnn hne hk
 go_enter Try.func17, Try.ntmps17
 by_cases hn1 : (n : Int) < 1
 ·have d1 : decide ((n : Int) < 1) = true := decide_eq_true hn1
  have HNM := qH (show ¬ MayD D from fun h => by have := h.pos; have := HN.out; omega)
  go_wp2_with ((with_reducible refine atDst 1 ?_); refine wpList_box rfl 28 _ rfl cs rfl (Below.refl w.heap.size w) (Nat.le_refl _) ?_; intro w1 hk1 hb1 hs1 _; have K1 := qH hk1; have B1 := qH hb1; have c256 : w1.cell? ⟨w.heap.size, 256, none⟩ = some (.slice An n cn) := (by rw [hk1.cell 256, HCS.out]; exact dcl_n HL.out); have c257 : w1.cell? ⟨w.heap.size, 257, none⟩ = some (.slice Ae ne ce) := (by rw [hk1.cell 257, HCS.out]; exact dcl_e HL.out); clear hk1 hb1 hs1; (try simp only [Act.put, qA, qB, qC]))
  go_ret
  rw [mayDB_no HNM.out]
  exact ⟨rfl, B1.out⟩
 have d1 : decide ((n : Int) < 1) = false := decide_eq_false hn1
 by_cases hn2 : (2000 : Int) < (n : Int)
 ·have d2 : decide ((2000 : Int) < (n : Int)) = true := decide_eq_true hn2
  have HNM := qH (show ¬ MayD D from fun h => by have := h.few; have := HN.out; omega)
  go_wp2_with ((with_reducible refine atDst 1 ?_); refine wpList_box rfl 28 _ rfl cs rfl (Below.refl w.heap.size w) (Nat.le_refl _) ?_; intro w1 hk1 hb1 hs1 _; have K1 := qH hk1; have B1 := qH hb1; have c256 : w1.cell? ⟨w.heap.size, 256, none⟩ = some (.slice An n cn) := (by rw [hk1.cell 256, HCS.out]; exact dcl_n HL.out); have c257 : w1.cell? ⟨w.heap.size, 257, none⟩ = some (.slice Ae ne ce) := (by rw [hk1.cell 257, HCS.out]; exact dcl_e HL.out); clear hk1 hb1 hs1; (try simp only [Act.put, qA, qB, qC]))
  go_ret
  rw [mayDB_no HNM.out]
  exact ⟨rfl, B1.out⟩
 have d2 : decide ((2000 : Int) < (n : Int)) = false := decide_eq_false hn2
 have HNP := qH (show 1 ≤ n by omega)
 have HNF := qH (show n ≤ 2000 by omega)
 clear hn1 hn2
 by_cases hne : ne = n
 ·subst hne
  have HALL := qH (show (∀ (i : Nat) r, D.next[i]? = some r → okR ne k r) → MayD D from fun h => may_rows (by rw [← HN.out]; exact HNP.out) (by rw [← HN.out]; exact HNF.out) (by rw [← HN.out, ← HNE.out]) (by rw [← HN.out, ← HK.out]; exact h))
  go_wp2_with (first
   | ((with_reducible refine atDst 1 ?_); refine wpList_box rfl 28 _ rfl cs rfl (Below.refl w.heap.size w) (Nat.le_refl _) ?_; intro w1 hk1 hb1 hs1 _; have K1 := qH hk1; have B1 := qH hb1; have c256 : w1.cell? ⟨w.heap.size, 256, none⟩ = some (.slice An ne cn) := (by rw [hk1.cell 256, HCS.out]; exact dcl_n HL.out); have c257 : w1.cell? ⟨w.heap.size, 257, none⟩ = some (.slice Ae ne ce) := (by rw [hk1.cell 257, HCS.out]; exact dcl_e HL.out); clear hk1 hb1 hs1; (try simp only [Act.put, qA, qB, qC]))
   | ((with_reducible refine atDst 27 ?_); refine wpList_ldArr rfl 28 _ rfl w.heap.size rfl 28 _ _ K1.out Try.underlying28 rfl HDS.out ?_; (try simp only [Act.put, qA, qB, qC])))
  refine (mCount_any D cs w1 (V0.out.below B1.out)).mono ?_
  rintro e w2 ⟨rfl, hb⟩
  rw [← HK.out]
  have B2 := qH (B1.out.trans (hb.mono B1.out.size))
  have K2 := qH (K1.out.below hb K1.out.lt)
  have HT1 := qH (show w.heap.size < w2.heap.size from K2.out.lt)
  have c256' : w2.cell? ⟨w.heap.size, 256, none⟩ = some (.slice An ne cn) := by rw [K2.out.cell 256, HCS.out]; exact dcl_n HL.out
  clear hb c256 c257
  go_wp2_with fail
  go_loopw [32] (fun iv wl => ∃ i : Nat, i ≤ ne ∧ iv = .int .i64 (i : Int) ∧ (∀ i' r, i' < i → D.next[i']? = some r → okR ne k r) ∧ Below w2.heap.size w2 wl) (fun iv _ => ne - (intOf iv).toNat)
  case atStart => exact ⟨0, Nat.zero_le _, by simp, fun i' r h => absurd h (Nat.not_lt_zero _), Below.refl _ _⟩
  clear c256'
  obtain ⟨i, hi, rfl, hok, hb⟩ := hrel
  have BR := qH hb
  have BW := qH (B2.out.trans (hb.mono B2.out.size))
  have HOK := qH hok
  obtain ⟨wi, hwi⟩ : ∃ v : World, v = wr := ⟨_, rfl⟩
  subst hwi
  clear hb hok
  by_cases hin : i < ne
  ·have x1 : (i : Int) < (ne : Int) := Int.ofNat_lt.2 hin
   have HI := qH hin
   have HMI := qH (sub_next hin)
   have e3 := wrap_one i (lt_bigN hin HNF.out)
   have e4 := wrap_one' i (lt_bigN hin HNF.out)
   obtain ⟨r, hr⟩ : ∃ r, D.next[i]? = some r := ⟨_, List.getElem?_eq_getElem (by rw [← HN.out]; exact hin)⟩
   have HRR := qH hr
   obtain ⟨rl, hrl⟩ : ∃ rl, rl = r.length := ⟨_, rfl⟩
   have HRL := qH hrl
   have hri := (HR.out i r hr).below BW.out
   have HRI := qH hri
   obtain ⟨Ar, cr, hvr, _⟩ := hri
   rw [nums_length, ← hrl] at hvr
   obtain ⟨b, off, rfl, _, hcc⟩ := (HRN.out.below BW.out).at_ (by simp; exact Nat.lt_of_lt_of_le Nat.zero_lt_one HNP.out)
   have hci : wi.cell? ⟨b, off + i, none⟩ = some (.slice Ar rl cr) := hcc i _ (by simp [hin, hvr])
   have HVR := qH hvr
   clear hi hin hr hcc hrl hvr HRI
   by_cases hlk : rl = k
   ·subst hlk
    go_wp2_with fail
    go_loopw [42] (fun jv wl => ∃ j : Nat, j ≤ rl ∧ jv = .int .i64 (j : Int) ∧ (∀ m x, m < j → r[m]? = some x → 0 ≤ x ∧ x < (ne : Int)) ∧ Below w2.heap.size w2 wl) (fun jv _ => rl - (intOf jv).toNat)
    case atStart => exact ⟨0, Nat.zero_le _, by simp, fun m x h => absurd h (Nat.not_lt_zero _), BR.out⟩
    clear hci
    obtain ⟨j, hj, rfl, hjo, hb⟩ := hrel
    have BJ := qH hb
    have BX := qH (B2.out.trans (hb.mono B2.out.size))
    have KJ := qH (K2.out.below hb HT1.out)
    have HJO := qH hjo
    obtain ⟨wj, hwj⟩ : ∃ v : World, v = wr := ⟨_, rfl⟩
    subst hwj
    clear hb hjo
    by_cases hjk : j < rl
    ·have y1 : (j : Int) < (rl : Int) := Int.ofNat_lt.2 hjk
     have HJ := qH hjk
     have HMJ := qH (sub_next hjk)
     have f3 := wrap_one j (lt_k256 hjk HK2.out)
     have f4 := wrap_one' j (lt_k256 hjk HK2.out)
     obtain ⟨x, hx⟩ : ∃ x, r[j]? = some x := ⟨_, List.getElem?_eq_getElem (by rw [← HRL.out]; exact hjk)⟩
     have HX := qH hx
     have HRJ := qH (show Row wj (.slice Ar rl cr) (nums .i64 r) by rw [← HVR.out]; exact (HR.out i r HRR.out).below BX.out)
     obtain ⟨br, or, rfl, _, hcr⟩ := HRJ.out.at_ (by rw [nums_length, ← HRL.out]; exact Nat.lt_of_le_of_lt (Nat.zero_le _) hjk)
     have hcx : wj.cell? ⟨br, or + j, none⟩ = some (.int .i64 x) := hcr j _ (by simp [nums, hx])
     clear hj hjk hx hcr
     go_wp2_with ((with_reducible refine atDst 46 ?_); refine wpList_ldArr rfl 28 _ rfl w.heap.size rfl 28 _ _ KJ.out Try.underlying28 rfl HDS.out ?_; (try simp only [Act.put, qA, qB, qC]))
     refine (mHas_any D x cs wj (V0.out.below BX.out)).mono ?_
     rintro e wh ⟨rfl, hb⟩
     rw [← HN.out]
     have BH := qH (BJ.out.trans (hb.mono BJ.out.size))
     have BY := qH (BX.out.trans (hb.mono BX.out.size))
     clear hb hcx
     by_cases hx2 : 0 ≤ x ∧ x < (ne : Int)
     ·have HH := qH (show hasD ne x = true from decide_eq_true hx2)
      rw [HH.out]
      have HJN := qH (show ∀ m y, m < j + 1 → r[m]? = some y → 0 ≤ y ∧ y < (ne : Int) from fun m y hm hy => by
       rcases Nat.lt_succ_iff_lt_or_eq.1 hm with h | h
       ·exact HJO.out m y h hy
       ·rw [h, HX.out] at hy
        injection hy with hy
        rw [← hy]
        exact hx2)
      clear hx2
      go_wp2_with fail
      exact ⟨⟨j + 1, HJ.out, by congr 1, HJN.out, BH.out⟩, by simpa [intOf] using HMJ.out⟩
     ·have HH := qH (show hasD ne x = false from decide_eq_false hx2)
      rw [HH.out]
      have HNM := qH (show ¬ MayD D from fun h => hx2 (by rw [HN.out]; exact h.to r (List.mem_of_getElem? HRR.out) x (List.mem_of_getElem? HX.out)))
      clear hx2
      go_wp2_with fail
      go_ret
      rw [mayDB_no HNM.out]
      exact ⟨rfl, BY.out⟩
    ·obtain rfl : j = rl := by omega
     have y1 : ¬ ((j : Int) < (j : Int)) := Int.lt_irrefl _
     have HON := qH (show ∀ i' s, i' < i + 1 → D.next[i']? = some s → okR ne j s from fun i' s hi' hs => by
      rcases Nat.lt_succ_iff_lt_or_eq.1 hi' with h | h
      ·exact HOK.out i' s h hs
      ·rw [h, HRR.out] at hs
       injection hs with hs
       rw [← hs]
       refine ⟨HRL.out.symm, fun x hx => ?_⟩
       obtain ⟨m, hm⟩ := List.mem_iff_getElem?.1 hx
       exact HJO.out m x (by rw [HRL.out]; exact (List.getElem?_eq_some_iff.1 hm).1) hm)
     clear hj hjk
     go_wp2_with fail
     exact ⟨⟨i + 1, HI.out, by congr 1, HON.out, BJ.out⟩, by simpa [intOf] using HMI.out⟩
   ·have z1 : decide ((rl : Int) = (k : Int)) = false := decide_eq_false fun h => hlk (by omega)
    have z2 : ¬ ((rl : Int) = (k : Int)) := fun h => hlk (by omega)
    have HNM := qH (show ¬ MayD D from fun h => hlk (by rw [HRL.out, HK.out]; exact h.rows r (List.mem_of_getElem? HRR.out)))
    go_wp2_with fail
    go_ret
    rw [mayDB_no HNM.out]
    exact ⟨rfl, BW.out⟩
  ·have HM := qH (show MayD D from HALL.out fun i' r hr => HOK.out i' r (by have := (List.getElem?_eq_some_iff.1 hr).1; have := HN.out; omega) hr)
   obtain rfl : i = ne := by omega
   have x1 : ¬ ((i : Int) < (i : Int)) := Int.lt_irrefl _
   clear hi hin
   go_wp2_with fail
   go_ret
   rw [mayDB_yes HM.out]
   exact ⟨rfl, BW.out⟩
 ·have z1 : decide ((ne : Int) = (n : Int)) = false := decide_eq_false fun h => hne (by omega)
  have z2 : ¬ ((ne : Int) = (n : Int)) := fun h => hne (by omega)
  have HNM := qH (show ¬ MayD D from fun h => hne (by rw [HNE.out, HN.out]; exact h.ends))
  go_wp2_with ((with_reducible refine atDst 1 ?_); refine wpList_box rfl 28 _ rfl cs rfl (Below.refl w.heap.size w) (Nat.le_refl _) ?_; intro w1 hk1 hb1 hs1 _; have K1 := qH hk1; have B1 := qH hb1; have c256 : w1.cell? ⟨w.heap.size, 256, none⟩ = some (.slice An n cn) := (by rw [hk1.cell 256, HCS.out]; exact dcl_n HL.out); have c257 : w1.cell? ⟨w.heap.size, 257, none⟩ = some (.slice Ae ne ce) := (by rw [hk1.cell 257, HCS.out]; exact dcl_e HL.out); clear hk1 hb1 hs1; (try simp only [Act.put, qA, qB, qC]))
  go_ret
  rw [mayDB_no HNM.out]
  exact ⟨rfl, B1.out⟩
noncomputable def fK (D : Dm) (n : Nat) (a : Nat → Nat) (k i : Nat) : Nat → Nat := by
 classical exact fun s => if a s < k ∨ s ∈ (prt n a k).take i then parD D s else 0
section
variable {D : Dm} {n k i s : Nat} {a : Nat → Nat}
theorem fK_yes (h : a s < k ∨ s ∈ (prt n a k).take i) : fK D n a k i s = parD D s := by
 unfold fK
 exact if_pos h
theorem fK_no (h : ¬ (a s < k ∨ s ∈ (prt n a k).take i)) : fK D n a k i s = 0 := by
 unfold fK
 exact if_neg h
theorem fK_zero (D : Dm) (n : Nat) (a : Nat → Nat) : (ncs n fun _ => 0) = ncs n (fK D n a 0 0) := ncs_congr fun s _ => by
 rw [fK_no]
 rw [List.take_zero]
 rintro (h | h)
 ·omega
 ·cases h
theorem fK_set (h : (prt n a k)[i]? = some s) : ncs n (updN (fK D n a k i) s (parD D s)) = ncs n (fK D n a k (i + 1)) := ncs_congr fun q _ => by
 unfold updN
 by_cases hq : q = s
 ·rw [if_pos hq, fK_yes (.inr ((mem_take_succ h).2 (.inr hq))), hq]
 ·rw [if_neg hq]
  by_cases hm : a q < k ∨ q ∈ (prt n a k).take i
  ·rw [fK_yes hm, fK_yes (by
    rcases hm with hm | hm
    ·exact .inl hm
    ·exact .inr ((mem_take_succ h).2 (.inl hm)))]
  ·rw [fK_no hm, fK_no fun hx => by
    rcases hx with hx | hx
    ·exact hm (.inl hx)
    ·rcases (mem_take_succ h).1 hx with e | e
     ·exact hm (.inr e)
     ·exact hq e]
theorem fK_next (h : (prt n a k).length ≤ i) : ncs n (fK D n a k i) = ncs n (fK D n a (k + 1) 0) := ncs_congr fun q hq => by
 by_cases hm : a q < k + 1
 ·rw [fK_yes (k := k + 1) (.inl hm)]
  rw [fK_yes]
  rw [List.take_of_length_le h]
  by_cases hk : a q = k
  ·exact .inr (prt_mem.2 ⟨hq, hk⟩)
  ·exact .inl (by omega)
 ·rw [fK_no (k := k + 1) (by
   rintro (h | h)
   ·exact hm h
   ·rw [List.take_zero] at h; cases h), fK_no]
  rw [List.take_of_length_le h]
  rintro (h | h)
  ·exact hm (by omega)
  ·exact hm (by have := (prt_mem.1 h).2; omega)
theorem fK_all {m : Nat} (h : Pn n m a) : ncs n (fK D n a m 0) = ncs n (parD D) := ncs_congr fun q hq => fK_yes (.inl (h.lt q hq))
end
set_option maxHeartbeats 8000000 in
set_option maxRecDepth 1000000 in
theorem lParts_any (D : Dm) (cs : List Value) (w : World) (hv : DfaV w cs D) (hm : MayD D) :
  Calls Try.prog 10 #[.agg cs.toArray] w fun e w' => ∃ v, e = .returned v ∧ Row w' v (ncs D.next.length (parD D)) ∧ Below w.heap.size w w' := by
 have V0 := qH hv
 have HM := qH hm
 have HDS := qH hv.size
 obtain ⟨n, hnn⟩ : ∃ n, n = D.next.length := ⟨_, rfl⟩
 obtain ⟨bn, on, cn, be, oe, ce, hdr⟩ := dr_of hv hm hnn rfl
 have HNF := qH (show n ≤ 2000 by rw [hnn]; exact hm.few)
 have HN := qH hnn
 have HCS := qH hdr.cs
 have HL := qH hdr.hl
 have HCL := qH (csN_is hdr.hl)
 rw [← hnn]
 obtain ⟨i1, hi1, hy0, hy1, hy2⟩ := infoP inf_int
 have HYI := qH (show i1.bytes * n ≤ 281474976710656 by have := HNF.out; rw [hy2]; omega)
 have HN3 := qH (show n ≤ 9223372036854775807 by have := HNF.out; omega)
 clear hv hm hdr hnn
 go_enter Try.func10, Try.ntmps10
 go_wp2_with (first
  | ((with_reducible refine atDst 1 ?_); refine wpList_box rfl 28 _ rfl cs rfl (Below.refl w.heap.size w) (Nat.le_refl _) ?_; intro w1 hk1 hb1 hs1 _; have K1 := qH hk1; have B1 := qH hb1; clear hk1 hb1 hs1; (try simp only [Act.put, qA, qB, qC]))
  | ((with_reducible refine atDst 8 ?_); refine wpList_ldArr rfl 28 _ rfl w.heap.size rfl 28 _ _ K1.out Try.underlying28 rfl HDS.out ?_; (try simp only [Act.put, qA, qB, qC])))
 refine (mMay_any D cs w1 (V0.out.below B1.out)).mono ?_
 rintro e w2 ⟨rfl, hb⟩
 rw [mayDB_yes HM.out]
 have B2 := qH (B1.out.trans (hb.mono B1.out.size))
 have K2 := qH (K1.out.below hb K1.out.lt)
 have c256 : w2.cell? ⟨w.heap.size, 256, none⟩ = some (.slice (some ⟨bn, on, none⟩) n cn) := by rw [K2.out.cell 256, HCS.out]; exact dcl_n HL.out
 clear hb
 go_wp2_with (first
  | ((with_reducible refine atDst 14 ?_); refine wpList_mk _ rfl _ _ 38 rfl 3 i1 (.int .i64 0) Try.underlying38 hi1 hy0 hy1 rfl n _ _ _ _ rfl rfl rfl rfl HYI.out HN3.out ?_; intro w3 hk hb hs; have T3 := qH hk; have B3 := qH hb; have K3 := qH (K2.out.below hb K2.out.lt); clear hk hb hs; (try simp only [Act.put, qA, qB, qC]))
  | ((with_reducible refine atDst 15 ?_); refine wpList_ldArr rfl 28 _ rfl w.heap.size rfl 28 _ _ K3.out Try.underlying28 rfl HDS.out ?_; (try simp only [Act.put, qA, qB, qC])))
 obtain ⟨g, hg⟩ : ∃ g, g = w2.heap.size := ⟨_, rfl⟩
 rw [← hg] at T3
 rw [← hg]
 have HG := qH (show w.heap.size ≤ g by rw [hg]; exact B2.out.size)
 have BG3 := qH (show Below w.heap.size w w3 from B2.out.trans (B3.out.mono B2.out.size))
 clear hg c256
 refine (lRefine_any D cs w3 (V0.out.below BG3.out) HM.out).mono ?_
 rintro e w4 ⟨pv, rfl, ⟨t, ci, m, a, htm, hh, F, hF1, hF2⟩, hb⟩
 have HMN := qH (show m ≤ n by rw [HN.out]; exact hh.pn.le)
 have HPN := qH (show Pn n m a by rw [HN.out]; exact hh.pn)
 rw [← HN.out] at hF2
 have RF := qH hF1
 have RP := qH hF2
 obtain ⟨Ap, cp, rfl, _⟩ := hF1.1
 rw [List.length_map, List.length_range] at RF ⊢
 have K4 := qH (show Blk w4 g 3 (ncs n (fK D n a 0 0)) by rw [← fK_zero, ← ncs_no]; exact T3.out.below hb T3.out.lt)
 have HG3 := qH T3.out.lt
 have B4 := qH (BG3.out.trans (hb.mono BG3.out.size))
 have PAR := qH (show ∀ (k s f : Nat), s < n → a s = k → (prt n a k)[0]? = some f → parD D s = f from fun k s f hs hk hf => by
  subst hk
  exact hh.par HM.out HL.out HCL.out htm (by rw [← HN.out]; exact hs) (by rw [← HN.out]; exact hf))
 clear htm hh hb hF1 hF2 T3
 go_wp2_with fail
 go_loopw [18] (fun kv wl => ∃ k : Nat, k ≤ m ∧ kv = .int .i64 (k : Int) ∧ Blk wl g 3 (ncs n (fK D n a k 0)) ∧ Off (fun q => q = g) w4 wl) (fun kv _ => m - (intOf kv).toNat)
 case atStart => exact ⟨0, Nat.zero_le _, rfl, K4.out, Off.refl _ _⟩
 clear K4
 obtain ⟨k, hk, rfl, hb, ho⟩ := hrel
 obtain ⟨wk, hwk⟩ : ∃ v : World, v = wr := ⟨_, rfl⟩
 subst hwk
 have HK := qH hk
 have KK := qH hb
 have OK := qH ho
 clear hk hb ho
 by_cases hkm : k < m
 ·have x1 : (k : Int) < (m : Int) := Int.ofNat_lt.2 hkm
  have HKM := qH hkm
  have HMK := qH (sub_next hkm)
  have e3 := wrap_one k (lt_bigN (Nat.lt_of_lt_of_le hkm HMN.out) HNF.out)
  have e4 := wrap_one' k (lt_bigN (Nat.lt_of_lt_of_le hkm HMN.out) HNF.out)
  have NG := qH (show ∀ q, w3.heap.size ≤ q → q < w4.heap.size → ¬ (q = g) from fun q h1 _ h2 => by have := HG3.out; omega)
  obtain ⟨bp, op, rfl, _, hcp⟩ := (RF.out.off OK.out NG.out).1.at_ (by rw [List.length_map, List.length_range]; exact Nat.lt_of_le_of_lt (Nat.zero_le _) hkm)
  have hrk := (RP.out k hkm).off OK.out NG.out
  have RK := qH hrk
  obtain ⟨len, hlen⟩ : ∃ x, x = (prt n a k).length := ⟨_, rfl⟩
  have HLEN := qH hlen
  have HLN := qH (show len ≤ n by rw [hlen]; exact prt_le _ _ _)
  obtain ⟨Ak, ck, hFk, _⟩ := hrk.1
  rw [nat64_len, ← hlen] at hFk
  rw [hFk] at RK
  have c21 : wk.cell? ⟨bp, op + k, none⟩ = some (.slice Ak len ck) := hcp k _ (by simp [hkm, hFk])
  clear hkm hcp hrk hlen hFk
  go_wp2_with fail
  clear c21
  go_loopw [24] (fun iv wl => ∃ i : Nat, i ≤ len ∧ iv = .int .i64 (i : Int) ∧ Blk wl g 3 (ncs n (fK D n a k i)) ∧ Off (fun q => q = g) w4 wl ∧ RowI wl w3.heap.size w4.heap.size (.slice Ak len ck) (nat64 (prt n a k))) (fun iv _ => len - (intOf iv).toNat)
  case atStart => exact ⟨0, Nat.zero_le _, rfl, KK.out, OK.out, RK.out⟩
  clear KK OK RK
  obtain ⟨i, hi, rfl, hb, ho, hr⟩ := hrel
  obtain ⟨wi, hwi⟩ : ∃ v : World, v = wr := ⟨_, rfl⟩
  subst hwi
  have HI := qH hi
  have KI := qH hb
  have OI := qH ho
  have RI := qH hr
  clear hi hb ho hr
  by_cases hil : i < len
  ·have y1 : (i : Int) < (len : Int) := Int.ofNat_lt.2 hil
   have HIL := qH hil
   have HMI := qH (sub_next hil)
   have f3 := wrap_one i (lt_bigN (Nat.lt_of_lt_of_le hil HLN.out) HNF.out)
   have f4 := wrap_one' i (lt_bigN (Nat.lt_of_lt_of_le hil HLN.out) HNF.out)
   have hl0 : 0 < len := Nat.lt_of_le_of_lt (Nat.zero_le _) hil
   have y0 : (0 : Int) < (len : Int) := Int.ofNat_lt.2 hl0
   obtain ⟨s, hs⟩ : ∃ s, (prt n a k)[i]? = some s := ⟨_, List.getElem?_eq_getElem (by rw [← HLEN.out]; exact hil)⟩
   obtain ⟨f, hf⟩ : ∃ f, (prt n a k)[0]? = some f := ⟨_, List.getElem?_eq_getElem (by rw [← HLEN.out]; exact hl0)⟩
   obtain ⟨h1, h2⟩ := prt_mem.1 (List.mem_of_getElem? hs)
   have HSN := qH h1
   have hpf := PAR.out k s f h1 h2 hf
   have s1 : (s : Int) < (n : Int) := Int.ofNat_lt.2 h1
   obtain ⟨bk, ok, rfl, _, hck⟩ := RI.out.1.at_ (by rw [nat64_len, ← HLEN.out]; exact hl0)
   have c27 : wi.cell? ⟨bk, ok + i, none⟩ = some (.int .i64 (s : Int)) := hck i _ (nat64_get hs)
   have c32 : wi.cell? ⟨bk, ok, none⟩ = some (.int .i64 (f : Int)) := hck 0 _ (nat64_get hf)
   have c33 := (KI.out.cell s).trans (ncs_get _ h1)
   have f33 := KI.out.frozen s
   have KZ := qH (show Blk (wi.setCell ⟨g, s, none⟩ (.int .i64 (f : Int))) g 3 (ncs n (fK D n a k (i + 1))) by
    have h9 := KI.out.set s (.int .i64 (f : Int))
    rw [ncs_set, ← hpf, fK_set hs] at h9
    rw [← hpf]
    exact h9)
   have OZ := qH (OI.out.trans (Off.set (D := fun q => q = g) wi s (.int .i64 (f : Int)) rfl))
   have RZ := qH (RI.out.off (Off.set (D := fun q => q = g) wi s (.int .i64 (f : Int)) rfl) fun q h8 h9 h10 => by have := HG3.out; omega)
   clear hil hs hf h1 h2 hpf hck hl0
   go_wp2_with fail
   exact ⟨⟨i + 1, HIL.out, rfl, KZ.out, OZ.out, RZ.out⟩, by simpa [intOf] using HMI.out⟩
  ·obtain rfl : i = len := Nat.le_antisymm HI.out (Nat.le_of_not_lt hil)
   have y1 : ¬ ((i : Int) < (i : Int)) := Int.lt_irrefl _
   have KZ := qH (show Blk wi g 3 (ncs n (fK D n a (k + 1) 0)) by
    rw [← fK_next (by rw [← HLEN.out]; exact Nat.le_refl _)]
    exact KI.out)
   clear hil
   go_wp2_with fail
   exact ⟨⟨k + 1, HKM.out, rfl, KZ.out, OI.out⟩, by simpa [intOf] using HMK.out⟩
 ·obtain rfl : k = m := Nat.le_antisymm HK.out (Nat.le_of_not_lt hkm)
  have x1 : ¬ ((k : Int) < (k : Int)) := Int.lt_irrefl _
  clear hkm
  go_wp2_with fail
  go_ret
  have h1 := KK.out
  rw [fK_all HPN.out] at h1
  exact ⟨_, rfl, rowB h1 (ncs_len _ _) (Nat.le_trans HNF.out (by decide)), B4.out.trans (OK.out.below (fun q hq => by rw [hq]; exact HG.out) B4.out.size)⟩
end Go.Proofs.Ytiehefnbdijiaaa
