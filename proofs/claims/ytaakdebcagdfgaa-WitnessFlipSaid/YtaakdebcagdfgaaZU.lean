/-
  Texts of this proof, put together: McA, McB, WoW. No statement is proved here.
-/
import Derived.Test.YtaakdebcagdfgaaZT
import Derived.Test.YtaakdebcagdfgaaZO
import Derived.Test.YtaakdebcagdfgaaZJ
import Derived.Test.YtaakdebcagdfgaaZG
namespace Go.Proofs.Ytaakdebcagdfgaa
open Go.RowKit
set_option linter.unusedSimpArgs false
set_option linter.unusedVariables false
theorem cls_max {cl : List UInt8} (hl : cl.length = 256) : clsA cl = maxL cl + 1 := by
 have hne : cl ≠ [] := by intro h; rw [h] at hl; cases hl
 obtain ⟨c, hc, he⟩ := maxL_in hne
 apply Nat.le_antisymm
 ·have h : ∀ i, clsD cl i ≤ maxL cl + 1 := by
   intro i
   induction i with
   | zero => exact Nat.zero_le _
   | succ i ih =>
    rcases Nat.lt_or_ge i cl.length with hi | hi
    ·rw [clsD_next (List.getElem?_eq_getElem hi)]
     have := maxL_up (List.getElem_mem hi)
     omega
    ·have : clsD cl (i + 1) = clsD cl i := by
      unfold clsD
      rw [List.take_of_length_le hi, List.take_of_length_le (by omega)]
     rw [this]
     exact ih
  exact h 256
 ·obtain ⟨j, hj⟩ := List.mem_iff_getElem?.1 hc
  have := clsA_lt hl hj
  omega
theorem cls_row {w : World} {g : Nat} {t : TypeId} {cl : List UInt8} {vn ve : Value} (h : Blk w g t (dcl cl vn ve)) (hl : cl.length = 256) : Row w (.slice (some ⟨g, 0, none⟩) 256 256) (bvs cl) := by
 have hl2 : (bvs cl).length = 256 := by rw [bvs_length, hl]
 refine ⟨some ⟨g, 0, none⟩, 256, by rw [hl2], by rw [hl2]; exact Nat.le_refl _, by decide, (fun h => by cases h), fun _ => ⟨g, 0, rfl, h.lt, fun i u hu => ?_⟩⟩
 have hi : i < 256 := by rw [← hl2]; exact (List.getElem?_eq_some_iff.1 hu).1
 rw [Nat.zero_add, Blk.cell h, dcl_cl hl hi]
 exact hu
set_option maxHeartbeats 4000000 in
set_option maxRecDepth 1000000 in
theorem mCount_any (D : Dm) (cs : List Value) (w : World) (hv : DfaV w cs D) :
  Calls Try.prog 36 #[.agg cs.toArray] w fun e w' => e = .returned (.int .i64 (clsA D.cl : Int)) ∧ Below w.heap.size w w' := by
 obtain ⟨An, Ae, cn, ce, vf, hl, hcs, hn, hr, he⟩ := hv.form
 have HL := qH hl
 have HCS := qH hcs
 obtain ⟨m, hm⟩ : ∃ m, m = maxL D.cl := ⟨_, rfl⟩
 have HM := qH hm
 have HMB := qH (show m < 256 by rw [hm]; exact maxL_lt)
 have f1 := wrap_one m (Nat.le_trans (Nat.le_of_lt HMB.out) (by decide))
 have f2 := wrap_one' m (Nat.le_trans (Nat.le_of_lt HMB.out) (by decide))
 have f3 := w64S m (Nat.le_trans (Nat.le_of_lt HMB.out) (by decide))
 have f4 := k64S m (Nat.le_trans (Nat.le_of_lt HMB.out) (by decide))
 have HE := qH (show clsA D.cl = m + 1 by rw [cls_max hl, hm])
 rw [HE.out]
 clear hv hl hcs hn hr he hm
 go_enter Try.func36, Try.ntmps36
 go_wp2_with ((with_reducible refine atDst 1 ?_); refine wpList_box rfl 28 _ rfl cs rfl (Below.refl w.heap.size w) (Nat.le_refl _) ?_; intro w1 hk1 hb1 hs1 _; have K1 := qH hk1; have B1 := qH hb1; clear hk1 hb1 hs1; (try simp only [Act.put, qA, qB, qC]))
 refine (maxY_any D.cl _ w1 (cls_row (vn := .slice An D.next.length cn) (ve := .slice Ae D.ends.length ce) (by rw [← HCS.out]; exact K1.out) HL.out) (by rw [HL.out]; decide) (by rw [HL.out]; decide)).mono ?_
 rintro e w2 ⟨rfl, hw⟩
 subst hw
 rw [← HM.out]
 go_wp2_with fail
 go_ret
 exact ⟨rfl, B1.out⟩
def hasD (n : Nat) (x : Int) : Bool := decide (0 ≤ x ∧ x < (n : Int))
set_option maxHeartbeats 4000000 in
set_option maxRecDepth 1000000 in
theorem mHas_any (D : Dm) (x : Int) (cs : List Value) (w : World) (hv : DfaV w cs D) :
  Calls Try.prog 37 #[.agg cs.toArray, .int .i64 x] w fun e w' => e = .returned (.bool (hasD D.next.length x)) ∧ Below w.heap.size w w' := by
 obtain ⟨An, Ae, cn, ce, vf, hl, hcs, hn, hr, he⟩ := hv.form
 obtain ⟨n, hnn⟩ : ∃ n, n = D.next.length := ⟨_, rfl⟩
 rw [← hnn] at hcs ⊢
 have HL := qH hl
 have HCS := qH hcs
 clear hv hl hcs hn hr he hnn
 by_cases h0 : 0 ≤ x
 ·by_cases h1 : x < (n : Int)
  ·have HH := qH (show hasD n x = true from decide_eq_true ⟨h0, h1⟩)
   have y0 : decide (0 ≤ x) = true := decide_eq_true h0
   have y1 : decide (x < (n : Int)) = true := decide_eq_true h1
   rw [HH.out]
   go_enter Try.func37, Try.ntmps37
   go_wp2_with ((with_reducible refine atDst 2 ?_); refine wpList_box rfl 28 _ rfl cs rfl (Below.refl w.heap.size w) (Nat.le_refl _) ?_; intro w1 hk1 hb1 hs1 _; have K1 := qH hk1; have B1 := qH hb1; (have c256 : w1.cell? ⟨w.heap.size, 256, none⟩ = some (.slice An n cn) := by rw [hk1.cell 256, HCS.out]; exact dcl_n HL.out); clear hk1 hb1 hs1; (try simp only [Act.put, qA, qB, qC]))
   go_ret
   exact ⟨rfl, B1.out⟩
  ·have HH := qH (show hasD n x = false from decide_eq_false fun h => h1 h.2)
   have y0 : decide (0 ≤ x) = true := decide_eq_true h0
   have y1 : decide (x < (n : Int)) = false := decide_eq_false h1
   rw [HH.out]
   go_enter Try.func37, Try.ntmps37
   go_wp2_with ((with_reducible refine atDst 2 ?_); refine wpList_box rfl 28 _ rfl cs rfl (Below.refl w.heap.size w) (Nat.le_refl _) ?_; intro w1 hk1 hb1 hs1 _; have K1 := qH hk1; have B1 := qH hb1; (have c256 : w1.cell? ⟨w.heap.size, 256, none⟩ = some (.slice An n cn) := by rw [hk1.cell 256, HCS.out]; exact dcl_n HL.out); clear hk1 hb1 hs1; (try simp only [Act.put, qA, qB, qC]))
   go_ret
   exact ⟨rfl, B1.out⟩
 ·have HH := qH (show hasD n x = false from decide_eq_false fun h => h0 h.1)
  have y0 : decide (0 ≤ x) = false := decide_eq_false h0
  rw [HH.out]
  go_enter Try.func37, Try.ntmps37
  go_wp2_with ((with_reducible refine atDst 2 ?_); refine wpList_box rfl 28 _ rfl cs rfl (Below.refl w.heap.size w) (Nat.le_refl _) ?_; intro w1 hk1 hb1 hs1 _; have K1 := qH hk1; have B1 := qH hb1; (skip); clear hk1 hb1 hs1; (try simp only [Act.put, qA, qB, qC]))
  go_ret
  exact ⟨rfl, B1.out⟩
set_option maxHeartbeats 8000000 in
set_option maxRecDepth 1000000 in
theorem mMay_any (D : Dm) (cs : List Value) (w : World) (hv : DfaV w cs D) :
  Calls Try.prog 24 #[.agg cs.toArray] w fun e w' => e = .returned (.bool (mayDB D)) ∧ Below w.heap.size w w' := by
 have V0 := qH hv
 have HDS := qH hv.size
 obtain ⟨An, Ae, cn, ce, vf, hl, hcs, hn, hr, he⟩ := hv.form
 have HL := qH hl
 obtain ⟨n, hnn⟩ : ∃ n, n = D.next.length := ⟨_, rfl⟩
 obtain ⟨ne, hne⟩ : ∃ ne, ne = D.ends.length := ⟨_, rfl⟩
 have HN := qH hnn
 have HNE := qH hne
 rw [← hnn, ← hne] at hcs
 rw [← hnn] at hn
 have HCS := qH hcs
 have HRN := qH hn
 have HR := qH hr
 obtain ⟨k, hk⟩ : ∃ k, k = clsA D.cl := ⟨_, rfl⟩
 have HK := qH hk
 have HK2 := qH (show k ≤ 256 by rw [hk]; exact clsA_le _)
 clear hv hl hcs hn hr he hnn hne hk
 go_enter Try.func24, Try.ntmps24
 by_cases hn1 : (n : Int) < 1
 ·have d1 : decide ((n : Int) < 1) = true := decide_eq_true hn1
  have HNM := qH (show ¬ MayD D from fun h => by have := h.pos; have := HN.out; omega)
  go_wp2_with ((with_reducible refine atDst 1 ?_); refine wpList_box rfl 28 _ rfl cs rfl (Below.refl w.heap.size w) (Nat.le_refl _) ?_; intro w1 hk1 hb1 hs1 _; have K1 := qH hk1; have B1 := qH hb1; have c256 : w1.cell? ⟨w.heap.size, 256, none⟩ = some (.slice An n cn) := (by rw [hk1.cell 256, HCS.out]; exact dcl_n HL.out); have c257 : w1.cell? ⟨w.heap.size, 257, none⟩ = some (.slice Ae ne ce) := (by rw [hk1.cell 257, HCS.out]; exact dcl_e HL.out); clear hk1 hb1 hs1; (try simp only [Act.put, qA, qB, qC]))
  go_ret
  rw [mayDB_no HNM.out]
  exact ⟨rfl, B1.out⟩
 have d1 : decide ((n : Int) < 1) = false := decide_eq_false hn1
 by_cases hn2 : (2000 : Int) < (n : Int)
 ·have d2 : decide ((2000 : Int) < (n : Int)) = true := decide_eq_true hn2
  have HNM := qH (show ¬ MayD D from fun h => by have := h.few; have := HN.out; omega)
  go_wp2_with ((with_reducible refine atDst 1 ?_); refine wpList_box rfl 28 _ rfl cs rfl (Below.refl w.heap.size w) (Nat.le_refl _) ?_; intro w1 hk1 hb1 hs1 _; have K1 := qH hk1; have B1 := qH hb1; have c256 : w1.cell? ⟨w.heap.size, 256, none⟩ = some (.slice An n cn) := (by rw [hk1.cell 256, HCS.out]; exact dcl_n HL.out); have c257 : w1.cell? ⟨w.heap.size, 257, none⟩ = some (.slice Ae ne ce) := (by rw [hk1.cell 257, HCS.out]; exact dcl_e HL.out); clear hk1 hb1 hs1; (try simp only [Act.put, qA, qB, qC]))
  go_ret
  rw [mayDB_no HNM.out]
  exact ⟨rfl, B1.out⟩
 have d2 : decide ((2000 : Int) < (n : Int)) = false := decide_eq_false hn2
 have HNP := qH (show 1 ≤ n by omega)
 have HNF := qH (show n ≤ 2000 by omega)
 clear hn1 hn2
 by_cases hne : ne = n
 ·subst hne
  have HALL := qH (show (∀ (i : Nat) r, D.next[i]? = some r → okR ne k r) → MayD D from fun h => may_rows (by rw [← HN.out]; exact HNP.out) (by rw [← HN.out]; exact HNF.out) (by rw [← HN.out, ← HNE.out]) (by rw [← HN.out, ← HK.out]; exact h))
  go_wp2_with (first
   | ((with_reducible refine atDst 1 ?_); refine wpList_box rfl 28 _ rfl cs rfl (Below.refl w.heap.size w) (Nat.le_refl _) ?_; intro w1 hk1 hb1 hs1 _; have K1 := qH hk1; have B1 := qH hb1; have c256 : w1.cell? ⟨w.heap.size, 256, none⟩ = some (.slice An ne cn) := (by rw [hk1.cell 256, HCS.out]; exact dcl_n HL.out); have c257 : w1.cell? ⟨w.heap.size, 257, none⟩ = some (.slice Ae ne ce) := (by rw [hk1.cell 257, HCS.out]; exact dcl_e HL.out); clear hk1 hb1 hs1; (try simp only [Act.put, qA, qB, qC]))
   | ((with_reducible refine atDst 27 ?_); refine wpList_ldArr rfl 28 _ rfl w.heap.size rfl 28 _ _ K1.out Try.underlying28 rfl HDS.out ?_; (try simp only [Act.put, qA, qB, qC])))
  refine (mCount_any D cs w1 (V0.out.below B1.out)).mono ?_
  rintro e w2 ⟨rfl, hb⟩
  rw [← HK.out]
  have B2 := qH (B1.out.trans (hb.mono B1.out.size))
  have K2 := qH (K1.out.below hb K1.out.lt)
  have HT1 := qH (show w.heap.size < w2.heap.size from K2.out.lt)
  have c256' : w2.cell? ⟨w.heap.size, 256, none⟩ = some (.slice An ne cn) := by rw [K2.out.cell 256, HCS.out]; exact dcl_n HL.out
  clear hb c256 c257
  go_wp2_with fail
  go_loopw [32] (fun iv wl => ∃ i : Nat, i ≤ ne ∧ iv = .int .i64 (i : Int) ∧ (∀ i' r, i' < i → D.next[i']? = some r → okR ne k r) ∧ Below w2.heap.size w2 wl) (fun iv _ => ne - (intOf iv).toNat)
  case atStart => exact ⟨0, Nat.zero_le _, by simp, fun i' r h => absurd h (Nat.not_lt_zero _), Below.refl _ _⟩
  clear c256'
  obtain ⟨i, hi, rfl, hok, hb⟩ := hrel
  have BR := qH hb
  have BW := qH (B2.out.trans (hb.mono B2.out.size))
  have HOK := qH hok
  obtain ⟨wi, hwi⟩ : ∃ v : World, v = wr := ⟨_, rfl⟩
  subst hwi
  clear hb hok
  by_cases hin : i < ne
  ·have x1 : (i : Int) < (ne : Int) := Int.ofNat_lt.2 hin
   have HI := qH hin
   have HMI := qH (sub_next hin)
   have e3 := wrap_one i (lt_bigN hin HNF.out)
   have e4 := wrap_one' i (lt_bigN hin HNF.out)
   obtain ⟨r, hr⟩ : ∃ r, D.next[i]? = some r := ⟨_, List.getElem?_eq_getElem (by rw [← HN.out]; exact hin)⟩
   have HRR := qH hr
   obtain ⟨rl, hrl⟩ : ∃ rl, rl = r.length := ⟨_, rfl⟩
   have HRL := qH hrl
   have hri := (HR.out i r hr).below BW.out
   have HRI := qH hri
   obtain ⟨Ar, cr, hvr, _⟩ := hri
   rw [nums_length, ← hrl] at hvr
   obtain ⟨b, off, rfl, _, hcc⟩ := (HRN.out.below BW.out).at_ (by simp; exact Nat.lt_of_lt_of_le Nat.zero_lt_one HNP.out)
   have hci : wi.cell? ⟨b, off + i, none⟩ = some (.slice Ar rl cr) := hcc i _ (by simp [hin, hvr])
   have HVR := qH hvr
   clear hi hin hr hcc hrl hvr HRI
   by_cases hlk : rl = k
   ·subst hlk
    go_wp2_with fail
    go_loopw [42] (fun jv wl => ∃ j : Nat, j ≤ rl ∧ jv = .int .i64 (j : Int) ∧ (∀ m x, m < j → r[m]? = some x → 0 ≤ x ∧ x < (ne : Int)) ∧ Below w2.heap.size w2 wl) (fun jv _ => rl - (intOf jv).toNat)
    case atStart => exact ⟨0, Nat.zero_le _, by simp, fun m x h => absurd h (Nat.not_lt_zero _), BR.out⟩
    clear hci
    obtain ⟨j, hj, rfl, hjo, hb⟩ := hrel
    have BJ := qH hb
    have BX := qH (B2.out.trans (hb.mono B2.out.size))
    have KJ := qH (K2.out.below hb HT1.out)
    have HJO := qH hjo
    obtain ⟨wj, hwj⟩ : ∃ v : World, v = wr := ⟨_, rfl⟩
    subst hwj
    clear hb hjo
    by_cases hjk : j < rl
    ·have y1 : (j : Int) < (rl : Int) := Int.ofNat_lt.2 hjk
     have HJ := qH hjk
     have HMJ := qH (sub_next hjk)
     have f3 := wrap_one j (lt_k256 hjk HK2.out)
     have f4 := wrap_one' j (lt_k256 hjk HK2.out)
     obtain ⟨x, hx⟩ : ∃ x, r[j]? = some x := ⟨_, List.getElem?_eq_getElem (by rw [← HRL.out]; exact hjk)⟩
     have HX := qH hx
     have HRJ := qH (show Row wj (.slice Ar rl cr) (nums .i64 r) by rw [← HVR.out]; exact (HR.out i r HRR.out).below BX.out)
     obtain ⟨br, or, rfl, _, hcr⟩ := HRJ.out.at_ (by rw [nums_length, ← HRL.out]; exact Nat.lt_of_le_of_lt (Nat.zero_le _) hjk)
     have hcx : wj.cell? ⟨br, or + j, none⟩ = some (.int .i64 x) := hcr j _ (by simp [nums, hx])
     clear hj hjk hx hcr
     go_wp2_with ((with_reducible refine atDst 46 ?_); refine wpList_ldArr rfl 28 _ rfl w.heap.size rfl 28 _ _ KJ.out Try.underlying28 rfl HDS.out ?_; (try simp only [Act.put, qA, qB, qC]))
     refine (mHas_any D x cs wj (V0.out.below BX.out)).mono ?_
     rintro e wh ⟨rfl, hb⟩
     rw [← HN.out]
     have BH := qH (BJ.out.trans (hb.mono BJ.out.size))
     have BY := qH (BX.out.trans (hb.mono BX.out.size))
     clear hb hcx
     by_cases hx2 : 0 ≤ x ∧ x < (ne : Int)
     ·have HH := qH (show hasD ne x = true from decide_eq_true hx2)
      rw [HH.out]
      have HJN := qH (show ∀ m y, m < j + 1 → r[m]? = some y → 0 ≤ y ∧ y < (ne : Int) from fun m y hm hy => by
       rcases Nat.lt_succ_iff_lt_or_eq.1 hm with h | h
       ·exact HJO.out m y h hy
       ·rw [h, HX.out] at hy
        injection hy with hy
        rw [← hy]
        exact hx2)
      clear hx2
      go_wp2_with fail
      exact ⟨⟨j + 1, HJ.out, by congr 1, HJN.out, BH.out⟩, by simpa [intOf] using HMJ.out⟩
     ·have HH := qH (show hasD ne x = false from decide_eq_false hx2)
      rw [HH.out]
      have HNM := qH (show ¬ MayD D from fun h => hx2 (by rw [HN.out]; exact h.to r (List.mem_of_getElem? HRR.out) x (List.mem_of_getElem? HX.out)))
      clear hx2
      go_wp2_with fail
      go_ret
      rw [mayDB_no HNM.out]
      exact ⟨rfl, BY.out⟩
    ·obtain rfl : j = rl := by omega
     have y1 : ¬ ((j : Int) < (j : Int)) := Int.lt_irrefl _
     have HON := qH (show ∀ i' s, i' < i + 1 → D.next[i']? = some s → okR ne j s from fun i' s hi' hs => by
      rcases Nat.lt_succ_iff_lt_or_eq.1 hi' with h | h
      ·exact HOK.out i' s h hs
      ·rw [h, HRR.out] at hs
       injection hs with hs
       rw [← hs]
       refine ⟨HRL.out.symm, fun x hx => ?_⟩
       obtain ⟨m, hm⟩ := List.mem_iff_getElem?.1 hx
       exact HJO.out m x (by rw [HRL.out]; exact (List.getElem?_eq_some_iff.1 hm).1) hm)
     clear hj hjk
     go_wp2_with fail
     exact ⟨⟨i + 1, HI.out, by congr 1, HON.out, BJ.out⟩, by simpa [intOf] using HMI.out⟩
   ·have z1 : decide ((rl : Int) = (k : Int)) = false := decide_eq_false fun h => hlk (by omega)
    have z2 : ¬ ((rl : Int) = (k : Int)) := fun h => hlk (by omega)
    have HNM := qH (show ¬ MayD D from fun h => hlk (by rw [HRL.out, HK.out]; exact h.rows r (List.mem_of_getElem? HRR.out)))
    go_wp2_with fail
    go_ret
    rw [mayDB_no HNM.out]
    exact ⟨rfl, BW.out⟩
  ·have HM := qH (show MayD D from HALL.out fun i' r hr => HOK.out i' r (by have := (List.getElem?_eq_some_iff.1 hr).1; have := HN.out; omega) hr)
   obtain rfl : i = ne := by omega
   have x1 : ¬ ((i : Int) < (i : Int)) := Int.lt_irrefl _
   clear hi hin
   go_wp2_with fail
   go_ret
   rw [mayDB_yes HM.out]
   exact ⟨rfl, BW.out⟩
 ·have z1 : decide ((ne : Int) = (n : Int)) = false := decide_eq_false fun h => hne (by omega)
  have z2 : ¬ ((ne : Int) = (n : Int)) := fun h => hne (by omega)
  have HNM := qH (show ¬ MayD D from fun h => hne (by rw [HNE.out, HN.out]; exact h.ends))
  go_wp2_with ((with_reducible refine atDst 1 ?_); refine wpList_box rfl 28 _ rfl cs rfl (Below.refl w.heap.size w) (Nat.le_refl _) ?_; intro w1 hk1 hb1 hs1 _; have K1 := qH hk1; have B1 := qH hb1; have c256 : w1.cell? ⟨w.heap.size, 256, none⟩ = some (.slice An n cn) := (by rw [hk1.cell 256, HCS.out]; exact dcl_n HL.out); have c257 : w1.cell? ⟨w.heap.size, 257, none⟩ = some (.slice Ae ne ce) := (by rw [hk1.cell 257, HCS.out]; exact dcl_e HL.out); clear hk1 hb1 hs1; (try simp only [Act.put, qA, qB, qC]))
  go_ret
  rw [mayDB_no HNM.out]
  exact ⟨rfl, B1.out⟩
noncomputable def clsG (D : Dm) : Nat := if mayDB D = true then clsA D.cl else 0
set_option maxHeartbeats 4000000 in
set_option maxRecDepth 1000000 in
theorem mClasses_any (D : Dm) (cs : List Value) (w : World) (hv : DfaV w cs D) :
  Calls Try.prog 39 #[.agg cs.toArray] w fun e w' => e = .returned (.int .i64 (clsG D : Int)) ∧ Below w.heap.size w w' := by
 have V0 := qH hv
 have HDS := qH hv.size
 obtain ⟨my, hmy⟩ : ∃ b, b = mayDB D := ⟨_, rfl⟩
 have HG := qH (show clsG D = if my = true then clsA D.cl else 0 by rw [hmy]; rfl)
 have HMY := qH hmy
 rw [HG.out]
 clear hv hmy
 go_enter Try.func39, Try.ntmps39
 go_wp2_with (first
  | ((with_reducible refine atDst 1 ?_); refine wpList_box rfl 28 _ rfl cs rfl (Below.refl w.heap.size w) (Nat.le_refl _) ?_; intro w1 hk1 hb1 hs1 _; have K1 := qH hk1; have B1 := qH hb1; clear hk1 hb1 hs1; (try simp only [Act.put, qA, qB, qC]))
  | ((with_reducible refine atDst 3 ?_); refine wpList_ldArr rfl 28 _ rfl w.heap.size rfl 28 _ _ K1.out Try.underlying28 rfl HDS.out ?_; (try simp only [Act.put, qA, qB, qC])))
 refine (mMay_any D cs w1 (V0.out.below B1.out)).mono ?_
 rintro e w2 ⟨rfl, hb⟩
 rw [← HMY.out]
 have K2 := qH (K1.out.below hb K1.out.lt)
 have B2 := qH (B1.out.trans (hb.mono B1.out.size))
 clear hb HG HMY
 cases my with
 | false =>
  go_wp2_with fail
  go_ret
  exact ⟨rfl, B2.out⟩
 | true =>
  go_wp2_with ((with_reducible refine atDst 6 ?_); refine wpList_ldArr rfl 28 _ rfl w.heap.size rfl 28 _ _ K2.out Try.underlying28 rfl HDS.out ?_; (try simp only [Act.put, qA, qB, qC]))
  refine (mCount_any D cs w2 (V0.out.below B2.out)).mono ?_
  rintro e w3 ⟨rfl, hb⟩
  have B3 := qH (B2.out.trans (hb.mono B2.out.size))
  clear hb
  go_wp2_with fail
  go_ret
  exact ⟨rfl, B3.out⟩
theorem bl_cell {w V : World} (hV : Below w.heap.size w V) {b o : Nat} {v : Value} (hc : w.cell? ⟨b, o, none⟩ = some v) : V.cell? ⟨b, o, none⟩ = some v :=
 (hV.cell (p := ⟨b, o, none⟩) (World.block_lt_of_cell? w _ hc)).trans hc
theorem wo_ldBB {ev : Operand → Value} {o : Oper} {p : Addr} {W : World} {A : Option Addr} {n c : Nat} (x : Operand) (ho : o.op = .load 62 x) (hx : ev x = .pointer (some p)) (hc : W.cell? p = some (.slice A n c)) : (execOp ev o).run Try.prog W = .ok (.value (.slice A n c)) W := by
 simp only [execOp, ho, hx]
 go_simp
structure LfV (w : World) (D : Dm) (n kd N k s gl gk gd gs bc cc bj oj cj bn on cn br or cr : Nat) : Prop where
 cl_ : w.cell? ⟨gl, 0, none⟩ = some (.slice (some ⟨bc, 0, none⟩) N cc)
 ck : w.cell? ⟨gk, 0, none⟩ = some (.int .i64 (k : Int))
 kN : k < N
 ct : w.cell? ⟨bc, k, none⟩ = some (.slice (some ⟨bj, oj, none⟩) n cj)
 cb_ : ∀ q, q < n → w.cell? ⟨bj, oj + q, none⟩ = some (.bool (canC D k q))
 cd_ : w.cell? ⟨gd, 256, none⟩ = some (.slice (some ⟨bn, on, none⟩) n cn)
 cs_ : w.cell? ⟨gs, 0, none⟩ = some (.int .i64 (s : Int))
 sn : s < n
 cr_ : w.cell? ⟨bn, on + s, none⟩ = some (.slice (some ⟨br, or, none⟩) kd cr)
 cto : ∀ c, c < kd → w.cell? ⟨br, or + c, none⟩ = some (.int .i64 (stC D s c : Int))
 clt : ∀ c, c < kd → stC D s c < n
theorem LfV.below {w V : World} {D : Dm} {n kd N k s gl gk gd gs bc cc bj oj cj bn on cn br or cr : Nat} (h : LfV w D n kd N k s gl gk gd gs bc cc bj oj cj bn on cn br or cr) (hV : Below w.heap.size w V) : LfV V D n kd N k s gl gk gd gs bc cc bj oj cj bn on cn br or cr :=
 ⟨bl_cell hV h.cl_, bl_cell hV h.ck, h.kN, bl_cell hV h.ct, fun q hq => bl_cell hV (h.cb_ q hq), bl_cell hV h.cd_, bl_cell hV h.cs_, h.sn, bl_cell hV h.cr_, fun c hc => bl_cell hV (h.cto c hc), h.clt⟩
abbrev ptr0 (g : Nat) : Value := .pointer (some ⟨g, 0, none⟩)
set_option maxHeartbeats 8000000 in
set_option maxRecDepth 1000000 in
theorem wLeft1_any {D : Dm} {n kd N k s gl gk gd gs bc cc bj oj cj bn on cn br or cr : Nat} (w : World) (h : LfV w D n kd N k s gl gk gd gs bc cc bj oj cj bn on cn br or cr) (c : Nat) (hc : c < kd) :
  Calls Try.prog 41 #[.int .u8 (c : Int), ptr0 gl, ptr0 gk, ptr0 gd, ptr0 gs] w fun e w' => e = .returned (.bool (canC D k (stC D s c))) ∧ Below w.heap.size w w' := by
 have H := qH h
 have HC := qH hc
 obtain ⟨q, hq⟩ : ∃ q, q = stC D s c := ⟨_, rfl⟩
 have HQ := qH hq
 have HQN := qH (show q < n by rw [hq]; exact h.clt c hc)
 obtain ⟨b, hb⟩ : ∃ b, b = canC D k q := ⟨_, rfl⟩
 have HB := qH hb
 rw [← hq, ← hb]
 clear h hc hq hb
 go_enter Try.func41, Try.ntmps41
 go_wp2_with fail
 refine mc_start (fun V => Below w.heap.size w V) (fun _ => True) 15 (by kernel_rfl) (fun wd hwd => ?_)
 have hX : Below w.heap.size w wd := by rw [hwd]; exact (Below.refl _ _).drew
 have hY : True := trivial
 clear hwd
 refine mc_take (i := 0) (oi := ⟨some 7, _, _, _, _, _⟩) (v := .slice (some ⟨bc, 0, none⟩) N cc) rfl (by kernel_rfl) (by kernel_rfl) (by kernel_rfl) (fun _ _ _ h => h) rfl hX (fun V hV => wo_ldBB (.tmp 1) rfl rfl (bl_cell hV H.out.cl_)) ?_; simp only [Act.put, qA, qB, qC]
 refine mc_take (i := 1) (oi := ⟨some 8, _, _, _, _, _⟩) (v := .int .i64 (k : Int)) rfl (by kernel_rfl) (by kernel_rfl) (by kernel_rfl) (fun _ _ _ h => h) rfl hX (fun V hV => lk_ldI (.tmp 2) rfl rfl (bl_cell hV H.out.ck)) ?_; simp only [Act.put, qA, qB, qC]
 refine mc_take (i := 2) (oi := ⟨some 9, _, _, _, _, _⟩) (v := .pointer (some ⟨bc, k, none⟩)) rfl (by kernel_rfl) (by kernel_rfl) (by kernel_rfl) (fun _ _ _ h => h) rfl hX (fun V _ => wl_ixBs (.tmp 7) (.tmp 8) rfl rfl rfl H.out.kN V) ?_; simp only [Act.put, qA, qB, qC]
 refine mc_take (i := 3) (oi := ⟨some 10, _, _, _, _, _⟩) (v := .slice (some ⟨bj, oj, none⟩) n cj) rfl (by kernel_rfl) (by kernel_rfl) (by kernel_rfl) (fun _ _ _ h => h) rfl hX (fun V hV => lk_ldBs (.tmp 9) rfl rfl (bl_cell hV H.out.ct)) ?_; simp only [Act.put, qA, qB, qC]
 refine mc_take (i := 4) (oi := ⟨some 11, _, _, _, _, _⟩) (v := ?_) rfl (by kernel_rfl) (by kernel_rfl) (by kernel_rfl) (fun _ _ _ h => h) rfl hX ?_ ?_; rotate_left; (intro W hW; go_simp; try with_reducible rfl); simp only [Act.put, qA, qB, qC]
 refine mc_take (i := 5) (oi := ⟨some 12, _, _, _, _, _⟩) (v := .slice (some ⟨bn, on, none⟩) n cn) rfl (by kernel_rfl) (by kernel_rfl) (by kernel_rfl) (fun _ _ _ h => h) rfl hX (fun V hV => lk_ldIss (.tmp 11) rfl rfl (bl_cell hV H.out.cd_)) ?_; simp only [Act.put, qA, qB, qC]
 refine mc_take (i := 6) (oi := ⟨some 13, _, _, _, _, _⟩) (v := .int .i64 (s : Int)) rfl (by kernel_rfl) (by kernel_rfl) (by kernel_rfl) (fun _ _ _ h => h) rfl hX (fun V hV => lk_ldI (.tmp 4) rfl rfl (bl_cell hV H.out.cs_)) ?_; simp only [Act.put, qA, qB, qC]
 refine mc_take (i := 7) (oi := ⟨some 14, _, _, _, _, _⟩) (v := .pointer (some ⟨bn, on + s, none⟩)) rfl (by kernel_rfl) (by kernel_rfl) (by kernel_rfl) (fun _ _ _ h => h) rfl hX (fun V _ => lk_ixIs (.tmp 12) (.tmp 13) rfl rfl rfl H.out.sn V) ?_; simp only [Act.put, qA, qB, qC]
 refine mc_take (i := 8) (oi := ⟨some 15, _, _, _, _, _⟩) (v := .slice (some ⟨br, or, none⟩) kd cr) rfl (by kernel_rfl) (by kernel_rfl) (by kernel_rfl) (fun _ _ _ h => h) rfl hX (fun V hV => lk_ldIs (.tmp 14) rfl rfl (bl_cell hV H.out.cr_)) ?_; simp only [Act.put, qA, qB, qC]
 refine mc_take (i := 9) (oi := ⟨some 16, _, _, _, _, _⟩) (v := ?_) rfl (by kernel_rfl) (by kernel_rfl) (by kernel_rfl) (fun _ _ _ h => h) rfl hX ?_ ?_; rotate_left; (intro W hW; go_simp; try with_reducible rfl); simp only [Act.put, qA, qB, qC]
 refine mc_take (i := 10) (oi := ⟨some 17, _, _, _, _, _⟩) (v := .pointer (some ⟨br, or + c, none⟩)) rfl (by kernel_rfl) (by kernel_rfl) (by kernel_rfl) (fun _ _ _ h => h) rfl hX (fun V _ => lk_ixIu (.tmp 15) (.tmp 16) rfl rfl rfl HC.out V) ?_; simp only [Act.put, qA, qB, qC]
 refine mc_take (i := 11) (oi := ⟨some 18, _, _, _, _, _⟩) (v := .int .i64 (q : Int)) rfl (by kernel_rfl) (by kernel_rfl) (by kernel_rfl) (fun _ _ _ h => h) rfl hX (fun V hV => lk_ldI (.tmp 17) rfl rfl (by rw [HQ.out]; exact bl_cell hV (H.out.cto c HC.out))) ?_; simp only [Act.put, qA, qB, qC]
 refine mc_take (i := 12) (oi := ⟨some 19, _, _, _, _, _⟩) (v := .pointer (some ⟨bj, oj + q, none⟩)) rfl (by kernel_rfl) (by kernel_rfl) (by kernel_rfl) (fun _ _ _ h => h) rfl hX (fun V _ => lk_ixB (.tmp 10) (.tmp 18) rfl rfl rfl HQN.out V) ?_; simp only [Act.put, qA, qB, qC]
 refine mc_take (i := 13) (oi := ⟨some 20, _, _, _, _, _⟩) (v := .bool b) rfl (by kernel_rfl) (by kernel_rfl) (by kernel_rfl) (fun _ _ _ h => h) rfl hX (fun V hV => lk_ldB (.tmp 19) rfl rfl (by rw [HB.out]; exact bl_cell hV (H.out.cb_ q HQN.out))) ?_; simp only [Act.put, qA, qB, qC]
 refine mc_take (i := 14) (oi := ⟨some 6, _, _, _, _, _⟩) (v := ?_) rfl (by kernel_rfl) (by kernel_rfl) (by kernel_rfl) (fun _ _ _ h => h) rfl hX ?_ ?_; rotate_left; (intro W hW; go_simp; try with_reducible rfl); simp only [Act.put, qA, qB, qC]
 refine wpAnyC_done (by kernel_rfl) ?_ _
 have B9 := qH hX
 clear hX hY
 go_wp2_with fail
 go_ret
 exact ⟨rfl, B9.out⟩
abbrev lfF (gl gk gd gs : Nat) : Value := .func (.func 41) #[] #[ptr0 gl, ptr0 gk, ptr0 gd, ptr0 gs]
theorem canB_upto {D : Dm} {i s b m : Nat} (h : canB D i s b = true) (hm : b ≤ m) : canB D i s m = true := by
 unfold canB at *
 obtain ⟨c, hc, h1⟩ := List.any_eq_true.1 h
 exact List.any_eq_true.2 ⟨c, List.mem_range.2 (Nat.lt_of_lt_of_le (List.mem_range.1 hc) hm), h1⟩
set_option maxHeartbeats 8000000 in
set_option maxRecDepth 1000000 in
theorem wIxF_any {D : Dm} {n kd N k s gl gk gd gs bc cc bj oj cj bn on cn br or cr : Nat} (w : World) (h : LfV w D n kd N k s gl gk gd gs bc cc bj oj cj bn on cn br or cr) (hl : D.cl.length = 256) (hkd : kd = clsA D.cl) (hcl : ∀ j, j < 256 → w.cell? ⟨gd, j, none⟩ = some (.int .u8 (clB D j : Int))) :
  Calls Try.prog 44 #[.slice (some ⟨gd, 0, none⟩) 256 256, lfF gl gk gd gs] w fun e w' => ∃ z : Int, e = .returned (.int .i64 z) ∧ (0 ≤ z ↔ canB D k s 256 = true) ∧ Below w.heap.size w w' := by
 have H := qH h
 have HL := qH hl
 have HKD := qH hkd
 have HCL := qH hcl
 clear h hl hkd hcl
 go_enter Try.func44, Try.ntmps44
 go_wp2_with fail
 go_loopw [8] (fun iv wl => ∃ i : Nat, i ≤ 256 ∧ iv = .int .i64 (i : Int) ∧ canB D k s i = false ∧ Below w.heap.size w wl) (fun iv _ => 256 - (intOf iv).toNat)
 case atStart => exact ⟨0, Nat.zero_le _, rfl, rfl, Below.refl _ _⟩
 obtain ⟨i, hi, rfl, hno, hb⟩ := hrel
 have HI := qH hi
 have HNO := qH hno
 have HB := qH hb
 clear hi hno hb
 by_cases hin : i < 256
 ·have x1 : (i : Int) < 256 := Int.ofNat_lt.2 hin
  have HIN := qH hin
  have HMI := qH (sub_next hin)
  have e3 := wrap_one i (lt_256 hin)
  have e4 := wrap_one' i (lt_256 hin)
  obtain ⟨c, hc⟩ : ∃ c, c = clB D i := ⟨_, rfl⟩
  have HCI := qH hc
  have HCK := qH (show c < kd by rw [hc, HKD.out]; exact clB_lt HL.out hin)
  have c15 : wr.cell? ⟨gd, i, none⟩ = some (.int .u8 (c : Int)) := by rw [hc]; exact bl_cell HB.out (HCL.out i hin)
  obtain ⟨b, hb⟩ : ∃ b, canC D k (stC D s c) = b := ⟨_, rfl⟩
  have HBB := qH hb
  clear hin hc hb
  go_wp2_with fail
  refine (wLeft1_any wr (H.out.below HB.out) c HCK.out).mono ?_
  rintro e w2 ⟨rfl, hb⟩
  rw [HBB.out]
  have B2 := qH (HB.out.trans (hb.mono HB.out.size))
  clear hb c15
  cases b with
  | true =>
   have HY := qH (show canB D k s 256 = true from canB_upto (b := i + 1) (by rw [canB_succ, ← HCI.out, HBB.out, Bool.or_true]) HIN.out)
   go_wp2_with fail
   go_ret
   exact ⟨_, rfl, ⟨fun _ => HY.out, fun _ => Int.natCast_nonneg i⟩, B2.out⟩
  | false =>
   have HN2 := qH (show canB D k s (i + 1) = false by rw [canB_succ, ← HCI.out, HBB.out, Bool.or_false]; exact HNO.out)
   go_wp2_with fail
   exact ⟨⟨i + 1, HIN.out, by congr 1, HN2.out, B2.out⟩, by simpa [intOf] using HMI.out⟩
 ·obtain rfl : 256 = i := Nat.le_antisymm (Nat.le_of_not_lt hin) HI.out
  have x1 : ¬ ((256 : Int) < 256) := Int.lt_irrefl _
  clear hin
  go_wp2_with fail
  go_ret
  exact ⟨_, rfl, ⟨fun h => absurd h (by decide), fun h => by rw [HNO.out] at h; cases h⟩, HB.out⟩
set_option maxHeartbeats 8000000 in
set_option maxRecDepth 1000000 in
theorem wCtF_any {D : Dm} {n kd N k s gl gk gd gs bc cc bj oj cj bn on cn br or cr : Nat} (w : World) (h : LfV w D n kd N k s gl gk gd gs bc cc bj oj cj bn on cn br or cr) (hl : D.cl.length = 256) (hkd : kd = clsA D.cl) (hcl : ∀ j, j < 256 → w.cell? ⟨gd, j, none⟩ = some (.int .u8 (clB D j : Int))) :
  Calls Try.prog 40 #[.slice (some ⟨gd, 0, none⟩) 256 256, lfF gl gk gd gs] w fun e w' => e = .returned (.bool (canB D k s 256)) ∧ Below w.heap.size w w' := by
 have H := qH h
 have HL := qH hl
 have HKD := qH hkd
 have HCL := qH hcl
 obtain ⟨b, hb2⟩ : ∃ b, canB D k s 256 = b := ⟨_, rfl⟩
 have HBE := qH hb2
 rw [hb2]
 clear h hl hkd hcl hb2
 go_enter Try.func40, Try.ntmps40
 go_wp2_with fail
 refine (wIxF_any w H.out HL.out HKD.out HCL.out).mono ?_
 rintro e w2 ⟨z, rfl, hz, hb⟩
 have B2 := qH hb
 rw [HBE.out] at hz
 have HZ := qH hz
 clear hb hz
 cases b with
 | true =>
  have z1 : 0 ≤ z := HZ.out.2 rfl
  go_wp2_with fail
  go_ret
  exact ⟨by simp [z1], B2.out⟩
 | false =>
  have z1 : ¬ (0 ≤ z) := fun h => (by cases HZ.out.1 h)
  go_wp2_with fail
  go_ret
  exact ⟨by simp [z1], B2.out⟩
end Go.Proofs.Ytaakdebcagdfgaa
