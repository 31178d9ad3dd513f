/-
  Texts of this proof, put together: McB, MdC, McC, ClA. No statement is proved here.
-/
import Derived.Test.YtbbodfpnneifgaaYG
import Derived.Test.YtbbodfpnneifgaaYF
import Derived.Test.YtbbodfpnneifgaaYA
import Derived.Test.YtbbodfpnneifgaaChecked
import Derived.Lib.SliceRun
import Derived.StillTailTactics
namespace Go.Proofs.Ytbbodfpnneifgaa
open Go.RowKit
set_option linter.unusedSimpArgs false
set_option linter.unusedVariables false
set_option maxHeartbeats 8000000 in
set_option maxRecDepth 1000000 in
theorem mMay_any (D : Dm) (cs : List Value) (w : World) (hv : DfaV w cs D) :
  Calls Try.prog 9 #[.agg cs.toArray] w fun e w' => e = .returned (.bool (mayDB D)) ∧ Below w.heap.size w w' := by
 have V0 := qH hv
 have HDS := qH hv.size
 obtain ⟨An, Ae, cn, ce, vf, hl, hcs, hn, hr, he⟩ := hv.form
 have HL := qH hl
 obtain ⟨n, hnn⟩ : ∃ n, n = D.next.length := ⟨_, rfl⟩
 obtain ⟨ne, hne⟩ : ∃ ne, ne = D.ends.length := ⟨_, rfl⟩
 have HN := qH hnn
 have HNE := qH hne
 rw [← hnn, ← hne] at hcs
 rw [← hnn] at hn
 have HCS := qH hcs
 have HRN := qH hn
 have HR := qH hr
 obtain ⟨k, hk⟩ : ∃ k, k = clsA D.cl := ⟨_, rfl⟩
 have HK := qH hk
 have HK2 := qH (show k ≤ 256 by rw [hk]; exact clsA_le _)
 clear hv hl hcs hn hr he hnn hne hk
 go_enter Try.func9, Try.ntmps9
 by_cases hn1 : (n : Int) < 1
 ·have d1 : decide ((n : Int) < 1) = true := decide_eq_true hn1
  have HNM := qH (show ¬ MayD D from fun h => by have := h.pos; have := HN.out; omega)
  go_wp2_with ((with_reducible refine atDst 1 ?_); refine wpList_box rfl 28 _ rfl cs rfl (Below.refl w.heap.size w) (Nat.le_refl _) ?_; intro w1 hk1 hb1 hs1 _; have K1 := qH hk1; have B1 := qH hb1; have c256 : w1.cell? ⟨w.heap.size, 256, none⟩ = some (.slice An n cn) := (by rw [hk1.cell 256, HCS.out]; exact dcl_n HL.out); have c257 : w1.cell? ⟨w.heap.size, 257, none⟩ = some (.slice Ae ne ce) := (by rw [hk1.cell 257, HCS.out]; exact dcl_e HL.out); clear hk1 hb1 hs1; (try simp only [Act.put, qA, qB, qC]))
  go_ret
  rw [mayDB_no HNM.out]
  exact ⟨rfl, B1.out⟩
 have d1 : decide ((n : Int) < 1) = false := decide_eq_false hn1
 by_cases hn2 : (2000 : Int) < (n : Int)
 ·have d2 : decide ((2000 : Int) < (n : Int)) = true := decide_eq_true hn2
  have HNM := qH (show ¬ MayD D from fun h => by have := h.few; have := HN.out; omega)
  go_wp2_with ((with_reducible refine atDst 1 ?_); refine wpList_box rfl 28 _ rfl cs rfl (Below.refl w.heap.size w) (Nat.le_refl _) ?_; intro w1 hk1 hb1 hs1 _; have K1 := qH hk1; have B1 := qH hb1; have c256 : w1.cell? ⟨w.heap.size, 256, none⟩ = some (.slice An n cn) := (by rw [hk1.cell 256, HCS.out]; exact dcl_n HL.out); have c257 : w1.cell? ⟨w.heap.size, 257, none⟩ = some (.slice Ae ne ce) := (by rw [hk1.cell 257, HCS.out]; exact dcl_e HL.out); clear hk1 hb1 hs1; (try simp only [Act.put, qA, qB, qC]))
  go_ret
  rw [mayDB_no HNM.out]
  exact ⟨rfl, B1.out⟩
 have d2 : decide ((2000 : Int) < (n : Int)) = false := decide_eq_false hn2
 have HNP := qH (show 1 ≤ n by omega)
 have HNF := qH (show n ≤ 2000 by omega)
 clear hn1 hn2
 by_cases hne : ne = n
 ·subst hne
  have HALL := qH (show (∀ (i : Nat) r, D.next[i]? = some r → okR ne k r) → MayD D from fun h => may_rows (by rw [← HN.out]; exact HNP.out) (by rw [← HN.out]; exact HNF.out) (by rw [← HN.out, ← HNE.out]) (by rw [← HN.out, ← HK.out]; exact h))
  go_wp2_with (first
   | ((with_reducible refine atDst 1 ?_); refine wpList_box rfl 28 _ rfl cs rfl (Below.refl w.heap.size w) (Nat.le_refl _) ?_; intro w1 hk1 hb1 hs1 _; have K1 := qH hk1; have B1 := qH hb1; have c256 : w1.cell? ⟨w.heap.size, 256, none⟩ = some (.slice An ne cn) := (by rw [hk1.cell 256, HCS.out]; exact dcl_n HL.out); have c257 : w1.cell? ⟨w.heap.size, 257, none⟩ = some (.slice Ae ne ce) := (by rw [hk1.cell 257, HCS.out]; exact dcl_e HL.out); clear hk1 hb1 hs1; (try simp only [Act.put, qA, qB, qC]))
   | ((with_reducible refine atDst 27 ?_); refine wpList_ldArr rfl 28 _ rfl w.heap.size rfl 28 _ _ K1.out Try.underlying28 rfl HDS.out ?_; (try simp only [Act.put, qA, qB, qC])))
  refine (mCount_any D cs w1 (V0.out.below B1.out)).mono ?_
  rintro e w2 ⟨rfl, hb⟩
  rw [← HK.out]
  have B2 := qH (B1.out.trans (hb.mono B1.out.size))
  have K2 := qH (K1.out.below hb K1.out.lt)
  have HT1 := qH (show w.heap.size < w2.heap.size from K2.out.lt)
  have c256' : w2.cell? ⟨w.heap.size, 256, none⟩ = some (.slice An ne cn) := by rw [K2.out.cell 256, HCS.out]; exact dcl_n HL.out
  clear hb c256 c257
  go_wp2_with fail
  go_loopw [32] (fun iv wl => ∃ i : Nat, i ≤ ne ∧ iv = .int .i64 (i : Int) ∧ (∀ i' r, i' < i → D.next[i']? = some r → okR ne k r) ∧ Below w2.heap.size w2 wl) (fun iv _ => ne - (intOf iv).toNat)
  case atStart => exact ⟨0, Nat.zero_le _, by simp, fun i' r h => absurd h (Nat.not_lt_zero _), Below.refl _ _⟩
  clear c256'
  obtain ⟨i, hi, rfl, hok, hb⟩ := hrel
  have BR := qH hb
  have BW := qH (B2.out.trans (hb.mono B2.out.size))
  have HOK := qH hok
  obtain ⟨wi, hwi⟩ : ∃ v : World, v = wr := ⟨_, rfl⟩
  subst hwi
  clear hb hok
  by_cases hin : i < ne
  ·have x1 : (i : Int) < (ne : Int) := Int.ofNat_lt.2 hin
   have HI := qH hin
   have HMI := qH (sub_next hin)
   have e3 := wrap_one i (lt_bigN hin HNF.out)
   have e4 := wrap_one' i (lt_bigN hin HNF.out)
   obtain ⟨r, hr⟩ : ∃ r, D.next[i]? = some r := ⟨_, List.getElem?_eq_getElem (by rw [← HN.out]; exact hin)⟩
   have HRR := qH hr
   obtain ⟨rl, hrl⟩ : ∃ rl, rl = r.length := ⟨_, rfl⟩
   have HRL := qH hrl
   have hri := (HR.out i r hr).below BW.out
   have HRI := qH hri
   obtain ⟨Ar, cr, hvr, _⟩ := hri
   rw [nums_length, ← hrl] at hvr
   obtain ⟨b, off, rfl, _, hcc⟩ := (HRN.out.below BW.out).at_ (by simp; exact Nat.lt_of_lt_of_le Nat.zero_lt_one HNP.out)
   have hci : wi.cell? ⟨b, off + i, none⟩ = some (.slice Ar rl cr) := hcc i _ (by simp [hin, hvr])
   have HVR := qH hvr
   clear hi hin hr hcc hrl hvr HRI
   by_cases hlk : rl = k
   ·subst hlk
    go_wp2_with fail
    go_loopw [42] (fun jv wl => ∃ j : Nat, j ≤ rl ∧ jv = .int .i64 (j : Int) ∧ (∀ m x, m < j → r[m]? = some x → 0 ≤ x ∧ x < (ne : Int)) ∧ Below w2.heap.size w2 wl) (fun jv _ => rl - (intOf jv).toNat)
    case atStart => exact ⟨0, Nat.zero_le _, by simp, fun m x h => absurd h (Nat.not_lt_zero _), BR.out⟩
    clear hci
    obtain ⟨j, hj, rfl, hjo, hb⟩ := hrel
    have BJ := qH hb
    have BX := qH (B2.out.trans (hb.mono B2.out.size))
    have KJ := qH (K2.out.below hb HT1.out)
    have HJO := qH hjo
    obtain ⟨wj, hwj⟩ : ∃ v : World, v = wr := ⟨_, rfl⟩
    subst hwj
    clear hb hjo
    by_cases hjk : j < rl
    ·have y1 : (j : Int) < (rl : Int) := Int.ofNat_lt.2 hjk
     have HJ := qH hjk
     have HMJ := qH (sub_next hjk)
     have f3 := wrap_one j (lt_k256 hjk HK2.out)
     have f4 := wrap_one' j (lt_k256 hjk HK2.out)
     obtain ⟨x, hx⟩ : ∃ x, r[j]? = some x := ⟨_, List.getElem?_eq_getElem (by rw [← HRL.out]; exact hjk)⟩
     have HX := qH hx
     have HRJ := qH (show Row wj (.slice Ar rl cr) (nums .i64 r) by rw [← HVR.out]; exact (HR.out i r HRR.out).below BX.out)
     obtain ⟨br, or, rfl, _, hcr⟩ := HRJ.out.at_ (by rw [nums_length, ← HRL.out]; exact Nat.lt_of_le_of_lt (Nat.zero_le _) hjk)
     have hcx : wj.cell? ⟨br, or + j, none⟩ = some (.int .i64 x) := hcr j _ (by simp [nums, hx])
     clear hj hjk hx hcr
     go_wp2_with ((with_reducible refine atDst 46 ?_); refine wpList_ldArr rfl 28 _ rfl w.heap.size rfl 28 _ _ KJ.out Try.underlying28 rfl HDS.out ?_; (try simp only [Act.put, qA, qB, qC]))
     refine (mHas_any D x cs wj (V0.out.below BX.out)).mono ?_
     rintro e wh ⟨rfl, hb⟩
     rw [← HN.out]
     have BH := qH (BJ.out.trans (hb.mono BJ.out.size))
     have BY := qH (BX.out.trans (hb.mono BX.out.size))
     clear hb hcx
     by_cases hx2 : 0 ≤ x ∧ x < (ne : Int)
     ·have HH := qH (show hasD ne x = true from decide_eq_true hx2)
      rw [HH.out]
      have HJN := qH (show ∀ m y, m < j + 1 → r[m]? = some y → 0 ≤ y ∧ y < (ne : Int) from fun m y hm hy => by
       rcases Nat.lt_succ_iff_lt_or_eq.1 hm with h | h
       ·exact HJO.out m y h hy
       ·rw [h, HX.out] at hy
        injection hy with hy
        rw [← hy]
        exact hx2)
      clear hx2
      go_wp2_with fail
      exact ⟨⟨j + 1, HJ.out, by congr 1, HJN.out, BH.out⟩, by simpa [intOf] using HMJ.out⟩
     ·have HH := qH (show hasD ne x = false from decide_eq_false hx2)
      rw [HH.out]
      have HNM := qH (show ¬ MayD D from fun h => hx2 (by rw [HN.out]; exact h.to r (List.mem_of_getElem? HRR.out) x (List.mem_of_getElem? HX.out)))
      clear hx2
      go_wp2_with fail
      go_ret
      rw [mayDB_no HNM.out]
      exact ⟨rfl, BY.out⟩
    ·obtain rfl : j = rl := by omega
     have y1 : ¬ ((j : Int) < (j : Int)) := Int.lt_irrefl _
     have HON := qH (show ∀ i' s, i' < i + 1 → D.next[i']? = some s → okR ne j s from fun i' s hi' hs => by
      rcases Nat.lt_succ_iff_lt_or_eq.1 hi' with h | h
      ·exact HOK.out i' s h hs
      ·rw [h, HRR.out] at hs
       injection hs with hs
       rw [← hs]
       refine ⟨HRL.out.symm, fun x hx => ?_⟩
       obtain ⟨m, hm⟩ := List.mem_iff_getElem?.1 hx
       exact HJO.out m x (by rw [HRL.out]; exact (List.getElem?_eq_some_iff.1 hm).1) hm)
     clear hj hjk
     go_wp2_with fail
     exact ⟨⟨i + 1, HI.out, by congr 1, HON.out, BJ.out⟩, by simpa [intOf] using HMI.out⟩
   ·have z1 : decide ((rl : Int) = (k : Int)) = false := decide_eq_false fun h => hlk (by omega)
    have z2 : ¬ ((rl : Int) = (k : Int)) := fun h => hlk (by omega)
    have HNM := qH (show ¬ MayD D from fun h => hlk (by rw [HRL.out, HK.out]; exact h.rows r (List.mem_of_getElem? HRR.out)))
    go_wp2_with fail
    go_ret
    rw [mayDB_no HNM.out]
    exact ⟨rfl, BW.out⟩
  ·have HM := qH (show MayD D from HALL.out fun i' r hr => HOK.out i' r (by have := (List.getElem?_eq_some_iff.1 hr).1; have := HN.out; omega) hr)
   obtain rfl : i = ne := by omega
   have x1 : ¬ ((i : Int) < (i : Int)) := Int.lt_irrefl _
   clear hi hin
   go_wp2_with fail
   go_ret
   rw [mayDB_yes HM.out]
   exact ⟨rfl, BW.out⟩
 ·have z1 : decide ((ne : Int) = (n : Int)) = false := decide_eq_false fun h => hne (by omega)
  have z2 : ¬ ((ne : Int) = (n : Int)) := fun h => hne (by omega)
  have HNM := qH (show ¬ MayD D from fun h => hne (by rw [HNE.out, HN.out]; exact h.ends))
  go_wp2_with ((with_reducible refine atDst 1 ?_); refine wpList_box rfl 28 _ rfl cs rfl (Below.refl w.heap.size w) (Nat.le_refl _) ?_; intro w1 hk1 hb1 hs1 _; have K1 := qH hk1; have B1 := qH hb1; have c256 : w1.cell? ⟨w.heap.size, 256, none⟩ = some (.slice An n cn) := (by rw [hk1.cell 256, HCS.out]; exact dcl_n HL.out); have c257 : w1.cell? ⟨w.heap.size, 257, none⟩ = some (.slice Ae ne ce) := (by rw [hk1.cell 257, HCS.out]; exact dcl_e HL.out); clear hk1 hb1 hs1; (try simp only [Act.put, qA, qB, qC]))
  go_ret
  rw [mayDB_no HNM.out]
  exact ⟨rfl, B1.out⟩
noncomputable def clsG (D : Dm) : Nat := if mayDB D = true then clsA D.cl else 0
set_option maxHeartbeats 4000000 in
set_option maxRecDepth 1000000 in
theorem mClasses_any (D : Dm) (cs : List Value) (w : World) (hv : DfaV w cs D) :
  Calls Try.prog 20 #[.agg cs.toArray] w fun e w' => e = .returned (.int .i64 (clsG D : Int)) ∧ Below w.heap.size w w' := by
 have V0 := qH hv
 have HDS := qH hv.size
 obtain ⟨my, hmy⟩ : ∃ b, b = mayDB D := ⟨_, rfl⟩
 have HG := qH (show clsG D = if my = true then clsA D.cl else 0 by rw [hmy]; rfl)
 have HMY := qH hmy
 rw [HG.out]
 clear hv hmy
 go_enter Try.func20, Try.ntmps20
 go_wp2_with (first
  | ((with_reducible refine atDst 1 ?_); refine wpList_box rfl 28 _ rfl cs rfl (Below.refl w.heap.size w) (Nat.le_refl _) ?_; intro w1 hk1 hb1 hs1 _; have K1 := qH hk1; have B1 := qH hb1; clear hk1 hb1 hs1; (try simp only [Act.put, qA, qB, qC]))
  | ((with_reducible refine atDst 3 ?_); refine wpList_ldArr rfl 28 _ rfl w.heap.size rfl 28 _ _ K1.out Try.underlying28 rfl HDS.out ?_; (try simp only [Act.put, qA, qB, qC])))
 refine (mMay_any D cs w1 (V0.out.below B1.out)).mono ?_
 rintro e w2 ⟨rfl, hb⟩
 rw [← HMY.out]
 have K2 := qH (K1.out.below hb K1.out.lt)
 have B2 := qH (B1.out.trans (hb.mono B1.out.size))
 clear hb HG HMY
 cases my with
 | false =>
  go_wp2_with fail
  go_ret
  exact ⟨rfl, B2.out⟩
 | true =>
  go_wp2_with ((with_reducible refine atDst 6 ?_); refine wpList_ldArr rfl 28 _ rfl w.heap.size rfl 28 _ _ K2.out Try.underlying28 rfl HDS.out ?_; (try simp only [Act.put, qA, qB, qC]))
  refine (mCount_any D cs w2 (V0.out.below B2.out)).mono ?_
  rintro e w3 ⟨rfl, hb⟩
  have B3 := qH (B2.out.trans (hb.mono B2.out.size))
  clear hb
  go_wp2_with fail
  go_ret
  exact ⟨rfl, B3.out⟩
noncomputable def toG (D : Dm) (s : Int) (w : List UInt8) : Int := if mayDB D = true ∧ 0 ≤ s ∧ s < (D.next.length : Int) then (toD D s.toNat w : Int) else -1
theorem toG_no {D : Dm} {s : Int} {w : List UInt8} (h : ¬ (mayDB D = true ∧ 0 ≤ s ∧ s < (D.next.length : Int))) : toG D s w = -1 := by
 unfold toG
 rw [if_neg h]
theorem toG_in {D : Dm} (hm : MayD D) {s : Nat} (hs : s < D.next.length) (w : List UInt8) : toG D (s : Int) w = (toD D s w : Int) := by
 unfold toG
 rw [if_pos ⟨mayDB_yes hm, by omega, by omega⟩, Int.toNat_natCast]
noncomputable def runG (D : Dm) (w : List UInt8) : Bool := mayDB D && runD D w
theorem toG_may {D : Dm} {s : Int} {w : List UInt8} (h : mayDB D = false) : toG D s w = -1 := toG_no fun h2 => by rw [h] at h2; cases h2.1
theorem toG_out {D : Dm} {s : Int} {w : List UInt8} (h : hasD D.next.length s = false) : toG D s w = -1 := toG_no fun h2 => of_decide_eq_false h h2.2
set_option maxHeartbeats 8000000 in
set_option maxRecDepth 1000000 in
theorem mTo_any (D : Dm) (s : Int) (W : List UInt8) (cs : List Value) (V : Value) (w : World) (hv : DfaV w cs D) (hw : Row w V (bvs W)) :
  Calls Try.prog 18 #[.agg cs.toArray, .int .i64 s, V] w fun e w' => e = .returned (.int .i64 (toG D s W)) ∧ Below w.heap.size w w' := by
 have V0 := qH hv
 have HDS := qH hv.size
 have W0 := qH hw
 obtain ⟨An, Ae, cn, ce, vf, hl, hcs, hn, hr, he⟩ := hv.form
 have HL := qH hl
 obtain ⟨n, hnn⟩ : ∃ n, n = D.next.length := ⟨_, rfl⟩
 have HN := qH hnn
 rw [← hnn] at hcs
 rw [← hnn] at hn
 have HCS := qH hcs
 have HRN := qH hn
 have HR := qH hr
 obtain ⟨Aw, cw, rfl, a1, a2, _⟩ := hw
 rw [bvs_length] at W0 a1 ⊢
 have HLN := qH (And.intro a1 a2)
 obtain ⟨my, hmy⟩ : ∃ b, b = mayDB D := ⟨_, rfl⟩
 have HMY := qH hmy
 clear hv hl hcs hn hr he hnn a1 a2 hmy
 go_enter Try.func18, Try.ntmps18
 go_wp2_with (first
  | ((with_reducible refine atDst 3 ?_); refine wpList_box rfl 28 _ rfl cs rfl (Below.refl w.heap.size w) (Nat.le_refl _) ?_; intro w1 hk1 hb1 hs1 _; have K1 := qH hk1; have B1 := qH hb1; clear hk1 hb1 hs1; (try simp only [Act.put, qA, qB, qC]))
  | ((with_reducible refine atDst 9 ?_); refine wpList_ldArr rfl 28 _ rfl w.heap.size rfl 28 _ _ K1.out Try.underlying28 rfl HDS.out ?_; (try simp only [Act.put, qA, qB, qC])))
 refine (mMay_any D cs w1 (V0.out.below B1.out)).mono ?_
 rintro e w2 ⟨rfl, hb⟩
 rw [← HMY.out]
 have K2 := qH (K1.out.below hb K1.out.lt)
 have B2 := qH (B1.out.trans (hb.mono B1.out.size))
 clear hb
 cases my with
 | false =>
  have HT := qH (toG_may (s := s) (w := W) HMY.out.symm)
  go_wp2_with fail
  go_ret
  rw [HT.out]
  exact ⟨rfl, B2.out⟩
 | true =>
  have HM := qH (mayDB_iff.1 HMY.out.symm)
  go_wp2_with ((with_reducible refine atDst 13 ?_); refine wpList_ldArr rfl 28 _ rfl w.heap.size rfl 28 _ _ K2.out Try.underlying28 rfl HDS.out ?_; (try simp only [Act.put, qA, qB, qC]))
  refine (mHas_any D s cs w2 (V0.out.below B2.out)).mono ?_
  rintro e w3 ⟨rfl, hb⟩
  have K3 := qH (K2.out.below hb K2.out.lt)
  have B3 := qH (B2.out.trans (hb.mono B2.out.size))
  clear hb
  obtain ⟨hs, hhs⟩ : ∃ b, b = hasD D.next.length s := ⟨_, rfl⟩
  have HHS := qH hhs
  rw [← hhs]
  clear hhs
  cases hs with
  | false =>
   have HT := qH (toG_out (w := W) HHS.out.symm)
   go_wp2_with fail
   go_ret
   rw [HT.out]
   exact ⟨rfl, B3.out⟩
  | true =>
   obtain ⟨s0, s1⟩ := of_decide_eq_true HHS.out.symm
   obtain ⟨s, rfl⟩ : ∃ q : Nat, s = (q : Int) := ⟨s.toNat, by omega⟩
   have HS := qH (show s < n by rw [HN.out]; omega)
   have HTG := qH (toG_in HM.out (show s < D.next.length by rw [← HN.out]; exact HS.out) W)
   have c256 : w3.cell? ⟨w.heap.size, 256, none⟩ = some (.slice An n cn) := by rw [K3.out.cell 256, HCS.out]; exact dcl_n HL.out
   have C256 := qH c256
   have HT1 := qH (show w.heap.size < w3.heap.size from K3.out.lt)
   clear s0 s1
   go_wp2_with fail
   clear c256
   go_loopw [1, 20] (fun v jv wl => ∃ j : Nat, j ≤ W.length ∧ jv = .int .i64 (j : Int) ∧ v = .int .i64 (toD D s (W.take j) : Int) ∧ Below w3.heap.size w3 wl) (fun _ jv _ => W.length - (intOf jv).toNat)
   case atStart => exact ⟨0, Nat.zero_le _, by simp, rfl, Below.refl _ _⟩
   obtain ⟨j, hj, rfl, rfl, hb⟩ := hrel
   have BQ := qH hb
   obtain ⟨wq, hwq⟩ : ∃ v : World, v = wr := ⟨_, rfl⟩
   subst hwq
   clear hb
   by_cases hjl : j < W.length
   ·have x1 : (j : Int) < (W.length : Int) := Int.ofNat_lt.2 hjl
    have HJ := qH hjl
    have HMJ := qH (sub_next hjl)
    have e3 := wrap_len HJ.out HLN.out.1 HLN.out.2
    have e4 := wrap_len' HJ.out HLN.out.1 HLN.out.2
    obtain ⟨b, hb⟩ : ∃ b, W[j]? = some b := ⟨_, List.getElem?_eq_getElem hjl⟩
    obtain ⟨p, hp⟩ : ∃ p, p = toD D s (W.take j) := ⟨_, rfl⟩
    have hpn : p < n := by rw [hp, HN.out]; exact toD_lt HM.out HL.out _ _ (by rw [← HN.out]; exact HS.out)
    obtain ⟨r, x, c, hr, hc, hk, hx, hxe, _⟩ := stD_lt HM.out HL.out (s := p) (by rw [← HN.out]; exact hpn) b
    have HNX := qH (show toD D s (W.take (j + 1)) = stD D p b by rw [toD_take hb, hp])
    have HXE := qH hxe
    have y1 : (p : Int) < (n : Int) := Int.ofNat_lt.2 hpn
    have BW := qH (B3.out.trans (BQ.out.mono B3.out.size))
    obtain ⟨bw, ow, rfl, hlw, hcw⟩ := (W0.out.below BW.out).at_ (by rw [bvs_length]; exact Nat.lt_of_le_of_lt (Nat.zero_le _) hjl)
    obtain ⟨bn, on, rfl, hln, hcn⟩ := (HRN.out.below BW.out).at_ (by rw [List.length_map, List.length_range]; exact Nat.lt_of_le_of_lt (Nat.zero_le _) hpn)
    have hri := (HR.out p r hr).below BW.out
    have hri2 := hri
    obtain ⟨Ar, cr, hvr, _⟩ := hri2
    rw [nums_length] at hvr
    have HCI := qH (show wq.cell? ⟨bn, on + p, none⟩ = some (.slice Ar r.length cr) from hcn p _ (by simp [hpn, hvr]))
    rw [hvr] at hri
    obtain ⟨br, or, rfl, hlr, hcr⟩ := hri.at_ (by rw [nums_length]; exact Nat.lt_of_le_of_lt (Nat.zero_le _) hk)
    obtain ⟨bb, hbb⟩ : ∃ bb, bb = b.toNat := ⟨_, rfl⟩
    obtain ⟨q, hq⟩ : ∃ q, q = c.toNat := ⟨_, rfl⟩
    have hcb : wq.cell? ⟨bw, ow + j, none⟩ = some (.int .u8 (bb : Int)) := by rw [hbb]; exact hcw j _ (bvs_get _ _ _ hb)
    have HCX := qH (show wq.cell? ⟨br, or + q, none⟩ = some (.int .i64 x) by rw [hq]; exact hcr _ _ (by simp [nums, hx]))
    have HBB := qH (show bb < 256 by rw [hbb]; exact b.toNat_lt)
    have KQ := qH (K3.out.below BQ.out K3.out.lt)
    have HCQ := qH (show wq.cell? ⟨w.heap.size, bb, none⟩ = some (.int .u8 (q : Int)) by
     rw [KQ.out.cell bb, HCS.out, dcl_cl HL.out HBB.out, bvs_get _ _ _ (by rw [hbb]; exact hc), hq])
    have C256q := qH ((BQ.out.cell (p := ⟨w.heap.size, 256, none⟩) HT1.out).trans C256.out)
    have HTq := qH (Nat.lt_of_lt_of_le HT1.out BQ.out.size)
    have y2 : (bb : Int) < 256 := Int.ofNat_lt.2 HBB.out
    have y3 : (q : Int) < (r.length : Int) := by rw [hq]; exact Int.ofNat_lt.2 hk
    have HLN2 := qH hln
    have HLR := qH hlr
    rw [← hp]
    clear hj hjl hb hp hpn hr hc hk hx hxe hlw hcw hln hcn hri hvr hlr hcr hbb hq
    go_wp2_with fail
    refine sx_startB (B := wq.heap.size) (w0 := wq) (by kernel_rfl) (Below.refl _ _) (fun wd hwd hX => ?_)
    clear hwd
    refine sx_take (i := 0) (oi := ⟨some 24, _, _, _, _, _⟩) (v := ?_) rfl (by kernel_rfl) (by kernel_rfl) (by kernel_rfl) (fun _ _ _ h => h) rfl hX ?_ ?_; rotate_left; (intro W hW; go_simp; try with_reducible rfl); simp only [Act.put, qA, qB, qC]
    refine sx_take (i := 1) (oi := ⟨some 25, _, _, _, _, _⟩) (v := .slice (some ⟨bn, on, none⟩) n cn) rfl (by kernel_rfl) (by kernel_rfl) (by kernel_rfl) (fun _ _ _ h => h) rfl hX (fun V hV => ld_inss (.tmp 24) rfl rfl ((hV.cell (p := ⟨w.heap.size, 256, none⟩) HTq.out).trans C256q.out)) ?_; simp only [Act.put, qA, qB, qC]
    refine sx_take (i := 2) (oi := ⟨some 26, _, _, _, _, _⟩) (v := ?_) rfl (by kernel_rfl) (by kernel_rfl) (by kernel_rfl) (fun _ _ _ h => h) rfl hX ?_ ?_; rotate_left; (intro W hW; go_simp; try with_reducible rfl); simp only [Act.put, qA, qB, qC]
    refine sx_take (i := 3) (oi := ⟨some 27, _, _, _, _, _⟩) (v := ?_) rfl (by kernel_rfl) (by kernel_rfl) (by kernel_rfl) (fun _ _ _ h => h) rfl hX ?_ ?_; rotate_left; (intro W hW; go_simp; try with_reducible rfl); simp only [Act.put, qA, qB, qC]
    refine sx_take (i := 4) (oi := ⟨some 28, _, _, _, _, _⟩) (v := .slice (some ⟨br, or, none⟩) r.length cr) rfl (by kernel_rfl) (by kernel_rfl) (by kernel_rfl) (fun _ _ _ h => h) rfl hX (fun V hV => ld_ints (.tmp 27) rfl rfl ((hV.cell (p := ⟨bn, on + p, none⟩) HLN2.out).trans HCI.out)) ?_; simp only [Act.put, qA, qB, qC]
    refine sx_take (i := 5) (oi := ⟨some 29, _, _, _, _, _⟩) (v := ?_) rfl (by kernel_rfl) (by kernel_rfl) (by kernel_rfl) (fun _ _ _ h => h) rfl hX ?_ ?_; rotate_left; (intro W hW; go_simp; try with_reducible rfl); simp only [Act.put, qA, qB, qC]
    refine sx_take (i := 6) (oi := ⟨some 30, _, _, _, _, _⟩) (v := ?_) rfl (by kernel_rfl) (by kernel_rfl) (by kernel_rfl) (fun _ _ _ h => h) rfl hX ?_ ?_; rotate_left; (intro W hW; go_simp; try with_reducible rfl); simp only [Act.put, qA, qB, qC]
    refine sx_take (i := 7) (oi := ⟨some 31, _, _, _, _, _⟩) (v := ?_) rfl (by kernel_rfl) (by kernel_rfl) (by kernel_rfl) (fun _ _ _ h => h) rfl hX ?_ ?_; rotate_left; (intro W hW; go_simp; try with_reducible rfl); simp only [Act.put, qA, qB, qC]
    refine sx_take (i := 8) (oi := ⟨some 32, _, _, _, _, _⟩) (v := .int .u8 (q : Int)) rfl (by kernel_rfl) (by kernel_rfl) (by kernel_rfl) (fun _ _ _ h => h) rfl hX (fun V hV => ld_u9 (.tmp 31) rfl rfl ((hV.cell (p := ⟨w.heap.size, bb, none⟩) HTq.out).trans HCQ.out)) ?_; simp only [Act.put, qA, qB, qC]
    refine sx_take (i := 9) (oi := ⟨some 33, _, _, _, _, _⟩) (v := ?_) rfl (by kernel_rfl) (by kernel_rfl) (by kernel_rfl) (fun _ _ _ h => h) rfl hX ?_ ?_; rotate_left; (intro W hW; go_simp; try with_reducible rfl); simp only [Act.put, qA, qB, qC]
    refine sx_take (i := 10) (oi := ⟨some 34, _, _, _, _, _⟩) (v := .int .i64 x) rfl (by kernel_rfl) (by kernel_rfl) (by kernel_rfl) (fun _ _ _ h => h) rfl hX (fun V hV => ld_int9 (.tmp 33) rfl rfl ((hV.cell (p := ⟨br, or + q, none⟩) HLR.out).trans HCX.out)) ?_; simp only [Act.put, qA, qB, qC]
    refine sx_take (i := 11) (oi := ⟨some 1, _, _, _, _, _⟩) (v := ?_) rfl (by kernel_rfl) (by kernel_rfl) (by kernel_rfl) (fun _ _ _ h => h) rfl hX ?_ ?_; rotate_left; (intro W hW; go_simp; try with_reducible rfl); simp only [Act.put, qA, qB, qC]
    refine wpAnyH_done (by kernel_rfl) ?_ _
    have BE := qH (BQ.out.trans (hX.mono BQ.out.size))
    clear hX hcb
    go_wp2_with fail
    exact ⟨⟨j + 1, HJ.out, by congr 1, by rw [HNX.out, HXE.out], BE.out⟩, by simpa [intOf] using HMJ.out⟩
   ·obtain rfl : j = W.length := by omega
    have x1 : ¬ ((W.length : Int) < (W.length : Int)) := Int.lt_irrefl _
    have BE := qH (B3.out.trans (BQ.out.mono B3.out.size))
    have HTK := qH (show W.take W.length = W from List.take_length)
    rw [HTK.out]
    clear hj hjl
    go_wp2_with fail
    go_ret
    rw [HTG.out]
    exact ⟨rfl, BE.out⟩
theorem runG_no {D : Dm} {W : List UInt8} (h : mayDB D = false) : runG D W = false := by unfold runG; rw [h]; rfl
theorem runG_yes {D : Dm} {W : List UInt8} (h : MayD D) : runG D W = runD D W := by unfold runG; rw [mayDB_yes h, Bool.true_and]
set_option maxHeartbeats 8000000 in
set_option maxRecDepth 1000000 in
theorem mRun_any (D : Dm) (W : List UInt8) (cs : List Value) (V : Value) (w : World) (hv : DfaV w cs D) (hw : Row w V (bvs W)) :
  Calls Try.prog 10 #[.agg cs.toArray, V] w fun e w' => e = .returned (.bool (runG D W)) ∧ Below w.heap.size w w' := by
 have V0 := qH hv
 have HDS := qH hv.size
 have W0 := qH hw
 by_cases hm : MayD D
 ·obtain ⟨An, Ae, cn, ce, vf, hl, hcs, hn, hr, he⟩ := hv.form
  have HCS := qH hcs
  have HL := qH hl
  have HRG := qH (runD_get hm hl W)
  have HE := qH he
  obtain ⟨p, hp⟩ : ∃ p, p = toD D 0 W := ⟨_, rfl⟩
  obtain ⟨y, hy⟩ : ∃ y, y = runD D W := ⟨_, rfl⟩
  obtain ⟨k, hk⟩ : ∃ k, k = D.ends.length := ⟨_, rfl⟩
  have HP := qH (show toG D 0 W = (p : Int) by rw [hp]; exact toG_in hm (s := 0) (by have := hm.pos; omega) W)
  rw [← hp, ← hy] at HRG
  rw [runG_yes hm, ← hy]
  rw [← hk] at HCS HE
  have HPK := qH (show p < k by rw [hk]; exact (List.getElem?_eq_some_iff.1 HRG.out).1)
  have p1 : (p : Int) < (k : Int) := Int.ofNat_lt.2 HPK.out
  have p2 : ¬ ((p : Int) = -1) := by omega
  have p3 : decide ((p : Int) = -1) = false := decide_eq_false p2
  clear hv hm hw hl hcs hn hr he hp hy hk
  go_enter Try.func10, Try.ntmps10
  go_wp2_with (first
   | ((with_reducible refine atDst 2 ?_); refine wpList_box rfl 28 _ rfl cs rfl (Below.refl w.heap.size w) (Nat.le_refl _) ?_; intro w1 hk1 hb1 hs1 _; have K1 := qH hk1; have B1 := qH hb1; clear hk1 hb1 hs1; (try simp only [Act.put, qA, qB, qC]))
   | ((with_reducible refine atDst 6 ?_); refine wpList_ldArr rfl 28 _ rfl w.heap.size rfl 28 _ _ K1.out Try.underlying28 rfl HDS.out ?_; (try simp only [Act.put, qA, qB, qC])))
  refine (mTo_any D 0 W cs V w1 (V0.out.below B1.out) (W0.out.below B1.out)).mono ?_
  rintro e w2 ⟨rfl, hb⟩
  rw [HP.out]
  have K2 := qH (K1.out.below hb K1.out.lt)
  have B2 := qH (B1.out.trans (hb.mono B1.out.size))
  clear hb
  have c257 : w2.cell? ⟨w.heap.size, 257, none⟩ = some (.slice Ae k ce) := by rw [K2.out.cell 257, HCS.out]; exact dcl_e HL.out
  obtain ⟨be, oe, rfl, hbe, hce⟩ := (HE.out.below B2.out).at_ (by rw [bools_length]; exact Nat.lt_of_le_of_lt (Nat.zero_le _) (List.getElem?_eq_some_iff.1 HRG.out).1)
  have hcp : w2.cell? ⟨be, oe + p, none⟩ = some (.bool y) := hce p _ (by simp [bools, HRG.out])
  clear hbe hce
  go_wp2_with fail
  go_ret
  exact ⟨rfl, B2.out⟩
 ·have HR := qH (runG_no (W := W) (mayDB_no hm))
  have HT := qH (toG_may (s := 0) (w := W) (mayDB_no hm))
  rw [HR.out]
  clear hv hw hm
  go_enter Try.func10, Try.ntmps10
  go_wp2_with (first
   | ((with_reducible refine atDst 2 ?_); refine wpList_box rfl 28 _ rfl cs rfl (Below.refl w.heap.size w) (Nat.le_refl _) ?_; intro w1 hk1 hb1 hs1 _; have K1 := qH hk1; have B1 := qH hb1; clear hk1 hb1 hs1; (try simp only [Act.put, qA, qB, qC]))
   | ((with_reducible refine atDst 6 ?_); refine wpList_ldArr rfl 28 _ rfl w.heap.size rfl 28 _ _ K1.out Try.underlying28 rfl HDS.out ?_; (try simp only [Act.put, qA, qB, qC])))
  refine (mTo_any D 0 W cs V w1 (V0.out.below B1.out) (W0.out.below B1.out)).mono ?_
  rintro e w2 ⟨rfl, hb⟩
  rw [HT.out]
  have B2 := qH (B1.out.trans (hb.mono B1.out.size))
  clear hb
  go_wp2_with fail
  go_ret
  exact ⟨rfl, B2.out⟩
section
variable {P : Program} {w : World} {ops : Array Oper} {rest : List Oper} {o : Oper} {a : Act} {Q : Exit → Act → World → Prop}
theorem wpList_bld0 (hgd : o.guard = none) (t e : TypeId) (ho : o.op = .buildSlice t 0 #[]) (i : TypeInfo) (ht : P.underlying t = some (.slice e)) (hi : P.info? e = some i) (z : Value) (hz : i.zero = some z) (hs : i.size = 1)
  (h : ∀ w', w'.ownsRow w.heap.size e 1 (.slice (some ⟨w.heap.size, 0, none⟩) 0 0) 0 [] → Below w.heap.size w w' → wpList P ops Q rest (a.put o.dst (.slice (some ⟨w.heap.size, 0, none⟩) 0 0)) w') : wpList P ops Q (o :: rest) a w := by
 refine wpList_plain hgd fun K hK => ?_
 have hrun : (Instr.buildSlice t 0 #[]).run P w = .ok (.slice (some ⟨w.heap.size, 0, none⟩) 0 0) (w.alloc (.cells #[] e)) := by
  simp [Instr.buildSlice, run_underlying ht, sizeOf, typeInfo, hi, hs, Instr.fill, newRow, Array.range_zero']
 unfold Oper.wp
 simp only [execOp, ho, List.map_toArray, List.map_nil, hrun, Sem.run_bind, Result.andThen_ok, Sem.run_pure]
 exact hK _ _ (h _ ⟨by simp, .inr ⟨w.heap.size, 0, #[], rfl, Nat.le_refl _, heap_alloc_new w _, Nat.le_refl _, Nat.zero_le _, rfl, rfl⟩⟩ ((Below.refl _ _).alloc (Nat.le_refl _) _))
end
theorem infoC {P : Program} {e : TypeId} {z : Value} {s b : Nat} (h : (P.info? e).map (fun i => (i.zero, i.size, i.bytes)) = some (some z, s, b)) : ∃ i, P.info? e = some i ∧ i.zero = some z ∧ i.size = s ∧ i.bytes = b := by
 cases hi : P.info? e with
 | none => rw [hi] at h; cases h
 | some i =>
  rw [hi] at h
  injection h with h
  simp only [Prod.mk.injEq] at h
  exact ⟨i, rfl, h.1, h.2.1, h.2.2⟩
theorem ownC_nil (w : World) (B : Nat) (e : TypeId) : w.ownsRow B e 1 (.slice none 0 0) 0 [] := ⟨rfl, .inl ⟨rfl, rfl⟩⟩
set_option maxHeartbeats 4000000 in
set_option maxRecDepth 1000000 in
theorem cloneBools_any (v : Value) (xs : List Value) (w : World) (hr : Row w v xs) (h1 : ∀ u ∈ xs, u.oneCell' = true) (hn : xs.length ≤ 1048576) :
  Calls Try.prog 37 #[v] w fun e w' => ∃ u, e = .returned u ∧ w'.ownsRow w.heap.size 4 1 u xs.length xs ∧ Below w.heap.size w w' := by
 have HR := qH hr
 have H1 := qH h1
 have HN := qH hn
 obtain ⟨i, hi, hz, hs, hy⟩ := infoC (show (Try.prog.info? 4).map (fun i => (i.zero, i.size, i.bytes)) = some (some (.bool false), 1, 1) by kernel_rfl)
 obtain ⟨A, cap, rfl, hl, hm, h0, _⟩ := hr
 cases A with
 | none =>
  obtain rfl : cap = 0 := h0 rfl
  have hx : xs = [] := List.eq_nil_of_length_eq_zero (by omega)
  subst hx
  clear hl hm h0 h1 hn HR H1 HN hi hz hs hy
  have hq : ∀ W, (binOp .eql 26 (.slice none 0 0) (.slice none 0 0)).run Try.prog W = .ok (.bool true) W := fun W => Lib.run_eql_slice_nil W 26 4 none 0 0 0 0 Try.underlying26
  go_enter Try.func37, Try.ntmps37
  go_wp2_with fail
  go_ret
  exact ⟨_, rfl, ownC_nil _ _ _, Below.refl _ _⟩
 | some ad =>
  obtain ⟨n, hnn⟩ : ∃ n, n = xs.length := ⟨_, rfl⟩
  rw [← hnn] at HR HN hl ⊢
  have HNN := qH hnn
  have HIZ := qH (And.intro hz (And.intro hs hy))
  have HI := qH hi
  clear hl hm h0 h1 hn hnn hi hz hs hy
  have hq : ∀ W, (binOp .eql 26 (.slice (some ad) n cap) (.slice none 0 0)).run Try.prog W = .ok (.bool false) W := fun W => Lib.run_eql_slice_nil W 26 4 (some ad) n cap 0 0 Try.underlying26
  go_enter Try.func37, Try.ntmps37
  go_wp2_with (first
   | ((with_reducible refine atDst 5 ?_); refine wpList_bld0 rfl 26 4 rfl i Try.underlying26 HI.out (.bool false) HIZ.out.1 HIZ.out.2.1 ?_; intro w1 ho1 hb1; have O1 := qH ho1; have B1 := qH hb1; clear ho1 hb1; (try simp only [Act.put, qA, qB, qC]))
   | ((with_reducible refine atDst 7 ?_); refine wpList_appR (w0 := w) rfl (.tmp 5) (.tmp 6) 26 rfl 4 i (.bool false) 1 Try.underlying26 HI.out HIZ.out.1 HIZ.out.2.1 HIZ.out.2.2 rfl _ 0 [] rfl O1.out _ xs rfl (HR.out.below B1.out) H1.out (by rw [← HNN.out, Nat.zero_add]; exact HN.out) (by decide) B1.out ?_; intro v2 w2 ho2 hr2 hb2 _; have O2 := qH ho2; have B2 := qH hb2; clear ho2 hr2 hb2; (try simp only [Act.put, qA, qB, qC])))
  go_ret
  refine ⟨_, rfl, ?_, B2.out⟩
  have := O2.out
  rwa [Nat.zero_add, List.nil_append, ← HNN.out] at this
set_option maxHeartbeats 4000000 in
set_option maxRecDepth 1000000 in
theorem cloneInts_any (v : Value) (xs : List Value) (w : World) (hr : Row w v xs) (h1 : ∀ u ∈ xs, u.oneCell' = true) (hn : xs.length ≤ 1048576) :
  Calls Try.prog 38 #[v] w fun e w' => ∃ u, e = .returned u ∧ w'.ownsRow w.heap.size 3 1 u xs.length xs ∧ Below w.heap.size w w' := by
 have HR := qH hr
 have H1 := qH h1
 have HN := qH hn
 obtain ⟨i, hi, hz, hs, hy⟩ := infoC (show (Try.prog.info? 3).map (fun i => (i.zero, i.size, i.bytes)) = some (some (.int .i64 0), 1, 8) by kernel_rfl)
 obtain ⟨A, cap, rfl, hl, hm, h0, _⟩ := hr
 cases A with
 | none =>
  obtain rfl : cap = 0 := h0 rfl
  have hx : xs = [] := List.eq_nil_of_length_eq_zero (by omega)
  subst hx
  clear hl hm h0 h1 hn HR H1 HN hi hz hs hy
  have hq : ∀ W, (binOp .eql 41 (.slice none 0 0) (.slice none 0 0)).run Try.prog W = .ok (.bool true) W := fun W => Lib.run_eql_slice_nil W 41 3 none 0 0 0 0 Try.underlying41
  go_enter Try.func38, Try.ntmps38
  go_wp2_with fail
  go_ret
  exact ⟨_, rfl, ownC_nil _ _ _, Below.refl _ _⟩
 | some ad =>
  obtain ⟨n, hnn⟩ : ∃ n, n = xs.length := ⟨_, rfl⟩
  rw [← hnn] at HR HN hl ⊢
  have HNN := qH hnn
  have HIZ := qH (And.intro hz (And.intro hs hy))
  have HI := qH hi
  clear hl hm h0 h1 hn hnn hi hz hs hy
  have hq : ∀ W, (binOp .eql 41 (.slice (some ad) n cap) (.slice none 0 0)).run Try.prog W = .ok (.bool false) W := fun W => Lib.run_eql_slice_nil W 41 3 (some ad) n cap 0 0 Try.underlying41
  go_enter Try.func38, Try.ntmps38
  go_wp2_with (first
   | ((with_reducible refine atDst 5 ?_); refine wpList_bld0 rfl 41 3 rfl i Try.underlying41 HI.out (.int .i64 0) HIZ.out.1 HIZ.out.2.1 ?_; intro w1 ho1 hb1; have O1 := qH ho1; have B1 := qH hb1; clear ho1 hb1; (try simp only [Act.put, qA, qB, qC]))
   | ((with_reducible refine atDst 7 ?_); refine wpList_appR (w0 := w) rfl (.tmp 5) (.tmp 6) 41 rfl 3 i (.int .i64 0) 8 Try.underlying41 HI.out HIZ.out.1 HIZ.out.2.1 HIZ.out.2.2 rfl _ 0 [] rfl O1.out _ xs rfl (HR.out.below B1.out) H1.out (by rw [← HNN.out, Nat.zero_add]; exact HN.out) (by decide) B1.out ?_; intro v2 w2 ho2 hr2 hb2 _; have O2 := qH ho2; have B2 := qH hb2; clear ho2 hr2 hb2; (try simp only [Act.put, qA, qB, qC])))
  go_ret
  refine ⟨_, rfl, ?_, B2.out⟩
  have := O2.out
  rwa [Nat.zero_add, List.nil_append, ← HNN.out] at this
set_option maxHeartbeats 4000000 in
set_option maxRecDepth 1000000 in
theorem cloneBytes_any (v : Value) (xs : List Value) (w : World) (hr : Row w v xs) (h1 : ∀ u ∈ xs, u.oneCell' = true) (hn : xs.length ≤ 1048576) :
  Calls Try.prog 42 #[v] w fun e w' => ∃ u, e = .returned u ∧ w'.ownsRow w.heap.size 5 1 u xs.length xs ∧ Below w.heap.size w w' := by
 have HR := qH hr
 have H1 := qH h1
 have HN := qH hn
 obtain ⟨i, hi, hz, hs, hy⟩ := infoC (show (Try.prog.info? 5).map (fun i => (i.zero, i.size, i.bytes)) = some (some (.int .u8 0), 1, 1) by kernel_rfl)
 obtain ⟨A, cap, rfl, hl, hm, h0, _⟩ := hr
 cases A with
 | none =>
  obtain rfl : cap = 0 := h0 rfl
  have hx : xs = [] := List.eq_nil_of_length_eq_zero (by omega)
  subst hx
  clear hl hm h0 h1 hn HR H1 HN hi hz hs hy
  have hq : ∀ W, (binOp .eql 22 (.slice none 0 0) (.slice none 0 0)).run Try.prog W = .ok (.bool true) W := fun W => Lib.run_eql_slice_nil W 22 5 none 0 0 0 0 Try.underlying22
  go_enter Try.func42, Try.ntmps42
  go_wp2_with fail
  go_ret
  exact ⟨_, rfl, ownC_nil _ _ _, Below.refl _ _⟩
 | some ad =>
  obtain ⟨n, hnn⟩ : ∃ n, n = xs.length := ⟨_, rfl⟩
  rw [← hnn] at HR HN hl ⊢
  have HNN := qH hnn
  have HIZ := qH (And.intro hz (And.intro hs hy))
  have HI := qH hi
  clear hl hm h0 h1 hn hnn hi hz hs hy
  have hq : ∀ W, (binOp .eql 22 (.slice (some ad) n cap) (.slice none 0 0)).run Try.prog W = .ok (.bool false) W := fun W => Lib.run_eql_slice_nil W 22 5 (some ad) n cap 0 0 Try.underlying22
  go_enter Try.func42, Try.ntmps42
  go_wp2_with (first
   | ((with_reducible refine atDst 5 ?_); refine wpList_bld0 rfl 22 5 rfl i Try.underlying22 HI.out (.int .u8 0) HIZ.out.1 HIZ.out.2.1 ?_; intro w1 ho1 hb1; have O1 := qH ho1; have B1 := qH hb1; clear ho1 hb1; (try simp only [Act.put, qA, qB, qC]))
   | ((with_reducible refine atDst 7 ?_); refine wpList_appR (w0 := w) rfl (.tmp 5) (.tmp 6) 22 rfl 5 i (.int .u8 0) 1 Try.underlying22 HI.out HIZ.out.1 HIZ.out.2.1 HIZ.out.2.2 rfl _ 0 [] rfl O1.out _ xs rfl (HR.out.below B1.out) H1.out (by rw [← HNN.out, Nat.zero_add]; exact HN.out) (by decide) B1.out ?_; intro v2 w2 ho2 hr2 hb2 _; have O2 := qH ho2; have B2 := qH hb2; clear ho2 hr2 hb2; (try simp only [Act.put, qA, qB, qC])))
  go_ret
  refine ⟨_, rfl, ?_, B2.out⟩
  have := O2.out
  rwa [Nat.zero_add, List.nil_append, ← HNN.out] at this
set_option maxHeartbeats 4000000 in
set_option maxRecDepth 1000000 in
theorem cloneRows_any (v : Value) (xs : List Value) (w : World) (hr : Row w v xs) (h1 : ∀ u ∈ xs, u.oneCell' = true) (hn : xs.length ≤ 1048576) :
  Calls Try.prog 36 #[v] w fun e w' => ∃ u, e = .returned u ∧ w'.ownsRow w.heap.size 41 1 u xs.length xs ∧ Below w.heap.size w w' := by
 have HR := qH hr
 have H1 := qH h1
 have HN := qH hn
 obtain ⟨i, hi, hz, hs, hy⟩ := infoC (show (Try.prog.info? 41).map (fun i => (i.zero, i.size, i.bytes)) = some (some (.slice none 0 0), 1, 24) by kernel_rfl)
 obtain ⟨A, cap, rfl, hl, hm, h0, _⟩ := hr
 cases A with
 | none =>
  obtain rfl : cap = 0 := h0 rfl
  have hx : xs = [] := List.eq_nil_of_length_eq_zero (by omega)
  subst hx
  clear hl hm h0 h1 hn HR H1 HN hi hz hs hy
  have hq : ∀ W, (binOp .eql 25 (.slice none 0 0) (.slice none 0 0)).run Try.prog W = .ok (.bool true) W := fun W => Lib.run_eql_slice_nil W 25 41 none 0 0 0 0 Try.underlying25
  go_enter Try.func36, Try.ntmps36
  go_wp2_with fail
  go_ret
  exact ⟨_, rfl, ownC_nil _ _ _, Below.refl _ _⟩
 | some ad =>
  obtain ⟨n, hnn⟩ : ∃ n, n = xs.length := ⟨_, rfl⟩
  rw [← hnn] at HR HN hl ⊢
  have HNN := qH hnn
  have HIZ := qH (And.intro hz (And.intro hs hy))
  have HI := qH hi
  clear hl hm h0 h1 hn hnn hi hz hs hy
  have hq : ∀ W, (binOp .eql 25 (.slice (some ad) n cap) (.slice none 0 0)).run Try.prog W = .ok (.bool false) W := fun W => Lib.run_eql_slice_nil W 25 41 (some ad) n cap 0 0 Try.underlying25
  go_enter Try.func36, Try.ntmps36
  go_wp2_with (first
   | ((with_reducible refine atDst 5 ?_); refine wpList_bld0 rfl 25 41 rfl i Try.underlying25 HI.out (.slice none 0 0) HIZ.out.1 HIZ.out.2.1 ?_; intro w1 ho1 hb1; have O1 := qH ho1; have B1 := qH hb1; clear ho1 hb1; (try simp only [Act.put, qA, qB, qC]))
   | ((with_reducible refine atDst 7 ?_); refine wpList_appR (w0 := w) rfl (.tmp 5) (.tmp 6) 25 rfl 41 i (.slice none 0 0) 24 Try.underlying25 HI.out HIZ.out.1 HIZ.out.2.1 HIZ.out.2.2 rfl _ 0 [] rfl O1.out _ xs rfl (HR.out.below B1.out) H1.out (by rw [← HNN.out, Nat.zero_add]; exact HN.out) (by decide) B1.out ?_; intro v2 w2 ho2 hr2 hb2 _; have O2 := qH ho2; have B2 := qH hb2; clear ho2 hr2 hb2; (try simp only [Act.put, qA, qB, qC])))
  go_ret
  refine ⟨_, rfl, ?_, B2.out⟩
  have := O2.out
  rwa [Nat.zero_add, List.nil_append, ← HNN.out] at this
end Go.Proofs.Ytbbodfpnneifgaa
