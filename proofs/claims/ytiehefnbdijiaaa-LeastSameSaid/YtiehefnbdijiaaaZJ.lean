/-
  Texts of this proof, put together: LpG, LqA. No statement is proved here.
-/
import Derived.Test.YtiehefnbdijiaaaZF
import Derived.Test.YtiehefnbdijiaaaZE
import Derived.Test.YtiehefnbdijiaaaZI
namespace Go.Proofs.Ytiehefnbdijiaaa
open Go.RowKit
set_option linter.unusedSimpArgs false
set_option linter.unusedVariables false
theorem ne_ends {D E : Dm} {j : Nat} (h : D.ends[j]? ≠ E.ends[j]?) : decide (D = E) = false := decide_eq_false fun e => h (by rw [e])
theorem ne_next {D E : Dm} {j : Nat} (h : D.next[j]? ≠ E.next[j]?) : decide (D = E) = false := decide_eq_false fun e => h (by rw [e])
theorem eq_dm {D E : Dm} (h1 : D.cl = E.cl) (h2 : D.next = E.next) (h3 : D.ends = E.ends) : decide (D = E) = true := decide_eq_true (by
 obtain ⟨c1, n1, e1⟩ := D
 obtain ⟨c2, n2, e2⟩ := E
 simp only at h1 h2 h3
 rw [h1, h2, h3])
theorem ext_to {α : Type} {x y : List α} {n : Nat} (hx : n = x.length) (hy : n = y.length) (h : ∀ j, j < n → x[j]? = y[j]?) : x = y := List.ext_getElem? fun j => by
 by_cases hj : j < n
 ·exact h j hj
 ·rw [List.getElem?_eq_none (by omega), List.getElem?_eq_none (by omega)]
theorem next_to {α : Type} {x y : List α} {i : Nat} {u : α} (h : ∀ j, j < i → x[j]? = y[j]?) (hx : x[i]? = some u) (hy : y[i]? = some u) : ∀ j, j < i + 1 → x[j]? = y[j]? := fun j hj => by
 rcases Nat.lt_succ_iff_lt_or_eq.1 hj with h1 | h1
 ·exact h j h1
 ·rw [h1, hx, hy]
set_option maxHeartbeats 8000000 in
set_option maxRecDepth 1000000 in
theorem refSame11G_any (D E : Dm) (cs es : List Value) (w : World) (hv : DfaV w cs D) (he : DfaV w es E) (hN : D.next.length ≤ 2000) (hE : D.ends.length ≤ 2000) (hR : ∀ r ∈ D.next, r.length ≤ 2000) :
  Calls Try.prog 8 #[.agg cs.toArray, .agg es.toArray] w fun e w' => e = .returned (.bool (decide (D = E))) ∧ Below w.heap.size w w' := by
 obtain ⟨An, Ae, cn, ce, vf, hl, hcs, hn, hr, hne⟩ := hv.form
 obtain ⟨Bn, Be, dn, de, uf, hl2, hes, hn2, hr2, hne2⟩ := he.form
 have HL := qH hl
 have HL2 := qH hl2
 have HR1 := qH hr
 have HR2 := qH hr2
 obtain ⟨n, hnn⟩ : ∃ n, n = D.next.length := ⟨_, rfl⟩
 obtain ⟨n2, hnn2⟩ : ∃ n, n = E.next.length := ⟨_, rfl⟩
 obtain ⟨m, hmm⟩ : ∃ n, n = D.ends.length := ⟨_, rfl⟩
 obtain ⟨m2, hmm2⟩ : ∃ n, n = E.ends.length := ⟨_, rfl⟩
 have HN := qH hnn
 have HN2 := qH hnn2
 have HM := qH hmm
 have HM2 := qH hmm2
 rw [← hnn, ← hmm] at hcs
 rw [← hnn2, ← hmm2] at hes
 rw [← hnn] at hn hN
 rw [← hnn2] at hn2
 rw [← hmm] at hne hE
 rw [← hmm2] at hne2
 have HCS := qH hcs
 have HCS2 := qH hes
 have HT1 := qH hn
 have HT2 := qH hn2
 have HE1 := qH hne
 have HE2 := qH hne2
 have HNF := qH hN
 have HEF := qH hE
 have HRF := qH hR
 obtain ⟨cl, hcl⟩ : ∃ cl, cl = D.cl := ⟨_, rfl⟩
 obtain ⟨cm, hcm⟩ : ∃ cl, cl = E.cl := ⟨_, rfl⟩
 have HCL := qH hcl
 have HCM := qH hcm
 rw [← hcl] at HL HCS
 rw [← hcm] at HL2 HCS2
 obtain ⟨q1, hq1⟩ : ∃ q, q = decide (cl = cm) := ⟨_, rfl⟩
 have HQ1 := qH hq1
 have HSC := qH (show (Try.prog.info? 24).map (·.size) = some (bvs cl).length from size_ctab HL.out)
 have HSC2 := qH (show (Try.prog.info? 24).map (·.size) = some (bvs cm).length from size_ctab HL2.out)
 clear hv he hl hl2 hcs hes hn hr hne hn2 hr2 hne2 hN hE hR hcl hcm hq1 hnn hnn2 hmm hmm2
 cases q1 with
 | false =>
  have HF := qH (show decide (D = E) = false from decide_eq_false fun h => of_decide_eq_false HQ1.out.symm (by rw [HCL.out, HCM.out, h]))
  go_enter Try.func8, Try.ntmps8
  go_wp2_with (first
   | ((with_reducible refine atDst 2 ?_); refine wpList_box rfl 28 _ rfl cs rfl (Below.refl w.heap.size w) (Nat.le_refl _) ?_; intro w1 hk1 hb1 hs1 _; have K1 := qH hk1; have B1 := qH hb1; clear hk1 hb1 hs1; (try simp only [Act.put, qA, qB, qC]))
   | ((with_reducible refine atDst 3 ?_); refine wpList_box rfl 28 _ rfl es rfl (Below.refl w1.heap.size w1) (Nat.le_refl _) ?_; intro w2 hk hb hs _; have L2 := qH hk; have K2 := qH (K1.out.below hb K1.out.lt); have B2 := qH (B1.out.trans (hb.mono B1.out.size)); (skip); have r1 := qH (show w2.rangeAt w.heap.size 0 (bvs cl) from fun i v hv => by { rw [Nat.zero_add, K2.out.cell i, HCS.out, dcl_cl HL.out (by have := (List.getElem?_eq_some_iff.1 hv).1; rw [bvs_length, HL.out] at this; exact this)]; exact hv }); have r2 := qH (show w2.rangeAt w1.heap.size 0 (bvs cm) from fun i v hv => by { rw [Nat.zero_add, L2.out.cell i, HCS2.out, dcl_cl HL2.out (by have := (List.getElem?_eq_some_iff.1 hv).1; rw [bvs_length, HL2.out] at this; exact this)]; exact hv }); clear hk hb hs; (try simp only [Act.put, qA, qB, qC]))
   | ((with_reducible refine atDst 9 ?_); refine wpList_load_mid rfl 24 _ rfl w.heap.size 0 rfl (bvs cl) _ r1.out Try.underlying24 rfl HSC.out ?_; (try simp only [Act.put, qA, qB, qC]))
   | ((with_reducible refine atDst 11 ?_); refine wpList_load_mid rfl 24 _ rfl w1.heap.size 0 rfl (bvs cm) _ r2.out Try.underlying24 rfl HSC2.out ?_; (try simp only [Act.put, qA, qB, qC]))
   | ((with_reducible refine atDst 12 ?_); refine wpList_neArr rfl 24 5 256 (.tmp 9) (.tmp 11) 24 rfl guard_cls Try.underlying24 Try.underlying5 size_byte cl cm HL.out HL2.out rfl rfl ?_; rw [← HQ1.out]; (try simp only [Act.put, qA, qB, qC])))
  go_ret
  rw [HF.out]
  exact ⟨rfl, B2.out⟩
 | true =>
  by_cases hnn : n = n2
  ·subst hnn
   by_cases hmm : m = m2
   ·subst hmm
    have x1 : ((n : Int) != (n : Int)) = false := by simp
    have x2 : ((m : Int) != (m : Int)) = false := by simp
    go_enter Try.func8, Try.ntmps8
    go_wp2_with (first
     | ((with_reducible refine atDst 2 ?_); refine wpList_box rfl 28 _ rfl cs rfl (Below.refl w.heap.size w) (Nat.le_refl _) ?_; intro w1 hk1 hb1 hs1 _; have K1 := qH hk1; have B1 := qH hb1; clear hk1 hb1 hs1; (try simp only [Act.put, qA, qB, qC]))
     | ((with_reducible refine atDst 3 ?_); refine wpList_box rfl 28 _ rfl es rfl (Below.refl w1.heap.size w1) (Nat.le_refl _) ?_; intro w2 hk hb hs _; have L2 := qH hk; have K2 := qH (K1.out.below hb K1.out.lt); have B2 := qH (B1.out.trans (hb.mono B1.out.size)); (have c256 : w2.cell? ⟨w.heap.size, 256, none⟩ = some (.slice An n cn) := (by rw [K2.out.cell 256, HCS.out]; exact dcl_n HL.out); have d256 : w2.cell? ⟨w1.heap.size, 256, none⟩ = some (.slice Bn n dn) := (by rw [L2.out.cell 256, HCS2.out]; exact dcl_n HL2.out); have c257 : w2.cell? ⟨w.heap.size, 257, none⟩ = some (.slice Ae m ce) := (by rw [K2.out.cell 257, HCS.out]; exact dcl_e HL.out); have d257 : w2.cell? ⟨w1.heap.size, 257, none⟩ = some (.slice Be m de) := (by rw [L2.out.cell 257, HCS2.out]; exact dcl_e HL2.out)); have r1 := qH (show w2.rangeAt w.heap.size 0 (bvs cl) from fun i v hv => by { rw [Nat.zero_add, K2.out.cell i, HCS.out, dcl_cl HL.out (by have := (List.getElem?_eq_some_iff.1 hv).1; rw [bvs_length, HL.out] at this; exact this)]; exact hv }); have r2 := qH (show w2.rangeAt w1.heap.size 0 (bvs cm) from fun i v hv => by { rw [Nat.zero_add, L2.out.cell i, HCS2.out, dcl_cl HL2.out (by have := (List.getElem?_eq_some_iff.1 hv).1; rw [bvs_length, HL2.out] at this; exact this)]; exact hv }); clear hk hb hs; (try simp only [Act.put, qA, qB, qC]))
     | ((with_reducible refine atDst 9 ?_); refine wpList_load_mid rfl 24 _ rfl w.heap.size 0 rfl (bvs cl) _ r1.out Try.underlying24 rfl HSC.out ?_; (try simp only [Act.put, qA, qB, qC]))
     | ((with_reducible refine atDst 11 ?_); refine wpList_load_mid rfl 24 _ rfl w1.heap.size 0 rfl (bvs cm) _ r2.out Try.underlying24 rfl HSC2.out ?_; (try simp only [Act.put, qA, qB, qC]))
     | ((with_reducible refine atDst 12 ?_); refine wpList_neArr rfl 24 5 256 (.tmp 9) (.tmp 11) 24 rfl guard_cls Try.underlying24 Try.underlying5 size_byte cl cm HL.out HL2.out rfl rfl ?_; rw [← HQ1.out]; (try simp only [Act.put, qA, qB, qC])))
    clear c256 c257 d256 d257 x1 x2
    have HG1 := qH (show w.heap.size < w2.heap.size from K2.out.lt)
    have HG2 := qH (show w1.heap.size < w2.heap.size from L2.out.lt)
    have C256 := qH (show ∀ V, Below w2.heap.size w2 V → V.cell? ⟨w.heap.size, 256, none⟩ = some (.slice An n cn) from fun V hV => (hV.cell (p := ⟨w.heap.size, 256, none⟩) HG1.out).trans (by rw [K2.out.cell 256, HCS.out]; exact dcl_n HL.out))
    have C257 := qH (show ∀ V, Below w2.heap.size w2 V → V.cell? ⟨w.heap.size, 257, none⟩ = some (.slice Ae m ce) from fun V hV => (hV.cell (p := ⟨w.heap.size, 257, none⟩) HG1.out).trans (by rw [K2.out.cell 257, HCS.out]; exact dcl_e HL.out))
    have D256 := qH (show ∀ V, Below w2.heap.size w2 V → V.cell? ⟨w1.heap.size, 256, none⟩ = some (.slice Bn n dn) from fun V hV => (hV.cell (p := ⟨w1.heap.size, 256, none⟩) HG2.out).trans (by rw [L2.out.cell 256, HCS2.out]; exact dcl_n HL2.out))
    have D257 := qH (show ∀ V, Below w2.heap.size w2 V → V.cell? ⟨w1.heap.size, 257, none⟩ = some (.slice Be m de) from fun V hV => (hV.cell (p := ⟨w1.heap.size, 257, none⟩) HG2.out).trans (by rw [L2.out.cell 257, HCS2.out]; exact dcl_e HL2.out))
    go_loopw [5] (fun jv wl => ∃ j : Nat, j ≤ m ∧ jv = .int .i64 (j : Int) ∧ (∀ q, q < j → D.ends[q]? = E.ends[q]?) ∧ Below w2.heap.size w2 wl) (fun jv _ => m - (intOf jv).toNat)
    case atStart => exact ⟨0, Nat.zero_le _, rfl, fun q hq => absurd hq (Nat.not_lt_zero q), Below.refl _ _⟩
    obtain ⟨j, hj, rfl, heq, hb⟩ := hrel
    have HJ := qH hj
    have HEQ := qH heq
    have BQ := qH hb
    obtain ⟨wq, hwq⟩ : ∃ v : World, v = wr := ⟨_, rfl⟩
    subst hwq
    have c257 := C257.out wq hb
    clear hj heq hb
    by_cases hjm : j < m
    ·have x1 : (j : Int) < (m : Int) := Int.ofNat_lt.2 hjm
     have HJM := qH hjm
     have HMJ := qH (sub_next hjm)
     have e3 := wrap_one j (lt_bigN hjm HEF.out)
     have e4 := wrap_one' j (lt_bigN hjm HEF.out)
     obtain ⟨b, hb⟩ : ∃ b, D.ends[j]? = some b := ⟨_, List.getElem?_eq_getElem (by rw [← HM.out]; exact hjm)⟩
     obtain ⟨b', hb'⟩ : ∃ b, E.ends[j]? = some b := ⟨_, List.getElem?_eq_getElem (by rw [← HM2.out]; exact hjm)⟩
     obtain ⟨b1, o1, rfl, hl1, hc1⟩ := (HE1.out.below (B2.out.trans (BQ.out.mono B2.out.size))).at_ (by rw [bools_length, ← HM.out]; exact Nat.lt_of_le_of_lt (Nat.zero_le _) hjm)
     obtain ⟨b2, o2, rfl, hl2, hc2⟩ := (HE2.out.below (B2.out.trans (BQ.out.mono B2.out.size))).at_ (by rw [bools_length, ← HM2.out]; exact Nat.lt_of_le_of_lt (Nat.zero_le _) hjm)
     have HC1 := qH (hc1 j (.bool b) (by simp [bools, hb]))
     have HC2 := qH (hc2 j (.bool b') (by simp [bools, hb']))
     have HLL1 := qH hl1
     have HLL2 := qH hl2
     have HBB := qH hb
     have HBB' := qH hb'
     obtain ⟨z, hz⟩ : ∃ z, (b != b') = z := ⟨_, rfl⟩
     have HZ := qH hz
     clear hjm hb hb' hl1 hl2 hc1 hc2 hz
     go_wp2_with fail
     clear c257
     refine sx_startB (B := wq.heap.size) (w0 := wq) (by kernel_rfl) (Below.refl _ _) (fun wd hwd hX => ?_)
     clear hwd
     have TO := qH (show ∀ V, Below wq.heap.size wq V → Below w2.heap.size w2 V from fun V hV => BQ.out.trans (hV.mono BQ.out.size))
     refine sx_take (i := 0) (oi := ⟨some 38, _, _, _, _, _⟩) (v := ?_) rfl (by kernel_rfl) (by kernel_rfl) (by kernel_rfl) (fun _ _ _ h => h) rfl hX ?_ ?_; rotate_left; (intro W hW; go_simp; try with_reducible rfl); simp only [Act.put, qA, qB, qC]
     refine sx_take (i := 1) (oi := ⟨some 39, _, _, _, _, _⟩) (v := .slice (some ⟨b1, o1, none⟩) m ce) rfl (by kernel_rfl) (by kernel_rfl) (by kernel_rfl) (fun _ _ _ h => h) rfl hX (fun V hV => ld_bls (.tmp 38) rfl rfl (C257.out V (TO.out V hV))) ?_; simp only [Act.put, qA, qB, qC]
     refine sx_take (i := 2) (oi := ⟨some 40, _, _, _, _, _⟩) (v := ?_) rfl (by kernel_rfl) (by kernel_rfl) (by kernel_rfl) (fun _ _ _ h => h) rfl hX ?_ ?_; rotate_left; (intro W hW; go_simp; try with_reducible rfl); simp only [Act.put, qA, qB, qC]
     refine sx_take (i := 3) (oi := ⟨some 41, _, _, _, _, _⟩) (v := ?_) rfl (by kernel_rfl) (by kernel_rfl) (by kernel_rfl) (fun _ _ _ h => h) rfl hX ?_ ?_; rotate_left; (intro W hW; go_simp; try with_reducible rfl); simp only [Act.put, qA, qB, qC]
     refine sx_take (i := 4) (oi := ⟨some 42, _, _, _, _, _⟩) (v := .bool b) rfl (by kernel_rfl) (by kernel_rfl) (by kernel_rfl) (fun _ _ _ h => h) rfl hX (fun V hV => ld_boolQ (.tmp 41) rfl rfl ((hV.cell (p := ⟨b1, o1 + j, none⟩) HLL1.out).trans HC1.out)) ?_; simp only [Act.put, qA, qB, qC]
     refine sx_take (i := 5) (oi := ⟨some 43, _, _, _, _, _⟩) (v := ?_) rfl (by kernel_rfl) (by kernel_rfl) (by kernel_rfl) (fun _ _ _ h => h) rfl hX ?_ ?_; rotate_left; (intro W hW; go_simp; try with_reducible rfl); simp only [Act.put, qA, qB, qC]
     refine sx_take (i := 6) (oi := ⟨some 44, _, _, _, _, _⟩) (v := .slice (some ⟨b2, o2, none⟩) m de) rfl (by kernel_rfl) (by kernel_rfl) (by kernel_rfl) (fun _ _ _ h => h) rfl hX (fun V hV => ld_bls (.tmp 43) rfl rfl (D257.out V (TO.out V hV))) ?_; simp only [Act.put, qA, qB, qC]
     refine sx_take (i := 7) (oi := ⟨some 45, _, _, _, _, _⟩) (v := ?_) rfl (by kernel_rfl) (by kernel_rfl) (by kernel_rfl) (fun _ _ _ h => h) rfl hX ?_ ?_; rotate_left; (intro W hW; go_simp; try with_reducible rfl); simp only [Act.put, qA, qB, qC]
     refine sx_take (i := 8) (oi := ⟨some 46, _, _, _, _, _⟩) (v := ?_) rfl (by kernel_rfl) (by kernel_rfl) (by kernel_rfl) (fun _ _ _ h => h) rfl hX ?_ ?_; rotate_left; (intro W hW; go_simp; try with_reducible rfl); simp only [Act.put, qA, qB, qC]
     refine sx_take (i := 9) (oi := ⟨some 47, _, _, _, _, _⟩) (v := .bool b') rfl (by kernel_rfl) (by kernel_rfl) (by kernel_rfl) (fun _ _ _ h => h) rfl hX (fun V hV => ld_boolQ (.tmp 46) rfl rfl ((hV.cell (p := ⟨b2, o2 + j, none⟩) HLL2.out).trans HC2.out)) ?_; simp only [Act.put, qA, qB, qC]
     refine sx_take (i := 10) (oi := ⟨some 48, _, _, _, _, _⟩) (v := .bool z) rfl (by kernel_rfl) (by kernel_rfl) (by kernel_rfl) (fun _ _ _ h => h) rfl hX (fun V _ => ex_neP (.tmp 42) (.tmp 47) rfl rfl rfl HZ.out V) ?_; simp only [Act.put, qA, qB, qC]
     refine wpAnyH_done (by kernel_rfl) ?_ _
     have BE := qH (TO.out _ hX)
     clear hX
     cases z with
     | false =>
      have HN1 := qH (next_to (u := b) HEQ.out HBB.out (by rw [HBB'.out, show b = b' by simpa using HZ.out]))
      go_wp2_with fail
      exact ⟨⟨j + 1, HJM.out, by congr 1, HN1.out, BE.out⟩, by simpa [intOf] using HMJ.out⟩
     | true =>
      have HF := qH (ne_ends (D := D) (E := E) (j := j) fun h => by
       rw [HBB.out, HBB'.out] at h
       have h9 := HZ.out
       rw [Option.some.inj h] at h9
       simp at h9)
      have BF := qH (B2.out.trans (BE.out.mono B2.out.size))
      go_wp2_with fail
      go_ret
      rw [HF.out]
      exact ⟨rfl, BF.out⟩
    ·obtain rfl : m = j := Nat.le_antisymm (Nat.le_of_not_lt hjm) HJ.out
     have x1 : ¬ ((m : Int) < (m : Int)) := Int.lt_irrefl _
     have HENDS := qH (ext_to HM.out HM2.out HEQ.out)
     clear hjm
     go_wp2_with fail
     clear c257
     go_loopw [6] (fun iv wl => ∃ i : Nat, i ≤ n ∧ iv = .int .i64 (i : Int) ∧ (∀ q, q < i → D.next[q]? = E.next[q]?) ∧ Below w2.heap.size w2 wl) (fun iv _ => n - (intOf iv).toNat)
     case atStart => exact ⟨0, Nat.zero_le _, rfl, fun q hq => absurd hq (Nat.not_lt_zero q), BQ.out⟩
     clear BQ
     obtain ⟨i, hi, rfl, heq, hb⟩ := hrel
     have HI := qH hi
     have HEQN := qH heq
     have BI := qH hb
     obtain ⟨wi, hwi⟩ : ∃ v : World, v = wr := ⟨_, rfl⟩
     subst hwi
     have c256 := C256.out wi hb
     clear hi heq hb
     by_cases hin : i < n
     ·have y1 : (i : Int) < (n : Int) := Int.ofNat_lt.2 hin
      have HIN := qH hin
      have HMI := qH (sub_next hin)
      have f3 := wrap_one i (lt_bigN hin HNF.out)
      have f4 := wrap_one' i (lt_bigN hin HNF.out)
      obtain ⟨r, hr⟩ : ∃ r, D.next[i]? = some r := ⟨_, List.getElem?_eq_getElem (by rw [← HN.out]; exact hin)⟩
      obtain ⟨r', hr'⟩ : ∃ r, E.next[i]? = some r := ⟨_, List.getElem?_eq_getElem (by rw [← HN2.out]; exact hin)⟩
      have BW := qH (B2.out.trans (BI.out.mono B2.out.size))
      have hri := HR1.out i r hr
      have hri' := HR2.out i r' hr'
      have HRI := qH hri
      have HRI' := qH hri'
      obtain ⟨k, hk⟩ : ∃ k, k = r.length := ⟨_, rfl⟩
      obtain ⟨k', hk'⟩ : ∃ k, k = r'.length := ⟨_, rfl⟩
      have HKR := qH hk
      have HKR' := qH hk'
      have HKF := qH (show k ≤ 2000 by rw [hk]; exact HRF.out r (List.mem_of_getElem? hr))
      obtain ⟨Ar, cr, hvr, _⟩ := hri
      obtain ⟨Ar', cr', hvr', _⟩ := hri'
      rw [nums_length, ← hk] at hvr
      rw [nums_length, ← hk'] at hvr'
      rw [hvr] at HRI
      rw [hvr'] at HRI'
      have hpos : 0 < n := Nat.lt_of_le_of_lt (Nat.zero_le _) hin
      obtain ⟨b1, o1, rfl, hl1, hc1⟩ := (HT1.out.below BW.out).at_ (by rw [List.length_map, List.length_range]; exact hpos)
      obtain ⟨b2, o2, rfl, hl2, hc2⟩ := (HT2.out.below BW.out).at_ (by rw [List.length_map, List.length_range]; exact hpos)
      have HC1 := qH (show wi.cell? ⟨b1, o1 + i, none⟩ = some (.slice Ar k cr) from hc1 i _ (by simp [hin, hvr]))
      have HC2 := qH (show wi.cell? ⟨b2, o2 + i, none⟩ = some (.slice Ar' k' cr') from hc2 i _ (by simp [hin, hvr']))
      have HLL1 := qH hl1
      have HLL2 := qH hl2
      have HRR := qH hr
      have HRR' := qH hr'
      obtain ⟨z, hz⟩ : ∃ z, ((k : Int) != (k' : Int)) = z := ⟨_, rfl⟩
      have HZ := qH hz
      clear hin hr hr' hk hk' hvr hvr' hpos hl1 hl2 hc1 hc2 hz
      go_wp2_with fail
      clear c256
      refine sx_startB (B := wi.heap.size) (w0 := wi) (by kernel_rfl) (Below.refl _ _) (fun wd hwd hX => ?_)
      clear hwd
      have TO := qH (show ∀ V, Below wi.heap.size wi V → Below w2.heap.size w2 V from fun V hV => BI.out.trans (hV.mono BI.out.size))
      refine sx_take (i := 0) (oi := ⟨some 56, _, _, _, _, _⟩) (v := ?_) rfl (by kernel_rfl) (by kernel_rfl) (by kernel_rfl) (fun _ _ _ h => h) rfl hX ?_ ?_; rotate_left; (intro W hW; go_simp; try with_reducible rfl); simp only [Act.put, qA, qB, qC]
      refine sx_take (i := 1) (oi := ⟨some 57, _, _, _, _, _⟩) (v := .slice (some ⟨b1, o1, none⟩) n cn) rfl (by kernel_rfl) (by kernel_rfl) (by kernel_rfl) (fun _ _ _ h => h) rfl hX (fun V hV => ld_inss (.tmp 56) rfl rfl (C256.out V (TO.out V hV))) ?_; simp only [Act.put, qA, qB, qC]
      refine sx_take (i := 2) (oi := ⟨some 58, _, _, _, _, _⟩) (v := ?_) rfl (by kernel_rfl) (by kernel_rfl) (by kernel_rfl) (fun _ _ _ h => h) rfl hX ?_ ?_; rotate_left; (intro W hW; go_simp; try with_reducible rfl); simp only [Act.put, qA, qB, qC]
      refine sx_take (i := 3) (oi := ⟨some 59, _, _, _, _, _⟩) (v := ?_) rfl (by kernel_rfl) (by kernel_rfl) (by kernel_rfl) (fun _ _ _ h => h) rfl hX ?_ ?_; rotate_left; (intro W hW; go_simp; try with_reducible rfl); simp only [Act.put, qA, qB, qC]
      refine sx_take (i := 4) (oi := ⟨some 60, _, _, _, _, _⟩) (v := .slice Ar k cr) rfl (by kernel_rfl) (by kernel_rfl) (by kernel_rfl) (fun _ _ _ h => h) rfl hX (fun V hV => ld_ints (.tmp 59) rfl rfl ((hV.cell (p := ⟨b1, o1 + i, none⟩) HLL1.out).trans HC1.out)) ?_; simp only [Act.put, qA, qB, qC]
      refine sx_take (i := 5) (oi := ⟨some 61, _, _, _, _, _⟩) (v := ?_) rfl (by kernel_rfl) (by kernel_rfl) (by kernel_rfl) (fun _ _ _ h => h) rfl hX ?_ ?_; rotate_left; (intro W hW; go_simp; try with_reducible rfl); simp only [Act.put, qA, qB, qC]
      refine sx_take (i := 6) (oi := ⟨some 62, _, _, _, _, _⟩) (v := ?_) rfl (by kernel_rfl) (by kernel_rfl) (by kernel_rfl) (fun _ _ _ h => h) rfl hX ?_ ?_; rotate_left; (intro W hW; go_simp; try with_reducible rfl); simp only [Act.put, qA, qB, qC]
      refine sx_take (i := 7) (oi := ⟨some 63, _, _, _, _, _⟩) (v := .slice (some ⟨b2, o2, none⟩) n dn) rfl (by kernel_rfl) (by kernel_rfl) (by kernel_rfl) (fun _ _ _ h => h) rfl hX (fun V hV => ld_inss (.tmp 62) rfl rfl (D256.out V (TO.out V hV))) ?_; simp only [Act.put, qA, qB, qC]
      refine sx_take (i := 8) (oi := ⟨some 64, _, _, _, _, _⟩) (v := ?_) rfl (by kernel_rfl) (by kernel_rfl) (by kernel_rfl) (fun _ _ _ h => h) rfl hX ?_ ?_; rotate_left; (intro W hW; go_simp; try with_reducible rfl); simp only [Act.put, qA, qB, qC]
      refine sx_take (i := 9) (oi := ⟨some 65, _, _, _, _, _⟩) (v := ?_) rfl (by kernel_rfl) (by kernel_rfl) (by kernel_rfl) (fun _ _ _ h => h) rfl hX ?_ ?_; rotate_left; (intro W hW; go_simp; try with_reducible rfl); simp only [Act.put, qA, qB, qC]
      refine sx_take (i := 10) (oi := ⟨some 66, _, _, _, _, _⟩) (v := .slice Ar' k' cr') rfl (by kernel_rfl) (by kernel_rfl) (by kernel_rfl) (fun _ _ _ h => h) rfl hX (fun V hV => ld_ints (.tmp 65) rfl rfl ((hV.cell (p := ⟨b2, o2 + i, none⟩) HLL2.out).trans HC2.out)) ?_; simp only [Act.put, qA, qB, qC]
      refine sx_take (i := 11) (oi := ⟨some 67, _, _, _, _, _⟩) (v := ?_) rfl (by kernel_rfl) (by kernel_rfl) (by kernel_rfl) (fun _ _ _ h => h) rfl hX ?_ ?_; rotate_left; (intro W hW; go_simp; try with_reducible rfl); simp only [Act.put, qA, qB, qC]
      refine sx_take (i := 12) (oi := ⟨some 68, _, _, _, _, _⟩) (v := .bool z) rfl (by kernel_rfl) (by kernel_rfl) (by kernel_rfl) (fun _ _ _ h => h) rfl hX (fun V _ => ex_neJ (.tmp 61) (.tmp 67) rfl rfl rfl HZ.out V) ?_; simp only [Act.put, qA, qB, qC]
      refine wpAnyH_done (by kernel_rfl) ?_ _
      have BE := qH (hX)
      clear hX
      cases z with
      | true =>
       have HF := qH (ne_next (D := D) (E := E) (j := i) fun h => by
        rw [HRR.out, HRR'.out] at h
        have h9 := HZ.out
        rw [HKR.out, HKR'.out, Option.some.inj h] at h9
        simp at h9)
       have BF := qH (B2.out.trans ((TO.out _ BE.out).mono B2.out.size))
       go_wp2_with fail
       go_ret
       rw [HF.out]
       exact ⟨rfl, BF.out⟩
      | false =>
       have hkk : k = k' := Int.ofNat_inj.1 (by simpa using HZ.out)
       subst hkk
       go_wp2_with fail
       go_loopw [7] (fun jv wl => ∃ j : Nat, j ≤ k ∧ jv = .int .i64 (j : Int) ∧ (∀ q, q < j → r[q]? = r'[q]?) ∧ Below wi.heap.size wi wl) (fun jv _ => k - (intOf jv).toNat)
       case atStart => exact ⟨0, Nat.zero_le _, rfl, fun q hq => absurd hq (Nat.not_lt_zero q), BE.out⟩
       clear BE
       obtain ⟨q, hq, rfl, heq, hb⟩ := hrel
       have HQ := qH hq
       have HEQR := qH heq
       have BJ := qH hb
       obtain ⟨wj, hwj⟩ : ∃ v : World, v = wr := ⟨_, rfl⟩
       subst hwj
       have c256 := C256.out wj (TO.out wj hb)
       have cri : wj.cell? ⟨b1, o1 + i, none⟩ = some (.slice Ar k cr) := (hb.cell (p := ⟨b1, o1 + i, none⟩) HLL1.out).trans HC1.out
       clear hq heq hb
       by_cases hqk : q < k
       ·have z1 : (q : Int) < (k : Int) := Int.ofNat_lt.2 hqk
        have HQK := qH hqk
        have HMQ := qH (sub_next hqk)
        have g3 := wrap_one q (lt_bigN hqk HKF.out)
        have g4 := wrap_one' q (lt_bigN hqk HKF.out)
        obtain ⟨x, hx⟩ : ∃ x, r[q]? = some x := ⟨_, List.getElem?_eq_getElem (by rw [← HKR.out]; exact hqk)⟩
        obtain ⟨y, hy⟩ : ∃ x, r'[q]? = some x := ⟨_, List.getElem?_eq_getElem (by rw [← HKR'.out]; exact hqk)⟩
        have BWJ := qH (BW.out.trans (BJ.out.mono BW.out.size))
        obtain ⟨b3, o3, rfl, hl3, hc3⟩ := (HRI.out.below BWJ.out).at_ (by rw [nums_length, ← HKR.out]; exact Nat.lt_of_le_of_lt (Nat.zero_le _) hqk)
        obtain ⟨b4, o4, rfl, hl4, hc4⟩ := (HRI'.out.below BWJ.out).at_ (by rw [nums_length, ← HKR'.out]; exact Nat.lt_of_le_of_lt (Nat.zero_le _) hqk)
        have HC3 := qH (hc3 q (.int .i64 x) (by simp [nums, hx]))
        have HC4 := qH (hc4 q (.int .i64 y) (by simp [nums, hy]))
        have HL3 := qH hl3
        have HL4 := qH hl4
        have HXX := qH hx
        have HYY := qH hy
        obtain ⟨z, hz⟩ : ∃ z, (x != y) = z := ⟨_, rfl⟩
        have HZ2 := qH hz
        clear hqk hx hy hl3 hl4 hc3 hc4 hz
        go_wp2_with fail
        clear c256 cri
        refine sx_startB (B := wj.heap.size) (w0 := wj) (by kernel_rfl) (Below.refl _ _) (fun wd2 hwd hX => ?_)
        clear hwd
        have TOJ := qH (show ∀ V, Below wj.heap.size wj V → Below wi.heap.size wi V from fun V hV => BJ.out.trans (hV.mono BJ.out.size))
        refine sx_take (i := 0) (oi := ⟨some 79, _, _, _, _, _⟩) (v := ?_) rfl (by kernel_rfl) (by kernel_rfl) (by kernel_rfl) (fun _ _ _ h => h) rfl hX ?_ ?_; rotate_left; (intro W hW; go_simp; try with_reducible rfl); simp only [Act.put, qA, qB, qC]
        refine sx_take (i := 1) (oi := ⟨some 80, _, _, _, _, _⟩) (v := .slice (some ⟨b1, o1, none⟩) n cn) rfl (by kernel_rfl) (by kernel_rfl) (by kernel_rfl) (fun _ _ _ h => h) rfl hX (fun V hV => ld_inss (.tmp 79) rfl rfl (C256.out V (TO.out V (TOJ.out V hV)))) ?_; simp only [Act.put, qA, qB, qC]
        refine sx_take (i := 2) (oi := ⟨some 81, _, _, _, _, _⟩) (v := ?_) rfl (by kernel_rfl) (by kernel_rfl) (by kernel_rfl) (fun _ _ _ h => h) rfl hX ?_ ?_; rotate_left; (intro W hW; go_simp; try with_reducible rfl); simp only [Act.put, qA, qB, qC]
        refine sx_take (i := 3) (oi := ⟨some 82, _, _, _, _, _⟩) (v := ?_) rfl (by kernel_rfl) (by kernel_rfl) (by kernel_rfl) (fun _ _ _ h => h) rfl hX ?_ ?_; rotate_left; (intro W hW; go_simp; try with_reducible rfl); simp only [Act.put, qA, qB, qC]
        refine sx_take (i := 4) (oi := ⟨some 83, _, _, _, _, _⟩) (v := .slice (some ⟨b3, o3, none⟩) k cr) rfl (by kernel_rfl) (by kernel_rfl) (by kernel_rfl) (fun _ _ _ h => h) rfl hX (fun V hV => ld_ints (.tmp 82) rfl rfl (((TOJ.out V hV).cell (p := ⟨b1, o1 + i, none⟩) HLL1.out).trans HC1.out)) ?_; simp only [Act.put, qA, qB, qC]
        refine sx_take (i := 5) (oi := ⟨some 84, _, _, _, _, _⟩) (v := ?_) rfl (by kernel_rfl) (by kernel_rfl) (by kernel_rfl) (fun _ _ _ h => h) rfl hX ?_ ?_; rotate_left; (intro W hW; go_simp; try with_reducible rfl); simp only [Act.put, qA, qB, qC]
        refine sx_take (i := 6) (oi := ⟨some 85, _, _, _, _, _⟩) (v := ?_) rfl (by kernel_rfl) (by kernel_rfl) (by kernel_rfl) (fun _ _ _ h => h) rfl hX ?_ ?_; rotate_left; (intro W hW; go_simp; try with_reducible rfl); simp only [Act.put, qA, qB, qC]
        refine sx_take (i := 7) (oi := ⟨some 86, _, _, _, _, _⟩) (v := .int .i64 x) rfl (by kernel_rfl) (by kernel_rfl) (by kernel_rfl) (fun _ _ _ h => h) rfl hX (fun V hV => ld_int9 (.tmp 85) rfl rfl ((hV.cell (p := ⟨b3, o3 + q, none⟩) HL3.out).trans HC3.out)) ?_; simp only [Act.put, qA, qB, qC]
        refine sx_take (i := 8) (oi := ⟨some 87, _, _, _, _, _⟩) (v := ?_) rfl (by kernel_rfl) (by kernel_rfl) (by kernel_rfl) (fun _ _ _ h => h) rfl hX ?_ ?_; rotate_left; (intro W hW; go_simp; try with_reducible rfl); simp only [Act.put, qA, qB, qC]
        refine sx_take (i := 9) (oi := ⟨some 88, _, _, _, _, _⟩) (v := .slice (some ⟨b2, o2, none⟩) n dn) rfl (by kernel_rfl) (by kernel_rfl) (by kernel_rfl) (fun _ _ _ h => h) rfl hX (fun V hV => ld_inss (.tmp 87) rfl rfl (D256.out V (TO.out V (TOJ.out V hV)))) ?_; simp only [Act.put, qA, qB, qC]
        refine sx_take (i := 10) (oi := ⟨some 89, _, _, _, _, _⟩) (v := ?_) rfl (by kernel_rfl) (by kernel_rfl) (by kernel_rfl) (fun _ _ _ h => h) rfl hX ?_ ?_; rotate_left; (intro W hW; go_simp; try with_reducible rfl); simp only [Act.put, qA, qB, qC]
        refine sx_take (i := 11) (oi := ⟨some 90, _, _, _, _, _⟩) (v := ?_) rfl (by kernel_rfl) (by kernel_rfl) (by kernel_rfl) (fun _ _ _ h => h) rfl hX ?_ ?_; rotate_left; (intro W hW; go_simp; try with_reducible rfl); simp only [Act.put, qA, qB, qC]
        refine sx_take (i := 12) (oi := ⟨some 91, _, _, _, _, _⟩) (v := .slice (some ⟨b4, o4, none⟩) k cr') rfl (by kernel_rfl) (by kernel_rfl) (by kernel_rfl) (fun _ _ _ h => h) rfl hX (fun V hV => ld_ints (.tmp 90) rfl rfl (((TOJ.out V hV).cell (p := ⟨b2, o2 + i, none⟩) HLL2.out).trans HC2.out)) ?_; simp only [Act.put, qA, qB, qC]
        refine sx_take (i := 13) (oi := ⟨some 92, _, _, _, _, _⟩) (v := ?_) rfl (by kernel_rfl) (by kernel_rfl) (by kernel_rfl) (fun _ _ _ h => h) rfl hX ?_ ?_; rotate_left; (intro W hW; go_simp; try with_reducible rfl); simp only [Act.put, qA, qB, qC]
        refine sx_take (i := 14) (oi := ⟨some 93, _, _, _, _, _⟩) (v := ?_) rfl (by kernel_rfl) (by kernel_rfl) (by kernel_rfl) (fun _ _ _ h => h) rfl hX ?_ ?_; rotate_left; (intro W hW; go_simp; try with_reducible rfl); simp only [Act.put, qA, qB, qC]
        refine sx_take (i := 15) (oi := ⟨some 94, _, _, _, _, _⟩) (v := .int .i64 y) rfl (by kernel_rfl) (by kernel_rfl) (by kernel_rfl) (fun _ _ _ h => h) rfl hX (fun V hV => ld_int9 (.tmp 93) rfl rfl ((hV.cell (p := ⟨b4, o4 + q, none⟩) HL4.out).trans HC4.out)) ?_; simp only [Act.put, qA, qB, qC]
        refine sx_take (i := 16) (oi := ⟨some 95, _, _, _, _, _⟩) (v := .bool z) rfl (by kernel_rfl) (by kernel_rfl) (by kernel_rfl) (fun _ _ _ h => h) rfl hX (fun V _ => ex_neJ (.tmp 86) (.tmp 94) rfl rfl rfl HZ2.out V) ?_; simp only [Act.put, qA, qB, qC]
        refine wpAnyH_done (by kernel_rfl) ?_ _
        have BE2 := qH (TOJ.out _ hX)
        clear hX
        cases z with
        | false =>
         have HN1 := qH (next_to (u := x) HEQR.out HXX.out (by rw [HYY.out, show x = y by simpa using HZ2.out]))
         go_wp2_with fail
         exact ⟨⟨q + 1, HQK.out, by congr 1, HN1.out, BE2.out⟩, by simpa [intOf] using HMQ.out⟩
        | true =>
         have HF := qH (ne_next (D := D) (E := E) (j := i) fun h => by
          rw [HRR.out, HRR'.out] at h
          have h8 := HXX.out
          rw [Option.some.inj h, HYY.out] at h8
          have h9 := HZ2.out
          rw [Option.some.inj h8] at h9
          simp at h9)
         have BF := qH (B2.out.trans ((TO.out _ BE2.out).mono B2.out.size))
         go_wp2_with fail
         go_ret
         rw [HF.out]
         exact ⟨rfl, BF.out⟩
       ·obtain rfl : k = q := Nat.le_antisymm (Nat.le_of_not_lt hqk) HQ.out
        have z1 : ¬ ((k : Int) < (k : Int)) := Int.lt_irrefl _
        have BO := qH (TO.out _ BJ.out)
        have HN1 := qH (next_to (u := r) HEQN.out HRR.out (by rw [HRR'.out, ext_to HKR.out HKR'.out HEQR.out]))
        clear hqk
        go_wp2_with fail
        exact ⟨⟨i + 1, HIN.out, by congr 1, HN1.out, BO.out⟩, by simpa [intOf] using HMI.out⟩
     ·obtain rfl : n = i := Nat.le_antisymm (Nat.le_of_not_lt hin) HI.out
      have y1 : ¬ ((n : Int) < (n : Int)) := Int.lt_irrefl _
      have BO := qH (B2.out.trans (BI.out.mono B2.out.size))
      have HF := qH (eq_dm (D := D) (E := E) (by rw [← HCL.out, ← HCM.out]; exact of_decide_eq_true HQ1.out.symm) (ext_to HN.out HN2.out HEQN.out) HENDS.out)
      clear hin
      go_wp2_with fail
      go_ret
      rw [HF.out]
      exact ⟨rfl, BO.out⟩
   ·have HF := qH (show decide (D = E) = false from decide_eq_false fun h => hmm (by rw [HM.out, HM2.out, h]))
    have x1 : ((n : Int) != (n : Int)) = false := by simp
    have x2 : ((m : Int) != (m2 : Int)) = true := by rw [bne_iff_ne]; exact fun e => hmm (Int.ofNat_inj.1 e)
    go_enter Try.func8, Try.ntmps8
    go_wp2_with (first
     | ((with_reducible refine atDst 2 ?_); refine wpList_box rfl 28 _ rfl cs rfl (Below.refl w.heap.size w) (Nat.le_refl _) ?_; intro w1 hk1 hb1 hs1 _; have K1 := qH hk1; have B1 := qH hb1; clear hk1 hb1 hs1; (try simp only [Act.put, qA, qB, qC]))
     | ((with_reducible refine atDst 3 ?_); refine wpList_box rfl 28 _ rfl es rfl (Below.refl w1.heap.size w1) (Nat.le_refl _) ?_; intro w2 hk hb hs _; have L2 := qH hk; have K2 := qH (K1.out.below hb K1.out.lt); have B2 := qH (B1.out.trans (hb.mono B1.out.size)); (have c256 : w2.cell? ⟨w.heap.size, 256, none⟩ = some (.slice An n cn) := (by rw [K2.out.cell 256, HCS.out]; exact dcl_n HL.out); have d256 : w2.cell? ⟨w1.heap.size, 256, none⟩ = some (.slice Bn n dn) := (by rw [L2.out.cell 256, HCS2.out]; exact dcl_n HL2.out); have c257 : w2.cell? ⟨w.heap.size, 257, none⟩ = some (.slice Ae m ce) := (by rw [K2.out.cell 257, HCS.out]; exact dcl_e HL.out); have d257 : w2.cell? ⟨w1.heap.size, 257, none⟩ = some (.slice Be m2 de) := (by rw [L2.out.cell 257, HCS2.out]; exact dcl_e HL2.out)); have r1 := qH (show w2.rangeAt w.heap.size 0 (bvs cl) from fun i v hv => by { rw [Nat.zero_add, K2.out.cell i, HCS.out, dcl_cl HL.out (by have := (List.getElem?_eq_some_iff.1 hv).1; rw [bvs_length, HL.out] at this; exact this)]; exact hv }); have r2 := qH (show w2.rangeAt w1.heap.size 0 (bvs cm) from fun i v hv => by { rw [Nat.zero_add, L2.out.cell i, HCS2.out, dcl_cl HL2.out (by have := (List.getElem?_eq_some_iff.1 hv).1; rw [bvs_length, HL2.out] at this; exact this)]; exact hv }); clear hk hb hs; (try simp only [Act.put, qA, qB, qC]))
     | ((with_reducible refine atDst 9 ?_); refine wpList_load_mid rfl 24 _ rfl w.heap.size 0 rfl (bvs cl) _ r1.out Try.underlying24 rfl HSC.out ?_; (try simp only [Act.put, qA, qB, qC]))
     | ((with_reducible refine atDst 11 ?_); refine wpList_load_mid rfl 24 _ rfl w1.heap.size 0 rfl (bvs cm) _ r2.out Try.underlying24 rfl HSC2.out ?_; (try simp only [Act.put, qA, qB, qC]))
     | ((with_reducible refine atDst 12 ?_); refine wpList_neArr rfl 24 5 256 (.tmp 9) (.tmp 11) 24 rfl guard_cls Try.underlying24 Try.underlying5 size_byte cl cm HL.out HL2.out rfl rfl ?_; rw [← HQ1.out]; (try simp only [Act.put, qA, qB, qC])))
    go_ret
    rw [HF.out]
    exact ⟨rfl, B2.out⟩
  ·have HF := qH (show decide (D = E) = false from decide_eq_false fun h => hnn (by rw [HN.out, HN2.out, h]))
   have x1 : ((n : Int) != (n2 : Int)) = true := by rw [bne_iff_ne]; exact fun e => hnn (Int.ofNat_inj.1 e)
   go_enter Try.func8, Try.ntmps8
   go_wp2_with (first
    | ((with_reducible refine atDst 2 ?_); refine wpList_box rfl 28 _ rfl cs rfl (Below.refl w.heap.size w) (Nat.le_refl _) ?_; intro w1 hk1 hb1 hs1 _; have K1 := qH hk1; have B1 := qH hb1; clear hk1 hb1 hs1; (try simp only [Act.put, qA, qB, qC]))
    | ((with_reducible refine atDst 3 ?_); refine wpList_box rfl 28 _ rfl es rfl (Below.refl w1.heap.size w1) (Nat.le_refl _) ?_; intro w2 hk hb hs _; have L2 := qH hk; have K2 := qH (K1.out.below hb K1.out.lt); have B2 := qH (B1.out.trans (hb.mono B1.out.size)); (have c256 : w2.cell? ⟨w.heap.size, 256, none⟩ = some (.slice An n cn) := (by rw [K2.out.cell 256, HCS.out]; exact dcl_n HL.out); have d256 : w2.cell? ⟨w1.heap.size, 256, none⟩ = some (.slice Bn n2 dn) := (by rw [L2.out.cell 256, HCS2.out]; exact dcl_n HL2.out)); have r1 := qH (show w2.rangeAt w.heap.size 0 (bvs cl) from fun i v hv => by { rw [Nat.zero_add, K2.out.cell i, HCS.out, dcl_cl HL.out (by have := (List.getElem?_eq_some_iff.1 hv).1; rw [bvs_length, HL.out] at this; exact this)]; exact hv }); have r2 := qH (show w2.rangeAt w1.heap.size 0 (bvs cm) from fun i v hv => by { rw [Nat.zero_add, L2.out.cell i, HCS2.out, dcl_cl HL2.out (by have := (List.getElem?_eq_some_iff.1 hv).1; rw [bvs_length, HL2.out] at this; exact this)]; exact hv }); clear hk hb hs; (try simp only [Act.put, qA, qB, qC]))
    | ((with_reducible refine atDst 9 ?_); refine wpList_load_mid rfl 24 _ rfl w.heap.size 0 rfl (bvs cl) _ r1.out Try.underlying24 rfl HSC.out ?_; (try simp only [Act.put, qA, qB, qC]))
    | ((with_reducible refine atDst 11 ?_); refine wpList_load_mid rfl 24 _ rfl w1.heap.size 0 rfl (bvs cm) _ r2.out Try.underlying24 rfl HSC2.out ?_; (try simp only [Act.put, qA, qB, qC]))
    | ((with_reducible refine atDst 12 ?_); refine wpList_neArr rfl 24 5 256 (.tmp 9) (.tmp 11) 24 rfl guard_cls Try.underlying24 Try.underlying5 size_byte cl cm HL.out HL2.out rfl rfl ?_; rw [← HQ1.out]; (try simp only [Act.put, qA, qB, qC])))
   go_ret
   rw [HF.out]
   exact ⟨rfl, B2.out⟩
structure LstC : Prop where
 least : ∀ (D : Dm) (cs : List Value) (w : World), DfaV w cs D → MayD D → AllC D → Calls Try.prog 9 #[.agg cs.toArray] w fun e w' => ∃ cs', e = .returned (.agg cs'.toArray) ∧ DfaV w' cs' (lstD D) ∧ Below w.heap.size w w'
 parts : ∀ (D : Dm) (cs : List Value) (w : World), DfaV w cs D → MayD D → AllC D → Calls Try.prog 10 #[.agg cs.toArray] w fun e w' => ∃ v, e = .returned v ∧ Row w' v (ncs D.next.length (parD D)) ∧ Below w.heap.size w w'
 is_ : ∀ (D : Dm) (cs : List Value) (w : World), DfaV w cs D → MayD D → AllC D → Calls Try.prog 11 #[.agg cs.toArray] w fun e w' => e = .returned (.bool (@decide (D = lstD D) (Classical.propDecidable _))) ∧ Below w.heap.size w w'
theorem lst_allC {D : Dm} (h : MayD D) (hl : D.cl.length = 256) : AllC (lstD D) := by
 obtain ⟨n, _, _, h3⟩ := lst_is h hl
 rw [h3]
 exact canN_allC _ n
theorem dfaQ_allC (n c : Nat) (ps : List UInt8) : AllC (dfaQ n c ps) := fun k hk => by
 rw [dfaQ_cls] at hk
 refine ⟨UInt8.ofNat (97 + k), ?_⟩
 have h1 : (UInt8.ofNat (97 + k)).toNat = 97 + k := toNat_ofNatQ (by omega)
 rw [h1]
 have h2 := tabQ_at (m := 1 + c % 4) (N := 256) (i := 97 + k) (by omega) (by omega)
 show ((tabQ (1 + c % 4) 256).getD (97 + k) 0).toNat = k
 rw [List.getD_eq_getElem?_getD, h2]
 show (UInt8.ofNat (clsQ (1 + c % 4) (97 + k))).toNat = k
 rw [clsQ_in (by omega) (by omega), toNat_ofNatQ (by omega)]
 omega
def yesM (R : List (List Int)) (E : List Bool) : Dm := ⟨ctab [] 0, R, E⟩
theorem yes_cls (R : List (List Int)) (E : List Bool) : clsA (yesM R E).cl = 1 := by
 apply Nat.le_antisymm
 ·refine clsA_upQ fun c hc => ?_
  obtain ⟨j, hj, rfl⟩ := List.getElem_of_mem hc
  show (ctab [] 0)[j].toNat + 1 ≤ 1
  simp [ctab]
 ·exact Nat.lt_of_le_of_lt (Nat.zero_le _) (clsA_lt (ctab_length _ _) (j := 0) (List.getElem?_eq_getElem (by rw [ctab_length]; decide)))
theorem yes_allC (R : List (List Int)) (E : List Bool) : AllC (yesM R E) := fun k hk => by
 rw [yes_cls] at hk
 obtain rfl : k = 0 := by omega
 refine ⟨0, ?_⟩
 show ((ctab [] 0).getD 0 0).toNat = 0
 simp [ctab]
theorem one_may : MayD (yesM [[0]] [true]) :=
 ⟨Nat.le_refl _, by decide, rfl, fun r hr => by rw [yes_cls, List.mem_singleton.1 hr]; rfl, fun r hr x hx => by
  rw [List.mem_singleton.1 hr] at hx
  rw [List.mem_singleton.1 hx]
  exact ⟨Int.le_refl _, by decide⟩⟩
theorem two_may : MayD (yesM [[1], [0]] [true, true]) := by
 refine ⟨by decide, by decide, rfl, fun r hr => ?_, fun r hr x hx => ?_⟩
 ·rw [yes_cls]
  have hr : r ∈ [[(1 : Int)], [0]] := hr
  simp only [List.mem_cons, List.mem_nil_iff, or_false] at hr
  rcases hr with rfl | rfl <;> rfl
 ·have hr : r ∈ [[(1 : Int)], [0]] := hr
  simp only [List.mem_cons, List.mem_nil_iff, or_false] at hr
  rcases hr with rfl | rfl <;> (rw [List.mem_singleton.1 hx]; exact ⟨by decide, by decide⟩)
theorem acc_yes {D : Dm} (h : MayD D) (hl : D.cl.length = 256) (he : ∀ s, s < D.next.length → D.ends.getD s false = true) {s : Nat} (hs : s < D.next.length) : accD D s = fun _ => true := by
 funext w
 exact he _ (toD_ltA h hl w s hs)
theorem two_acc {s : Nat} (hs : s < 2) : accD (yesM [[1], [0]] [true, true]) s = fun _ => true :=
 acc_yes two_may (ctab_length _ _) (fun q hq => by
  have hq : q < 2 := hq
  rcases (show q = 0 ∨ q = 1 by omega) with rfl | rfl <;> rfl) hs
theorem one_acc : accD (yesM [[0]] [true]) 0 = fun _ => true :=
 acc_yes one_may (ctab_length _ _) (fun q hq => by
  have hq : q < 1 := hq
  obtain rfl : q = 0 := by omega
  rfl) (Nat.zero_lt_one)
theorem two_len : (lstD (yesM [[1], [0]] [true, true])).next.length = 1 := by
 have e : lstD (yesM [[1], [0]] [true, true]) = lstD (yesM [[0]] [true]) := (lst_same two_may (ctab_length _ _) one_may (ctab_length _ _)).2 (by rw [two_acc (by decide), one_acc])
 rw [e]
 have h1 := lst_len one_may (ctab_length _ _)
 have h2 := (lst_may one_may (ctab_length _ _)).pos
 have h3 : (yesM [[0]] [true]).next.length = 1 := rfl
 omega
theorem two_not : ¬ yesM [[1], [0]] [true, true] = lstD (yesM [[1], [0]] [true, true]) := fun e => by
 have h1 := congrArg (fun D => D.next.length) e
 have h1 : (yesM [[1], [0]] [true, true]).next.length = (lstD (yesM [[1], [0]] [true, true])).next.length := h1
 rw [two_len] at h1
 cases h1
theorem two_part : parD (yesM [[1], [0]] [true, true]) 1 = 0 := by
 have h1 : parD (yesM [[1], [0]] [true, true]) 1 = parD (yesM [[1], [0]] [true, true]) 0 := parD_same (by rw [two_acc (by decide), two_acc (by decide)])
 rw [h1]
 have h2 := (parD_spec (yesM [[1], [0]] [true, true]) 0).2.1
 omega
theorem built_nxL (A : Option Addr) (n c : Nat) (A' : Option Addr) (n' c' : Nat) : Try.prog.built 28 [(1, .slice A n c), (2, .slice A' n' c')] = some (dcl (ctab [] 0) (.slice A n c) (.slice A' n' c')).toArray := by kernel_rfl
section
variable {P : Program} {o : Oper} {a : Act} {w : World} {K : Act → World → Prop} {Q : Exit → Act → World → Prop}
theorem wp_bldV2 (t e : TypeId) (x y : Operand) (ho : o.op = .buildSlice t 2 #[(0, x), (1, y)]) (i : TypeInfo) (z : Value) (ht : P.underlying t = some (.slice e)) (hi : P.info? e = some i) (hz : i.zero = some z) (hs : i.size = 1) (hzc : z.cells = #[z]) (u v : Value) (hx : a.eval x = u) (hy : a.eval y = v) (hu : u.cells = #[u]) (hv : v.cells = #[v])
  (h : ∀ w', Blk w' w.heap.size e [u, v] → Below w.heap.size w w' → K (a.put o.dst (.slice (some ⟨w.heap.size, 0, none⟩) 2 2)) w') : o.wp P a w K Q := by
 have hzv : (zeroValue e).run P w = .ok z w := by simp [zeroValue, typeInfo, hi, hz]
 have hrun : (Instr.buildSlice t 2 #[(0, u), (1, v)]).run P w = .ok (.slice (some ⟨w.heap.size, 0, none⟩) 2 2) (w.alloc (.cells [u, v].toArray e)) := by
  simp [Instr.buildSlice, run_underlying ht, sizeOf, typeInfo, hi, hs, hzv, hzc, hu, hv, Instr.fill, Array.range_succ, Array.range_zero', newRow]
 unfold Oper.wp
 simp only [execOp, ho, List.map_toArray, List.map_cons, List.map_nil, hx, hy, hrun, Sem.run_bind, Result.andThen_ok, Sem.run_pure]
 exact h _ (Blk.new w e _) ((Below.refl _ _).alloc (Nat.le_refl _) _)
end
end Go.Proofs.Ytiehefnbdijiaaa
