/-
  Texts of this proof, put together: SbZ, ScB. No statement is proved here.
-/
import Derived.Test.YtlohehcfplkjbaaZF
import Derived.Test.YtlohehcfplkjbaaZC
import Derived.Test.YtlohehcfplkjbaaZG
namespace Go.Proofs.Ytlohehcfplkjbaa
open Go.RowKit
set_option linter.unusedSimpArgs false
set_option linter.unusedVariables false
theorem stD_lt {D : Dm} (h : MayD D) (hl : D.cl.length = 256) {s : Nat} (hs : s < D.next.length) (b : UInt8) :
  ∃ (r : List Int) (x : Int) (c : UInt8), D.next[s]? = some r ∧ D.cl[b.toNat]? = some c ∧ c.toNat < r.length ∧ r[c.toNat]? = some x ∧ x = (stD D s b : Int) ∧ stD D s b < D.next.length := by
 obtain ⟨r, hr⟩ : ∃ r, D.next[s]? = some r := ⟨_, List.getElem?_eq_getElem hs⟩
 obtain ⟨c, hc⟩ : ∃ c, D.cl[b.toNat]? = some c := ⟨_, List.getElem?_eq_getElem (by rw [hl]; exact b.toNat_lt)⟩
 have hm := List.mem_of_getElem? hr
 have hk : c.toNat < r.length := by rw [h.rows r hm]; exact clsA_lt hl hc
 obtain ⟨x, hx⟩ : ∃ x, r[c.toNat]? = some x := ⟨_, List.getElem?_eq_getElem hk⟩
 have h2 := h.to r hm x (List.mem_of_getElem? hx)
 have e : stD D s b = x.toNat := by
  unfold stD
  rw [hr, List.getD_eq_getElem?_getD, List.getD_eq_getElem?_getD, hc]
  show (r[c.toNat]?.getD 0).toNat = _
  rw [hx]
  rfl
 exact ⟨r, x, c, hr, hc, hk, hx, by rw [e]; omega, by rw [e]; omega⟩
theorem toD_lt {D : Dm} (h : MayD D) (hl : D.cl.length = 256) : ∀ (w : List UInt8) (s : Nat), s < D.next.length → toD D s w < D.next.length
 | [], _, hs => hs
 | b :: w, s, hs => by
  obtain ⟨_, _, _, _, _, _, _, _, h1⟩ := stD_lt h hl hs b
  exact toD_lt h hl w _ h1
set_option maxHeartbeats 8000000 in
set_option maxRecDepth 1000000 in
theorem refTo11_any (D : Dm) (s : Nat) (W : List UInt8) (cs : List Value) (V : Value) (w : World) (hv : DfaV w cs D) (hm : MayD D) (hs : s < D.next.length) (hw : Row w V (bvs W)) :
  Calls Try.prog 35 #[.agg cs.toArray, .int .i64 (s : Int), V] w fun e w' => e = .returned (.int .i64 (toD D s W : Int)) ∧ Below w.heap.size w w' := by
 have V0 := qH hv
 have HM := qH hm
 have HDS := qH hv.size
 have W0 := qH hw
 obtain ⟨An, Ae, cn, ce, vf, hl, hcs, hn, hr, he⟩ := hv.form
 have HL := qH hl
 obtain ⟨n, hnn⟩ : ∃ n, n = D.next.length := ⟨_, rfl⟩
 have HN := qH hnn
 rw [hm.ends, ← hnn] at hcs
 rw [← hnn] at hn hs
 have HCS := qH hcs
 have HRN := qH hn
 have HR := qH hr
 have HS := qH hs
 have HNF := qH (show n ≤ 2000 by rw [hnn]; exact hm.few)
 obtain ⟨Aw, cw, rfl, a1, a2, _⟩ := hw
 rw [bvs_length] at W0 a1 ⊢
 have HLN := qH (And.intro a1 a2)
 have i1 : ¬ ((s : Int) < 0) := by omega
 have i2 : ¬ ((n : Int) ≤ (s : Int)) := by omega
 clear hv hm hl hcs hn hr he hnn hs a1 a2
 go_enter Try.func35, Try.ntmps35
 go_wp2_with (first
  | ((with_reducible refine atDst 3 ?_); refine wpList_box rfl 28 _ rfl cs rfl (Below.refl w.heap.size w) (Nat.le_refl _) ?_; intro w1 hk1 hb1 hs1 _; have K1 := qH hk1; have B1 := qH hb1; clear hk1 hb1 hs1; (try simp only [Act.put, qA, qB, qC]))
  | ((with_reducible refine atDst 8 ?_); refine wpList_ldArr rfl 28 _ rfl w.heap.size rfl 28 _ _ K1.out Try.underlying28 rfl HDS.out ?_; (try simp only [Act.put, qA, qB, qC])))
 refine (refMay11_any D cs w1 (V0.out.below B1.out) HM.out).mono ?_
 rintro e w2 ⟨rfl, hb⟩
 have K2 := qH (K1.out.below hb K1.out.lt)
 have B2 := qH (B1.out.trans (hb.mono B1.out.size))
 have c256 : w2.cell? ⟨w.heap.size, 256, none⟩ = some (.slice An n cn) := by rw [K2.out.cell 256, HCS.out]; exact dcl_n HL.out
 have C256 := qH c256
 have HT1 := qH (show w.heap.size < w2.heap.size from K2.out.lt)
 clear hb
 go_wp2_with fail
 clear c256 i1 i2
 go_loopw [1, 7] (fun v jv wl => ∃ j : Nat, j ≤ W.length ∧ jv = .int .i64 (j : Int) ∧ v = .int .i64 (toD D s (W.take j) : Int) ∧ Below w2.heap.size w2 wl) (fun _ jv _ => W.length - (intOf jv).toNat)
 case atStart => exact ⟨0, Nat.zero_le _, by simp, rfl, Below.refl _ _⟩
 obtain ⟨j, hj, rfl, rfl, hb⟩ := hrel
 have BQ := qH hb
 obtain ⟨wq, hwq⟩ : ∃ v : World, v = wr := ⟨_, rfl⟩
 subst hwq
 clear hb
 by_cases hjl : j < W.length
 ·have x1 : (j : Int) < (W.length : Int) := Int.ofNat_lt.2 hjl
  have HJ := qH hjl
  have HMJ := qH (sub_next hjl)
  have e3 := wrap_len HJ.out HLN.out.1 HLN.out.2
  have e4 := wrap_len' HJ.out HLN.out.1 HLN.out.2
  obtain ⟨b, hb⟩ : ∃ b, W[j]? = some b := ⟨_, List.getElem?_eq_getElem hjl⟩
  obtain ⟨p, hp⟩ : ∃ p, p = toD D s (W.take j) := ⟨_, rfl⟩
  have hpn : p < n := by rw [hp, HN.out]; exact toD_lt HM.out HL.out _ _ (by rw [← HN.out]; exact HS.out)
  obtain ⟨r, x, c, hr, hc, hk, hx, hxe, _⟩ := stD_lt HM.out HL.out (s := p) (by rw [← HN.out]; exact hpn) b
  have HNX := qH (show toD D s (W.take (j + 1)) = stD D p b by rw [toD_take hb, hp])
  have HXE := qH hxe
  have y1 : (p : Int) < (n : Int) := Int.ofNat_lt.2 hpn
  have BW := qH (B2.out.trans (BQ.out.mono B2.out.size))
  obtain ⟨bw, ow, rfl, hlw, hcw⟩ := (W0.out.below BW.out).at_ (by rw [bvs_length]; exact Nat.lt_of_le_of_lt (Nat.zero_le _) hjl)
  obtain ⟨bn, on, rfl, hln, hcn⟩ := (HRN.out.below BW.out).at_ (by rw [List.length_map, List.length_range]; exact Nat.lt_of_le_of_lt (Nat.zero_le _) hpn)
  have hri := (HR.out p r hr).below BW.out
  have hri2 := hri
  obtain ⟨Ar, cr, hvr, _⟩ := hri2
  rw [nums_length] at hvr
  have HCI := qH (show wq.cell? ⟨bn, on + p, none⟩ = some (.slice Ar r.length cr) from hcn p _ (by simp [hpn, hvr]))
  rw [hvr] at hri
  obtain ⟨br, or, rfl, hlr, hcr⟩ := hri.at_ (by rw [nums_length]; exact Nat.lt_of_le_of_lt (Nat.zero_le _) hk)
  obtain ⟨bb, hbb⟩ : ∃ bb, bb = b.toNat := ⟨_, rfl⟩
  obtain ⟨q, hq⟩ : ∃ q, q = c.toNat := ⟨_, rfl⟩
  have HCB := qH (show wq.cell? ⟨bw, ow + j, none⟩ = some (.int .u8 (bb : Int)) by rw [hbb]; exact hcw j _ (bvs_get _ _ _ hb))
  have HCX := qH (show wq.cell? ⟨br, or + q, none⟩ = some (.int .i64 x) by rw [hq]; exact hcr _ _ (by simp [nums, hx]))
  have HBB := qH (show bb < 256 by rw [hbb]; exact b.toNat_lt)
  have KQ := qH (K2.out.below BQ.out K2.out.lt)
  have HCQ := qH (show wq.cell? ⟨w.heap.size, bb, none⟩ = some (.int .u8 (q : Int)) by
   rw [KQ.out.cell bb, HCS.out, dcl_cl HL.out HBB.out, bvs_get _ _ _ (by rw [hbb]; exact hc), hq])
  have C256q := qH ((BQ.out.cell (p := ⟨w.heap.size, 256, none⟩) HT1.out).trans C256.out)
  have HTq := qH (Nat.lt_of_lt_of_le HT1.out BQ.out.size)
  have y2 : (bb : Int) < 256 := Int.ofNat_lt.2 HBB.out
  have y3 : (q : Int) < (r.length : Int) := by rw [hq]; exact Int.ofNat_lt.2 hk
  have HLW := qH hlw
  have HLN2 := qH hln
  have HLR := qH hlr
  rw [← hp]
  clear hj hjl hb hp hpn hr hc hk hx hxe hlw hcw hln hcn hri hvr hlr hcr hbb hq
  go_wp2_with fail
  refine sx_startB (B := wq.heap.size) (w0 := wq) (by kernel_rfl) (Below.refl _ _) (fun wd hwd hX => ?_)
  clear hwd
  refine sx_take (i := 0) (oi := ⟨some 28, _, _, _, _, _⟩) (v := ?_) rfl (by kernel_rfl) (by kernel_rfl) (by kernel_rfl) (fun _ _ _ h => h) rfl hX ?_ ?_; rotate_left; (intro W hW; go_simp; try with_reducible rfl); simp only [Act.put, qA, qB, qC]
  refine sx_take (i := 1) (oi := ⟨some 29, _, _, _, _, _⟩) (v := .slice (some ⟨bn, on, none⟩) n cn) rfl (by kernel_rfl) (by kernel_rfl) (by kernel_rfl) (fun _ _ _ h => h) rfl hX (fun V hV => ld_inss (.tmp 28) rfl rfl ((hV.cell (p := ⟨w.heap.size, 256, none⟩) HTq.out).trans C256q.out)) ?_; simp only [Act.put, qA, qB, qC]
  refine sx_take (i := 2) (oi := ⟨some 30, _, _, _, _, _⟩) (v := ?_) rfl (by kernel_rfl) (by kernel_rfl) (by kernel_rfl) (fun _ _ _ h => h) rfl hX ?_ ?_; rotate_left; (intro W hW; go_simp; try with_reducible rfl); simp only [Act.put, qA, qB, qC]
  refine sx_take (i := 3) (oi := ⟨some 31, _, _, _, _, _⟩) (v := ?_) rfl (by kernel_rfl) (by kernel_rfl) (by kernel_rfl) (fun _ _ _ h => h) rfl hX ?_ ?_; rotate_left; (intro W hW; go_simp; try with_reducible rfl); simp only [Act.put, qA, qB, qC]
  refine sx_take (i := 4) (oi := ⟨some 32, _, _, _, _, _⟩) (v := .slice (some ⟨br, or, none⟩) r.length cr) rfl (by kernel_rfl) (by kernel_rfl) (by kernel_rfl) (fun _ _ _ h => h) rfl hX (fun V hV => ld_ints (.tmp 31) rfl rfl ((hV.cell (p := ⟨bn, on + p, none⟩) HLN2.out).trans HCI.out)) ?_; simp only [Act.put, qA, qB, qC]
  refine sx_take (i := 5) (oi := ⟨some 33, _, _, _, _, _⟩) (v := ?_) rfl (by kernel_rfl) (by kernel_rfl) (by kernel_rfl) (fun _ _ _ h => h) rfl hX ?_ ?_; rotate_left; (intro W hW; go_simp; try with_reducible rfl); simp only [Act.put, qA, qB, qC]
  refine sx_take (i := 6) (oi := ⟨some 34, _, _, _, _, _⟩) (v := ?_) rfl (by kernel_rfl) (by kernel_rfl) (by kernel_rfl) (fun _ _ _ h => h) rfl hX ?_ ?_; rotate_left; (intro W hW; go_simp; try with_reducible rfl); simp only [Act.put, qA, qB, qC]
  refine sx_take (i := 7) (oi := ⟨some 35, _, _, _, _, _⟩) (v := ?_) rfl (by kernel_rfl) (by kernel_rfl) (by kernel_rfl) (fun _ _ _ h => h) rfl hX ?_ ?_; rotate_left; (intro W hW; go_simp; try with_reducible rfl); simp only [Act.put, qA, qB, qC]
  refine sx_take (i := 8) (oi := ⟨some 36, _, _, _, _, _⟩) (v := .int .u8 (bb : Int)) rfl (by kernel_rfl) (by kernel_rfl) (by kernel_rfl) (fun _ _ _ h => h) rfl hX (fun V hV => ld_u9 (.tmp 35) rfl rfl ((hV.cell (p := ⟨bw, ow + j, none⟩) HLW.out).trans HCB.out)) ?_; simp only [Act.put, qA, qB, qC]
  refine sx_take (i := 9) (oi := ⟨some 37, _, _, _, _, _⟩) (v := ?_) rfl (by kernel_rfl) (by kernel_rfl) (by kernel_rfl) (fun _ _ _ h => h) rfl hX ?_ ?_; rotate_left; (intro W hW; go_simp; try with_reducible rfl); simp only [Act.put, qA, qB, qC]
  refine sx_take (i := 10) (oi := ⟨some 38, _, _, _, _, _⟩) (v := ?_) rfl (by kernel_rfl) (by kernel_rfl) (by kernel_rfl) (fun _ _ _ h => h) rfl hX ?_ ?_; rotate_left; (intro W hW; go_simp; try with_reducible rfl); simp only [Act.put, qA, qB, qC]
  refine sx_take (i := 11) (oi := ⟨some 39, _, _, _, _, _⟩) (v := .int .u8 (q : Int)) rfl (by kernel_rfl) (by kernel_rfl) (by kernel_rfl) (fun _ _ _ h => h) rfl hX (fun V hV => ld_u9 (.tmp 38) rfl rfl ((hV.cell (p := ⟨w.heap.size, bb, none⟩) HTq.out).trans HCQ.out)) ?_; simp only [Act.put, qA, qB, qC]
  refine sx_take (i := 12) (oi := ⟨some 40, _, _, _, _, _⟩) (v := ?_) rfl (by kernel_rfl) (by kernel_rfl) (by kernel_rfl) (fun _ _ _ h => h) rfl hX ?_ ?_; rotate_left; (intro W hW; go_simp; try with_reducible rfl); simp only [Act.put, qA, qB, qC]
  refine sx_take (i := 13) (oi := ⟨some 41, _, _, _, _, _⟩) (v := .int .i64 x) rfl (by kernel_rfl) (by kernel_rfl) (by kernel_rfl) (fun _ _ _ h => h) rfl hX (fun V hV => ld_int9 (.tmp 40) rfl rfl ((hV.cell (p := ⟨br, or + q, none⟩) HLR.out).trans HCX.out)) ?_; simp only [Act.put, qA, qB, qC]
  refine sx_take (i := 14) (oi := ⟨some 1, _, _, _, _, _⟩) (v := ?_) rfl (by kernel_rfl) (by kernel_rfl) (by kernel_rfl) (fun _ _ _ h => h) rfl hX ?_ ?_; rotate_left; (intro W hW; go_simp; try with_reducible rfl); simp only [Act.put, qA, qB, qC]
  refine wpAnyH_done (by kernel_rfl) ?_ _
  have BE := qH (BQ.out.trans (hX.mono BQ.out.size))
  clear hX
  go_wp2_with fail
  exact ⟨⟨j + 1, HJ.out, by congr 1, by rw [HNX.out, HXE.out], BE.out⟩, by simpa [intOf] using HMJ.out⟩
 ·obtain rfl : j = W.length := by omega
  have x1 : ¬ ((W.length : Int) < (W.length : Int)) := Int.lt_irrefl _
  have BE := qH (B2.out.trans (BQ.out.mono B2.out.size))
  have HTK := qH (show W.take W.length = W from List.take_length)
  rw [HTK.out]
  clear hj hjl
  go_wp2_with fail
  go_ret
  exact ⟨rfl, BE.out⟩
theorem reach_first (S : List St) : Pq S (ofL [0]) true (updB (fun _ => false) 0 true) := by
 have h : updB (fun _ => false) 0 true = sdJ [0] [(0 : Int)].length := by
  have := sdJ_in (l := [0]) (j := 0) (x := 0) rfl (Int.le_refl _)
  rw [sdJ_zero] at this
  exact this
 rw [h]
 exact Pq.first
theorem Pq.rea {D : Dm} {t : Nat → Bool} {n : Nat} (hn : n = D.next.length) (h : Pq (stsD D) (ofL [0]) false t) : bcs n t = bcs n (reaB D) := by
 refine bcs_congr fun q hq => ?_
 unfold reaB
 rw [Bool.eq_iff_iff, rcB_iff]
 exact h.done rfl q (by rw [stsD_len, ← hn]; exact hq)
set_option maxHeartbeats 8000000 in
set_option maxRecDepth 1000000 in
theorem refReach11_any (D : Dm) (cs : List Value) (w : World) (hv : DfaV w cs D) (hm : MayD D) :
  Calls Try.prog 31 #[.agg cs.toArray] w fun e w' => ∃ v, e = .returned v ∧ Row w' v (bcs D.next.length (reaB D)) ∧ Below w.heap.size w w' := by
 have V0 := qH hv
 have HM := qH hm
 have HDS := qH hv.size
 obtain ⟨An, Ae, cn, ce, vf, hl, hcs, hn, hr, he⟩ := hv.form
 have HL := qH hl
 obtain ⟨n, hnn⟩ : ∃ n, n = D.next.length := ⟨_, rfl⟩
 have HN := qH hnn
 have HSL := qH (show (stsD D).length = n by rw [stsD_len, hnn])
 rw [hm.ends, ← hnn] at hcs
 rw [← hnn] at hn ⊢
 have HCS := qH hcs
 have HRN := qH hn
 have HR := qH hr
 have HNP := qH (show 1 ≤ n by rw [hnn]; exact hm.pos)
 have HNF := qH (show n ≤ 2000 by rw [hnn]; exact hm.few)
 obtain ⟨k, hk⟩ : ∃ k, k = clsA D.cl := ⟨_, rfl⟩
 have HK := qH hk
 have HK2 := qH (show k ≤ 256 by rw [hk]; exact clsA_le _)
 clear hv hm hl hcs hn hr he hnn hk
 obtain ⟨i2, hi2, hz2, hs2, hy2⟩ := infoP inf_bool
 go_enter Try.func31, Try.ntmps31
 go_wp2_with (first
  | ((with_reducible refine atDst 1 ?_); refine wpList_box rfl 28 _ rfl cs rfl (Below.refl w.heap.size w) (Nat.le_refl _) ?_; intro w1 hk1 hb1 hs1 _; have K1 := qH hk1; have B1 := qH hb1; clear hk1 hb1 hs1; (try simp only [Act.put, qA, qB, qC]))
  | ((with_reducible refine atDst 7 ?_); refine wpList_ldArr rfl 28 _ rfl w.heap.size rfl 28 _ _ K1.out Try.underlying28 rfl HDS.out ?_; (try simp only [Act.put, qA, qB, qC])))
 refine (refMay11_any D cs w1 (V0.out.below B1.out) HM.out).mono ?_
 rintro e w2 ⟨rfl, hb⟩
 have K2 := qH (K1.out.below hb K1.out.lt)
 have BW2 := qH (B1.out.trans (hb.mono B1.out.size))
 clear hb
 have c256 : w2.cell? ⟨w.heap.size, 256, none⟩ = some (.slice An n cn) := by rw [K2.out.cell 256, HCS.out]; exact dcl_n HL.out
 have C256 := qH c256
 have HT1 := qH (show w.heap.size < w2.heap.size from K2.out.lt)
 have HRN2 := qH (HRN.out.below BW2.out)
 have HR2 := qH (fun i r h => (HR.out i r h).below BW2.out)
 have HY2 := qH (show i2.bytes * n ≤ 281474976710656 by have := HNF.out; rw [hy2]; omega)
 have HN3 := qH (show n ≤ 9223372036854775807 by have := HNF.out; omega)
 have p0 : (0 : Int) < (n : Int) := by have := HNP.out; omega
 clear hy2
 go_wp2_with ((with_reducible refine atDst 13 ?_); refine wpList_mk _ rfl _ _ 26 rfl 4 i2 (.bool false) Try.underlying26 hi2 hz2 hs2 rfl n _ _ _ _ rfl rfl rfl rfl HY2.out HN3.out ?_; intro w3 hk hb hs; have T3 := qH hk; have B3 := qH hb; have hfz := hk.frozen 0; have hc0 := hk.cell 0; rw [bcs_no, bcs_get _ (Int.ofNat_lt.1 p0)] at hc0; clear hk hb hs; (try simp only [Act.put, qA, qB, qC]))
 have T4 := qH (show Blk (w3.setCell ⟨w2.heap.size, 0, none⟩ (.bool true)) w2.heap.size 4 (bcs n (updB (fun _ => false) 0 true)) by
  have := T3.out.set 0 (.bool true)
  rw [bcs_no, bcs_set] at this
  exact this)
 have B4 := qH (B3.out.setCell (p := ⟨w2.heap.size, 0, none⟩) (Nat.le_refl _) (Value.bool true))
 clear c256 hc0 hfz
 go_loopw [4] (fun v wl => ∃ (ag : Bool) (t : Nat → Bool), v = .bool ag ∧ Pq (stsD D) (ofL [0]) ag t ∧ Blk wl w2.heap.size 4 (bcs n t) ∧ Below w2.heap.size w2 wl) (fun v wl => farW w2.heap.size n v wl)
 case atStart => exact ⟨true, _, rfl, reach_first _, T4.out, B4.out⟩
 clear T3 B3 T4 B4
 obtain ⟨ag, t, rfl, hp, ht, hb⟩ := hrel
 have PQ := qH hp
 have TQ := qH ht
 have BQ := qH hb
 clear hp ht hb
 obtain ⟨wp, hwp⟩ : ∃ v : World, v = wr := ⟨_, rfl⟩
 subst hwp
 cases ag with
 | false =>
  have BE := qH (BW2.out.trans (BQ.out.mono BW2.out.size))
  have RE := qH (show Row wp (.slice (some ⟨w2.heap.size, 0, none⟩) n n) (bcs n (reaB D)) by
   rw [← PQ.out.rea HN.out]
   exact rowB TQ.out (bcs_len _ _) (by have := HNF.out; omega))
  go_wp2_with fail
  go_ret
  exact ⟨_, rfl, RE.out, BE.out⟩
 | true =>
  go_wp2_with fail
  go_loopw [4, 5] (fun v iv wl => ∃ (ag : Bool) (i : Nat) (u : Nat → Bool), i ≤ n ∧ v = .bool ag ∧ iv = .int .i64 (i : Int) ∧ Ps (stsD D) (ofL [0]) t ag i 0 u ∧ Blk wl w2.heap.size 4 (bcs n u) ∧ Below w2.heap.size w2 wl) (fun _ iv _ => n - (intOf iv).toNat)
  case atStart => exact ⟨false, 0, t, Nat.zero_le _, rfl, by simp, Ps.start PQ.out.seeds PQ.out.sound, TQ.out, BQ.out⟩
  obtain ⟨ag, i, u, hi, rfl, rfl, hp, ht, hb⟩ := hrel
  have PR := qH hp
  have TR := qH ht
  have BR := qH hb
  clear hp ht hb
  obtain ⟨wi, hwi⟩ : ∃ v : World, v = wr := ⟨_, rfl⟩
  subst hwi
  by_cases hin : i < n
  ·have x1 : (i : Int) < (n : Int) := Int.ofNat_lt.2 hin
   have HI := qH hin
   have HMI := qH (sub_next hin)
   have e3 := wrap_one i (lt_bigN HI.out HNF.out)
   have e4 := wrap_one' i (lt_bigN HI.out HNF.out)
   obtain ⟨r, hr⟩ : ∃ r, D.next[i]? = some r := ⟨_, List.getElem?_eq_getElem (by rw [← HN.out]; exact hin)⟩
   have HRM := qH (List.mem_of_getElem? hr)
   have HS := qH (stsD_get hr)
   have HRL := qH (show r.length = k by rw [HM.out.rows r HRM.out, HK.out])
   have HRI2 := qH (HR2.out i r hr)
   obtain ⟨Ar, cr, hvr, _⟩ := HR2.out i r hr
   rw [nums_length, HRL.out] at hvr
   obtain ⟨bn, on, rfl, hbn, hcn⟩ := HRN2.out.at_ (by rw [List.length_map, List.length_range]; exact HNP.out)
   have HCI2 := qH (show w2.cell? ⟨bn, on + i, none⟩ = some (.slice Ar k cr) from hcn i _ (by simp [hin, hvr]))
   have HBN := qH hbn
   rw [hvr] at HRI2
   clear hi hin hr hbn hcn hvr
   go_wp2_with fail
   go_loopw [4, 6] (fun v kv wl => ∃ (ag : Bool) (j : Nat) (u : Nat → Bool), j ≤ k ∧ v = .bool ag ∧ kv = .int .i64 (j : Int) ∧ Ps (stsD D) (ofL [0]) t ag i j u ∧ Blk wl w2.heap.size 4 (bcs n u) ∧ Below w2.heap.size w2 wl) (fun _ kv _ => k - (intOf kv).toNat)
   case atStart => exact ⟨ag, 0, u, Nat.zero_le _, rfl, by simp, PR.out, TR.out, BR.out⟩
   clear PR TR BR
   obtain ⟨ag, j, u, hj, rfl, rfl, hp, ht, hb⟩ := hrel
   have PR := qH hp
   have TR := qH ht
   have BR := qH hb
   have c256 := (BR.out.cell (p := ⟨w.heap.size, 256, none⟩) HT1.out).trans C256.out
   have hci := (BR.out.cell (p := ⟨bn, on + i, none⟩) HBN.out).trans HCI2.out
   have RX := qH (HRI2.out.below hb)
   have hti := TR.out.cell i
   rw [bcs_get _ HI.out] at hti
   clear hp ht hb
   by_cases hjk : j < k
   ·have y1 : (j : Int) < (k : Int) := Int.ofNat_lt.2 hjk
    have HJ := qH hjk
    have HMJ := qH (sub_next hjk)
    have f3 := wrap_one j (lt_k256 hjk HK2.out)
    have f4 := wrap_one' j (lt_k256 hjk HK2.out)
    obtain ⟨x, hx⟩ : ∃ x, r[j]? = some x := ⟨_, List.getElem?_eq_getElem (by rw [HRL.out]; exact hjk)⟩
    have HX := qH hx
    obtain ⟨x0, xn⟩ := HM.out.to r HRM.out x (List.mem_of_getElem? hx)
    obtain ⟨p, rfl⟩ : ∃ p : Nat, x = (p : Int) := ⟨x.toNat, by omega⟩
    have HP := qH (show p < n by have := HN.out; omega)
    have p1 : (p : Int) < (n : Int) := Int.ofNat_lt.2 HP.out
    obtain ⟨br, or, rfl, hbr, hcr⟩ := RX.out.at_ (by rw [nums_length, HRL.out]; exact Nat.lt_of_le_of_lt (Nat.zero_le _) hjk)
    have hcx : wr.cell? ⟨br, or + j, none⟩ = some (.int .i64 (p : Int)) := hcr j _ (by simp [nums, hx])
    obtain ⟨y, hy⟩ : ∃ y, u i = y := ⟨_, rfl⟩
    rw [hy] at hti
    have HYI := qH hy
    clear hj hjk hx hbr hcr hy x0 xn
    cases y with
    | true =>
     have htp := TR.out.cell p
     rw [bcs_get _ HP.out] at htp
     obtain ⟨c, hc⟩ : ∃ c, u p = c := ⟨_, rfl⟩
     rw [hc] at htp
     have HCC := qH hc
     have hfz := TR.out.frozen p
     have TE := qH (show Blk (wr.setCell ⟨w2.heap.size, p, none⟩ (.bool true)) w2.heap.size 4 (bcs n (updB u p true)) by
      have := TR.out.set p (.bool true)
      rw [bcs_set] at this
      exact this)
     have BE := qH (BR.out.setCell (p := ⟨w2.heap.size, p, none⟩) (Nat.le_refl _) (Value.bool true))
     have PE := qH (show Ps (stsD D) (ofL [0]) t (ag || !c) i (j + 1) (updB u p true) by
      have := PR.out.mark HS.out HYI.out (f := (p : Int)) HX.out (by omega) (by have := HP.out; have := HSL.out; omega)
      rw [Int.toNat_natCast, HCC.out] at this
      exact this)
     clear hc
     cases ag with
     | true =>
      go_wp2_with fail
      exact ⟨⟨true, j + 1, _, HJ.out, rfl, by congr 1, PE.out, TE.out, BE.out⟩, by simpa [intOf] using HMJ.out⟩
     | false =>
      go_wp2_with fail
      exact ⟨⟨!c, j + 1, _, HJ.out, by simp, by congr 1, PE.out, TE.out, BE.out⟩, by simpa [intOf] using HMJ.out⟩
    | false =>
     have PE := qH (PR.out.next HS.out (.inr HYI.out))
     go_wp2_with fail
     exact ⟨⟨ag, i + 1, _, HI.out, rfl, by congr 1, PE.out, TR.out, BR.out⟩, by simpa [intOf] using HMI.out⟩
   ·obtain rfl : j = k := by omega
    have y1 : ¬ ((j : Int) < (j : Int)) := Int.lt_irrefl _
    have PE := qH (PR.out.next HS.out (.inl HRL.out.symm))
    clear hj hjk
    go_wp2_with fail
    exact ⟨⟨ag, i + 1, _, HI.out, rfl, by congr 1, PE.out, TR.out, BR.out⟩, by simpa [intOf] using HMI.out⟩
  ·obtain rfl : i = n := by omega
   have x1 : ¬ ((i : Int) < (i : Int)) := Int.lt_irrefl _
   have PA := qH (show Pq (stsD D) (ofL [0]) ag u from (show Ps (stsD D) (ofL [0]) t ag (stsD D).length 0 u by rw [HSL.out]; exact PR.out).all)
   have PF := qH (show farW w2.heap.size i (.bool ag) wi < farW w2.heap.size i (.bool true) wp by
    have h := (show Ps (stsD D) (ofL [0]) t ag (stsD D).length 0 u by rw [HSL.out]; exact PR.out).far (g := w2.heap.size) (w := wp) (w' := wi) (by rw [HSL.out]; exact TQ.out) (by rw [HSL.out]; exact TR.out)
    rw [HSL.out] at h
    exact h)
   clear hi hin
   go_wp2_with fail
   exact ⟨⟨ag, _, rfl, PA.out, TR.out, BR.out⟩, PF.out⟩
end Go.Proofs.Ytlohehcfplkjbaa
