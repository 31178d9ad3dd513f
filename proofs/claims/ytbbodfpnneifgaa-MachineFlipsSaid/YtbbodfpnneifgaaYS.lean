/-
  Texts of this proof, put together: McD, EqA. No statement is proved here.
-/
import Derived.Test.YtbbodfpnneifgaaYH
import Derived.Test.YtbbodfpnneifgaaYR
import Derived.Test.YtbbodfpnneifgaaYD
namespace Go.Proofs.Ytbbodfpnneifgaa
open Go.RowKit
set_option linter.unusedSimpArgs false
set_option linter.unusedVariables false
def DfaO (w : World) (B : Nat) (cs : List Value) (D : Dm) : Prop :=
 ∃ (E ce : Nat) (vn : Value) (vf : Nat → Value), cs = dcl D.cl vn (.slice (some ⟨E, 0, none⟩) D.ends.length ce) ∧ D.cl.length = 256 ∧ w.ownsRow B 41 1 vn D.next.length ((List.range D.next.length).map vf) ∧ (∀ i r, D.next[i]? = some r → w.ownsRow B 3 1 (vf i) r.length (nums .i64 r)) ∧
  w.ownsRow B 4 1 (.slice (some ⟨E, 0, none⟩) D.ends.length ce) D.ends.length (bools D.ends) ∧ vn.ownBlock ≠ some E ∧ ∀ i r, D.next[i]? = some r → (vf i).ownBlock ≠ some E
theorem DfaO.dfa {w : World} {B : Nat} {cs : List Value} {D : Dm} (h : DfaO w B cs D) : DfaV w cs D := by
 obtain ⟨E, ce, vn, vf, h1, h2, h3, h4, h5, _⟩ := h
 exact ⟨h2, vn, _, vf, h1, Row.of_own h3, fun i r hr => Row.of_own (h4 i r hr), Row.of_own h5⟩
def nxt (D : Dm) (i : Nat) : List Int := D.next[i]?.getD []
theorem nxt_at {D : Dm} {i : Nat} {r : List Int} (h : D.next[i]? = some r) : nxt D i = r := by unfold nxt; rw [h]; rfl
set_option maxHeartbeats 8000000 in
set_option maxRecDepth 1000000 in
theorem mCopy_any (D : Dm) (cs : List Value) (w : World) (hv : DfaV w cs D) (h1 : 1 ≤ D.next.length) (h2 : 1 ≤ D.ends.length) (hN : D.next.length ≤ 2000) (hE : D.ends.length ≤ 2000) (hR : ∀ r ∈ D.next, r.length ≤ 2000) :
  Calls Try.prog 22 #[.agg cs.toArray] w fun e w' => ∃ cs', e = .returned (.agg cs'.toArray) ∧ DfaO w' w.heap.size cs' D ∧ Below w.heap.size w w' := by
 have V0 := qH hv
 have HDS := qH hv.size
 obtain ⟨An, Ae, cn, ce, vf, hl, hcs, hn, hr, he⟩ := hv.form
 have HL := qH hl
 obtain ⟨n, hnn⟩ : ∃ n, n = D.next.length := ⟨_, rfl⟩
 obtain ⟨ne, hne⟩ : ∃ ne, ne = D.ends.length := ⟨_, rfl⟩
 have HN := qH hnn
 have HNE := qH hne
 rw [← hnn, ← hne] at hcs
 rw [← hnn] at hn
 rw [← hne] at he
 have HCS := qH hcs
 have HRN := qH hn
 have HR := qH hr
 have HE := qH he
 have HNF := qH (show n ≤ 2000 by rw [hnn]; exact hN)
 have HEF := qH (show ne ≤ 2000 by rw [hne]; exact hE)
 have HRF := qH hR
 obtain ⟨i0, hi0, hz0⟩ : ∃ i, Try.prog.info? 28 = some i ∧ i.zero = some (.agg (dcl (ctab [] 0) (.slice none 0 0) (.slice none 0 0)).toArray) := by
  have h := inf_dfa
  cases hi : Try.prog.info? 28 with
  | none => rw [hi] at h; cases h
  | some i => rw [hi] at h; exact ⟨i, rfl, Option.some.inj h⟩
 obtain ⟨d0, hd0⟩ : ∃ d, d = dcl (ctab [] 0) (.slice none 0 0) (.slice none 0 0) := ⟨_, rfl⟩
 have HDL := qH (show d0.length = 258 by rw [hd0]; exact dcl_len (by simp [ctab]))
 rw [← hd0] at hz0
 have HZ0 := qH hz0
 have HNP := qH (show 1 ≤ n by rw [hnn]; exact h1)
 have HEP := qH (show 1 ≤ ne by rw [hne]; exact h2)
 have HONE := qH (show ∀ u ∈ (List.range n).map vf, u.oneCell' = true from fun u hu => by
  obtain ⟨i, hi, rfl⟩ := List.mem_map.1 hu
  obtain ⟨A, c, hv2, _⟩ := hr i _ (List.getElem?_eq_getElem (by rw [← hnn]; exact List.mem_range.1 hi))
  rw [hv2]
  rfl)
 clear hv hl hcs hn hr he hnn hne hN hE hR hz0 hd0 h1 h2
 go_enter Try.func22, Try.ntmps22
 go_wp2_with (first
  | ((with_reducible refine atDst 1 ?_); refine wpList_box rfl 28 _ rfl cs rfl (Below.refl w.heap.size w) (Nat.le_refl _) ?_; intro w1 hk1 hb1 hs1 _; have K1 := qH hk1; have B1 := qH hb1; clear hk1 hb1 hs1; (try simp only [Act.put, qA, qB, qC]))
  | ((with_reducible refine atDst 2 ?_); refine wpList_new rfl 28 rfl i0 _ d0 hi0 HZ0.out rfl (Below.refl w1.heap.size w1) (Nat.le_refl _) ?_; intro w2 hk hb hs ho; have R2 := qH hk; have K2 := qH (K1.out.below hb K1.out.lt); have B2 := qH (B1.out.trans (hb.mono B1.out.size)); have HR1 := qH (show w.heap.size < w1.heap.size from K1.out.lt); clear hk hb hs ho; (try simp only [Act.put, qA, qB, qC])))
 refine mc_start (fun V => Below w.heap.size w V) (fun V => Blk V w.heap.size 28 cs) 7 (by kernel_rfl) (fun wd hwd => ?_)
 have hX : Below w.heap.size w wd := by rw [hwd]; exact B2.out.drew
 have hY : Blk wd w.heap.size 28 cs := by rw [hwd]; exact K2.out.drew
 have RD := qH (show Blk wd w1.heap.size 28 d0 by rw [hwd]; exact R2.out.drew)
 clear hwd
 have HGB := qH (show w.heap.size < wd.heap.size from hY.lt)
 have BD := qH hX
 refine mc_take (i := 0) (oi := ⟨some 5, _, _, _, _, _⟩) (v := ?_) rfl (by kernel_rfl) (by kernel_rfl) (by kernel_rfl) (fun _ _ _ h => h) rfl hX ?_ ?_; rotate_left; (intro W hW; go_simp; try with_reducible rfl); simp only [Act.put, qA, qB, qC]
 refine mc_takeS (i := 1) (oi := ⟨some 6, _, _, _, _, _⟩) (v := .slice An n cn) rfl (by kernel_rfl) (by kernel_rfl) (by kernel_rfl) (fun _ _ _ h => h) rfl hX hY (fun V hT hS => ld_inss (.tmp 5) rfl rfl (by have := Blk.cell hS 256; rw [HCS.out, dcl_n HL.out] at this; exact this)) ?_; simp only [Act.put, qA, qB, qC]
 refine mc_take (i := 3) (oi := ⟨some 8, _, _, _, _, _⟩) (v := ?_) rfl (by kernel_rfl) (by kernel_rfl) (by kernel_rfl) (fun _ _ _ h => h) rfl hX ?_ ?_; rotate_left; (intro W hW; go_simp; try with_reducible rfl); simp only [Act.put, qA, qB, qC]
 refine mc_takeS (i := 4) (oi := ⟨some 9, _, _, _, _, _⟩) (v := .slice Ae ne ce) rfl (by kernel_rfl) (by kernel_rfl) (by kernel_rfl) (fun _ _ _ h => h) rfl hX hY (fun V hT hS => ld_bls (.tmp 8) rfl rfl (by have := Blk.cell hS 257; rw [HCS.out, dcl_e HL.out] at this; exact this)) ?_; simp only [Act.put, qA, qB, qC]
 refine mc_actB (i := 2) (o := ⟨some 7, _, _, _, _, _⟩) rfl (by kernel_rfl) rfl (fun K hK => ?_)
 go_wp2_with fail
 refine (cloneRows_any (.slice An n cn) ((List.range n).map vf) wd (HRN.out.below BD.out) HONE.out (by rw [List.length_map, List.length_range]; exact Nat.le_trans HNF.out (by decide))).mono ?_
 rintro e w3 ⟨u, rfl, ho, hb⟩
 rw [List.length_map, List.length_range] at ho
 obtain ⟨N, cN, rfl, _⟩ := own_form ho (Nat.lt_of_lt_of_le Nat.zero_lt_one HNP.out)
 have O3 := qH ho
 have B3 := qH hb
 go_wp2_with fail
 refine hK _ _ (hX.trans (hb.mono (Nat.le_trans (Nat.le_of_lt HGB.out) (Nat.le_refl _)))) (hY.below hb hY.lt) ?_
 clear hK K
 (try simp only [Act.put, qA, qB, qC])
 replace hX := hX.trans (hb.mono (Nat.le_of_lt HGB.out))
 replace hY := hY.below hb hY.lt
 clear ho hb
 refine mc_take (i := 6) (oi := ⟨some 11, _, _, _, _, _⟩) (v := ?_) rfl (by kernel_rfl) (by kernel_rfl) (by kernel_rfl) (fun _ _ _ h => h) rfl hX ?_ ?_; rotate_left; (intro W hW; go_simp; try with_reducible rfl); simp only [Act.put, qA, qB, qC]
 refine mc_actB (i := 5) (o := ⟨some 10, _, _, _, _, _⟩) rfl (by kernel_rfl) rfl (fun K hK => ?_)
 go_wp2_with fail
 refine (cloneBools_any (.slice Ae ne ce) (bools D.ends) w3 (HE.out.below (BD.out.trans (B3.out.mono (Nat.le_of_lt HGB.out)))) (bools_one _) (by rw [bools_length, ← HNE.out]; exact Nat.le_trans HEF.out (by decide))).mono ?_
 rintro e w4 ⟨u, rfl, ho, hb⟩
 rw [bools_length, ← HNE.out] at ho
 obtain ⟨E, cE, rfl, _⟩ := own_form ho (Nat.lt_of_lt_of_le Nat.zero_lt_one HEP.out)
 have HNE2 := qH (show N ≠ E from fun e => by
  have h1 := (own6_lt O3.out N rfl).1
  have h2 := (own6_lt ho E rfl).2
  omega)
 have O4 := qH (show w4.ownsRow wd.heap.size 4 1 (.slice (some ⟨E, 0, none⟩) ne cE) ne (bools D.ends) from own_mono ho B3.out.size)
 have O3b := qH (own6_stay O3.out fun j hj => hb.block j (own6_lt O3.out j hj).1)
 have B4 := qH (B3.out.trans (hb.mono B3.out.size))
 go_wp2_with fail
 refine hK _ _ (hX.trans (hb.mono (Nat.le_trans (Nat.le_of_lt HGB.out) B3.out.size))) (hY.below hb hY.lt) ?_
 clear hK K
 (try simp only [Act.put, qA, qB, qC])
 replace hX := hX.trans (hb.mono (Nat.le_trans (Nat.le_of_lt HGB.out) B3.out.size))
 replace hY := hY.below hb hY.lt
 clear ho hb
 have K4 := qH hY
 clear hY
 refine mc_last (i := 7) (o := ⟨none, _, _, _, _, _⟩) rfl (by kernel_rfl) rfl (fun K hK => ?_)
 refine wp_stIns (.tmp 11) (.tmp 7) rfl rfl rfl ((K4.out.cell 256).trans (by rw [HCS.out]; exact dcl_n HL.out)) (K4.out.frozen 256) ?_
 refine hK _ _ (hX.setCell (p := ⟨w.heap.size, 256, none⟩) (Nat.le_refl _) _) ?_
 clear hK K
 (try simp only [Act.put, qA, qB, qC])
 have K5 := qH (show Blk (w4.setCell ⟨w.heap.size, 256, none⟩ (.slice (some ⟨N, 0, none⟩) n cN)) w.heap.size 28 (dcl D.cl (.slice (some ⟨N, 0, none⟩) n cN) (.slice Ae ne ce)) by
  have := K4.out.set 256 (.slice (some ⟨N, 0, none⟩) n cN)
  rw [HCS.out, dcl_setn HL.out] at this
  exact this)
 replace hX := hX.setCell (p := ⟨w.heap.size, 256, none⟩) (Nat.le_refl _) (.slice (some ⟨N, 0, none⟩) n cN)
 refine mc_take (i := 8) (oi := ⟨some 12, _, _, _, _, _⟩) (v := ?_) rfl (by kernel_rfl) (by kernel_rfl) (by kernel_rfl) (fun _ _ _ h => h) rfl hX ?_ ?_; rotate_left; (intro W hW; go_simp; try with_reducible rfl); simp only [Act.put, qA, qB, qC]
 refine mc_last (i := 9) (o := ⟨none, _, _, _, _, _⟩) rfl (by kernel_rfl) rfl (fun K hK => ?_)
 refine wp_stBls (.tmp 12) (.tmp 10) rfl rfl rfl ((K5.out.cell 257).trans (dcl_e HL.out)) (K5.out.frozen 257) ?_
 refine hK _ _ (hX.setCell (p := ⟨w.heap.size, 257, none⟩) (Nat.le_refl _) _) ?_
 clear hK K
 (try simp only [Act.put, qA, qB, qC])
 refine wpAnyC_done (by kernel_rfl) ?_ _
 obtain ⟨w6, hw6⟩ : ∃ v : World, v = (w4.setCell ⟨w.heap.size, 256, none⟩ (.slice (some ⟨N, 0, none⟩) n cN)).setCell ⟨w.heap.size, 257, none⟩ (.slice (some ⟨E, 0, none⟩) ne cE) := ⟨_, rfl⟩
 have B6 := qH (show Below w.heap.size w w6 by rw [hw6]; exact hX.setCell (p := ⟨w.heap.size, 257, none⟩) (Nat.le_refl _) _)
 have K6 := qH (show Blk w6 w.heap.size 28 (dcl D.cl (.slice (some ⟨N, 0, none⟩) n cN) (.slice (some ⟨E, 0, none⟩) ne cE)) by
  have := K5.out.set 257 (.slice (some ⟨E, 0, none⟩) ne cE)
  rw [dcl_sete HL.out] at this
  rw [hw6]
  exact this)
 have HST := qH (show ∀ k, k ≠ w.heap.size → w6.heap[k]? = w4.heap[k]? from fun k hk => by
  rw [hw6, Below.heap_setCell _ ⟨w.heap.size, 257, none⟩ _ k hk, Below.heap_setCell _ ⟨w.heap.size, 256, none⟩ _ k hk])
 have HSZ := qH (show w6.heap.size = w4.heap.size by rw [hw6]; simp)
 have ON6 := qH (own6_stay O3b.out fun j hj => HST.out j (by have := (own6_lt O3b.out j hj).2; have := HGB.out; omega))
 have OE6 := qH (own6_stay O4.out fun j hj => HST.out j (by have := (own6_lt O4.out j hj).2; have := HGB.out; omega))
 have R6 := qH (show Blk w6 w1.heap.size 28 d0 from (HST.out w1.heap.size (Nat.ne_of_gt HR1.out)).trans (RD.out.below B4.out RD.out.lt))
 rw [← hw6]
 clear hX hw6 K4 K5 O3 O3b O4
 obtain ⟨BC, hBC⟩ : ∃ x, x = wd.heap.size := ⟨_, rfl⟩
 rw [← hBC] at ON6 OE6 HGB
 have HRB := qH (show w1.heap.size < BC by rw [hBC]; exact RD.out.lt)
 have HNB := qH (own6_lt ON6.out N rfl)
 have HEB := qH (own6_lt OE6.out E rfl)
 have F6 := qH (show Fam w6 BC BC N cN n 0 vf (nxt D) from ⟨ON6.out, fun i hi => absurd hi (Nat.not_lt_zero _), fun i hi => absurd hi (Nat.not_lt_zero _), fun i j hi => absurd hi (Nat.not_lt_zero _)⟩)
 have c256 : w6.cell? ⟨w.heap.size, 256, none⟩ = some (.slice (some ⟨N, 0, none⟩) n cN) := (K6.out.cell 256).trans (dcl_n HL.out)
 clear hBC RD BD B3 B4 HST HSZ
 go_wp2_with fail
 clear c256
 go_loopw [16] (fun iv wl => ∃ (i : Nat) (vf2 : Nat → Value), iv = .int .i64 (i : Int) ∧ i ≤ n ∧ Fam wl BC BC N cN n i vf2 (nxt D) ∧ (∀ j, i ≤ j → j < n → vf2 j = vf j) ∧ Below BC w6 wl ∧ wl.ownsRow BC 4 1 (.slice (some ⟨E, 0, none⟩) ne cE) ne (bools D.ends) ∧ ∀ j, j < i → (vf2 j).ownBlock ≠ some E) (fun iv _ => n - (intOf iv).toNat)
 case atStart => exact ⟨0, vf, rfl, Nat.zero_le _, F6.out, fun _ _ _ => rfl, Below.refl _ _, OE6.out, fun j h => absurd h (Nat.not_lt_zero _)⟩
 clear F6 ON6 OE6
 obtain ⟨i, vf2, rfl, hi, hf, hvf, hb, hoe, hne⟩ := hrel
 have FR := qH hf
 have HVF := qH hvf
 have BR := qH hb
 have OE := qH hoe
 have HNE3 := qH hne
 have HI := qH hi
 clear hf hvf hb hoe hne hi
 obtain ⟨wi, hwi⟩ : ∃ v : World, v = wr := ⟨_, rfl⟩
 subst hwi
 by_cases hin : i < n
 ·have x1 : (i : Int) < (n : Int) := Int.ofNat_lt.2 hin
  have HIN := qH hin
  have HMI := qH (sub_next hin)
  have e3 := wrap_one i (lt_bigN hin HNF.out)
  have e4 := wrap_one' i (lt_bigN hin HNF.out)
  obtain ⟨r, hr⟩ : ∃ r, D.next[i]? = some r := ⟨_, List.getElem?_eq_getElem (by rw [← HN.out]; exact hin)⟩
  have HRR := qH hr
  have HRL := qH (show r.length ≤ 1048576 from Nat.le_trans (HRF.out r (List.mem_of_getElem? hr)) (by decide))
  have HNX := qH (nxt_at hr)
  obtain ⟨rl, hrl⟩ : ∃ rl, rl = r.length := ⟨_, rfl⟩
  have HRLE := qH hrl
  have hri := HR.out i r hr
  have hri2 := hri
  obtain ⟨Ar, cr, hvr, _⟩ := hri2
  rw [nums_length, ← hrl] at hvr
  rw [hvr] at hri
  have HRI := qH hri
  have hci : wi.cell? ⟨N, i, none⟩ = some (.slice Ar rl cr) := by rw [FR.out.cell hin, HVF.out i (Nat.le_refl _) hin, hvr]
  clear hin hr hrl hri hvr
  go_wp2_with fail
  have C256 := qH (show w6.cell? ⟨w.heap.size, 256, none⟩ = some (.slice (some ⟨N, 0, none⟩) n cN) from (K6.out.cell 256).trans (dcl_n HL.out))
  refine sx_startB (B := BC) (w0 := w6) (by kernel_rfl) BR.out (fun wd hwd hX => ?_)
  have FD := qH (show Fam wd BC BC N cN n i vf2 (nxt D) by rw [hwd]; exact FR.out.below (Below.refl _ _).drew)
  have OD := qH (show wd.ownsRow BC 4 1 (.slice (some ⟨E, 0, none⟩) ne cE) ne (bools D.ends) by rw [hwd]; exact own6_stay OE.out fun j hj => rfl)
  clear hwd FR OE
  have HBS := qH (Nat.le_of_lt (Nat.lt_of_le_of_lt FD.out.glt.2 FD.out.glt.1))
  refine sx_take (i := 0) (oi := ⟨some 21, _, _, _, _, _⟩) (v := ?_) rfl (by kernel_rfl) (by kernel_rfl) (by kernel_rfl) (fun _ _ _ h => h) rfl hX ?_ ?_; rotate_left; (intro W hW; go_simp; try with_reducible rfl); simp only [Act.put, qA, qB, qC]
  refine sx_take (i := 1) (oi := ⟨some 22, _, _, _, _, _⟩) (v := .slice (some ⟨N, 0, none⟩) n cN) rfl (by kernel_rfl) (by kernel_rfl) (by kernel_rfl) (fun _ _ _ h => h) rfl hX (fun V hV => ld_inss (.tmp 21) rfl rfl ((hV.cell (p := ⟨w.heap.size, 256, none⟩) HGB.out).trans C256.out)) ?_; simp only [Act.put, qA, qB, qC]
  refine sx_take (i := 2) (oi := ⟨some 23, _, _, _, _, _⟩) (v := ?_) rfl (by kernel_rfl) (by kernel_rfl) (by kernel_rfl) (fun _ _ _ h => h) rfl hX ?_ ?_; rotate_left; (intro W hW; go_simp; try with_reducible rfl); simp only [Act.put, qA, qB, qC]
  refine sx_take (i := 3) (oi := ⟨some 24, _, _, _, _, _⟩) (v := ?_) rfl (by kernel_rfl) (by kernel_rfl) (by kernel_rfl) (fun _ _ _ h => h) rfl hX ?_ ?_; rotate_left; (intro W hW; go_simp; try with_reducible rfl); simp only [Act.put, qA, qB, qC]
  refine sx_actB (i := 4) (o := ⟨some 25, _, _, _, _, _⟩) rfl (by kernel_rfl) rfl hX (fun K hK => ?_)
  go_wp2_with fail
  refine (cloneInts_any (.slice Ar rl cr) (nums .i64 r) wd (HRI.out.below (B6.out.trans (hX.mono (Nat.le_of_lt HGB.out)))) (nums_one _ _) (by rw [nums_length]; exact HRL.out)).mono ?_
  rintro e wc ⟨v, rfl, ho, hb⟩
  rw [nums_length] at ho
  have OV := qH ho
  have BV := qH hb
  obtain ⟨Av, cv, rfl⟩ := ownC_slice ho
  go_wp2_with fail
  refine hK _ _ (hb.mono HBS.out) ?_
  clear hK K
  (try simp only [Act.put, qA, qB, qC])
  replace hX := hX.trans (hb.mono HBS.out)
  have FN := qH (FD.out.next HIN.out OV.out BV.out HBS.out)
  have HC2 := qH ((FD.out.below hb).cell HIN.out)
  have HF2 := qH ((FD.out.below hb).frozen HIN.out)
  have HPL := qH (show putL (nxt D) i r = nxt D by
   funext q
   unfold putL
   split
   ·rename_i h; rw [h, HNX.out]
   ·rfl)
  rw [HPL.out] at FN
  have OW := qH (show (wc.setCell ⟨N, i, none⟩ (.slice Av r.length cv)).ownsRow BC 4 1 (.slice (some ⟨E, 0, none⟩) ne cE) ne (bools D.ends) from own6_stay (own6_stay OD.out fun j hj => BV.out.block j (own6_lt OD.out j hj).1) fun j hj => Below.heap_setCell wc ⟨N, i, none⟩ _ j (fun e => HNE2.out (by have e2 : some E = some j := hj; rw [Option.some.inj e2]; exact e.symm)))
  have HNV := qH (show ∀ j, j < i + 1 → (putV vf2 i (.slice Av r.length cv) j).ownBlock ≠ some E from fun j hj => by
   by_cases he : j = i
   ·rw [he, putV_at]
    intro e
    have h1 := (own6_lt OV.out E e).2
    have h2 := (own6_lt OD.out E rfl).1
    exact absurd h1 (Nat.not_le_of_lt h2)
   ·rw [putV_ne he]
    exact HNE3.out j (Nat.lt_of_le_of_ne (Nat.le_of_lt_succ hj) he))
  have HVF2 := qH (show ∀ j, i + 1 ≤ j → j < n → putV vf2 i (.slice Av r.length cv) j = vf j from fun j h1 h2 => by
   rw [putV_ne (Nat.ne_of_gt h1)]
   exact HVF.out j (Nat.le_of_lt h1) h2)
  clear ho hb
  refine sx_take (i := 5) (oi := ⟨some 26, _, _, _, _, _⟩) (v := ?_) rfl (by kernel_rfl) (by kernel_rfl) (by kernel_rfl) (fun _ _ _ h => h) rfl hX ?_ ?_; rotate_left; (intro W hW; go_simp; try with_reducible rfl); simp only [Act.put, qA, qB, qC]
  refine sx_actB (i := 6) (o := ⟨none, _, _, _, _, _⟩) rfl (by kernel_rfl) rfl hX (fun K hK => ?_)
  refine wp_stL (.tmp 26) (.tmp 25) rfl N i rfl Av r.length cv rfl _ HC2.out HF2.out ?_
  refine hK _ _ ((Below.refl _ _).setCell (p := ⟨N, i, none⟩) HNB.out.2 _) ?_
  clear hK K
  (try simp only [Act.put, qA, qB, qC])
  have BS := qH (hX.setCell (p := ⟨N, i, none⟩) HNB.out.2 (.slice Av r.length cv))
  refine wpAnyH_done (by kernel_rfl) ?_ _
  clear hX hci
  go_wp2_with fail
  exact ⟨⟨i + 1, _, by congr 1, HIN.out, FN.out, HVF2.out, BS.out, OW.out, HNV.out⟩, by simpa [intOf] using HMI.out⟩
 ·obtain rfl : i = n := Nat.le_antisymm HI.out (Nat.le_of_not_lt hin)
  have x1 : ¬ ((i : Int) < (i : Int)) := Int.lt_irrefl _
  clear hin
  have KI := qH (K6.out.below BR.out HGB.out)
  have RI := qH (R6.out.below BR.out HRB.out)
  obtain ⟨da, hda⟩ : ∃ da, da = dcl D.cl (.slice (some ⟨N, 0, none⟩) i cN) (.slice (some ⟨E, 0, none⟩) ne cE) := ⟨_, rfl⟩
  have HDA := qH hda
  have HDLa := qH (show da.length = 258 by rw [hda]; exact dcl_len HL.out)
  have HDOa := qH (show da.all (·.oneCell') = true by rw [hda]; exact dcl_one)
  have HDSa := qH (show (Try.prog.info? 28).map (·.size) = some da.length by rw [hda]; exact size_dfa HL.out)
  rw [← hda] at KI
  clear hda
  go_wp2_with (first
   | ((with_reducible refine atDst 28 ?_); refine wpList_ldArr rfl 28 _ rfl w.heap.size rfl 28 _ _ KI.out Try.underlying28 rfl HDSa.out ?_; (try simp only [Act.put, qA, qB, qC]))
   | ((with_reducible refine atStore 28 2 28 ?_); refine wpList_stBlk rfl 28 _ _ rfl w1.heap.size da rfl rfl 28 _ RI.out HDSa.out (by rw [HDL.out, HDLa.out]) HDOa.out (Below.refl w1.heap.size wi) (Nat.le_refl _) ?_; intro we hk hb hs ho; have KE := qH hk; have HO9 := qH ho; have BE := qH hb; clear hk hb hs ho; (try simp only [Act.put, qA, qB, qC])))
  refine bodyPost_ret (results_blk rfl _ _ w1.heap.size 28 _ _ rfl KE.out Try.underlying28 rfl HDSa.out) rfl ?_
  have st : ∀ k, BC ≤ k → we.heap[k]? = wi.heap[k]? := fun k hk => HO9.out k (by have := HRB.out; omega)
  refine ⟨da, rfl, ⟨E, cE, .slice (some ⟨N, 0, none⟩) i cN, vf2, by rw [HDA.out, HNE.out], HL.out, ?_, fun j r hr => ?_, ?_, fun e => HNE2.out (Option.some.inj e), fun j r hr => HNE3.out j (by rw [HN.out]; exact (List.getElem?_eq_some_iff.1 hr).1)⟩, (B6.out.trans (BR.out.mono (Nat.le_of_lt HGB.out))).trans (BE.out.mono (Nat.le_of_lt HR1.out))⟩
  ·rw [← HN.out]
   exact own6_stay (own_mono FR.out.top (Nat.le_of_lt HGB.out)) fun k hk => st k (own6_lt FR.out.top k hk).2
  ·have hj : j < i := by rw [HN.out]; exact (List.getElem?_eq_some_iff.1 hr).1
   have h1 := FR.out.row j hj
   rw [nxt_at hr] at h1
   exact own6_stay (own_mono h1 (Nat.le_of_lt HGB.out)) fun k hk => st k (own6_lt h1 k hk).2
  ·rw [← HNE.out]
   exact own6_stay (own_mono OE.out (Nat.le_of_lt HGB.out)) fun k hk => st k (own6_lt OE.out k hk).2
theorem ex_neE1 {P : Program} {ev : Operand → Value} {o : Oper} (x y : Operand) {t r : TypeId} (ht : P.underlying t = some (.int .i64)) (ho : o.op = .binOp .neq t x y r) {p q : Int} (hx : ev x = .int .i64 p) (hy : ev y = .int .i64 q) {c : Bool} (hc : decide (p = q) = c) (W : World) : (execOp ev o).run P W = .ok (.value (.bool (!c))) W := by
 have h2 : (p != q) = !c := by rw [← hc, bne]; congr 1
 simp only [execOp, ho, hx, hy]
 rw [← h2]
 go_simp
theorem ex_neE2 {P : Program} {ev : Operand → Value} {o : Oper} (x y : Operand) {t r : TypeId} (ht : P.underlying t = some .bool) (ho : o.op = .binOp .neq t x y r) {p q : Bool} (hx : ev x = .bool p) (hy : ev y = .bool q) {c : Bool} (hc : decide (p = q) = c) (W : World) : (execOp ev o).run P W = .ok (.value (.bool (!c))) W := by
 cases p <;> cases q <;> (subst hc; simp only [execOp, ho, hx, hy]; go_simp)
theorem ex_nI {ev : Operand → Value} {o : Oper} (x y : Operand) {r : TypeId} (ho : o.op = .binOp .neq 3 x y r) {p q : Int} (hx : ev x = .int .i64 p) (hy : ev y = .int .i64 q) {c : Bool} (hc : decide (p = q) = c) (W : World) : (execOp ev o).run Try.prog W = .ok (.value (.bool (!c))) W := ex_neE1 x y Try.underlying3 ho hx hy hc W
theorem ex_nB {ev : Operand → Value} {o : Oper} (x y : Operand) {r : TypeId} (ho : o.op = .binOp .neq 4 x y r) {p q : Bool} (hx : ev x = .bool p) (hy : ev y = .bool q) {c : Bool} (hc : decide (p = q) = c) (W : World) : (execOp ev o).run Try.prog W = .ok (.value (.bool (!c))) W := ex_neE2 x y Try.underlying4 ho hx hy hc W
theorem ld_eI {ev : Operand → Value} {o : Oper} (x : Operand) (ho : o.op = .load 3 x) {p : Addr} (hx : ev x = .pointer (some p)) {k : Int} {W : World} (hc : W.cell? p = some (.int .i64 k)) : (execOp ev o).run Try.prog W = .ok (.value (.int .i64 k)) W := by
 simp only [execOp, ho, hx]
 go_simp
theorem ld_eB {ev : Operand → Value} {o : Oper} (x : Operand) (ho : o.op = .load 4 x) {p : Addr} (hx : ev x = .pointer (some p)) {k : Bool} {W : World} (hc : W.cell? p = some (.bool k)) : (execOp ev o).run Try.prog W = .ok (.value (.bool k)) W := by
 simp only [execOp, ho, hx]
 go_simp
theorem ix_eI {ev : Operand → Value} {o : Oper} (x i : Operand) (ho : o.op = .indexAddr 41 x i) {b off n c q : Nat} (hx : ev x = .slice (some ⟨b, off, none⟩) n c) (hi : ev i = .int .i64 (q : Int)) (hq : q < n) (W : World) : (execOp ev o).run Try.prog W = .ok (.value (.pointer (some ⟨b, off + q, none⟩))) W := by
 have h1 : (q : Int) < (n : Int) := Int.ofNat_lt.2 hq
 simp only [execOp, ho, hx, hi]
 go_simp
theorem ix_eB {ev : Operand → Value} {o : Oper} (x i : Operand) (ho : o.op = .indexAddr 26 x i) {b off n c q : Nat} (hx : ev x = .slice (some ⟨b, off, none⟩) n c) (hi : ev i = .int .i64 (q : Int)) (hq : q < n) (W : World) : (execOp ev o).run Try.prog W = .ok (.value (.pointer (some ⟨b, off + q, none⟩))) W := by
 have h1 : (q : Int) < (n : Int) := Int.ofNat_lt.2 hq
 simp only [execOp, ho, hx, hi]
 go_simp
theorem isW_below {w V : World} (h : IsW w.drew V) : Below w.heap.size w V := by
 have e : V = w.drew := h
 rw [e]
 exact (Below.refl _ _).drew
theorem isW_cell {w V : World} (h : IsW w.drew V) {p : Addr} {v : Value} (hc : w.cell? p = some v) : V.cell? p = some v := by
 have e : V = w.drew := h
 rw [e]
 exact hc
abbrev vI (x : Int) : Value := .int .i64 x
abbrev vB (x : Bool) : Value := .bool x
set_option maxHeartbeats 4000000 in
set_option maxRecDepth 1000000 in
theorem eqInts_any (xs ys : List Int) (u v : Value) (w : World) (hu : Row w u (nums .i64 xs)) (hv : Row w v (nums .i64 ys)) (hn : xs.length ≤ 1048576) :
  Calls Try.prog 34 #[u, v] w fun e w' => e = .returned (.bool (decide (xs = ys))) ∧ Below w.heap.size w w' := by
 have HU := qH hu
 have HV := qH hv
 have HNM := qH hn
 obtain ⟨A, c, rfl, _⟩ := hu
 obtain ⟨B, d, rfl, _⟩ := hv
 obtain ⟨n, hnn⟩ : ∃ n, n = xs.length := ⟨_, rfl⟩
 obtain ⟨m, hm⟩ : ∃ m, m = ys.length := ⟨_, rfl⟩
 have HN := qH hnn
 have HM := qH hm
 have el : (nums .i64 xs).length = n := by rw [hnn]; simp [nums]
 have em : (nums .i64 ys).length = m := by rw [hm]; simp [nums]
 rw [el] at HU ⊢
 rw [em] at HV ⊢
 clear hn hnn hm el em
 by_cases hnm : n = m
 ·subst hnm
  go_enter Try.func34, Try.ntmps34
  go_wp2_with fail
  go_loopw [13] (fun iv wl => ∃ i : Nat, iv = .int .i64 (i : Int) ∧ i ≤ n ∧ (∀ j, j < i → xs[j]? = ys[j]?) ∧ Below w.heap.size w wl) (fun iv _ => n - (intOf iv).toNat)
  case atStart => exact ⟨0, rfl, Nat.zero_le _, fun j h => absurd h (Nat.not_lt_zero _), Below.refl _ _⟩
  obtain ⟨i, rfl, hi, heq, hb⟩ := hrel
  have HEQ := qH heq
  have BR := qH hb
  have HI := qH hi
  clear heq hb hi
  by_cases hin : i < n
  ·have x1 : (i : Int) < (n : Int) := Int.ofNat_lt.2 hin
   have HIN := qH hin
   have HMI := qH (sub_next hin)
   have e3 := wrap_one i (Nat.le_trans (Nat.le_of_lt hin) (by rw [HN.out]; exact Nat.le_trans HNM.out (by decide)))
   have e4 := wrap_one' i (Nat.le_trans (Nat.le_of_lt hin) (by rw [HN.out]; exact Nat.le_trans HNM.out (by decide)))
   obtain ⟨x, hx⟩ : ∃ x, xs[i]? = some x := ⟨_, List.getElem?_eq_getElem (by rw [← HN.out]; exact hin)⟩
   obtain ⟨y, hy⟩ : ∃ y, ys[i]? = some y := ⟨_, List.getElem?_eq_getElem (by rw [← HM.out]; exact hin)⟩
   have HX := qH hx
   have HY := qH hy
   obtain ⟨b1, o1, rfl, _, hc1⟩ := (HU.out.below BR.out).at_ (by simp [nums]; rw [← HN.out]; exact Nat.lt_of_le_of_lt (Nat.zero_le _) hin)
   obtain ⟨b2, o2, rfl, _, hc2⟩ := (HV.out.below BR.out).at_ (by simp [nums]; rw [← HM.out]; exact Nat.lt_of_le_of_lt (Nat.zero_le _) hin)
   have HC1 := qH (show wr.cell? ⟨b1, o1 + i, none⟩ = some (vI x) from hc1 i _ (by simp [nums, hx]))
   have HC2 := qH (show wr.cell? ⟨b2, o2 + i, none⟩ = some (vI y) from hc2 i _ (by simp [nums, hy]))
   obtain ⟨q, hq⟩ : ∃ q, q = decide (x = y) := ⟨_, rfl⟩
   have HQ := qH hq.symm
   have HQE := qH hq
   clear hin hx hy hc1 hc2 hq
   go_wp2_with fail
   refine sg_start (S := IsW wr.drew) (by kernel_rfl) rfl (fun wd hwd => ?_)
   have hX : IsW wr.drew wd := hwd
   clear hwd
   refine sg_take (i := 0) (oi := ⟨some 16, _, _, _, _, _⟩) (v := ?_) rfl (by kernel_rfl) (by kernel_rfl) (by kernel_rfl) (fun _ _ _ h => h) rfl hX ?_ ?_; rotate_left; (intro W hW; go_simp; try with_reducible rfl); simp only [Act.put, qA, qB, qC]
   refine sg_take (i := 1) (oi := ⟨some 17, _, _, _, _, _⟩) (v := ?_) rfl (by kernel_rfl) (by kernel_rfl) (by kernel_rfl) (fun _ _ _ h => h) rfl hX ?_ ?_; rotate_left; (intro W hW; go_simp; try with_reducible rfl); simp only [Act.put, qA, qB, qC]
   refine sg_take (i := 2) (oi := ⟨some 18, _, _, _, _, _⟩) (v := .pointer (some ⟨b1, o1 + i, none⟩)) rfl (by kernel_rfl) (by kernel_rfl) (by kernel_rfl) (fun _ _ _ h => h) rfl hX (fun V _ => ix_eI (.tmp 16) (.tmp 17) rfl rfl rfl HIN.out V) ?_; simp only [Act.put, qA, qB, qC]
   refine sg_take (i := 3) (oi := ⟨some 19, _, _, _, _, _⟩) (v := (vI x)) rfl (by kernel_rfl) (by kernel_rfl) (by kernel_rfl) (fun _ _ _ h => h) rfl hX (fun V hV => ld_eI (.tmp 18) rfl rfl (isW_cell hV HC1.out)) ?_; simp only [Act.put, qA, qB, qC]
   refine sg_take (i := 4) (oi := ⟨some 20, _, _, _, _, _⟩) (v := ?_) rfl (by kernel_rfl) (by kernel_rfl) (by kernel_rfl) (fun _ _ _ h => h) rfl hX ?_ ?_; rotate_left; (intro W hW; go_simp; try with_reducible rfl); simp only [Act.put, qA, qB, qC]
   refine sg_take (i := 5) (oi := ⟨some 21, _, _, _, _, _⟩) (v := ?_) rfl (by kernel_rfl) (by kernel_rfl) (by kernel_rfl) (fun _ _ _ h => h) rfl hX ?_ ?_; rotate_left; (intro W hW; go_simp; try with_reducible rfl); simp only [Act.put, qA, qB, qC]
   refine sg_take (i := 6) (oi := ⟨some 22, _, _, _, _, _⟩) (v := .pointer (some ⟨b2, o2 + i, none⟩)) rfl (by kernel_rfl) (by kernel_rfl) (by kernel_rfl) (fun _ _ _ h => h) rfl hX (fun V _ => ix_eI (.tmp 20) (.tmp 21) rfl rfl rfl HIN.out V) ?_; simp only [Act.put, qA, qB, qC]
   refine sg_take (i := 7) (oi := ⟨some 23, _, _, _, _, _⟩) (v := (vI y)) rfl (by kernel_rfl) (by kernel_rfl) (by kernel_rfl) (fun _ _ _ h => h) rfl hX (fun V hV => ld_eI (.tmp 22) rfl rfl (isW_cell hV HC2.out)) ?_; simp only [Act.put, qA, qB, qC]
   refine sg_take (i := 8) (oi := ⟨some 24, _, _, _, _, _⟩) (v := .bool (!q)) rfl (by kernel_rfl) (by kernel_rfl) (by kernel_rfl) (fun _ _ _ h => h) rfl hX (fun V _ => ex_nI (.tmp 19) (.tmp 23) rfl rfl rfl HQ.out V) ?_; simp only [Act.put, qA, qB, qC]
   refine wpAnyH_done (by kernel_rfl) ?_ _
   have BD := qH (BR.out.trans ((isW_below hX).mono BR.out.size))
   clear hX
   cases q with
   | true =>
    have HXY := qH (show x = y from of_decide_eq_true HQE.out.symm)
    have HEN := qH (show ∀ j, j < i + 1 → xs[j]? = ys[j]? from fun j hj => by
     rcases Nat.lt_succ_iff_lt_or_eq.1 hj with h | h
     ·exact HEQ.out j h
     ·rw [h, HX.out, HY.out, HXY.out])
    clear HQ HQE
    go_wp2_with fail
    exact ⟨⟨i + 1, by congr 1, HIN.out, HEN.out, BD.out⟩, by simpa [intOf] using HMI.out⟩
   | false =>
    have HNE := qH (show decide (xs = ys) = false from decide_eq_false fun h => of_decide_eq_false HQE.out.symm (by
     have h1 := HX.out
     rw [h, HY.out] at h1
     exact (Option.some.inj h1).symm))
    clear HQ HQE
    go_wp2_with fail
    go_ret
    rw [HNE.out]
    exact ⟨rfl, BD.out⟩
  ·obtain rfl : i = n := Nat.le_antisymm HI.out (Nat.le_of_not_lt hin)
   have x1 : ¬ ((i : Int) < (i : Int)) := Int.lt_irrefl _
   have HYE := qH (show decide (xs = ys) = true from decide_eq_true (List.ext_getElem? fun j => by
    by_cases hj : j < i
    ·exact HEQ.out j hj
    ·rw [List.getElem?_eq_none (by rw [← HN.out]; omega), List.getElem?_eq_none (by rw [← HM.out]; omega)]))
   clear hin
   go_wp2_with fail
   go_ret
   rw [HYE.out]
   exact ⟨rfl, BR.out⟩
 ·have x1 : ¬ ((n : Int) = (m : Int)) := fun h => hnm (Int.ofNat.inj h)
  have HNE := qH (show decide (xs = ys) = false from decide_eq_false fun h => hnm (by rw [HN.out, HM.out, h]))
  go_enter Try.func34, Try.ntmps34
  go_wp2_with fail
  go_ret
  rw [HNE.out]
  exact ⟨rfl, Below.refl _ _⟩
set_option maxHeartbeats 4000000 in
set_option maxRecDepth 1000000 in
theorem eqBools_any (xs ys : List Bool) (u v : Value) (w : World) (hu : Row w u (bools xs)) (hv : Row w v (bools ys)) (hn : xs.length ≤ 1048576) :
  Calls Try.prog 35 #[u, v] w fun e w' => e = .returned (.bool (decide (xs = ys))) ∧ Below w.heap.size w w' := by
 have HU := qH hu
 have HV := qH hv
 have HNM := qH hn
 obtain ⟨A, c, rfl, _⟩ := hu
 obtain ⟨B, d, rfl, _⟩ := hv
 obtain ⟨n, hnn⟩ : ∃ n, n = xs.length := ⟨_, rfl⟩
 obtain ⟨m, hm⟩ : ∃ m, m = ys.length := ⟨_, rfl⟩
 have HN := qH hnn
 have HM := qH hm
 have el : (bools xs).length = n := by rw [hnn]; simp [bools]
 have em : (bools ys).length = m := by rw [hm]; simp [bools]
 rw [el] at HU ⊢
 rw [em] at HV ⊢
 clear hn hnn hm el em
 by_cases hnm : n = m
 ·subst hnm
  go_enter Try.func35, Try.ntmps35
  go_wp2_with fail
  go_loopw [13] (fun iv wl => ∃ i : Nat, iv = .int .i64 (i : Int) ∧ i ≤ n ∧ (∀ j, j < i → xs[j]? = ys[j]?) ∧ Below w.heap.size w wl) (fun iv _ => n - (intOf iv).toNat)
  case atStart => exact ⟨0, rfl, Nat.zero_le _, fun j h => absurd h (Nat.not_lt_zero _), Below.refl _ _⟩
  obtain ⟨i, rfl, hi, heq, hb⟩ := hrel
  have HEQ := qH heq
  have BR := qH hb
  have HI := qH hi
  clear heq hb hi
  by_cases hin : i < n
  ·have x1 : (i : Int) < (n : Int) := Int.ofNat_lt.2 hin
   have HIN := qH hin
   have HMI := qH (sub_next hin)
   have e3 := wrap_one i (Nat.le_trans (Nat.le_of_lt hin) (by rw [HN.out]; exact Nat.le_trans HNM.out (by decide)))
   have e4 := wrap_one' i (Nat.le_trans (Nat.le_of_lt hin) (by rw [HN.out]; exact Nat.le_trans HNM.out (by decide)))
   obtain ⟨x, hx⟩ : ∃ x, xs[i]? = some x := ⟨_, List.getElem?_eq_getElem (by rw [← HN.out]; exact hin)⟩
   obtain ⟨y, hy⟩ : ∃ y, ys[i]? = some y := ⟨_, List.getElem?_eq_getElem (by rw [← HM.out]; exact hin)⟩
   have HX := qH hx
   have HY := qH hy
   obtain ⟨b1, o1, rfl, _, hc1⟩ := (HU.out.below BR.out).at_ (by simp [bools]; rw [← HN.out]; exact Nat.lt_of_le_of_lt (Nat.zero_le _) hin)
   obtain ⟨b2, o2, rfl, _, hc2⟩ := (HV.out.below BR.out).at_ (by simp [bools]; rw [← HM.out]; exact Nat.lt_of_le_of_lt (Nat.zero_le _) hin)
   have HC1 := qH (show wr.cell? ⟨b1, o1 + i, none⟩ = some (vB x) from hc1 i _ (by simp [bools, hx]))
   have HC2 := qH (show wr.cell? ⟨b2, o2 + i, none⟩ = some (vB y) from hc2 i _ (by simp [bools, hy]))
   obtain ⟨q, hq⟩ : ∃ q, q = decide (x = y) := ⟨_, rfl⟩
   have HQ := qH hq.symm
   have HQE := qH hq
   clear hin hx hy hc1 hc2 hq
   go_wp2_with fail
   refine sg_start (S := IsW wr.drew) (by kernel_rfl) rfl (fun wd hwd => ?_)
   have hX : IsW wr.drew wd := hwd
   clear hwd
   refine sg_take (i := 0) (oi := ⟨some 16, _, _, _, _, _⟩) (v := ?_) rfl (by kernel_rfl) (by kernel_rfl) (by kernel_rfl) (fun _ _ _ h => h) rfl hX ?_ ?_; rotate_left; (intro W hW; go_simp; try with_reducible rfl); simp only [Act.put, qA, qB, qC]
   refine sg_take (i := 1) (oi := ⟨some 17, _, _, _, _, _⟩) (v := ?_) rfl (by kernel_rfl) (by kernel_rfl) (by kernel_rfl) (fun _ _ _ h => h) rfl hX ?_ ?_; rotate_left; (intro W hW; go_simp; try with_reducible rfl); simp only [Act.put, qA, qB, qC]
   refine sg_take (i := 2) (oi := ⟨some 18, _, _, _, _, _⟩) (v := .pointer (some ⟨b1, o1 + i, none⟩)) rfl (by kernel_rfl) (by kernel_rfl) (by kernel_rfl) (fun _ _ _ h => h) rfl hX (fun V _ => ix_eB (.tmp 16) (.tmp 17) rfl rfl rfl HIN.out V) ?_; simp only [Act.put, qA, qB, qC]
   refine sg_take (i := 3) (oi := ⟨some 19, _, _, _, _, _⟩) (v := (vB x)) rfl (by kernel_rfl) (by kernel_rfl) (by kernel_rfl) (fun _ _ _ h => h) rfl hX (fun V hV => ld_eB (.tmp 18) rfl rfl (isW_cell hV HC1.out)) ?_; simp only [Act.put, qA, qB, qC]
   refine sg_take (i := 4) (oi := ⟨some 20, _, _, _, _, _⟩) (v := ?_) rfl (by kernel_rfl) (by kernel_rfl) (by kernel_rfl) (fun _ _ _ h => h) rfl hX ?_ ?_; rotate_left; (intro W hW; go_simp; try with_reducible rfl); simp only [Act.put, qA, qB, qC]
   refine sg_take (i := 5) (oi := ⟨some 21, _, _, _, _, _⟩) (v := ?_) rfl (by kernel_rfl) (by kernel_rfl) (by kernel_rfl) (fun _ _ _ h => h) rfl hX ?_ ?_; rotate_left; (intro W hW; go_simp; try with_reducible rfl); simp only [Act.put, qA, qB, qC]
   refine sg_take (i := 6) (oi := ⟨some 22, _, _, _, _, _⟩) (v := .pointer (some ⟨b2, o2 + i, none⟩)) rfl (by kernel_rfl) (by kernel_rfl) (by kernel_rfl) (fun _ _ _ h => h) rfl hX (fun V _ => ix_eB (.tmp 20) (.tmp 21) rfl rfl rfl HIN.out V) ?_; simp only [Act.put, qA, qB, qC]
   refine sg_take (i := 7) (oi := ⟨some 23, _, _, _, _, _⟩) (v := (vB y)) rfl (by kernel_rfl) (by kernel_rfl) (by kernel_rfl) (fun _ _ _ h => h) rfl hX (fun V hV => ld_eB (.tmp 22) rfl rfl (isW_cell hV HC2.out)) ?_; simp only [Act.put, qA, qB, qC]
   refine sg_take (i := 8) (oi := ⟨some 24, _, _, _, _, _⟩) (v := .bool (!q)) rfl (by kernel_rfl) (by kernel_rfl) (by kernel_rfl) (fun _ _ _ h => h) rfl hX (fun V _ => ex_nB (.tmp 19) (.tmp 23) rfl rfl rfl HQ.out V) ?_; simp only [Act.put, qA, qB, qC]
   refine wpAnyH_done (by kernel_rfl) ?_ _
   have BD := qH (BR.out.trans ((isW_below hX).mono BR.out.size))
   clear hX
   cases q with
   | true =>
    have HXY := qH (show x = y from of_decide_eq_true HQE.out.symm)
    have HEN := qH (show ∀ j, j < i + 1 → xs[j]? = ys[j]? from fun j hj => by
     rcases Nat.lt_succ_iff_lt_or_eq.1 hj with h | h
     ·exact HEQ.out j h
     ·rw [h, HX.out, HY.out, HXY.out])
    clear HQ HQE
    go_wp2_with fail
    exact ⟨⟨i + 1, by congr 1, HIN.out, HEN.out, BD.out⟩, by simpa [intOf] using HMI.out⟩
   | false =>
    have HNE := qH (show decide (xs = ys) = false from decide_eq_false fun h => of_decide_eq_false HQE.out.symm (by
     have h1 := HX.out
     rw [h, HY.out] at h1
     exact (Option.some.inj h1).symm))
    clear HQ HQE
    go_wp2_with fail
    go_ret
    rw [HNE.out]
    exact ⟨rfl, BD.out⟩
  ·obtain rfl : i = n := Nat.le_antisymm HI.out (Nat.le_of_not_lt hin)
   have x1 : ¬ ((i : Int) < (i : Int)) := Int.lt_irrefl _
   have HYE := qH (show decide (xs = ys) = true from decide_eq_true (List.ext_getElem? fun j => by
    by_cases hj : j < i
    ·exact HEQ.out j hj
    ·rw [List.getElem?_eq_none (by rw [← HN.out]; omega), List.getElem?_eq_none (by rw [← HM.out]; omega)]))
   clear hin
   go_wp2_with fail
   go_ret
   rw [HYE.out]
   exact ⟨rfl, BR.out⟩
 ·have x1 : ¬ ((n : Int) = (m : Int)) := fun h => hnm (Int.ofNat.inj h)
  have HNE := qH (show decide (xs = ys) = false from decide_eq_false fun h => hnm (by rw [HN.out, HM.out, h]))
  go_enter Try.func35, Try.ntmps35
  go_wp2_with fail
  go_ret
  rw [HNE.out]
  exact ⟨rfl, Below.refl _ _⟩
end Go.Proofs.Ytbbodfpnneifgaa
