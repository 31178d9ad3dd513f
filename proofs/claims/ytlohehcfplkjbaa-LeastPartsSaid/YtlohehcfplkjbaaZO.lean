/-
  Texts of this proof, put together: LpF. No statement is proved here.
-/
import Derived.Test.YtlohehcfplkjbaaZN
import Derived.Test.YtlohehcfplkjbaaZC
import Derived.Test.YtlohehcfplkjbaaZL
namespace Go.Proofs.Ytlohehcfplkjbaa
open Go.RowKit
set_option linter.unusedSimpArgs false
set_option linter.unusedVariables false
set_option maxHeartbeats 16000000 in
set_option maxRecDepth 1000000 in
theorem refLeast11_any (D : Dm) (cs : List Value) (w : World) (hv : DfaV w cs D) (hm : MayD D) (hac : AllC D) :
  Calls Try.prog 14 #[.agg cs.toArray] w fun e w' => ∃ cs', e = .returned (.agg cs'.toArray) ∧ DfaV w' cs' (lstD D) ∧ Below w.heap.size w w' := by
 have V0 := qH hv
 have HM := qH hm
 have HAC := qH hac
 have HDS := qH hv.size
 obtain ⟨An, Ae, cn, ce, vf, hl, hcs, hn, hr, he⟩ := hv.form
 have HL := qH hl
 obtain ⟨n, hnn⟩ : ∃ n, n = D.next.length := ⟨_, rfl⟩
 have HN := qH hnn
 have HEN := qH (show D.ends.length = n by rw [hnn]; exact hm.ends)
 rw [hm.ends, ← hnn] at hcs
 rw [← hnn] at hn
 have HCS := qH hcs
 rw [hm.ends, ← hnn] at he
 have HNP := qH (show 1 ≤ n by rw [hnn]; exact hm.pos)
 have HNF := qH (show n ≤ 2000 by rw [hnn]; exact hm.few)
 obtain ⟨kd, hkd⟩ : ∃ k, k = clsA D.cl := ⟨_, rfl⟩
 have HKD := qH hkd
 obtain ⟨be, oe, rfl, hbe, hce⟩ := he.at_ (by rw [bools_length, HEN.out]; exact HNP.out)
 have HBE := qH hbe
 have CE := qH (show ∀ q, q < n → w.cell? ⟨be, oe + q, none⟩ = some (.bool (D.ends.getD q false)) from fun q hq => hce q _ (by
  rw [bools, List.getElem?_map, List.getElem?_eq_getElem (by rw [HEN.out]; exact hq), List.getD_eq_getElem?_getD, List.getElem?_eq_getElem (by rw [HEN.out]; exact hq)]; rfl))
 obtain ⟨bn, on, rfl, hbn, hcn⟩ := hn.at_ (by rw [List.length_map, List.length_range]; exact HNP.out)
 have HBN := qH hbn
 have ROW := qH (show ∀ s, s < n → ∃ r Ar cr, D.next[s]? = some r ∧ r.length = kd ∧ w.cell? ⟨bn, on + s, none⟩ = some (.slice Ar kd cr) ∧ Row w (.slice Ar kd cr) (nums .i64 r) from fun s hs => by
  obtain ⟨r, h1⟩ : ∃ r, D.next[s]? = some r := ⟨_, List.getElem?_eq_getElem (by rw [← hnn]; exact hs)⟩
  have h2 : r.length = kd := by rw [hkd]; exact hm.rows r (List.mem_of_getElem? h1)
  have h3 := hr s r h1
  obtain ⟨Ar, cr, hvr, _⟩ := id h3
  rw [nums_length, h2] at hvr
  rw [hvr] at h3
  exact ⟨r, Ar, cr, h1, h2, hcn s _ (by simp [hs, hvr]), h3⟩)
 clear hv hm hac hl hcs hn hr he hnn hbe hce hbn hcn hkd
 obtain ⟨d0, hd0⟩ : ∃ d0, d0 = dcl (ctab [] 0) (.slice none 0 0) (.slice none 0 0) := ⟨_, rfl⟩
 have HD0 := qH hd0
 have HDL := qH (show d0.length = 258 by rw [hd0]; exact dcl_len (ctab_length _ _))
 obtain ⟨id, hid, hdz⟩ := Option.map_eq_some_iff.1 inf_dfa
 rw [← hd0] at hdz
 obtain ⟨i1, hi1, hy0, hy1, hy2⟩ := infoP inf_int
 obtain ⟨i2, hi2, hb0, hb1, hb2⟩ := infoP inf_bool
 obtain ⟨il, hil, hl0, hl1, hl2⟩ := infoP inf_sl
 obtain ⟨ps, hps⟩ : ∃ ps, ps = psL (accD D 0) := ⟨_, rfl⟩
 have HPS := qH hps
 have HAK := qH (show ∀ b c, b < 256 → c < 256 → alkG D (parD D) (reaB D) n (clB D b) (clB D c) = alikeS ps b c from fun b c hb hc => by rw [hps]; exact alk_psL HM.out HL.out HAC.out HN.out hb hc)
 clear hd0 hps
 go_enter Try.func14, Try.ntmps14
 go_wp2_with (first
  | ((with_reducible refine atDst 1 ?_); refine wpList_box rfl 28 _ rfl cs rfl (Below.refl w.heap.size w) (Nat.le_refl _) ?_; intro w1 hk1 hb1 hs1 _; have K1 := qH hk1; have B1 := qH hb1; clear hk1 hb1 hs1; (try simp only [Act.put, qA, qB, qC]))
  | ((with_reducible refine atDst 2 ?_); refine wpList_new rfl 28 rfl id _ d0 hid hdz rfl (Below.refl w1.heap.size w1) (Nat.le_refl _) ?_; intro w2 hk hb hs _; have R2 := qH hk; have K2 := qH (K1.out.below hb K1.out.lt); have B2 := qH (B1.out.trans (hb.mono B1.out.size)); clear hk hb hs; (try simp only [Act.put, qA, qB, qC]))
  | ((with_reducible refine atDst 15 ?_); refine wpList_ldArr rfl 28 _ rfl w.heap.size rfl 28 _ _ K2.out Try.underlying28 rfl HDS.out ?_; (try simp only [Act.put, qA, qB, qC])))
 refine (refMay11_any D cs w2 (V0.out.below B2.out) HM.out).mono ?_
 rintro e w3 ⟨rfl, hb⟩
 have K3 := qH (K2.out.below hb K2.out.lt)
 have R3 := qH (R2.out.below hb R2.out.lt)
 have B3 := qH (B2.out.trans (hb.mono B2.out.size))
 clear hb
 go_wp2_with ((with_reducible refine atDst 19 ?_); refine wpList_ldArr rfl 28 _ rfl w.heap.size rfl 28 _ _ K3.out Try.underlying28 rfl HDS.out ?_; (try simp only [Act.put, qA, qB, qC]))
 refine (refParts11_any D cs w3 (V0.out.below B3.out) HM.out HAC.out).mono ?_
 rintro e w4 ⟨pv, rfl, hr, hb⟩
 rw [← HN.out] at hr
 have RP4 := qH hr
 obtain ⟨bp, op, cp, rfl, hbp, hcp⟩ := row_ncs hr HNP.out
 have HBP := qH hbp
 have CP4 := qH hcp
 have K4 := qH (K3.out.below hb K3.out.lt)
 have R4 := qH (R3.out.below hb R3.out.lt)
 have B4 := qH (B3.out.trans (hb.mono B3.out.size))
 clear hb hr hbp hcp
 go_wp2_with ((with_reducible refine atDst 21 ?_); refine wpList_ldArr rfl 28 _ rfl w.heap.size rfl 28 _ _ K4.out Try.underlying28 rfl HDS.out ?_; (try simp only [Act.put, qA, qB, qC]))
 refine (refReach11_any D cs w4 (V0.out.below B4.out) HM.out).mono ?_
 rintro e w5 ⟨rv, rfl, hr, hb⟩
 rw [← HN.out] at hr
 have RR5 := qH hr
 obtain ⟨bt, ot, ct, rfl, _, _⟩ := row_bcs hr HNP.out
 have RP5 := qH (RP4.out.below hb)
 have CP5 := qH (show ∀ q, q < n → w5.cell? ⟨bp, op + q, none⟩ = some (.int .i64 (parD D q : Int)) from fun q hq => (hb.cell (p := ⟨bp, op + q, none⟩) HBP.out).trans (CP4.out q hq))
 have HBP5 := qH (Nat.lt_of_lt_of_le HBP.out hb.size)
 have K5 := qH (K4.out.below hb K4.out.lt)
 have R5 := qH (R4.out.below hb R4.out.lt)
 have B5 := qH (B4.out.trans (hb.mono B4.out.size))
 have V5 := qH (V0.out.below B5.out)
 clear hb hr K1 K2 K3 K4 R2 R3 R4 HBP CP4 RP4
 obtain ⟨gd, hgd⟩ : ∃ g, g = w5.heap.size := ⟨_, rfl⟩
 go_wp2_with ((with_reducible refine atDst 5 ?_); refine wpList_new rfl 28 rfl id _ d0 hid hdz rfl (Below.refl w5.heap.size w5) (Nat.le_refl _) ?_; intro w6 hk hb hs _; have G6 := qH (show Blk w6 gd 28 d0 by rw [hgd]; exact hk); have B6 := qH (show Below gd w5 w6 by rw [hgd]; exact hb); clear hk hb hs; rw [← hgd]; (try simp only [Act.put, qA, qB, qC]))
 have HGD := qH hgd
 obtain ⟨H1, hH1⟩ : ∃ g, g = w6.heap.size := ⟨_, rfl⟩
 have HGH := qH (show gd < H1 by rw [hH1]; exact G6.out.lt)
 have HH1 := qH hH1
 have HKG := qH (show w.heap.size < gd by rw [hgd]; exact K5.out.lt)
 have HRG := qH (show w1.heap.size < gd by rw [hgd]; exact R5.out.lt)
 clear hgd hH1
 go_loopw [6, 7] (fun f i wl => ∃ j : Nat, j ≤ 256 ∧ i = .int .i64 (j : Int) ∧ wl.ownsRow H1 3 1 f (firstJ ps j).length (fcs ps j) ∧ Blk wl gd 28 (dcl (ctab ps j) (.slice none 0 0) (.slice none 0 0)) ∧ Below gd w5 wl ∧ H1 ≤ wl.heap.size) (fun _ i _ => 256 - (intOf i).toNat)
 case atStart => exact ⟨0, Nat.zero_le _, rfl, ownN _ _ _, by rw [ctab_null ps [], ← HD0.out]; exact G6.out, B6.out, Nat.le_of_eq HH1.out⟩
 clear G6 B6
 obtain ⟨j, hj, rfl, ho, hk, hb, hs⟩ := hrel
 have HO := qH ho
 have HK := qH hk
 have HB := qH hb
 have HSZ := qH hs
 have HJ := qH hj
 clear ho hk hb hs hj
 obtain ⟨wo, hwo⟩ : ∃ wo : World, wo = wr := ⟨_, rfl⟩
 subst hwo
 by_cases hjl : j < 256
 ·have j1 : (j : Int) < 256 := Int.ofNat_lt.2 hjl
  have HJL := qH hjl
  have HMJ := qH (sub_next hjl)
  have e3 := wrap_one j (lt_256 hjl)
  have e4 := wrap_one' j (lt_256 hjl)
  obtain ⟨nf, hnf⟩ : ∃ n, n = (firstJ ps j).length := ⟨_, rfl⟩
  have HFL := qH (show nf ≤ j by rw [hnf]; exact firstJ_len ps j)
  rw [← hnf] at HO
  have HNFL := qH hnf
  have HCL := qH (show clsOf ps j ≤ nf by rw [hnf]; exact clsOf_le ps j)
  obtain ⟨A, cap, hu5⟩ := ownC_slice HO.out
  subst hu5
  obtain ⟨x, hx⟩ : ∃ x, clB D j = x := ⟨_, rfl⟩
  have CX := qH (show cs[j]? = some (.int .u8 (x : Int)) by rw [HCS.out, dcl_cl HL.out hjl, clB_cell HL.out hjl, hx])
  have HX := qH hx
  have HX256 := qH (show x < 256 by rw [← hx]; exact Nat.lt_of_lt_of_le (clB_lt HL.out hjl) (clsA_le _))
  have zx : IntKind.i64.wrap (x : Int) = (x : Int) := k64S x (Nat.le_trans (Nat.le_of_lt HX256.out) (by decide))
  clear hnf hjl hx
  go_wp2_with fail
  go_loopw [8] (fun kk wl => ∃ k : Nat, k ≤ clsOf ps j ∧ kk = .int .i64 (k : Int) ∧ Below wo.heap.size wo wl) (fun kk _ => nf - (intOf kk).toNat)
  case atStart => exact ⟨0, Nat.zero_le _, rfl, Below.refl _ _⟩
  obtain ⟨k, hk, rfl, hbi⟩ := hrel
  have HBI := qH hbi
  have HKC := qH hk
  clear hbi hk
  have HKR := qH (HK.out.below HBI.out HK.out.lt)
  have HOR := qH (own6_stay HO.out fun q hq => HBI.out.block q (own6_lt HO.out q hq).1)
  have BR := qH (HB.out.trans (HBI.out.mono (by rw [HGD.out]; exact HB.out.size)))
  have SR := qH (Nat.le_trans HSZ.out HBI.out.size)
  have KR := qH (show Blk wr w.heap.size 28 cs from K5.out.below BR.out HKG.out)
  have C38 := qH (show wr.cell? ⟨w.heap.size, j, none⟩ = some (.int .u8 (x : Int)) from (KR.out.cell j).trans CX.out)
  by_cases hkn : k < nf
  ·have k1 : (k : Int) < (nf : Int) := Int.ofNat_lt.2 hkn
   have HKN := qH hkn
   have HMK := qH (sub_next hkn)
   have hkl : k < (firstJ ps j).length := by rw [← HNFL.out]; exact hkn
   obtain ⟨f, hf⟩ : ∃ f, (firstJ ps j)[k]? = some f := ⟨_, List.getElem?_eq_getElem hkl⟩
   obtain ⟨b0, off, rfl, hb0, hcell⟩ := (Row.of_own HOR.out).at_ (by rw [fcs_length]; exact Nat.lt_of_le_of_lt (Nat.zero_le _) hkl)
   have CK := qH (show wr.cell? ⟨b0, off + k, none⟩ = some (.int .i64 (f : Int)) from hcell k _ (by simp [fcs, nums, hf]))
   have HB0 := qH hb0
   have HF := qH hf
   have HF256 := qH (show f < 256 from Nat.lt_trans (firstJ_lt ps j f (List.mem_of_getElem? hf)) HJL.out)
   have f1 : (f : Int) < 256 := Int.ofNat_lt.2 HF256.out
   obtain ⟨y, hy⟩ : ∃ y, clB D f = y := ⟨_, rfl⟩
   have C46 := qH (show wr.cell? ⟨w.heap.size, f, none⟩ = some (.int .u8 (y : Int)) from (KR.out.cell f).trans (by rw [HCS.out, dcl_cl HL.out HF256.out, clB_cell HL.out HF256.out, hy]))
   have HY := qH hy
   have HY256 := qH (show y < 256 by rw [← hy]; exact Nat.lt_of_lt_of_le (clB_lt HL.out HF256.out) (clsA_le _))
   have zy : IntKind.i64.wrap (y : Int) = (y : Int) := k64S y (Nat.le_trans (Nat.le_of_lt HY256.out) (by decide))
   have f3 := wrap_one k (lt_256 (Nat.lt_trans (Nat.lt_of_lt_of_le hkn HFL.out) HJL.out))
   have f4 := wrap_one' k (lt_256 (Nat.lt_trans (Nat.lt_of_lt_of_le hkn HFL.out) HJL.out))
   clear hkn hkl hf hcell hb0 hy
   go_wp2_with fail
   refine mc_start (fun V => Below wr.heap.size wr V) (fun _ => True) 24 (by kernel_rfl) (fun wd hwd => ?_)
   have hX : Below wr.heap.size wr wd := by rw [hwd]; exact (Below.refl _ _).drew
   clear hwd
   refine mc_take (i := 0) (oi := ⟨some 27, _, _, _, _, _⟩) (v := ?_) rfl (by kernel_rfl) (by kernel_rfl) (by kernel_rfl) (fun _ _ _ h => h) rfl hX ?_ ?_; rotate_left; (intro W hW; go_simp; try with_reducible rfl); simp only [Act.put, qA, qB, qC]
   refine mc_take (i := 1) (oi := ⟨some 28, _, _, _, _, _⟩) (v := ?_) rfl (by kernel_rfl) (by kernel_rfl) (by kernel_rfl) (fun _ _ _ h => h) rfl hX ?_ ?_; rotate_left; (intro W hW; go_simp; try with_reducible rfl); simp only [Act.put, qA, qB, qC]
   refine mc_take (i := 2) (oi := ⟨some 29, _, _, _, _, _⟩) (v := ?_) rfl (by kernel_rfl) (by kernel_rfl) (by kernel_rfl) (fun _ _ _ h => h) rfl hX ?_ ?_; rotate_left; (intro W hW; go_simp; try with_reducible rfl); simp only [Act.put, qA, qB, qC]
   refine mc_take (i := 3) (oi := ⟨some 30, _, _, _, _, _⟩) (v := ?_) rfl (by kernel_rfl) (by kernel_rfl) (by kernel_rfl) (fun _ _ _ h => h) rfl hX ?_ ?_; rotate_left; (intro W hW; go_simp; try with_reducible rfl); simp only [Act.put, qA, qB, qC]
   refine mc_take (i := 4) (oi := ⟨some 31, _, _, _, _, _⟩) (v := ?_) rfl (by kernel_rfl) (by kernel_rfl) (by kernel_rfl) (fun _ _ _ h => h) rfl hX ?_ ?_; rotate_left; (intro W hW; go_simp; try with_reducible rfl); simp only [Act.put, qA, qB, qC]
   refine mc_take (i := 5) (oi := ⟨some 32, _, _, _, _, _⟩) (v := .agg cs.toArray) rfl (by kernel_rfl) (by kernel_rfl) (by kernel_rfl) (fun _ _ _ h => h) rfl hX (fun V hT => ld_blk 28 (.tmp 1) rfl w.heap.size rfl 28 cs _ KR.out KR.out.lt Try.underlying28 rfl HDS.out V hT) ?_; simp only [Act.put, qA, qB, qC]
   refine mc_take (i := 6) (oi := ⟨some 33, _, _, _, _, _⟩) (v := ?_) rfl (by kernel_rfl) (by kernel_rfl) (by kernel_rfl) (fun _ _ _ h => h) rfl hX ?_ ?_; rotate_left; (intro W hW; go_simp; try with_reducible rfl); simp only [Act.put, qA, qB, qC]
   refine mc_take (i := 7) (oi := ⟨some 34, _, _, _, _, _⟩) (v := ?_) rfl (by kernel_rfl) (by kernel_rfl) (by kernel_rfl) (fun _ _ _ h => h) rfl hX ?_ ?_; rotate_left; (intro W hW; go_simp; try with_reducible rfl); simp only [Act.put, qA, qB, qC]
   refine mc_take (i := 8) (oi := ⟨some 35, _, _, _, _, _⟩) (v := ?_) rfl (by kernel_rfl) (by kernel_rfl) (by kernel_rfl) (fun _ _ _ h => h) rfl hX ?_ ?_; rotate_left; (intro W hW; go_simp; try with_reducible rfl); simp only [Act.put, qA, qB, qC]
   refine mc_take (i := 9) (oi := ⟨some 36, _, _, _, _, _⟩) (v := ?_) rfl (by kernel_rfl) (by kernel_rfl) (by kernel_rfl) (fun _ _ _ h => h) rfl hX ?_ ?_; rotate_left; (intro W hW; go_simp; try with_reducible rfl); simp only [Act.put, qA, qB, qC]
   refine mc_take (i := 10) (oi := ⟨some 37, _, _, _, _, _⟩) (v := ?_) rfl (by kernel_rfl) (by kernel_rfl) (by kernel_rfl) (fun _ _ _ h => h) rfl hX ?_ ?_; rotate_left; (intro W hW; go_simp; try with_reducible rfl); simp only [Act.put, qA, qB, qC]
   refine mc_take (i := 11) (oi := ⟨some 38, _, _, _, _, _⟩) (v := .int .u8 (x : Int)) rfl (by kernel_rfl) (by kernel_rfl) (by kernel_rfl) (fun _ _ _ h => h) rfl hX (fun V hV => ld_u9 (.tmp 37) rfl rfl ((hV.cell (p := ⟨w.heap.size, j, none⟩) KR.out.lt).trans C38.out)) ?_; simp only [Act.put, qA, qB, qC]
   refine mc_take (i := 12) (oi := ⟨some 39, _, _, _, _, _⟩) (v := ?_) rfl (by kernel_rfl) (by kernel_rfl) (by kernel_rfl) (fun _ _ _ h => h) rfl hX ?_ ?_; rotate_left; (intro W hW; go_simp; try with_reducible rfl); simp only [Act.put, qA, qB, qC]
   refine mc_take (i := 13) (oi := ⟨some 40, _, _, _, _, _⟩) (v := ?_) rfl (by kernel_rfl) (by kernel_rfl) (by kernel_rfl) (fun _ _ _ h => h) rfl hX ?_ ?_; rotate_left; (intro W hW; go_simp; try with_reducible rfl); simp only [Act.put, qA, qB, qC]
   refine mc_take (i := 14) (oi := ⟨some 41, _, _, _, _, _⟩) (v := ?_) rfl (by kernel_rfl) (by kernel_rfl) (by kernel_rfl) (fun _ _ _ h => h) rfl hX ?_ ?_; rotate_left; (intro W hW; go_simp; try with_reducible rfl); simp only [Act.put, qA, qB, qC]
   refine mc_take (i := 15) (oi := ⟨some 42, _, _, _, _, _⟩) (v := ?_) rfl (by kernel_rfl) (by kernel_rfl) (by kernel_rfl) (fun _ _ _ h => h) rfl hX ?_ ?_; rotate_left; (intro W hW; go_simp; try with_reducible rfl); simp only [Act.put, qA, qB, qC]
   refine mc_take (i := 16) (oi := ⟨some 43, _, _, _, _, _⟩) (v := .int .i64 (f : Int)) rfl (by kernel_rfl) (by kernel_rfl) (by kernel_rfl) (fun _ _ _ h => h) rfl hX (fun V hV => ld_int9 (.tmp 42) rfl rfl ((hV.cell (p := ⟨b0, off + k, none⟩) HB0.out).trans CK.out)) ?_; simp only [Act.put, qA, qB, qC]
   refine mc_take (i := 17) (oi := ⟨some 44, _, _, _, _, _⟩) (v := ?_) rfl (by kernel_rfl) (by kernel_rfl) (by kernel_rfl) (fun _ _ _ h => h) rfl hX ?_ ?_; rotate_left; (intro W hW; go_simp; try with_reducible rfl); simp only [Act.put, qA, qB, qC]
   refine mc_take (i := 18) (oi := ⟨some 45, _, _, _, _, _⟩) (v := ?_) rfl (by kernel_rfl) (by kernel_rfl) (by kernel_rfl) (fun _ _ _ h => h) rfl hX ?_ ?_; rotate_left; (intro W hW; go_simp; try with_reducible rfl); simp only [Act.put, qA, qB, qC]
   refine mc_take (i := 19) (oi := ⟨some 46, _, _, _, _, _⟩) (v := .int .u8 (y : Int)) rfl (by kernel_rfl) (by kernel_rfl) (by kernel_rfl) (fun _ _ _ h => h) rfl hX (fun V hV => ld_u9 (.tmp 45) rfl rfl ((hV.cell (p := ⟨w.heap.size, f, none⟩) KR.out.lt).trans C46.out)) ?_; simp only [Act.put, qA, qB, qC]
   refine mc_take (i := 20) (oi := ⟨some 47, _, _, _, _, _⟩) (v := ?_) rfl (by kernel_rfl) (by kernel_rfl) (by kernel_rfl) (fun _ _ _ h => h) rfl hX ?_ ?_; rotate_left; (intro W hW; go_simp; try with_reducible rfl); simp only [Act.put, qA, qB, qC]
   refine mc_actB (i := 21) (o := ⟨some 48, _, _, _, _, _⟩) rfl (by kernel_rfl) rfl (fun K hK => ?_)
   have Y1 := qH hX
   go_wp2_with fail
   refine (refAlike11_any D (parD D) (reaB D) n x y cs _ _ wd ((V5.out.below (by rw [← HGD.out]; exact BR.out)).below hX) HM.out HN.out ((RP5.out.below (by rw [← HGD.out]; exact BR.out)).below hX) ((RR5.out.below (by rw [← HGD.out]; exact BR.out)).below hX) (by rw [← HX.out]; exact clB_lt HL.out HJL.out) (by rw [← HY.out]; exact clB_lt HL.out HF256.out)).mono ?_
   rintro e v1 ⟨rfl, hb⟩
   have hak := HAK.out j f HJL.out HF256.out
   rw [HX.out, HY.out] at hak
   rw [hak]
   obtain ⟨z, hz⟩ : ∃ z, alikeS ps j f = z := ⟨_, rfl⟩
   rw [hz]
   have HZ := qH hz
   have hX2 := Y1.out.trans (hb.mono Y1.out.size)
   clear hb hak hz
   go_wp2_with fail
   refine hK _ _ hX2 trivial ?_
   clear hK K hX
   have hX := hX2
   clear hX2
   (try simp only [Act.put, qA, qB, qC])
   refine mc_take (i := 22) (oi := ⟨some 49, _, _, _, _, _⟩) (v := ?_) rfl (by kernel_rfl) (by kernel_rfl) (by kernel_rfl) (fun _ _ _ h => h) rfl hX ?_ ?_; rotate_left; (intro W hW; go_simp; try with_reducible rfl); simp only [Act.put, qA, qB, qC]
   refine mc_take (i := 23) (oi := ⟨some 50, _, _, _, _, _⟩) (v := ?_) rfl (by kernel_rfl) (by kernel_rfl) (by kernel_rfl) (fun _ _ _ h => h) rfl hX ?_ ?_; rotate_left; (intro W hW; go_simp; try with_reducible rfl); simp only [Act.put, qA, qB, qC]
   refine wpAnyC_done (by kernel_rfl) ?_ _
   obtain ⟨wd2, hwd2⟩ : ∃ v : World, v = v1 := ⟨_, rfl⟩
   subst hwd2
   have BI4 := qH (HBI.out.trans (hX.mono HBI.out.size))
   have K4 := qH (HKR.out.below hX HKR.out.lt)
   have O4 := qH (own6_stay HOR.out fun q hq => hX.block q (own6_lt HOR.out q hq).1)
   have B4' := qH (BR.out.trans (hX.mono (by rw [HGD.out]; exact BR.out.size)))
   have S4 := qH (Nat.le_trans SR.out hX.size)
   clear hX
   have HKL := qH (show k < (firstJ ps j).length by rw [← HNFL.out]; exact HKN.out)
   have HFE := qH (show (firstJ ps j)[k]'HKL.out = f from Option.some.inj ((List.getElem?_eq_getElem HKL.out).symm.trans HF.out))
   cases z with
   | false =>
    have HNX := qH (clsOf_next HKC.out HKL.out (by rw [HFE.out]; exact HZ.out))
    go_wp2_with fail
    exact ⟨⟨k + 1, HNX.out, by congr 1, BI4.out⟩, by simpa [intOf] using HMK.out⟩
   | true =>
    have HST := qH (clsOf_stop HKC.out HKL.out (by rw [HFE.out]; exact HZ.out))
    have HFN := qH (firstJ_hit (ps := ps) (j := j) (by rw [HST.out]; exact HKL.out))
    have hkb : ((k : Int) == (nf : Int)) = false := by rw [beq_eq_false_iff_ne]; exact fun e => Nat.ne_of_lt HKN.out (Int.ofNat_inj.1 e)
    have hwk : IntKind.u8.wrap (k : Int) = (k : Int) := wrap8N k (Nat.lt_trans (Nat.lt_of_lt_of_le HKN.out HFL.out) HJL.out)
    have hgc := K4.out.cell j
    obtain ⟨u, hu⟩ : ∃ u, (ctab ps j)[j]? = some u := ⟨_, List.getElem?_eq_getElem (by rw [ctab_length]; exact HJL.out)⟩
    rw [dcl_cl (ctab_length _ _) HJL.out, bvs_get _ _ _ hu] at hgc
    have hfz := K4.out.frozen j
    clear hu
    go_wp2_with fail
    refine ⟨⟨j + 1, HJL.out, by congr 1, ?_, ?_, B4'.out.setCell (p := ⟨gd, j, none⟩) (Nat.le_refl _) _, by simpa using S4.out⟩, by simpa [intOf] using HMJ.out⟩
    ·rw [show fcs ps (j + 1) = fcs ps j by unfold fcs; rw [HFN.out], HFN.out, ← HNFL.out]
     exact own_far O4.out HGH.out _
    ·rw [← HST.out]
     exact dcl_put K4.out HJL.out (Nat.lt_of_le_of_lt (Nat.le_trans HCL.out HFL.out) HJL.out)
  ·obtain rfl : nf = k := Nat.le_antisymm (Nat.le_of_not_lt hkn) (Nat.le_trans HKC.out HCL.out)
   have k1 : ¬ (nf : Int) < (nf : Int) := Int.lt_irrefl _
   have hkb : ((nf : Int) == (nf : Int)) = true := by simp
   have hwk : IntKind.u8.wrap (nf : Int) = (nf : Int) := wrap8N nf (Nat.lt_of_le_of_lt HFL.out HJL.out)
   have HST := qH (show clsOf ps j = nf from Nat.le_antisymm HCL.out HKC.out)
   have HFN := qH (firstJ_new (ps := ps) (j := j) (by rw [HST.out, HNFL.out]))
   have HBD := qH (show nf + (nums .i64 [(j : Int)]).length ≤ 2097152 by rw [nums_length]; exact Nat.le_trans (Nat.succ_le_of_lt (Nat.lt_of_le_of_lt HFL.out HJL.out)) (by decide))
   obtain ⟨u, hu⟩ : ∃ u, (ctab ps j)[j]? = some u := ⟨_, List.getElem?_eq_getElem (by rw [ctab_length]; exact HJL.out)⟩
   have HU := qH hu
   clear hu hkn
   go_wp2_with fail
   refine mc_start (fun V => Below wr.heap.size wr V) (fun _ => True) 24 (by kernel_rfl) (fun wd hwd => ?_)
   have hX : Below wr.heap.size wr wd := by rw [hwd]; exact (Below.refl _ _).drew
   clear hwd
   refine mc_take (i := 0) (oi := ⟨some 27, _, _, _, _, _⟩) (v := ?_) rfl (by kernel_rfl) (by kernel_rfl) (by kernel_rfl) (fun _ _ _ h => h) rfl hX ?_ ?_; rotate_left; (intro W hW; go_simp; try with_reducible rfl); simp only [Act.put, qA, qB, qC]
   refine mc_take (i := 1) (oi := ⟨some 28, _, _, _, _, _⟩) (v := ?_) rfl (by kernel_rfl) (by kernel_rfl) (by kernel_rfl) (fun _ _ _ h => h) rfl hX ?_ ?_; rotate_left; (intro W hW; go_simp; try with_reducible rfl); simp only [Act.put, qA, qB, qC]
   refine mc_take (i := 2) (oi := ⟨some 29, _, _, _, _, _⟩) (v := ?_) rfl (by kernel_rfl) (by kernel_rfl) (by kernel_rfl) (fun _ _ _ h => h) rfl hX ?_ ?_; rotate_left; (intro W hW; go_simp; try with_reducible rfl); simp only [Act.put, qA, qB, qC]
   refine mc_take (i := 3) (oi := ⟨some 30, _, _, _, _, _⟩) (v := ?_) rfl (by kernel_rfl) (by kernel_rfl) (by kernel_rfl) (fun _ _ _ h => h) rfl hX ?_ ?_; rotate_left; (intro W hW; go_simp; try with_reducible rfl); simp only [Act.put, qA, qB, qC]
   refine mc_take (i := 4) (oi := ⟨some 31, _, _, _, _, _⟩) (v := ?_) rfl (by kernel_rfl) (by kernel_rfl) (by kernel_rfl) (fun _ _ _ h => h) rfl hX ?_ ?_; rotate_left; (intro W hW; go_simp; try with_reducible rfl); simp only [Act.put, qA, qB, qC]
   refine mc_skip (i := 5) (oi := ⟨some 32, _, _, _, _, _⟩) rfl (by kernel_rfl) (by kernel_rfl) (by kernel_rfl) (fun _ _ _ h => h) rfl hX ?_; simp only [Act.put, qA, qB, qC]
   refine mc_skip (i := 6) (oi := ⟨some 33, _, _, _, _, _⟩) rfl (by kernel_rfl) (by kernel_rfl) (by kernel_rfl) (fun _ _ _ h => h) rfl hX ?_; simp only [Act.put, qA, qB, qC]
   refine mc_skip (i := 7) (oi := ⟨some 34, _, _, _, _, _⟩) rfl (by kernel_rfl) (by kernel_rfl) (by kernel_rfl) (fun _ _ _ h => h) rfl hX ?_; simp only [Act.put, qA, qB, qC]
   refine mc_skip (i := 8) (oi := ⟨some 35, _, _, _, _, _⟩) rfl (by kernel_rfl) (by kernel_rfl) (by kernel_rfl) (fun _ _ _ h => h) rfl hX ?_; simp only [Act.put, qA, qB, qC]
   refine mc_skip (i := 9) (oi := ⟨some 36, _, _, _, _, _⟩) rfl (by kernel_rfl) (by kernel_rfl) (by kernel_rfl) (fun _ _ _ h => h) rfl hX ?_; simp only [Act.put, qA, qB, qC]
   refine mc_skip (i := 10) (oi := ⟨some 37, _, _, _, _, _⟩) rfl (by kernel_rfl) (by kernel_rfl) (by kernel_rfl) (fun _ _ _ h => h) rfl hX ?_; simp only [Act.put, qA, qB, qC]
   refine mc_skip (i := 11) (oi := ⟨some 38, _, _, _, _, _⟩) rfl (by kernel_rfl) (by kernel_rfl) (by kernel_rfl) (fun _ _ _ h => h) rfl hX ?_; simp only [Act.put, qA, qB, qC]
   refine mc_skip (i := 12) (oi := ⟨some 39, _, _, _, _, _⟩) rfl (by kernel_rfl) (by kernel_rfl) (by kernel_rfl) (fun _ _ _ h => h) rfl hX ?_; simp only [Act.put, qA, qB, qC]
   refine mc_skip (i := 13) (oi := ⟨some 40, _, _, _, _, _⟩) rfl (by kernel_rfl) (by kernel_rfl) (by kernel_rfl) (fun _ _ _ h => h) rfl hX ?_; simp only [Act.put, qA, qB, qC]
   refine mc_skip (i := 14) (oi := ⟨some 41, _, _, _, _, _⟩) rfl (by kernel_rfl) (by kernel_rfl) (by kernel_rfl) (fun _ _ _ h => h) rfl hX ?_; simp only [Act.put, qA, qB, qC]
   refine mc_skip (i := 15) (oi := ⟨some 42, _, _, _, _, _⟩) rfl (by kernel_rfl) (by kernel_rfl) (by kernel_rfl) (fun _ _ _ h => h) rfl hX ?_; simp only [Act.put, qA, qB, qC]
   refine mc_skip (i := 16) (oi := ⟨some 43, _, _, _, _, _⟩) rfl (by kernel_rfl) (by kernel_rfl) (by kernel_rfl) (fun _ _ _ h => h) rfl hX ?_; simp only [Act.put, qA, qB, qC]
   refine mc_skip (i := 17) (oi := ⟨some 44, _, _, _, _, _⟩) rfl (by kernel_rfl) (by kernel_rfl) (by kernel_rfl) (fun _ _ _ h => h) rfl hX ?_; simp only [Act.put, qA, qB, qC]
   refine mc_skip (i := 18) (oi := ⟨some 45, _, _, _, _, _⟩) rfl (by kernel_rfl) (by kernel_rfl) (by kernel_rfl) (fun _ _ _ h => h) rfl hX ?_; simp only [Act.put, qA, qB, qC]
   refine mc_skip (i := 19) (oi := ⟨some 46, _, _, _, _, _⟩) rfl (by kernel_rfl) (by kernel_rfl) (by kernel_rfl) (fun _ _ _ h => h) rfl hX ?_; simp only [Act.put, qA, qB, qC]
   refine mc_skip (i := 20) (oi := ⟨some 47, _, _, _, _, _⟩) rfl (by kernel_rfl) (by kernel_rfl) (by kernel_rfl) (fun _ _ _ h => h) rfl hX ?_; simp only [Act.put, qA, qB, qC]
   refine mc_skip (i := 21) (oi := ⟨some 48, _, _, _, _, _⟩) rfl (by kernel_rfl) (by kernel_rfl) (by kernel_rfl) (fun _ _ _ h => h) rfl hX ?_; simp only [Act.put, qA, qB, qC]
   refine mc_skip (i := 22) (oi := ⟨some 49, _, _, _, _, _⟩) rfl (by kernel_rfl) (by kernel_rfl) (by kernel_rfl) (fun _ _ _ h => h) rfl hX ?_; simp only [Act.put, qA, qB, qC]
   refine mc_take (i := 23) (oi := ⟨some 50, _, _, _, _, _⟩) (v := ?_) rfl (by kernel_rfl) (by kernel_rfl) (by kernel_rfl) (fun _ _ _ h => h) rfl hX ?_ ?_; rotate_left; (intro W hW; go_simp; try with_reducible rfl); simp only [Act.put, qA, qB, qC]
   refine wpAnyC_done (by kernel_rfl) ?_ _
   have K4 := qH (HKR.out.below hX HKR.out.lt)
   have O4 := qH (own6_stay HOR.out fun q hq => hX.block q (own6_lt HOR.out q hq).1)
   have B4' := qH (BR.out.trans (hX.mono (by rw [HGD.out]; exact BR.out.size)))
   have S4 := qH (Nat.le_trans SR.out hX.size)
   clear hX
   go_wp2_with (first
    | ((with_reducible refine atDst 59 ?_); refine wpList_plain rfl fun K hK => wp_bldI 33 3 (.tmp 58) rfl i1 Try.underlying33 hi1 0 hy0 hy1 (j : Int) rfl ?_; intro wb hr hb; have RB := qH hr; have KB := qH (K4.out.below hb K4.out.lt); have OB := qH (own6_stay O4.out fun q hq => hb.block q (own6_lt O4.out q hq).1); have BB := qH (B4'.out.trans (hb.mono (by rw [HGD.out]; exact B4'.out.size))); have SB := qH (Nat.le_trans S4.out hb.size); clear hr hb; refine hK _ _ ?_; clear hK K; (try simp only [Act.put, qA, qB, qC]))
    | ((with_reducible refine atDst 60 ?_); refine wpList_appW (base := H1) rfl (.tmp 57) (.tmp 59) 33 rfl 3 i1 (.int .i64 0) 8 Try.underlying33 hi1 hy0 hy1 hy2 rfl _ _ (fcs ps j) rfl OB.out _ (nums .i64 [(j : Int)]) rfl RB.out (nums_one _ _) HBD.out (by decide) SB.out ?_; intro v2 wc ho hgr hwr; have OC := qH ho; have BC := qH (BB.out.trans ((below_own (Below.refl H1 wb) SB.out hgr fun q hq => (own6_lt OB.out q hq).2).mono (Nat.le_of_lt HGH.out))); have KC := qH (show Blk wc gd 28 (dcl (ctab ps j) (.slice none 0 0) (.slice none 0 0)) from KB.out.grown hgr fun h => Nat.lt_irrefl gd (Nat.lt_of_lt_of_le HGH.out (own6_lt OB.out gd h.symm).2)); have SC := qH (Nat.le_trans SB.out hgr.size); have hgc := KC.out.cell j; rw [dcl_cl (ctab_length _ _) HJL.out, bvs_get _ _ _ HU.out] at hgc; have hfz := KC.out.frozen j; clear ho hgr hwr; (try simp only [Act.put, qA, qB, qC])))
   refine ⟨⟨j + 1, HJL.out, by congr 1, ?_, ?_, BC.out.setCell (p := ⟨gd, j, none⟩) (Nat.le_refl _) _, by simpa using SC.out⟩, by simpa [intOf] using HMJ.out⟩
   ·rw [show fcs ps (j + 1) = fcs ps j ++ nums .i64 [(j : Int)] by unfold fcs; rw [HFN.out, List.map_append, nums_append]; rfl, HFN.out, List.length_append, ← HNFL.out]
    exact own_far OC.out HGH.out _
   ·rw [← HST.out]
    exact dcl_put KC.out HJL.out (by rw [HST.out]; exact Nat.lt_of_le_of_lt HFL.out HJL.out)
 ·obtain rfl : 256 = j := Nat.le_antisymm (Nat.le_of_not_lt hjl) HJ.out
  have j1 : ¬ ((256 : Int) < 256) := Int.lt_irrefl _
  obtain ⟨cl, hcl⟩ : ∃ c, c = ctab ps 256 := ⟨_, rfl⟩
  have HCL := qH hcl
  have HCLL := qH (show cl.length = 256 by rw [hcl]; exact ctab_length _ _)
  obtain ⟨fb, hfb⟩ : ∃ fb, fb = fbL (accD D 0) := ⟨_, rfl⟩
  have HFB := qH hfb
  have HFBE := qH (show firstJ ps 256 = fb by rw [hfb, HPS.out]; rfl)
  obtain ⟨kk, hkk⟩ : ∃ kk, kk = fb.length := ⟨_, rfl⟩
  have HKK := qH hkk
  have HK256 := qH (show kk ≤ 256 by rw [hkk, ← HFBE.out]; exact firstJ_len ps 256)
  obtain ⟨xs, hxs⟩ : ∃ xs, xs = nums .i64 (fb.map fun (n : Nat) => (n : Int)) := ⟨_, rfl⟩
  have HXS := qH hxs
  have HO2 := qH (show wo.ownsRow H1 3 1 u6 kk xs by
   have h1 := HO.out
   rw [HFBE.out, ← hkk, show fcs ps 256 = xs by rw [hxs]; unfold fcs; rw [HFBE.out]] at h1
   exact h1)
  obtain ⟨Af, cf, huf⟩ := ownC_slice HO2.out
  subst huf
  have HK2 := qH (show Blk wo gd 28 (dcl cl (.slice none 0 0) (.slice none 0 0)) by rw [hcl]; exact HK.out)
  have C68 := qH (show wo.cell? ⟨bp, op, none⟩ = some (.int .i64 (parD D 0 : Int)) by
   have h1 := CP5.out 0 HNP.out
   rw [Nat.add_zero] at h1
   exact (HB.out.cell (p := ⟨bp, op, none⟩) (by rw [HGD.out]; exact HBP5.out)).trans h1)
  have c68 := C68.out
  have n0 : (0 : Int) < (n : Int) := Int.ofNat_lt.2 HNP.out
  clear hjl hcl hfb hkk hxs HO HK
  go_wp2_with ((with_reducible refine atDst 69 ?_); refine wpList_plain rfl fun K hK => wp_bldVk 33 3 (.tmp 68) rfl i1 (.int .i64 0) Try.underlying33 hi1 hy0 hy1 rfl (.int .i64 (parD D 0 : Int)) rfl rfl ?_; intro wc hk hb; have KC := qH hk; have BC := qH hb; clear hk hb; refine hK _ _ ?_; clear hK K; (try simp only [Act.put, qA, qB, qC]))
  obtain ⟨H, hH⟩ : ∃ g, g = wo.heap.size := ⟨_, rfl⟩
  have HH := qH hH
  have HGHH := qH (show gd < H by rw [hH]; exact HK2.out.lt)
  have HFH := qH (show ∀ k, (Value.slice Af kk cf).ownBlock = some k → k < H from fun k hk => by rw [hH]; exact (own6_lt HO2.out k hk).1)
  have EC := qH (show EnvL w5 wc gd H1 cl (.slice none 0 0) (.slice none 0 0) (.slice Af kk cf) kk xs from
   ⟨HK2.out.below BC.out HK2.out.lt, own6_stay HO2.out fun q hq => BC.out.block q (own6_lt HO2.out q hq).1, HB.out.trans (BC.out.mono (Nat.le_of_lt HK2.out.lt))⟩)
  have AC := qH (show Apt wc H 3 (putV (fun _ => .slice none 0 0) 2 (.slice (some ⟨wo.heap.size, 0, none⟩) 1 1)) (putX (fun _ => []) 2 (nums .i64 [(parD D 0 : Int)])) from
   apt_one (KC.out.own (Nat.le_of_eq hH) (by unfold maxLen; simp)))
  have MC := qH (MdL.zero (f := fP D) (x0 := parD D 0) (e := fun q => D.ends.getD q false) (v := .slice (some ⟨wo.heap.size, 0, none⟩) 1 1))
  have HHW := qH (show H ≤ wc.heap.size by rw [hH]; exact BC.out.size)
  obtain ⟨qf, hqf⟩ : ∃ f : Nat → List Nat, f = fP D := ⟨_, rfl⟩
  have HQF := qH hqf
  obtain ⟨x0, hx0⟩ : ∃ x, x = parD D 0 := ⟨_, rfl⟩
  have HX0 := qH hx0
  obtain ⟨ef, hef⟩ : ∃ e : Nat → Bool, e = fun q => D.ends.getD q false := ⟨_, rfl⟩
  have HEF := qH hef
  rw [← hqf, ← hx0, ← hef] at MC
  rw [← hx0] at AC
  have HLE := qH (show ∀ r, (Lq qf x0 r).length ≤ n from fun r => by rw [hqf, hx0, HN.out]; exact QP_le HM.out HL.out r)
  have HLT := qH (show ∀ r, ∀ q ∈ Lq qf x0 r, q < n from fun r => by rw [hqf, hx0, HN.out]; exact QP_lt HM.out HL.out r)
  have HFL := qH (show ∀ q, (qf q).length = kk from fun q => by rw [hqf, fP_len, HKK.out, HFB.out])
  have HFG := qH (show ∀ q k b, fb[k]? = some b → (qf q)[k]? = some (parD D (stC D q (clB D b))) from fun q k b h => by rw [hqf]; exact fP_get (by rw [← HFB.out]; exact h))
  clear hH hqf hx0 hef HO2 HK2 KC BC C68 HB HSZ
  go_wp2_with fail
  go_loopw [9, 10] (fun ov iv wl => ∃ (i : Nat) (U : Nat → Value) (X : Nat → List Value), iv = .int .i64 (i : Int) ∧ i ≤ (Lq qf x0 i).length ∧ ov = U 2 ∧ Apt wl H (3 + i) U X ∧ EnvL w5 wl gd H1 cl (U 0) (U 1) (.slice Af kk cf) kk xs ∧ MdL qf x0 ef i U X (Lq qf x0 i) ∧ H ≤ wl.heap.size) (fun _ iv _ => n - (intOf iv).toNat)
  case atStart => exact ⟨0, _, _, rfl, Nat.zero_le _, (putV_at _ _ _).symm, AC.out, EC.out, MC.out, HHW.out⟩
  clear AC EC MC HHW
  obtain ⟨i, U, X, rfl, hi, rfl, ha, he, hm, hh⟩ := hrel
  have HI := qH hi
  have AI := qH ha
  have EI := qH he
  have MI := qH hm
  have HHI := qH hh
  obtain ⟨m, hm2⟩ : ∃ m, m = (Lq qf x0 i).length := ⟨_, rfl⟩
  have HML := qH hm2
  have O2 := qH (show wr.ownsRow H 3 1 (U 2) m (nums .i64 ((Lq qf x0 i).map fun (q : Nat) => (q : Int))) by
   have h1 := ha.own 2 (l32 i)
   rw [hm.a2, nums_length, List.length_map, ← hm2] at h1
   exact h1)
  obtain ⟨A2, c2, hu2⟩ := ownC_slice O2.out
  have HU2 := qH hu2
  rw [← hm2] at hi
  rw [hu2]
  obtain ⟨wi, hwi⟩ : ∃ v : World, v = wr := ⟨_, rfl⟩
  subst hwi
  have HMN := qH (show m ≤ n by rw [hm2]; exact HLE.out i)
  clear hi ha he hm hh hm2 hu2
  by_cases him : i < m
  ·have y1 : (i : Int) < (m : Int) := Int.ofNat_lt.2 him
   have HIM := qH him
   have HIN := qH (Nat.lt_of_lt_of_le him HMN.out)
   have HMI := qH (sub_next HIN.out)
   have e3 := wrap_one i (lt_bigN HIN.out HNF.out)
   have e4 := wrap_one' i (lt_bigN HIN.out HNF.out)
   obtain ⟨q, hq⟩ : ∃ q, (Lq qf x0 i)[i]? = some q := ⟨_, List.getElem?_eq_getElem (by rw [← HML.out]; exact him)⟩
   have HQ := qH hq
   have HQN := qH (show q < n from HLT.out i q (List.mem_of_getElem? hq))
   obtain ⟨Lj, Rw, hin⟩ := inG_is (kk := kk) hq (HFL.out q)
   have IN := qH hin
   have AJ0 := qH (show Apt wi H (3 + i + 1) (putV U (3 + i) (.slice none 0 0)) (putX X (3 + i) []) from AI.out.more)
   have MJ0 := qH (show MdL qf x0 ef i (putV U (3 + i) (.slice none 0 0)) (putX X (3 + i) []) (Lj 0) by rw [hin.zero]; exact MI.out.more HI.out)
   have EJ0 := qH (show EnvL w5 wi gd H1 cl (putV U (3 + i) (.slice none 0 0) 0) (putV U (3 + i) (.slice none 0 0) 1) (.slice Af kk cf) kk xs by rw [putV_ne (n30 i), putV_ne (n31 i)]; exact EI.out)
   have U2J := qH (show Value.slice A2 m c2 = putV U (3 + i) (.slice none 0 0) 2 by rw [putV_ne (n32 i)]; exact HU2.out.symm)
   have U3J := qH (show Value.slice none 0 0 = putV U (3 + i) (.slice none 0 0) (i + 3) by rw [Nat.add_comm i 3, putV_at])
   have X3J := qH (show putX X (3 + i) [] (i + 3) = nums .i64 (Rw.take 0) by rw [Nat.add_comm i 3, putX_at]; rfl)
   clear him hq hin
   go_wp2_with fail
   go_loopw [9, 11, 12] (fun ov rv kv wl => ∃ (j : Nat) (U : Nat → Value) (X : Nat → List Value), j ≤ kk ∧ kv = .int .i64 (j : Int) ∧ ov = U 2 ∧ rv = U (i + 3) ∧ Apt wl H (3 + i + 1) U X ∧ EnvL w5 wl gd H1 cl (U 0) (U 1) (.slice Af kk cf) kk xs ∧ MdL qf x0 ef i U X (Lj j) ∧ X (i + 3) = nums .i64 (Rw.take j) ∧ H ≤ wl.heap.size) (fun _ _ kv _ => kk - (intOf kv).toNat)
   case atStart => exact ⟨0, _, _, Nat.zero_le _, rfl, U2J.out, U3J.out, AJ0.out, EJ0.out, MJ0.out, X3J.out, HHI.out⟩
   clear AJ0 MJ0 EJ0 U2J U3J X3J O2 HU2 AI EI MI HHI
   obtain ⟨j, V, Y, hj, rfl, rfl, rfl, ha, he, hm, hx3, hh⟩ := hrel
   have HJ := qH hj
   have AJ := qH ha
   have EJ := qH he
   have MJ := qH hm
   have X3 := qH hx3
   have HHJ := qH hh
   obtain ⟨M, hM⟩ : ∃ M, M = Lj j := ⟨_, rfl⟩
   have HMM := qH hM
   obtain ⟨mj, hmj⟩ : ∃ m, m = M.length := ⟨_, rfl⟩
   have HMJL := qH hmj
   have HMJN := qH (show mj ≤ n by rw [hmj, hM]; exact Nat.le_trans (IN.out.le j) (HLE.out (i + 1)))
   have HMI3 := qH (show M[i]? = some q by rw [hM]; exact IN.out.at_ j)
   have HND := qH (show M.Nodup by rw [hM]; exact IN.out.nd j)
   have HIMJ := qH (show i < mj by rw [hmj]; exact (List.getElem?_eq_some_iff.1 HMI3.out).1)
   have O2 := qH (show wr.ownsRow H 3 1 (V 2) mj (nums .i64 (M.map fun (q : Nat) => (q : Int))) by
    have h1 := ha.own 2 (l32s i)
    rw [hm.a2, nums_length, List.length_map, ← hM, ← hmj] at h1
    exact h1)
   obtain ⟨rl, hrl⟩ : ∃ r, r = Rw.take j := ⟨_, rfl⟩
   have HRL := qH hrl
   have HRLL := qH (show rl.length = j by rw [hrl, List.length_take, IN.out.len]; exact Nat.min_eq_left hj)
   have O3 := qH (show wr.ownsRow H 3 1 (V (i + 3)) j (nums .i64 rl) by
    have h1 := ha.own (i + 3) (l3is i)
    rw [hx3, nums_length, ← hrl, HRLL.out] at h1
    exact h1)
   obtain ⟨A2, c2, hv2⟩ := ownC_slice O2.out
   obtain ⟨A3, c3, hv3⟩ := ownC_slice O3.out
   have HV2 := qH hv2
   have HV3 := qH hv3
   rw [hv2, hv3]
   rw [hv2] at O2
   rw [hv3] at O3
   obtain ⟨wp, hwp⟩ : ∃ v : World, v = wr := ⟨_, rfl⟩
   subst hwp
   clear hj ha he hm hx3 hh hM hmj hrl hv2 hv3
   by_cases hjk : j < kk
   ·have k1 : (j : Int) < (kk : Int) := Int.ofNat_lt.2 hjk
    have HJK := qH hjk
    have HMJ := qH (sub_next hjk)
    have f3 := wrap_one j (lt_k256 hjk HK256.out)
    have f4 := wrap_one' j (lt_k256 hjk HK256.out)
    obtain ⟨b, hb⟩ : ∃ b, fb[j]? = some b := ⟨_, List.getElem?_eq_getElem (by rw [← HKK.out]; exact hjk)⟩
    have HB256 := qH (show b < 256 from fbL_at (by rw [← HFB.out]; exact hb))
    obtain ⟨y, hy⟩ : ∃ y, clB D b = y := ⟨_, rfl⟩
    have HYK := qH (show y < kd by rw [← hy, HKD.out]; exact clB_lt HL.out HB256.out)
    obtain ⟨v, hv⟩ : ∃ v, stC D q y = v := ⟨_, rfl⟩
    obtain ⟨r, e1, _, e3, e4⟩ := may_cell HM.out (s := q) (k := y) (by rw [← HN.out]; exact HQN.out) (by rw [← HKD.out]; exact HYK.out)
    rw [hv] at e3 e4
    have HVN := qH (show v < n by rw [HN.out]; exact e4)
    obtain ⟨t, ht⟩ : ∃ t, parD D v = t := ⟨_, rfl⟩
    have HFJ := qH (show (qf q)[j]? = some t by rw [HFG.out q j b hb, hy, hv, ht])
    have STP := qH (show (t ∈ M ∧ Lj (j + 1) = M ∧ Rw.take (j + 1) = rl ++ [((ixOf M t : Nat) : Int)]) ∨ (t ∉ M ∧ Lj (j + 1) = M ++ [t] ∧ Rw.take (j + 1) = rl ++ [(mj : Int)]) by
     have h1 := IN.out.step j t HFJ.out
     rw [← HMM.out, ← HRL.out, ← HMJL.out] at h1
     exact h1)
    obtain ⟨r', Ar, cr, g1, g2, g3, g4⟩ := ROW.out q HQN.out
    obtain rfl : r' = r := Option.some.inj (g1.symm.trans e1)
    obtain ⟨br, or, rfl, hbr, hcr⟩ := g4.at_ (by rw [nums_length, g2]; exact Nat.lt_of_le_of_lt (Nat.zero_le _) HYK.out)
    have CRY := qH (show w.cell? ⟨br, or + y, none⟩ = some (.int .i64 (v : Int)) from hcr y _ (by simp [nums, e3]))
    have HBR0 := qH hbr
    have CRQ := qH g3
    obtain ⟨b2, o2, rfl, hb2l, hc2⟩ := (Row.of_own O2.out).at_ (by rw [nums_length, List.length_map, ← HMJL.out]; exact Nat.lt_of_le_of_lt (Nat.zero_le _) HIMJ.out)
    have HB2L := qH hb2l
    have COR := qH (show ∀ (a s : Nat), M[a]? = some s → wp.cell? ⟨b2, o2 + a, none⟩ = some (.int .i64 (s : Int)) from fun a s h => hc2 a _ (by simp [nums, h]))
    obtain ⟨bf, of, haf, hbf, hcf⟩ := (Row.of_own EJ.out.own).at_ (by rw [HXS.out, nums_length, List.length_map, ← HKK.out]; exact Nat.lt_of_le_of_lt (Nat.zero_le _) hjk)
    have HAF := qH haf
    have HBF := qH hbf
    have CFJ := qH (show wp.cell? ⟨bf, of + j, none⟩ = some (.int .i64 (b : Int)) from hcf j _ (by rw [HXS.out]; simp [nums, hb]))
    have z1 : (i : Int) < (mj : Int) := Int.ofNat_lt.2 HIMJ.out
    have z2 : (q : Int) < (n : Int) := Int.ofNat_lt.2 HQN.out
    have z3 : (b : Int) < 256 := Int.ofNat_lt.2 HB256.out
    have z4 : (y : Int) < (kd : Int) := Int.ofNat_lt.2 HYK.out
    have z5 : (v : Int) < (n : Int) := Int.ofNat_lt.2 HVN.out
    have TOW := qH (show Below w.heap.size w wp from B5.out.trans (EJ.out.bel.mono (Nat.le_of_lt HKG.out)))
    have KP := qH (show Blk wp w.heap.size 28 cs from K5.out.below EJ.out.bel HKG.out)
    have CB97 := qH (show wp.cell? ⟨w.heap.size, b, none⟩ = some (.int .u8 (y : Int)) from (KP.out.cell b).trans (by rw [HCS.out, dcl_cl HL.out HB256.out, clB_cell HL.out HB256.out, hy]))
    have C256 := qH (show wp.cell? ⟨w.heap.size, 256, none⟩ = some (.slice (some ⟨bn, on, none⟩) n cn) from (KP.out.cell 256).trans (by rw [HCS.out]; exact dcl_n HL.out))
    have CPV := qH (show wp.cell? ⟨bp, op + v, none⟩ = some (.int .i64 (t : Int)) from (EJ.out.bel.cell (p := ⟨bp, op + v, none⟩) (by rw [HGD.out]; exact HBP5.out)).trans (by rw [← ht]; exact CP5.out v HVN.out))
    have HBPW := qH (show bp < wp.heap.size from Nat.lt_of_lt_of_le HBP5.out (by rw [← HGD.out]; exact Nat.le_of_lt EJ.out.blk.lt))
    have CRQW := qH (show wp.cell? ⟨bn, on + q, none⟩ = some (.slice (some ⟨br, or, none⟩) kd cr) from (TOW.out.cell (p := ⟨bn, on + q, none⟩) HBN.out).trans CRQ.out)
    have CRYW := qH (show wp.cell? ⟨br, or + y, none⟩ = some (.int .i64 (v : Int)) from (TOW.out.cell (p := ⟨br, or + y, none⟩) HBR0.out).trans CRY.out)
    have HWW := qH (show w.heap.size ≤ wp.heap.size from TOW.out.size)
    have COI := qH (COR.out i q HMI3.out)
    subst haf
    clear hb hy hv e1 e3 e4 ht g1 g2 g3 g4 hbr hcr hb2l hc2 hbf hcf hjk
    go_wp2_with fail
    refine mc_start (fun V => Below wp.heap.size wp V) (fun _ => True) 21 (by kernel_rfl) (fun wd hwd => ?_)
    have hX : Below wp.heap.size wp wd := by rw [hwd]; exact (Below.refl _ _).drew
    clear hwd
    refine mc_take (i := 0) (oi := ⟨some 82, _, _, _, _, _⟩) (v := ?_) rfl (by kernel_rfl) (by kernel_rfl) (by kernel_rfl) (fun _ _ _ h => h) rfl hX ?_ ?_; rotate_left; (intro W hW; go_simp; try with_reducible rfl); simp only [Act.put, qA, qB, qC]
    refine mc_take (i := 1) (oi := ⟨some 83, _, _, _, _, _⟩) (v := ?_) rfl (by kernel_rfl) (by kernel_rfl) (by kernel_rfl) (fun _ _ _ h => h) rfl hX ?_ ?_; rotate_left; (intro W hW; go_simp; try with_reducible rfl); simp only [Act.put, qA, qB, qC]
    refine mc_take (i := 2) (oi := ⟨some 84, _, _, _, _, _⟩) (v := .slice (some ⟨bn, on, none⟩) n cn) rfl (by kernel_rfl) (by kernel_rfl) (by kernel_rfl) (fun _ _ _ h => h) rfl hX (fun V hV => ld_inss (.tmp 83) rfl rfl ((hV.cell (p := ⟨w.heap.size, 256, none⟩) KP.out.lt).trans C256.out)) ?_; simp only [Act.put, qA, qB, qC]
    refine mc_take (i := 3) (oi := ⟨some 85, _, _, _, _, _⟩) (v := ?_) rfl (by kernel_rfl) (by kernel_rfl) (by kernel_rfl) (fun _ _ _ h => h) rfl hX ?_ ?_; rotate_left; (intro W hW; go_simp; try with_reducible rfl); simp only [Act.put, qA, qB, qC]
    refine mc_take (i := 4) (oi := ⟨some 86, _, _, _, _, _⟩) (v := ?_) rfl (by kernel_rfl) (by kernel_rfl) (by kernel_rfl) (fun _ _ _ h => h) rfl hX ?_ ?_; rotate_left; (intro W hW; go_simp; try with_reducible rfl); simp only [Act.put, qA, qB, qC]
    refine mc_take (i := 5) (oi := ⟨some 87, _, _, _, _, _⟩) (v := ?_) rfl (by kernel_rfl) (by kernel_rfl) (by kernel_rfl) (fun _ _ _ h => h) rfl hX ?_ ?_; rotate_left; (intro W hW; go_simp; try with_reducible rfl); simp only [Act.put, qA, qB, qC]
    refine mc_take (i := 6) (oi := ⟨some 88, _, _, _, _, _⟩) (v := .int .i64 (q : Int)) rfl (by kernel_rfl) (by kernel_rfl) (by kernel_rfl) (fun _ _ _ h => h) rfl hX (fun V hV => ld_int9 (.tmp 87) rfl rfl ((hV.cell (p := ⟨b2, o2 + i, none⟩) HB2L.out).trans COI.out)) ?_; simp only [Act.put, qA, qB, qC]
    refine mc_take (i := 7) (oi := ⟨some 89, _, _, _, _, _⟩) (v := ?_) rfl (by kernel_rfl) (by kernel_rfl) (by kernel_rfl) (fun _ _ _ h => h) rfl hX ?_ ?_; rotate_left; (intro W hW; go_simp; try with_reducible rfl); simp only [Act.put, qA, qB, qC]
    refine mc_take (i := 8) (oi := ⟨some 90, _, _, _, _, _⟩) (v := .slice (some ⟨br, or, none⟩) kd cr) rfl (by kernel_rfl) (by kernel_rfl) (by kernel_rfl) (fun _ _ _ h => h) rfl hX (fun V hV => ld_ints9 (.tmp 89) rfl rfl ((hV.cell (p := ⟨bn, on + q, none⟩) (Nat.lt_of_lt_of_le HBN.out HWW.out)).trans CRQW.out)) ?_; simp only [Act.put, qA, qB, qC]
    refine mc_take (i := 9) (oi := ⟨some 91, _, _, _, _, _⟩) (v := ?_) rfl (by kernel_rfl) (by kernel_rfl) (by kernel_rfl) (fun _ _ _ h => h) rfl hX ?_ ?_; rotate_left; (intro W hW; go_simp; try with_reducible rfl); simp only [Act.put, qA, qB, qC]
    refine mc_take (i := 10) (oi := ⟨some 92, _, _, _, _, _⟩) (v := ?_) rfl (by kernel_rfl) (by kernel_rfl) (by kernel_rfl) (fun _ _ _ h => h) rfl hX ?_ ?_; rotate_left; (intro W hW; go_simp; try with_reducible rfl); simp only [Act.put, qA, qB, qC]
    refine mc_take (i := 11) (oi := ⟨some 93, _, _, _, _, _⟩) (v := ?_) rfl (by kernel_rfl) (by kernel_rfl) (by kernel_rfl) (fun _ _ _ h => h) rfl hX ?_ ?_; rotate_left; (intro W hW; go_simp; try with_reducible rfl); simp only [Act.put, qA, qB, qC]
    refine mc_take (i := 12) (oi := ⟨some 94, _, _, _, _, _⟩) (v := .int .i64 (b : Int)) rfl (by kernel_rfl) (by kernel_rfl) (by kernel_rfl) (fun _ _ _ h => h) rfl hX (fun V hV => ld_int9 (.tmp 93) rfl rfl ((hV.cell (p := ⟨bf, of + j, none⟩) HBF.out).trans CFJ.out)) ?_; simp only [Act.put, qA, qB, qC]
    refine mc_take (i := 13) (oi := ⟨some 95, _, _, _, _, _⟩) (v := ?_) rfl (by kernel_rfl) (by kernel_rfl) (by kernel_rfl) (fun _ _ _ h => h) rfl hX ?_ ?_; rotate_left; (intro W hW; go_simp; try with_reducible rfl); simp only [Act.put, qA, qB, qC]
    refine mc_take (i := 14) (oi := ⟨some 96, _, _, _, _, _⟩) (v := ?_) rfl (by kernel_rfl) (by kernel_rfl) (by kernel_rfl) (fun _ _ _ h => h) rfl hX ?_ ?_; rotate_left; (intro W hW; go_simp; try with_reducible rfl); simp only [Act.put, qA, qB, qC]
    refine mc_take (i := 15) (oi := ⟨some 97, _, _, _, _, _⟩) (v := .int .u8 (y : Int)) rfl (by kernel_rfl) (by kernel_rfl) (by kernel_rfl) (fun _ _ _ h => h) rfl hX (fun V hV => ld_u9 (.tmp 96) rfl rfl ((hV.cell (p := ⟨w.heap.size, b, none⟩) KP.out.lt).trans CB97.out)) ?_; simp only [Act.put, qA, qB, qC]
    refine mc_take (i := 16) (oi := ⟨some 98, _, _, _, _, _⟩) (v := ?_) rfl (by kernel_rfl) (by kernel_rfl) (by kernel_rfl) (fun _ _ _ h => h) rfl hX ?_ ?_; rotate_left; (intro W hW; go_simp; try with_reducible rfl); simp only [Act.put, qA, qB, qC]
    refine mc_take (i := 17) (oi := ⟨some 99, _, _, _, _, _⟩) (v := .int .i64 (v : Int)) rfl (by kernel_rfl) (by kernel_rfl) (by kernel_rfl) (fun _ _ _ h => h) rfl hX (fun V hV => ld_int9 (.tmp 98) rfl rfl ((hV.cell (p := ⟨br, or + y, none⟩) (Nat.lt_of_lt_of_le HBR0.out HWW.out)).trans CRYW.out)) ?_; simp only [Act.put, qA, qB, qC]
    refine mc_take (i := 18) (oi := ⟨some 100, _, _, _, _, _⟩) (v := ?_) rfl (by kernel_rfl) (by kernel_rfl) (by kernel_rfl) (fun _ _ _ h => h) rfl hX ?_ ?_; rotate_left; (intro W hW; go_simp; try with_reducible rfl); simp only [Act.put, qA, qB, qC]
    refine mc_take (i := 19) (oi := ⟨some 101, _, _, _, _, _⟩) (v := .int .i64 (t : Int)) rfl (by kernel_rfl) (by kernel_rfl) (by kernel_rfl) (fun _ _ _ h => h) rfl hX (fun V hV => ld_int9 (.tmp 100) rfl rfl ((hV.cell (p := ⟨bp, op + v, none⟩) HBPW.out).trans CPV.out)) ?_; simp only [Act.put, qA, qB, qC]
    refine mc_take (i := 20) (oi := ⟨some 13, _, _, _, _, _⟩) (v := ?_) rfl (by kernel_rfl) (by kernel_rfl) (by kernel_rfl) (fun _ _ _ h => h) rfl hX ?_ ?_; rotate_left; (intro W hW; go_simp; try with_reducible rfl); simp only [Act.put, qA, qB, qC]
    refine wpAnyC_done (by kernel_rfl) ?_ _
    have AD := qH (AJ.out.below hX)
    have ED := qH (EJ.out.below hX)
    have SD := qH (Nat.le_trans HHJ.out hX.size)
    have COD := qH (show ∀ (a s : Nat), M[a]? = some s → wd.cell? ⟨b2, o2 + a, none⟩ = some (.int .i64 (s : Int)) from fun a s h => (hX.cell (p := ⟨b2, o2 + a, none⟩) HB2L.out).trans (COR.out a s h))
    have HB2D := qH (Nat.lt_of_lt_of_le HB2L.out hX.size)
    clear hX z1 z2 z3 z4 z5
    go_wp2_with fail
    go_loopw [14] (fun av wl => ∃ a : Nat, a ≤ mj ∧ av = .int .i64 (a : Int) ∧ (∀ x, x < a → M[x]? ≠ some t) ∧ Below wd.heap.size wd wl) (fun av _ => mj - (intOf av).toNat)
    case atStart => exact ⟨0, Nat.zero_le _, rfl, fun x hx => absurd hx (Nat.not_lt_zero x), Below.refl _ _⟩
    obtain ⟨a, ha, rfl, hno, hb⟩ := hrel
    have HA := qH ha
    have HNO := qH hno
    have BA := qH hb
    have AA := qH (AD.out.below hb)
    have EA := qH (ED.out.below hb)
    have SA := qH (Nat.le_trans SD.out hb.size)
    clear ha hno hb
    by_cases ham : a < mj
    ·have a1 : (a : Int) < (mj : Int) := Int.ofNat_lt.2 ham
     have HAM := qH ham
     obtain ⟨s, hs⟩ : ∃ s, M[a]? = some s := ⟨_, List.getElem?_eq_getElem (by rw [← HMJL.out]; exact ham)⟩
     have HS := qH hs
     have hca : wr.cell? ⟨b2, o2 + a, none⟩ = some (.int .i64 (s : Int)) := (BA.out.cell (p := ⟨b2, o2 + a, none⟩) HB2D.out).trans (COD.out a s hs)
     clear ham hs
     by_cases hst : s = t
     ·subst hst
      have x3 : ((s : Int) != (s : Int)) = false := by simp
      have x4 : ((a : Int) == (mj : Int)) = false := by rw [beq_eq_false_iff_ne]; exact fun e => Nat.ne_of_lt HAM.out (Int.ofNat_inj.1 e)
      have HH1 := qH (srch_hit HND.out HS.out)
      have HST := qH (show Lj (j + 1) = M ∧ Rw.take (j + 1) = rl ++ [(a : Int)] by
       rcases STP.out with h | h
       ·refine ⟨h.2.1, ?_⟩
        rw [h.2.2, HH1.out.2]
       ·exact absurd HH1.out.1 h.1)
      have HRT := qH HST.out.2
      have MA := qH (show MdL qf x0 ef i V Y (Lj (j + 1)) by rw [HST.out.1, HMM.out]; exact MJ.out)
      have HBR := qH (show j + (nums .i64 [(a : Int)]).length ≤ 2097152 from bnd_2000 HJK.out (Nat.le_trans HK256.out (by decide)))
      have X3R := qH (show Y (i + 3) = nums .i64 rl by rw [X3.out, HRL.out])
      go_wp2_with (first
       | ((with_reducible refine atDst 126 ?_); refine wpList_plain rfl fun K hK => wp_bldI 33 3 (.tmp 125) rfl i1 Try.underlying33 hi1 0 hy0 hy1 (a : Int) rfl ?_; intro wb hr hb; have RB := qH hr; have AB := qH (AA.out.below hb); have EB := qH (EA.out.below hb); have SB := qH (Nat.le_trans SA.out hb.size); have OB := qH (own_at3 AB.out HV3.out X3R.out HRLL.out); clear hr hb; refine hK _ _ ?_; clear hK K; (try simp only [Act.put, qA, qB, qC]))
       | ((with_reducible refine atDst 127 ?_); refine wpList_appW (base := H) rfl (.tmp 124) (.tmp 126) 33 rfl 3 i1 (.int .i64 0) 8 Try.underlying33 hi1 hy0 hy1 hy2 rfl _ _ (nums .i64 rl) rfl OB.out _ (nums .i64 [(a : Int)]) rfl RB.out (nums_one _ _) HBR.out (by decide) SB.out ?_; intro v9 wc ho hgr hwr; have AC := qH (row_grow AB.out HV3.out (r' := rl ++ [(a : Int)]) (ho_snoc ho) (len_snoc HRLL.out _) hgr hwr); have BC := qH (show Below H wb wc from below_own (Below.refl H wb) SB.out hgr fun q hq => (own6_lt OB.out q hq).2); have EC := qH (EB.out.off HGHH.out HFH.out BC.out); have SC := qH (Nat.le_trans SB.out BC.out.size); clear ho hgr hwr; (try simp only [Act.put, qA, qB, qC])))
      refine ⟨⟨j + 1, _, _, HJK.out, by congr 1, ?_, (by rw [Nat.add_comm i 3, putV_at]), AC.out, ?_, MA.out.more HI.out, ?_, SC.out⟩, by simpa [intOf] using HMJ.out⟩
      ·rw [putV_ne (n32 i)]
       exact HV2.out.symm
      ·rw [putV_ne (n30 i), putV_ne (n31 i)]
       exact EC.out
      ·rw [Nat.add_comm i 3, putX_at, HRT.out]
     ·have x3 : ((s : Int) != (t : Int)) = true := by rw [bne_iff_ne]; exact fun e => hst (Int.ofNat_inj.1 e)
      have HNO2 := qH (show ∀ x, x < a + 1 → M[x]? ≠ some t from fun x hx e => by
       rcases Nat.lt_or_ge x a with h | h
       ·exact HNO.out x h e
       ·have e2 : x = a := Nat.le_antisymm (Nat.le_of_lt_succ hx) h
        rw [e2, HS.out] at e
        exact hst (Option.some.inj e))
      have g3 := wrap_one a (lt_bigN (Nat.lt_of_lt_of_le HAM.out HMJN.out) HNF.out)
      have g4 := wrap_one' a (lt_bigN (Nat.lt_of_lt_of_le HAM.out HMJN.out) HNF.out)
      have HMA := qH (sub_next HAM.out)
      clear hst
      go_wp2_with fail
      exact ⟨⟨a + 1, HAM.out, by congr 1, HNO2.out, BA.out⟩, by simpa [intOf] using HMA.out⟩
    ·obtain rfl : mj = a := Nat.le_antisymm (Nat.le_of_not_lt ham) HA.out
     have a1 : ¬ (mj : Int) < (mj : Int) := Int.lt_irrefl _
     have x4 : ((mj : Int) == (mj : Int)) = true := by simp
     have HNI := qH (srch_none fun x hx => HNO.out x (by rw [HMJL.out]; exact hx))
     have HST := qH (show Lj (j + 1) = M ++ [t] ∧ Rw.take (j + 1) = rl ++ [(mj : Int)] by
      rcases STP.out with h | h
      ·exact absurd h.1 HNI.out
      ·exact h.2)
     have HRT := qH HST.out.2
     have HBR := qH (show j + (nums .i64 [(mj : Int)]).length ≤ 2097152 from bnd_2000 HJK.out (Nat.le_trans HK256.out (by decide)))
     have HBO := qH (show mj + (nums .i64 [(t : Int)]).length ≤ 2097152 from bnd_2001 HMJN.out HNF.out)
     have X3R := qH (show Y (i + 3) = nums .i64 rl by rw [X3.out, HRL.out])
     have Y2 := qH (show Y 2 = nums .i64 (M.map fun (q : Nat) => (q : Int)) by rw [MJ.out.a2, HMM.out])
     clear ham
     go_wp2_with (first
      | ((with_reducible refine atDst 122 ?_); refine wpList_plain rfl fun K hK => wp_bldI 33 3 (.tmp 121) rfl i1 Try.underlying33 hi1 0 hy0 hy1 (t : Int) rfl ?_; intro wx hr hb; have RX := qH hr; have AX := qH (AA.out.below hb); have EX := qH (EA.out.below hb); have SX := qH (Nat.le_trans SA.out hb.size); have OX := qH (own_at2 AX.out HV2.out Y2.out HMJL.out); clear hr hb; refine hK _ _ ?_; clear hK K; (try simp only [Act.put, qA, qB, qC]))
      | ((with_reducible refine atDst 123 ?_); refine wpList_appW (base := H) rfl (.tmp 120) (.tmp 122) 33 rfl 3 i1 (.int .i64 0) 8 Try.underlying33 hi1 hy0 hy1 hy2 rfl _ _ (nums .i64 (M.map fun (q : Nat) => (q : Int))) rfl OX.out _ (nums .i64 [(t : Int)]) rfl RX.out (nums_one _ _) HBO.out (by decide) SX.out ?_; intro v8 wy ho hgr hwr; have AY := qH (list_grow AX.out HV2.out (M := M ++ [t]) (ho_snocM ho) (len_snoc HMJL.out.symm t).symm hgr hwr); have BY := qH (show Below H wx wy from below_own (Below.refl H wx) SX.out hgr fun q hq => (own6_lt OX.out q hq).2); have EY := qH (show EnvL w5 wy gd H1 cl (putV V 2 v8 0) (putV V 2 v8 1) _ kk xs from (by rw [putV_ne (by decide), putV_ne (by decide)]; exact EX.out.off HGHH.out HFH.out BY.out)); have SY := qH (Nat.le_trans SX.out BY.out.size); have MY := qH (show MdL qf x0 ef i (putV V 2 v8) (putX Y 2 (nums .i64 ((M ++ [t]).map fun (q : Nat) => (q : Int)))) (Lj (j + 1)) from (by rw [HST.out.1]; refine MdL.push (M := M) ?_ t; rw [HMM.out]; exact MJ.out)); have V3Y := qH (show putV V 2 v8 (i + 3) = .slice A3 j c3 from (by rw [putV_ne (ni32 i)]; exact HV3.out)); have X3Y := qH (show putX Y 2 (nums .i64 ((M ++ [t]).map fun (q : Nat) => (q : Int))) (i + 3) = nums .i64 rl from (by rw [putX_ne (ni32 i)]; exact X3R.out)); clear ho hgr hwr; (try simp only [Act.put, qA, qB, qC]))
      | ((with_reducible refine atDst 126 ?_); refine wpList_plain rfl fun K hK => wp_bldI 33 3 (.tmp 125) rfl i1 Try.underlying33 hi1 0 hy0 hy1 (mj : Int) rfl ?_; intro wb hr hb; have RB := qH hr; have AB := qH (AY.out.below hb); have EB := qH (EY.out.below hb); have SB := qH (Nat.le_trans SY.out hb.size); have OB := qH (own_at3 AB.out V3Y.out X3Y.out HRLL.out); clear hr hb; refine hK _ _ ?_; clear hK K; (try simp only [Act.put, qA, qB, qC]))
      | ((with_reducible refine atDst 127 ?_); refine wpList_appW (base := H) rfl (.tmp 124) (.tmp 126) 33 rfl 3 i1 (.int .i64 0) 8 Try.underlying33 hi1 hy0 hy1 hy2 rfl _ _ (nums .i64 rl) rfl OB.out _ (nums .i64 [(mj : Int)]) rfl RB.out (nums_one _ _) HBR.out (by decide) SB.out ?_; intro v9 wc ho hgr hwr; have AC := qH (row_grow AB.out V3Y.out (r' := rl ++ [(mj : Int)]) (ho_snoc ho) (len_snoc HRLL.out _) hgr hwr); have BC := qH (show Below H wb wc from below_own (Below.refl H wb) SB.out hgr fun q hq => (own6_lt OB.out q hq).2); have EC := qH (EB.out.off HGHH.out HFH.out BC.out); have SC := qH (Nat.le_trans SB.out BC.out.size); clear ho hgr hwr; (try simp only [Act.put, qA, qB, qC])))
     refine ⟨⟨j + 1, _, _, HJK.out, by congr 1, ?_, (by rw [Nat.add_comm i 3, putV_at]), AC.out, ?_, MY.out.more HI.out, ?_, SC.out⟩, by simpa [intOf] using HMJ.out⟩
     ·rw [putV_ne (n32 i)]
      exact (putV_at _ _ _).symm
     ·rw [putV_ne (n30 i), putV_ne (n31 i)]
      exact EC.out
     ·rw [Nat.add_comm i 3, putX_at, HRT.out]
   ·obtain rfl : kk = j := Nat.le_antisymm (Nat.le_of_not_lt hjk) HJ.out
    have k1 : ¬ (kk : Int) < (kk : Int) := Int.lt_irrefl _
    have HMA := qH (show M = Lq qf x0 (i + 1) by rw [HMM.out]; exact IN.out.all)
    have HRA := qH (show rl = rowI (Lq qf x0 (i + 1)) (qf q) by rw [HRL.out, ← IN.out.row, List.take_of_length_le (Nat.le_of_eq IN.out.len)])
    have HIL := qH (show i ≤ (Lq qf x0 i).length from HI.out)
    obtain ⟨E, hE⟩ : ∃ E, E = endsI ef (Lq qf x0 i) i := ⟨_, rfl⟩
    have HE := qH hE
    have Y1 := qH (show Y 1 = bools E by rw [hE]; exact MJ.out.a1)
    have HEL := qH (show E.length = i by rw [hE]; exact endsI_len HIL.out)
    have ON := qH (show wp.ownsRow H 33 1 (V 0) i ((List.range i).map fun q => V (q + 3)) by
     have h1 := AJ.out.own 0 (Nat.succ_pos _)
     rw [MJ.out.a0, List.length_map, List.length_range] at h1
     exact h1)
    have OE := qH (show wp.ownsRow H 4 1 (V 1) i (bools E) by
     have h1 := AJ.out.own 1 (l31s i)
     rw [Y1.out, bools_length, HEL.out] at h1
     exact h1)
    obtain ⟨An, cnn, hu0⟩ := ownC_slice ON.out
    obtain ⟨Ae, cen, hu1⟩ := ownC_slice OE.out
    have HU0 := qH hu0
    have HU1 := qH hu1
    have EJ2 := qH (show EnvL w5 wp gd H1 cl (.slice An i cnn) (.slice Ae i cen) (.slice Af kk cf) kk xs by rw [← hu0, ← hu1]; exact EJ.out)
    obtain ⟨b2, o2, rfl, hb2l, hc2⟩ := (Row.of_own O2.out).at_ (by rw [nums_length, List.length_map, ← HMJL.out]; exact Nat.lt_of_le_of_lt (Nat.zero_le _) HIMJ.out)
    have HB2L := qH hb2l
    have COI := qH (show wp.cell? ⟨b2, o2 + i, none⟩ = some (.int .i64 (q : Int)) from hc2 i _ (by simp [nums, HMI3.out]))
    have O2B := qH (show H ≤ b2 ∧ o2 = 0 by
     obtain ⟨g, c, e, _, _, _, hh⟩ := own_in O2.out (Nat.lt_of_le_of_lt (Nat.zero_le _) HIMJ.out)
     injection e with e1 e2 e3
     injection e1 with e1
     injection e1 with e1 e4
     subst e1
     exact ⟨hh, e4⟩)
    obtain ⟨bz, hbz⟩ : ∃ b, ef q = b := ⟨_, rfl⟩
    have HBZ := qH hbz
    have CEQ := qH (show w.cell? ⟨be, oe + q, none⟩ = some (.bool bz) by rw [CE.out q HQN.out, ← hbz, HEF.out])
    have TOG := qH (show ∀ W, Below gd w5 W → Below w.heap.size w W from fun W hW => B5.out.trans (hW.mono (Nat.le_of_lt HKG.out)))
    have C257 := qH (show ∀ W, Below gd w5 W → W.cell? ⟨w.heap.size, 257, none⟩ = some (.slice (some ⟨be, oe, none⟩) n ce) from fun W hW => ((K5.out.below hW HKG.out).cell 257).trans (by rw [HCS.out]; exact dcl_e HL.out))
    have z1 : (i : Int) < (mj : Int) := Int.ofNat_lt.2 HIMJ.out
    have z2 : (q : Int) < (n : Int) := Int.ofNat_lt.2 HQN.out
    have HB1 := qH (show i + [Value.slice A3 kk c3].length ≤ 2097152 from bnd_2000 HIN.out HNF.out)
    have HB4 := qH (show i + [Value.bool bz].length ≤ 2097152 from bnd_2000 HIN.out HNF.out)
    clear hu0 hu1 hE hb2l hc2 hbz hjk
    go_wp2_with fail
    refine mc_start (fun W => Below gd w5 W ∧ W.cell? ⟨b2, o2 + i, none⟩ = some (.int .i64 (q : Int))) (fun W => Blk W gd 28 (dcl cl (.slice An i cnn) (.slice Ae i cen))) 18 (by kernel_rfl) (fun wd hwd => ?_)
    have hBD : Below wp.heap.size wp wd := by rw [hwd]; exact (Below.refl _ _).drew
    have ED := qH (EJ2.out.below hBD)
    have AD := qH (AJ.out.below hBD)
    have hX : Below gd w5 wd ∧ wd.cell? ⟨b2, o2 + i, none⟩ = some (.int .i64 (q : Int)) := ⟨ED.out.bel, (hBD.cell (p := ⟨b2, o2 + i, none⟩) HB2L.out).trans COI.out⟩
    have hY : Blk wd gd 28 (dcl cl (.slice An i cnn) (.slice Ae i cen)) := ED.out.blk
    have HHD := qH (Nat.le_trans HHJ.out hBD.size)
    have HBD2 := qH (Nat.lt_of_lt_of_le HB2L.out hBD.size)
    clear hwd hBD
    have AP02 := qH (show ∀ k, (Value.slice An i cnn).ownBlock = some k → k ≠ b2 from fun k hk e => by
     rw [← HU0.out] at hk
     exact AD.out.inj 0 2 (Nat.succ_pos _) (l32s i) (by decide) k hk (by rw [HV2.out, e]; rfl))
    have AP12 := qH (show ∀ k, (Value.slice Ae i cen).ownBlock = some k → k ≠ b2 from fun k hk e => by
     rw [← HU1.out] at hk
     exact AD.out.inj 1 2 (l31s i) (l32s i) (by decide) k hk (by rw [HV2.out, e]; rfl))
    obtain ⟨v0, hv0⟩ : ∃ v : World, v = wd := ⟨_, rfl⟩
    subst hv0
    have EQ0 := qH ED.out
    have AQ0 := qH AD.out
    have HH0 := qH HHD.out
    have LB0 := qH HBD2.out
    refine mc_take (i := 0) (oi := ⟨some 128, _, _, _, _, _⟩) (v := ?_) rfl (by kernel_rfl) (by kernel_rfl) (by kernel_rfl) (fun _ _ _ h => h) rfl hX ?_ ?_; rotate_left; (intro W hW; go_simp; try with_reducible rfl); simp only [Act.put, qA, qB, qC]
    refine mc_takeS (i := 1) (oi := ⟨some 129, _, _, _, _, _⟩) (v := .slice An i cnn) rfl (by kernel_rfl) (by kernel_rfl) (by kernel_rfl) (fun _ _ _ h => h) rfl hX hY (fun W _ hS => ld_inss (.tmp 128) rfl rfl (by have := Blk.cell hS 256; rw [dcl_n HCLL.out] at this; exact this)) ?_; simp only [Act.put, qA, qB, qC]
    refine mc_take (i := 2) (oi := ⟨some 130, _, _, _, _, _⟩) (v := ?_) rfl (by kernel_rfl) (by kernel_rfl) (by kernel_rfl) (fun _ _ _ h => h) rfl hX ?_ ?_; rotate_left; (intro W hW; go_simp; try with_reducible rfl); simp only [Act.put, qA, qB, qC]
    refine mc_take (i := 5) (oi := ⟨some 133, _, _, _, _, _⟩) (v := ?_) rfl (by kernel_rfl) (by kernel_rfl) (by kernel_rfl) (fun _ _ _ h => h) rfl hX ?_ ?_; rotate_left; (intro W hW; go_simp; try with_reducible rfl); simp only [Act.put, qA, qB, qC]
    refine mc_takeS (i := 6) (oi := ⟨some 134, _, _, _, _, _⟩) (v := .slice Ae i cen) rfl (by kernel_rfl) (by kernel_rfl) (by kernel_rfl) (fun _ _ _ h => h) rfl hX hY (fun W _ hS => ld_bls (.tmp 133) rfl rfl (by have := Blk.cell hS 257; rw [dcl_e HCLL.out] at this; exact this)) ?_; simp only [Act.put, qA, qB, qC]
    refine mc_take (i := 7) (oi := ⟨some 135, _, _, _, _, _⟩) (v := ?_) rfl (by kernel_rfl) (by kernel_rfl) (by kernel_rfl) (fun _ _ _ h => h) rfl hX ?_ ?_; rotate_left; (intro W hW; go_simp; try with_reducible rfl); simp only [Act.put, qA, qB, qC]
    refine mc_take (i := 8) (oi := ⟨some 136, _, _, _, _, _⟩) (v := .slice (some ⟨be, oe, none⟩) n ce) rfl (by kernel_rfl) (by kernel_rfl) (by kernel_rfl) (fun _ _ _ h => h) rfl hX (fun W hT => ld_bls (.tmp 135) rfl rfl (C257.out W hT.1)) ?_; simp only [Act.put, qA, qB, qC]
    refine mc_take (i := 9) (oi := ⟨some 137, _, _, _, _, _⟩) (v := ?_) rfl (by kernel_rfl) (by kernel_rfl) (by kernel_rfl) (fun _ _ _ h => h) rfl hX ?_ ?_; rotate_left; (intro W hW; go_simp; try with_reducible rfl); simp only [Act.put, qA, qB, qC]
    refine mc_take (i := 10) (oi := ⟨some 138, _, _, _, _, _⟩) (v := ?_) rfl (by kernel_rfl) (by kernel_rfl) (by kernel_rfl) (fun _ _ _ h => h) rfl hX ?_ ?_; rotate_left; (intro W hW; go_simp; try with_reducible rfl); simp only [Act.put, qA, qB, qC]
    refine mc_take (i := 11) (oi := ⟨some 139, _, _, _, _, _⟩) (v := ?_) rfl (by kernel_rfl) (by kernel_rfl) (by kernel_rfl) (fun _ _ _ h => h) rfl hX ?_ ?_; rotate_left; (intro W hW; go_simp; try with_reducible rfl); simp only [Act.put, qA, qB, qC]
    refine mc_take (i := 12) (oi := ⟨some 140, _, _, _, _, _⟩) (v := .int .i64 (q : Int)) rfl (by kernel_rfl) (by kernel_rfl) (by kernel_rfl) (fun _ _ _ h => h) rfl hX (fun W hT => ld_int9 (.tmp 139) rfl rfl hT.2) ?_; simp only [Act.put, qA, qB, qC]
    refine mc_take (i := 13) (oi := ⟨some 141, _, _, _, _, _⟩) (v := ?_) rfl (by kernel_rfl) (by kernel_rfl) (by kernel_rfl) (fun _ _ _ h => h) rfl hX ?_ ?_; rotate_left; (intro W hW; go_simp; try with_reducible rfl); simp only [Act.put, qA, qB, qC]
    refine mc_take (i := 14) (oi := ⟨some 142, _, _, _, _, _⟩) (v := .bool bz) rfl (by kernel_rfl) (by kernel_rfl) (by kernel_rfl) (fun _ _ _ h => h) rfl hX (fun W hT => ld_b (.tmp 141) rfl rfl (((TOG.out W hT.1).cell (p := ⟨be, oe + q, none⟩) HBE.out).trans CEQ.out)) ?_; simp only [Act.put, qA, qB, qC]
    refine mc_two (i := 3) (j := 15) (oi := ⟨some 131, _, _, _, _, _⟩) (oj := ⟨some 143, _, _, _, _, _⟩) rfl rfl (by kernel_rfl) rfl rfl (fun K hK => ?_) (fun K hK => ?_)
    ·refine wp_bldVk 25 33 (.tmp 130) rfl il (.slice none 0 0) Try.underlying25 hil hl0 hl1 rfl (.slice A3 kk c3) rfl rfl ?_
     intro v1 hk hb
     have K3_1 := qH hk
     have EQ1 := qH (EQ0.out.below hb)
     have AQ1 := qH (AQ0.out.below hb)
     have HH1 := qH (Nat.le_trans HH0.out hb.size)
     have LB1 := qH (Nat.lt_of_lt_of_le LB0.out hb.size)
     have hX2 : Below gd w5 v1 ∧ v1.cell? ⟨b2, o2 + i, none⟩ = some (.int .i64 (q : Int)) := ⟨EQ1.out.bel, (hb.cell (p := ⟨b2, o2 + i, none⟩) LB0.out).trans hX.2⟩
     refine hK _ _ hX2 EQ1.out.blk ?_
     clear hK K hX hY
     (try simp only [Act.put, qA, qB, qC])
     clear hk hb
     have hX := hX2
     clear hX2
     have hY := EQ1.out.blk
     refine mc_two (i := 4) (j := 15) (oi := ⟨some 132, _, _, _, _, _⟩) (oj := ⟨some 143, _, _, _, _, _⟩) rfl rfl (by kernel_rfl) rfl rfl (fun K hK => ?_) (fun K hK => ?_)
     ·have ONB := qH (show v1.ownsRow H 33 1 (.slice An i cnn) i ((List.range i).map fun q => V (q + 3)) by
       have h1 := AQ1.out.own 0 (Nat.succ_pos _)
       rw [MJ.out.a0, List.length_map, List.length_range, HU0.out] at h1
       exact h1)
      refine wp_appW (base := H) (.tmp 129) (.tmp 131) 25 rfl 33 il (.slice none 0 0) 24 Try.underlying25 hil hl0 hl1 hl2 rfl _ i ((List.range i).map fun q => V (q + 3)) rfl ONB.out _ [.slice A3 kk c3] rfl (rowB K3_1.out rfl (by decide)) (fun u hu => by obtain rfl := List.mem_singleton.1 hu; rfl) HB1.out (by decide) HH1.out ?_
      intro vn2 v2 ho hg hw
      have BC := qH (show Below H v1 v2 from below_own (Below.refl H v1) HH1.out hg fun q hq => (own6_lt ONB.out q hq).2)
      have EQ2 := qH (EQ1.out.off HGHH.out HFH.out BC.out)
      have AQ2 := qH (AQ1.out.grow (s := 0) (v := vn2) (l := (List.range i).map (fun q => V (q + 3)) ++ [.slice A3 kk c3]) (Nat.succ_pos _) (by rw [List.length_append, List.length_map, List.length_range]; exact ho) (by rw [HU0.out]; exact hg) (by rw [HU0.out]; exact hw))
      have HH2 := qH (Nat.le_trans HH1.out hg.size)
      have LB2 := qH (Nat.lt_of_lt_of_le LB1.out hg.size)
      have hX2 : Below gd w5 v2 ∧ v2.cell? ⟨b2, o2 + i, none⟩ = some (.int .i64 (q : Int)) := ⟨EQ2.out.bel, (cell_of_block (hg.block b2 LB1.out fun e => AP02.out b2 e.symm rfl)).trans hX.2⟩
      obtain ⟨A22, c22, rfl⟩ : ∃ A c, vn2 = .slice A (i + 1) c := ownC_slice ho
      refine hK _ _ hX2 EQ2.out.blk ?_
      clear hK K hX hY
      (try simp only [Act.put, qA, qB, qC])
      clear ho hg hw
      have hX := hX2
      clear hX2
      have hY := EQ2.out.blk
      refine mc_take (i := 17) (oi := ⟨some 145, _, _, _, _, _⟩) (v := ?_) rfl (by kernel_rfl) (by kernel_rfl) (by kernel_rfl) (fun _ _ _ h => h) rfl hX ?_ ?_; rotate_left; (intro W hW; go_simp; try with_reducible rfl); simp only [Act.put, qA, qB, qC]
      refine mc_actB (i := 15) (o := ⟨some 143, _, _, _, _, _⟩) rfl (by kernel_rfl) rfl (fun K hK => ?_)
      refine wp_bldVk 26 4 (.tmp 142) rfl i2 (.bool false) Try.underlying26 hi2 hb0 hb1 rfl (.bool bz) rfl rfl ?_
      intro v3 hk hb
      have K15_3 := qH hk
      have EQ3 := qH (EQ2.out.below hb)
      have AQ3 := qH (AQ2.out.below hb)
      have HH3 := qH (Nat.le_trans HH2.out hb.size)
      have LB3 := qH (Nat.lt_of_lt_of_le LB2.out hb.size)
      have hX2 : Below gd w5 v3 ∧ v3.cell? ⟨b2, o2 + i, none⟩ = some (.int .i64 (q : Int)) := ⟨EQ3.out.bel, (hb.cell (p := ⟨b2, o2 + i, none⟩) LB2.out).trans hX.2⟩
      refine hK _ _ hX2 EQ3.out.blk ?_
      clear hK K hX hY
      (try simp only [Act.put, qA, qB, qC])
      clear hk hb
      have hX := hX2
      clear hX2
      have hY := EQ3.out.blk
      have OEB := qH (show v3.ownsRow H 4 1 (.slice Ae i cen) i (bools E) by
       have h1 := AQ3.out.own 1 (l31s i)
       rw [putV_ne (by decide), putX_ne (by decide), Y1.out, bools_length, HEL.out, HU1.out] at h1
       exact h1)
      refine mc_actB (i := 16) (o := ⟨some 144, _, _, _, _, _⟩) rfl (by kernel_rfl) rfl (fun K hK => ?_)
      refine wp_appW (base := H) (.tmp 134) (.tmp 143) 26 rfl 4 i2 (.bool false) 1 Try.underlying26 hi2 hb0 hb1 hb2 rfl _ i (bools E) rfl OEB.out _ [.bool bz] rfl (rowB K15_3.out rfl (by decide)) (fun u hu => by obtain rfl := List.mem_singleton.1 hu; rfl) HB4.out (by decide) HH3.out ?_
      intro ve2 wf ho hg hw
      have BF := qH (show Below H v3 wf from below_own (Below.refl H v3) HH3.out hg fun q hq => (own6_lt OEB.out q hq).2)
      have EF := qH (EQ3.out.off HGHH.out HFH.out BF.out)
      have AF := qH (AQ3.out.grow (s := 1) (v := ve2) (l := bools E ++ [.bool bz]) (l31s i) (by rw [List.length_append, bools_length, HEL.out]; exact ho) (by rw [putV_ne (by decide), HU1.out]; exact hg) (by rw [putV_ne (by decide), HU1.out]; exact hw))
      have HHF := qH (Nat.le_trans HH3.out hg.size)
      have hX2 : Below gd w5 wf ∧ wf.cell? ⟨b2, o2 + i, none⟩ = some (.int .i64 (q : Int)) := ⟨EF.out.bel, (cell_of_block (hg.block b2 LB3.out fun e => AP12.out b2 e.symm rfl)).trans hX.2⟩
      obtain ⟨A33, c33, rfl⟩ : ∃ A c, ve2 = .slice A (i + 1) c := ownC_slice ho
      have EG := qH (EF.out.setn HCLL.out HGH.out (.slice A22 (i + 1) c22))
      have EZ := qH (EG.out.sete HCLL.out HGH.out (.slice A33 (i + 1) c33))
      have HC6 := qH (show wf.cell? ⟨gd, 256, none⟩ = some (.slice An i cnn) from (EF.out.blk.cell 256).trans (dcl_n HCLL.out))
      have HF6 := qH (EF.out.blk.frozen 256)
      have HC7 := qH (show (wf.setCell ⟨gd, 256, none⟩ (.slice A22 (i + 1) c22)).cell? ⟨gd, 257, none⟩ = some (.slice Ae i cen) from (EG.out.blk.cell 257).trans (dcl_e HCLL.out))
      have HF7 := qH (EG.out.blk.frozen 257)
      have HBG := qH (show b2 ≠ gd from Nat.ne_of_gt (Nat.lt_of_lt_of_le HGHH.out O2B.out.1))
      have hX3 : Below gd w5 (wf.setCell ⟨gd, 256, none⟩ (.slice A22 (i + 1) c22)) ∧ (wf.setCell ⟨gd, 256, none⟩ (.slice A22 (i + 1) c22)).cell? ⟨b2, o2 + i, none⟩ = some (.int .i64 (q : Int)) := ⟨EG.out.bel, (cell_of_block (Below.heap_setCell wf ⟨gd, 256, none⟩ _ b2 HBG.out)).trans hX2.2⟩
      have hX4 : Below gd w5 ((wf.setCell ⟨gd, 256, none⟩ (.slice A22 (i + 1) c22)).setCell ⟨gd, 257, none⟩ (.slice A33 (i + 1) c33)) ∧ ((wf.setCell ⟨gd, 256, none⟩ (.slice A22 (i + 1) c22)).setCell ⟨gd, 257, none⟩ (.slice A33 (i + 1) c33)).cell? ⟨b2, o2 + i, none⟩ = some (.int .i64 (q : Int)) := ⟨EZ.out.bel, (cell_of_block (Below.heap_setCell _ ⟨gd, 257, none⟩ _ b2 HBG.out)).trans hX3.2⟩
      refine hK _ _ hX2 EF.out.blk ?_
      clear hK K hX hY
      (try simp only [Act.put, qA, qB, qC])
      clear ho hg hw
      have hX := hX2
      clear hX2
      have hY := EF.out.blk
      refine mc_last (i := 18) (o := ⟨none, _, _, _, _, _⟩) rfl (by kernel_rfl) rfl (fun K hK => ?_)
      refine wp_stIns (.tmp 145) (.tmp 132) rfl rfl rfl HC6.out HF6.out ?_
      refine hK _ _ hX3 ?_
      clear hK K hX hY
      (try simp only [Act.put, qA, qB, qC])
      have hX := hX3
      clear hX3
      refine mc_take (i := 19) (oi := ⟨some 146, _, _, _, _, _⟩) (v := ?_) rfl (by kernel_rfl) (by kernel_rfl) (by kernel_rfl) (fun _ _ _ h => h) rfl hX ?_ ?_; rotate_left; (intro W hW; go_simp; try with_reducible rfl); simp only [Act.put, qA, qB, qC]
      refine mc_last (i := 20) (o := ⟨none, _, _, _, _, _⟩) rfl (by kernel_rfl) rfl (fun K hK => ?_)
      refine wp_stBls (.tmp 146) (.tmp 144) rfl rfl rfl HC7.out HF7.out ?_
      refine hK _ _ hX4 ?_
      clear hK K hX
      (try simp only [Act.put, qA, qB, qC])
      refine wpAnyC_done (by kernel_rfl) ?_ _
      clear hX4
      obtain ⟨wz, hwz⟩ : ∃ v, v = (wf.setCell ⟨gd, 256, none⟩ (.slice A22 (i + 1) c22)).setCell ⟨gd, 257, none⟩ (.slice A33 (i + 1) c33) := ⟨_, rfl⟩
      have AZ := qH (show Apt wz H (3 + i + 1) _ _ from AF.out.stay (w' := wz) fun q hq _ => by
       have hne : q ≠ gd := Nat.ne_of_gt (Nat.lt_of_lt_of_le HGHH.out hq)
       rw [hwz]
       exact (Below.heap_setCell _ ⟨gd, 257, none⟩ _ q hne).trans (Below.heap_setCell _ ⟨gd, 256, none⟩ _ q hne))
      have EZ2 := qH (show EnvL w5 wz gd H1 cl (.slice A22 (i + 1) c22) (.slice A33 (i + 1) c33) (.slice Af kk cf) kk xs by rw [hwz]; exact EZ.out)
      have SZ := qH (show H ≤ wz.heap.size by rw [hwz]; simpa using HHF.out)
      have MZ := qH (show MdL qf x0 ef (i + 1) (putV (putV V 0 (.slice A22 (i + 1) c22)) 1 (.slice A33 (i + 1) c33)) (putX (putX Y 0 ((List.range i).map (fun q => V (q + 3)) ++ [.slice A3 kk c3])) 1 (bools E ++ [.bool bz])) (Lq qf x0 (i + 1)) by
       rw [← HMA.out, HE.out]
       refine MdL.next (q := q) (v := .slice A3 kk c3) (r := rl) (b := bz) ?_ HQ.out HBZ.out HRA.out HV3.out (by rw [X3.out, HRL.out])
       rw [HMM.out]
       exact MJ.out)
      have HI2 := qH (show i + 1 ≤ (Lq qf x0 (i + 1)).length by rw [← HMA.out, ← HMJL.out]; exact HIMJ.out)
      have V2Z := qH (show Value.slice (some ⟨b2, o2, none⟩) mj c2 = putV (putV V 0 (.slice A22 (i + 1) c22)) 1 (.slice A33 (i + 1) c33) 2 by rw [putV_ne (by decide), putV_ne (by decide)]; exact HV2.out.symm)
      rw [← hwz]
      clear hwz
      go_wp2_with fail
      refine ⟨⟨i + 1, _, _, by congr 1, HI2.out, V2Z.out, AZ.out, ?_, MZ.out, SZ.out⟩, by simpa [intOf] using HMI.out⟩
      rw [putV_ne (by decide), putV_at, putV_at]
      exact EZ2.out
     ·refine wp_bldVk 26 4 (.tmp 142) rfl i2 (.bool false) Try.underlying26 hi2 hb0 hb1 rfl (.bool bz) rfl rfl ?_
      intro v2 hk hb
      have K15_2 := qH hk
      have L15 := qH (show ∀ k, (Value.slice An i cnn).ownBlock = some k → v1.heap.size ≠ k from fun k hk => Nat.ne_of_gt (AQ1.out.lt (Nat.succ_pos _) k (by rw [HU0.out]; exact hk)).1)
      have EQ2 := qH (EQ1.out.below hb)
      have AQ2 := qH (AQ1.out.below hb)
      have HH2 := qH (Nat.le_trans HH1.out hb.size)
      have LB2 := qH (Nat.lt_of_lt_of_le LB1.out hb.size)
      have K3_2 := qH (K3_1.out.below hb K3_1.out.lt)
      have hX2 : Below gd w5 v2 ∧ v2.cell? ⟨b2, o2 + i, none⟩ = some (.int .i64 (q : Int)) := ⟨EQ2.out.bel, (hb.cell (p := ⟨b2, o2 + i, none⟩) LB1.out).trans hX.2⟩
      refine hK _ _ hX2 EQ2.out.blk ?_
      clear hK K hX hY
      (try simp only [Act.put, qA, qB, qC])
      clear hk hb
      have hX := hX2
      clear hX2
      have hY := EQ2.out.blk
      refine mc_actB (i := 4) (o := ⟨some 132, _, _, _, _, _⟩) rfl (by kernel_rfl) rfl (fun K hK => ?_)
      have ONB := qH (show v2.ownsRow H 33 1 (.slice An i cnn) i ((List.range i).map fun q => V (q + 3)) by
       have h1 := AQ2.out.own 0 (Nat.succ_pos _)
       rw [MJ.out.a0, List.length_map, List.length_range, HU0.out] at h1
       exact h1)
      refine wp_appW (base := H) (.tmp 129) (.tmp 131) 25 rfl 33 il (.slice none 0 0) 24 Try.underlying25 hil hl0 hl1 hl2 rfl _ i ((List.range i).map fun q => V (q + 3)) rfl ONB.out _ [.slice A3 kk c3] rfl (rowB K3_2.out rfl (by decide)) (fun u hu => by obtain rfl := List.mem_singleton.1 hu; rfl) HB1.out (by decide) HH2.out ?_
      intro vn2 v3 ho hg hw
      have BC := qH (show Below H v2 v3 from below_own (Below.refl H v2) HH2.out hg fun q hq => (own6_lt ONB.out q hq).2)
      have EQ3 := qH (EQ2.out.off HGHH.out HFH.out BC.out)
      have AQ3 := qH (AQ2.out.grow (s := 0) (v := vn2) (l := (List.range i).map (fun q => V (q + 3)) ++ [.slice A3 kk c3]) (Nat.succ_pos _) (by rw [List.length_append, List.length_map, List.length_range]; exact ho) (by rw [HU0.out]; exact hg) (by rw [HU0.out]; exact hw))
      have HH3 := qH (Nat.le_trans HH2.out hg.size)
      have LB3 := qH (Nat.lt_of_lt_of_le LB2.out hg.size)
      have K15_3 := qH (K15_2.out.grown hg fun e => L15.out _ e.symm rfl)
      have hX2 : Below gd w5 v3 ∧ v3.cell? ⟨b2, o2 + i, none⟩ = some (.int .i64 (q : Int)) := ⟨EQ3.out.bel, (cell_of_block (hg.block b2 LB2.out fun e => AP02.out b2 e.symm rfl)).trans hX.2⟩
      obtain ⟨A22, c22, rfl⟩ : ∃ A c, vn2 = .slice A (i + 1) c := ownC_slice ho
      refine hK _ _ hX2 EQ3.out.blk ?_
      clear hK K hX hY
      (try simp only [Act.put, qA, qB, qC])
      clear ho hg hw
      have hX := hX2
      clear hX2
      have hY := EQ3.out.blk
      have OEB := qH (show v3.ownsRow H 4 1 (.slice Ae i cen) i (bools E) by
       have h1 := AQ3.out.own 1 (l31s i)
       rw [putV_ne (by decide), putX_ne (by decide), Y1.out, bools_length, HEL.out, HU1.out] at h1
       exact h1)
      refine mc_take (i := 17) (oi := ⟨some 145, _, _, _, _, _⟩) (v := ?_) rfl (by kernel_rfl) (by kernel_rfl) (by kernel_rfl) (fun _ _ _ h => h) rfl hX ?_ ?_; rotate_left; (intro W hW; go_simp; try with_reducible rfl); simp only [Act.put, qA, qB, qC]
      refine mc_actB (i := 16) (o := ⟨some 144, _, _, _, _, _⟩) rfl (by kernel_rfl) rfl (fun K hK => ?_)
      refine wp_appW (base := H) (.tmp 134) (.tmp 143) 26 rfl 4 i2 (.bool false) 1 Try.underlying26 hi2 hb0 hb1 hb2 rfl _ i (bools E) rfl OEB.out _ [.bool bz] rfl (rowB K15_3.out rfl (by decide)) (fun u hu => by obtain rfl := List.mem_singleton.1 hu; rfl) HB4.out (by decide) HH3.out ?_
      intro ve2 wf ho hg hw
      have BF := qH (show Below H v3 wf from below_own (Below.refl H v3) HH3.out hg fun q hq => (own6_lt OEB.out q hq).2)
      have EF := qH (EQ3.out.off HGHH.out HFH.out BF.out)
      have AF := qH (AQ3.out.grow (s := 1) (v := ve2) (l := bools E ++ [.bool bz]) (l31s i) (by rw [List.length_append, bools_length, HEL.out]; exact ho) (by rw [putV_ne (by decide), HU1.out]; exact hg) (by rw [putV_ne (by decide), HU1.out]; exact hw))
      have HHF := qH (Nat.le_trans HH3.out hg.size)
      have hX2 : Below gd w5 wf ∧ wf.cell? ⟨b2, o2 + i, none⟩ = some (.int .i64 (q : Int)) := ⟨EF.out.bel, (cell_of_block (hg.block b2 LB3.out fun e => AP12.out b2 e.symm rfl)).trans hX.2⟩
      obtain ⟨A33, c33, rfl⟩ : ∃ A c, ve2 = .slice A (i + 1) c := ownC_slice ho
      have EG := qH (EF.out.setn HCLL.out HGH.out (.slice A22 (i + 1) c22))
      have EZ := qH (EG.out.sete HCLL.out HGH.out (.slice A33 (i + 1) c33))
      have HC6 := qH (show wf.cell? ⟨gd, 256, none⟩ = some (.slice An i cnn) from (EF.out.blk.cell 256).trans (dcl_n HCLL.out))
      have HF6 := qH (EF.out.blk.frozen 256)
      have HC7 := qH (show (wf.setCell ⟨gd, 256, none⟩ (.slice A22 (i + 1) c22)).cell? ⟨gd, 257, none⟩ = some (.slice Ae i cen) from (EG.out.blk.cell 257).trans (dcl_e HCLL.out))
      have HF7 := qH (EG.out.blk.frozen 257)
      have HBG := qH (show b2 ≠ gd from Nat.ne_of_gt (Nat.lt_of_lt_of_le HGHH.out O2B.out.1))
      have hX3 : Below gd w5 (wf.setCell ⟨gd, 256, none⟩ (.slice A22 (i + 1) c22)) ∧ (wf.setCell ⟨gd, 256, none⟩ (.slice A22 (i + 1) c22)).cell? ⟨b2, o2 + i, none⟩ = some (.int .i64 (q : Int)) := ⟨EG.out.bel, (cell_of_block (Below.heap_setCell wf ⟨gd, 256, none⟩ _ b2 HBG.out)).trans hX2.2⟩
      have hX4 : Below gd w5 ((wf.setCell ⟨gd, 256, none⟩ (.slice A22 (i + 1) c22)).setCell ⟨gd, 257, none⟩ (.slice A33 (i + 1) c33)) ∧ ((wf.setCell ⟨gd, 256, none⟩ (.slice A22 (i + 1) c22)).setCell ⟨gd, 257, none⟩ (.slice A33 (i + 1) c33)).cell? ⟨b2, o2 + i, none⟩ = some (.int .i64 (q : Int)) := ⟨EZ.out.bel, (cell_of_block (Below.heap_setCell _ ⟨gd, 257, none⟩ _ b2 HBG.out)).trans hX3.2⟩
      refine hK _ _ hX2 EF.out.blk ?_
      clear hK K hX hY
      (try simp only [Act.put, qA, qB, qC])
      clear ho hg hw
      have hX := hX2
      clear hX2
      have hY := EF.out.blk
      refine mc_last (i := 18) (o := ⟨none, _, _, _, _, _⟩) rfl (by kernel_rfl) rfl (fun K hK => ?_)
      refine wp_stIns (.tmp 145) (.tmp 132) rfl rfl rfl HC6.out HF6.out ?_
      refine hK _ _ hX3 ?_
      clear hK K hX hY
      (try simp only [Act.put, qA, qB, qC])
      have hX := hX3
      clear hX3
      refine mc_take (i := 19) (oi := ⟨some 146, _, _, _, _, _⟩) (v := ?_) rfl (by kernel_rfl) (by kernel_rfl) (by kernel_rfl) (fun _ _ _ h => h) rfl hX ?_ ?_; rotate_left; (intro W hW; go_simp; try with_reducible rfl); simp only [Act.put, qA, qB, qC]
      refine mc_last (i := 20) (o := ⟨none, _, _, _, _, _⟩) rfl (by kernel_rfl) rfl (fun K hK => ?_)
      refine wp_stBls (.tmp 146) (.tmp 144) rfl rfl rfl HC7.out HF7.out ?_
      refine hK _ _ hX4 ?_
      clear hK K hX
      (try simp only [Act.put, qA, qB, qC])
      refine wpAnyC_done (by kernel_rfl) ?_ _
      clear hX4
      obtain ⟨wz, hwz⟩ : ∃ v, v = (wf.setCell ⟨gd, 256, none⟩ (.slice A22 (i + 1) c22)).setCell ⟨gd, 257, none⟩ (.slice A33 (i + 1) c33) := ⟨_, rfl⟩
      have AZ := qH (show Apt wz H (3 + i + 1) _ _ from AF.out.stay (w' := wz) fun q hq _ => by
       have hne : q ≠ gd := Nat.ne_of_gt (Nat.lt_of_lt_of_le HGHH.out hq)
       rw [hwz]
       exact (Below.heap_setCell _ ⟨gd, 257, none⟩ _ q hne).trans (Below.heap_setCell _ ⟨gd, 256, none⟩ _ q hne))
      have EZ2 := qH (show EnvL w5 wz gd H1 cl (.slice A22 (i + 1) c22) (.slice A33 (i + 1) c33) (.slice Af kk cf) kk xs by rw [hwz]; exact EZ.out)
      have SZ := qH (show H ≤ wz.heap.size by rw [hwz]; simpa using HHF.out)
      have MZ := qH (show MdL qf x0 ef (i + 1) (putV (putV V 0 (.slice A22 (i + 1) c22)) 1 (.slice A33 (i + 1) c33)) (putX (putX Y 0 ((List.range i).map (fun q => V (q + 3)) ++ [.slice A3 kk c3])) 1 (bools E ++ [.bool bz])) (Lq qf x0 (i + 1)) by
       rw [← HMA.out, HE.out]
       refine MdL.next (q := q) (v := .slice A3 kk c3) (r := rl) (b := bz) ?_ HQ.out HBZ.out HRA.out HV3.out (by rw [X3.out, HRL.out])
       rw [HMM.out]
       exact MJ.out)
      have HI2 := qH (show i + 1 ≤ (Lq qf x0 (i + 1)).length by rw [← HMA.out, ← HMJL.out]; exact HIMJ.out)
      have V2Z := qH (show Value.slice (some ⟨b2, o2, none⟩) mj c2 = putV (putV V 0 (.slice A22 (i + 1) c22)) 1 (.slice A33 (i + 1) c33) 2 by rw [putV_ne (by decide), putV_ne (by decide)]; exact HV2.out.symm)
      rw [← hwz]
      clear hwz
      go_wp2_with fail
      refine ⟨⟨i + 1, _, _, by congr 1, HI2.out, V2Z.out, AZ.out, ?_, MZ.out, SZ.out⟩, by simpa [intOf] using HMI.out⟩
      rw [putV_ne (by decide), putV_at, putV_at]
      exact EZ2.out
    ·refine wp_bldVk 26 4 (.tmp 142) rfl i2 (.bool false) Try.underlying26 hi2 hb0 hb1 rfl (.bool bz) rfl rfl ?_
     intro v1 hk hb
     have K15_1 := qH hk
     have L15 := qH (show ∀ k, (Value.slice An i cnn).ownBlock = some k → v0.heap.size ≠ k from fun k hk => Nat.ne_of_gt (AQ0.out.lt (Nat.succ_pos _) k (by rw [HU0.out]; exact hk)).1)
     have EQ1 := qH (EQ0.out.below hb)
     have AQ1 := qH (AQ0.out.below hb)
     have HH1 := qH (Nat.le_trans HH0.out hb.size)
     have LB1 := qH (Nat.lt_of_lt_of_le LB0.out hb.size)
     have hX2 : Below gd w5 v1 ∧ v1.cell? ⟨b2, o2 + i, none⟩ = some (.int .i64 (q : Int)) := ⟨EQ1.out.bel, (hb.cell (p := ⟨b2, o2 + i, none⟩) LB0.out).trans hX.2⟩
     refine hK _ _ hX2 EQ1.out.blk ?_
     clear hK K hX hY
     (try simp only [Act.put, qA, qB, qC])
     clear hk hb
     have hX := hX2
     clear hX2
     have hY := EQ1.out.blk
     refine mc_actB (i := 3) (o := ⟨some 131, _, _, _, _, _⟩) rfl (by kernel_rfl) rfl (fun K hK => ?_)
     refine wp_bldVk 25 33 (.tmp 130) rfl il (.slice none 0 0) Try.underlying25 hil hl0 hl1 rfl (.slice A3 kk c3) rfl rfl ?_
     intro v2 hk hb
     have K3_2 := qH hk
     have EQ2 := qH (EQ1.out.below hb)
     have AQ2 := qH (AQ1.out.below hb)
     have HH2 := qH (Nat.le_trans HH1.out hb.size)
     have LB2 := qH (Nat.lt_of_lt_of_le LB1.out hb.size)
     have K15_2 := qH (K15_1.out.below hb K15_1.out.lt)
     have hX2 : Below gd w5 v2 ∧ v2.cell? ⟨b2, o2 + i, none⟩ = some (.int .i64 (q : Int)) := ⟨EQ2.out.bel, (hb.cell (p := ⟨b2, o2 + i, none⟩) LB1.out).trans hX.2⟩
     refine hK _ _ hX2 EQ2.out.blk ?_
     clear hK K hX hY
     (try simp only [Act.put, qA, qB, qC])
     clear hk hb
     have hX := hX2
     clear hX2
     have hY := EQ2.out.blk
     refine mc_actB (i := 4) (o := ⟨some 132, _, _, _, _, _⟩) rfl (by kernel_rfl) rfl (fun K hK => ?_)
     have ONB := qH (show v2.ownsRow H 33 1 (.slice An i cnn) i ((List.range i).map fun q => V (q + 3)) by
      have h1 := AQ2.out.own 0 (Nat.succ_pos _)
      rw [MJ.out.a0, List.length_map, List.length_range, HU0.out] at h1
      exact h1)
     refine wp_appW (base := H) (.tmp 129) (.tmp 131) 25 rfl 33 il (.slice none 0 0) 24 Try.underlying25 hil hl0 hl1 hl2 rfl _ i ((List.range i).map fun q => V (q + 3)) rfl ONB.out _ [.slice A3 kk c3] rfl (rowB K3_2.out rfl (by decide)) (fun u hu => by obtain rfl := List.mem_singleton.1 hu; rfl) HB1.out (by decide) HH2.out ?_
     intro vn2 v3 ho hg hw
     have BC := qH (show Below H v2 v3 from below_own (Below.refl H v2) HH2.out hg fun q hq => (own6_lt ONB.out q hq).2)
     have EQ3 := qH (EQ2.out.off HGHH.out HFH.out BC.out)
     have AQ3 := qH (AQ2.out.grow (s := 0) (v := vn2) (l := (List.range i).map (fun q => V (q + 3)) ++ [.slice A3 kk c3]) (Nat.succ_pos _) (by rw [List.length_append, List.length_map, List.length_range]; exact ho) (by rw [HU0.out]; exact hg) (by rw [HU0.out]; exact hw))
     have HH3 := qH (Nat.le_trans HH2.out hg.size)
     have LB3 := qH (Nat.lt_of_lt_of_le LB2.out hg.size)
     have K15_3 := qH (K15_2.out.grown hg fun e => L15.out _ e.symm rfl)
     have hX2 : Below gd w5 v3 ∧ v3.cell? ⟨b2, o2 + i, none⟩ = some (.int .i64 (q : Int)) := ⟨EQ3.out.bel, (cell_of_block (hg.block b2 LB2.out fun e => AP02.out b2 e.symm rfl)).trans hX.2⟩
     obtain ⟨A22, c22, rfl⟩ : ∃ A c, vn2 = .slice A (i + 1) c := ownC_slice ho
     refine hK _ _ hX2 EQ3.out.blk ?_
     clear hK K hX hY
     (try simp only [Act.put, qA, qB, qC])
     clear ho hg hw
     have hX := hX2
     clear hX2
     have hY := EQ3.out.blk
     have OEB := qH (show v3.ownsRow H 4 1 (.slice Ae i cen) i (bools E) by
      have h1 := AQ3.out.own 1 (l31s i)
      rw [putV_ne (by decide), putX_ne (by decide), Y1.out, bools_length, HEL.out, HU1.out] at h1
      exact h1)
     refine mc_take (i := 17) (oi := ⟨some 145, _, _, _, _, _⟩) (v := ?_) rfl (by kernel_rfl) (by kernel_rfl) (by kernel_rfl) (fun _ _ _ h => h) rfl hX ?_ ?_; rotate_left; (intro W hW; go_simp; try with_reducible rfl); simp only [Act.put, qA, qB, qC]
     refine mc_actB (i := 16) (o := ⟨some 144, _, _, _, _, _⟩) rfl (by kernel_rfl) rfl (fun K hK => ?_)
     refine wp_appW (base := H) (.tmp 134) (.tmp 143) 26 rfl 4 i2 (.bool false) 1 Try.underlying26 hi2 hb0 hb1 hb2 rfl _ i (bools E) rfl OEB.out _ [.bool bz] rfl (rowB K15_3.out rfl (by decide)) (fun u hu => by obtain rfl := List.mem_singleton.1 hu; rfl) HB4.out (by decide) HH3.out ?_
     intro ve2 wf ho hg hw
     have BF := qH (show Below H v3 wf from below_own (Below.refl H v3) HH3.out hg fun q hq => (own6_lt OEB.out q hq).2)
     have EF := qH (EQ3.out.off HGHH.out HFH.out BF.out)
     have AF := qH (AQ3.out.grow (s := 1) (v := ve2) (l := bools E ++ [.bool bz]) (l31s i) (by rw [List.length_append, bools_length, HEL.out]; exact ho) (by rw [putV_ne (by decide), HU1.out]; exact hg) (by rw [putV_ne (by decide), HU1.out]; exact hw))
     have HHF := qH (Nat.le_trans HH3.out hg.size)
     have hX2 : Below gd w5 wf ∧ wf.cell? ⟨b2, o2 + i, none⟩ = some (.int .i64 (q : Int)) := ⟨EF.out.bel, (cell_of_block (hg.block b2 LB3.out fun e => AP12.out b2 e.symm rfl)).trans hX.2⟩
     obtain ⟨A33, c33, rfl⟩ : ∃ A c, ve2 = .slice A (i + 1) c := ownC_slice ho
     have EG := qH (EF.out.setn HCLL.out HGH.out (.slice A22 (i + 1) c22))
     have EZ := qH (EG.out.sete HCLL.out HGH.out (.slice A33 (i + 1) c33))
     have HC6 := qH (show wf.cell? ⟨gd, 256, none⟩ = some (.slice An i cnn) from (EF.out.blk.cell 256).trans (dcl_n HCLL.out))
     have HF6 := qH (EF.out.blk.frozen 256)
     have HC7 := qH (show (wf.setCell ⟨gd, 256, none⟩ (.slice A22 (i + 1) c22)).cell? ⟨gd, 257, none⟩ = some (.slice Ae i cen) from (EG.out.blk.cell 257).trans (dcl_e HCLL.out))
     have HF7 := qH (EG.out.blk.frozen 257)
     have HBG := qH (show b2 ≠ gd from Nat.ne_of_gt (Nat.lt_of_lt_of_le HGHH.out O2B.out.1))
     have hX3 : Below gd w5 (wf.setCell ⟨gd, 256, none⟩ (.slice A22 (i + 1) c22)) ∧ (wf.setCell ⟨gd, 256, none⟩ (.slice A22 (i + 1) c22)).cell? ⟨b2, o2 + i, none⟩ = some (.int .i64 (q : Int)) := ⟨EG.out.bel, (cell_of_block (Below.heap_setCell wf ⟨gd, 256, none⟩ _ b2 HBG.out)).trans hX2.2⟩
     have hX4 : Below gd w5 ((wf.setCell ⟨gd, 256, none⟩ (.slice A22 (i + 1) c22)).setCell ⟨gd, 257, none⟩ (.slice A33 (i + 1) c33)) ∧ ((wf.setCell ⟨gd, 256, none⟩ (.slice A22 (i + 1) c22)).setCell ⟨gd, 257, none⟩ (.slice A33 (i + 1) c33)).cell? ⟨b2, o2 + i, none⟩ = some (.int .i64 (q : Int)) := ⟨EZ.out.bel, (cell_of_block (Below.heap_setCell _ ⟨gd, 257, none⟩ _ b2 HBG.out)).trans hX3.2⟩
     refine hK _ _ hX2 EF.out.blk ?_
     clear hK K hX hY
     (try simp only [Act.put, qA, qB, qC])
     clear ho hg hw
     have hX := hX2
     clear hX2
     have hY := EF.out.blk
     refine mc_last (i := 18) (o := ⟨none, _, _, _, _, _⟩) rfl (by kernel_rfl) rfl (fun K hK => ?_)
     refine wp_stIns (.tmp 145) (.tmp 132) rfl rfl rfl HC6.out HF6.out ?_
     refine hK _ _ hX3 ?_
     clear hK K hX hY
     (try simp only [Act.put, qA, qB, qC])
     have hX := hX3
     clear hX3
     refine mc_take (i := 19) (oi := ⟨some 146, _, _, _, _, _⟩) (v := ?_) rfl (by kernel_rfl) (by kernel_rfl) (by kernel_rfl) (fun _ _ _ h => h) rfl hX ?_ ?_; rotate_left; (intro W hW; go_simp; try with_reducible rfl); simp only [Act.put, qA, qB, qC]
     refine mc_last (i := 20) (o := ⟨none, _, _, _, _, _⟩) rfl (by kernel_rfl) rfl (fun K hK => ?_)
     refine wp_stBls (.tmp 146) (.tmp 144) rfl rfl rfl HC7.out HF7.out ?_
     refine hK _ _ hX4 ?_
     clear hK K hX
     (try simp only [Act.put, qA, qB, qC])
     refine wpAnyC_done (by kernel_rfl) ?_ _
     clear hX4
     obtain ⟨wz, hwz⟩ : ∃ v, v = (wf.setCell ⟨gd, 256, none⟩ (.slice A22 (i + 1) c22)).setCell ⟨gd, 257, none⟩ (.slice A33 (i + 1) c33) := ⟨_, rfl⟩
     have AZ := qH (show Apt wz H (3 + i + 1) _ _ from AF.out.stay (w' := wz) fun q hq _ => by
      have hne : q ≠ gd := Nat.ne_of_gt (Nat.lt_of_lt_of_le HGHH.out hq)
      rw [hwz]
      exact (Below.heap_setCell _ ⟨gd, 257, none⟩ _ q hne).trans (Below.heap_setCell _ ⟨gd, 256, none⟩ _ q hne))
     have EZ2 := qH (show EnvL w5 wz gd H1 cl (.slice A22 (i + 1) c22) (.slice A33 (i + 1) c33) (.slice Af kk cf) kk xs by rw [hwz]; exact EZ.out)
     have SZ := qH (show H ≤ wz.heap.size by rw [hwz]; simpa using HHF.out)
     have MZ := qH (show MdL qf x0 ef (i + 1) (putV (putV V 0 (.slice A22 (i + 1) c22)) 1 (.slice A33 (i + 1) c33)) (putX (putX Y 0 ((List.range i).map (fun q => V (q + 3)) ++ [.slice A3 kk c3])) 1 (bools E ++ [.bool bz])) (Lq qf x0 (i + 1)) by
      rw [← HMA.out, HE.out]
      refine MdL.next (q := q) (v := .slice A3 kk c3) (r := rl) (b := bz) ?_ HQ.out HBZ.out HRA.out HV3.out (by rw [X3.out, HRL.out])
      rw [HMM.out]
      exact MJ.out)
     have HI2 := qH (show i + 1 ≤ (Lq qf x0 (i + 1)).length by rw [← HMA.out, ← HMJL.out]; exact HIMJ.out)
     have V2Z := qH (show Value.slice (some ⟨b2, o2, none⟩) mj c2 = putV (putV V 0 (.slice A22 (i + 1) c22)) 1 (.slice A33 (i + 1) c33) 2 by rw [putV_ne (by decide), putV_ne (by decide)]; exact HV2.out.symm)
     rw [← hwz]
     clear hwz
     go_wp2_with fail
     refine ⟨⟨i + 1, _, _, by congr 1, HI2.out, V2Z.out, AZ.out, ?_, MZ.out, SZ.out⟩, by simpa [intOf] using HMI.out⟩
     rw [putV_ne (by decide), putV_at, putV_at]
     exact EZ2.out
  ·obtain rfl : m = i := Nat.le_antisymm (Nat.le_of_not_lt him) (by rw [HML.out]; exact HI.out)
   have y1 : ¬ (m : Int) < (m : Int) := Int.lt_irrefl _
   have ON := qH (show wi.ownsRow H 33 1 (U 0) m ((List.range m).map fun q => U (q + 3)) by
    have h1 := AI.out.own 0 (Nat.lt_of_lt_of_le (by decide) (Nat.le_add_right 3 m))
    rw [MI.out.a0, List.length_map, List.length_range] at h1
    exact h1)
   have OE := qH (show wi.ownsRow H 4 1 (U 1) m (bools (endsI ef (Lq qf x0 m) m)) by
    have h1 := AI.out.own 1 (Nat.lt_of_lt_of_le (by decide) (Nat.le_add_right 3 m))
    rw [MI.out.a1, bools_length, endsI_len HI.out] at h1
    exact h1)
   obtain ⟨An, cnn, hu0⟩ := ownC_slice ON.out
   obtain ⟨Ae, cen, hu1⟩ := ownC_slice OE.out
   obtain ⟨da, hda⟩ : ∃ da, da = dcl cl (U 0) (U 1) := ⟨_, rfl⟩
   have HDLa := qH (show da.length = 258 by rw [hda]; exact dcl_len HCLL.out)
   have HDOa := qH (show da.all (·.oneCell') = true by rw [hda, hu0, hu1]; exact dcl_one)
   have HDSa := qH (show (Try.prog.info? 28).map (·.size) = some da.length by rw [hda]; exact size_dfa HCLL.out)
   have KDa := qH (show Blk wi gd 28 da by rw [hda]; exact EI.out.blk)
   have KR := qH (show Blk wi w1.heap.size 28 d0 from (EI.out.bel.block w1.heap.size HRG.out).trans R5.out)
   have HLS := qH (show lstD D = ⟨cl, rowsI qf (Lq qf x0 m) m, endsI ef (Lq qf x0 m) m⟩ by
    have h1 := QP_done (D := D) (i := m) (by unfold QP; rw [← HQF.out, ← HX0.out]; exact HML.out.symm)
    rw [h1, HCL.out, HPS.out, HEF.out]
    unfold QP
    rw [← HQF.out, ← HX0.out])
   have B1G := qH (show w.heap.size ≤ w1.heap.size from B1.out.size)
   clear him hu0 hu1
   go_wp2_with (first
    | ((with_reducible refine atDst 147 ?_); refine wpList_ldArr rfl 28 _ rfl gd rfl 28 _ _ KDa.out Try.underlying28 rfl HDSa.out ?_; (try simp only [Act.put, qA, qB, qC]))
    | ((with_reducible refine atStore 28 2 147 ?_); refine wpList_stBlk rfl 28 _ _ rfl w1.heap.size da rfl rfl 28 _ KR.out HDSa.out (by rw [HDL.out, HDLa.out]) HDOa.out (Below.refl w1.heap.size wi) (Nat.le_refl _) ?_; intro we hk hb hs ho; have KE := qH hk; have HO9 := qH ho; have BE := qH hb; clear hk hb hs ho; (try simp only [Act.put, qA, qB, qC])))
   refine bodyPost_ret (results_blk rfl _ _ w1.heap.size 28 _ _ rfl KE.out Try.underlying28 rfl HDSa.out) rfl ?_
   have st : ∀ k, H ≤ k → we.heap[k]? = wi.heap[k]? := fun q hq => HO9.out q (Nat.ne_of_gt (Nat.lt_of_lt_of_le (Nat.lt_trans HRG.out HGHH.out) hq))
   refine ⟨da, rfl, ?_, (B5.out.trans (EI.out.bel.mono (Nat.le_of_lt HKG.out))).trans (BE.out.mono B1G.out)⟩
   rw [HLS.out, hda]
   exact MI.out.dfa (AI.out.stay fun q hq _ => st q hq) HCLL.out HI.out
end Go.Proofs.Ytlohehcfplkjbaa
