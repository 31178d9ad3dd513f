/-
  Texts of this proof, put together: PxB. No statement is proved here.
-/
import Derived.Test.YtaakdebcagdfgaaZBA
import Derived.Test.YtaakdebcagdfgaaZJ
import Derived.Test.YtaakdebcagdfgaaZZ
namespace Go.Proofs.Ytaakdebcagdfgaa
open Go.RowKit
set_option linter.unusedSimpArgs false
set_option linter.unusedVariables false
def PrdPost (D E : Dm) (how : Int) (most : Nat) (w : World) (e : Ending) (w' : World) : Prop :=
 (∃ n xs, n ≤ most ∧ FitPr D E n ∧ e = .returned (.tuple #[.agg xs.toArray, .int .i64 0]) ∧ DfaV w' xs (prdN D E how n) ∧ Below w.heap.size w w') ∨
 ((∀ n, FitPr D E n → most < n) ∧ e = .returned (.tuple #[.agg (dcl (ctab [] 0) (.slice none 0 0) (.slice none 0 0)).toArray, .int .i64 7]) ∧ Below w.heap.size w w')
theorem srchP_none {α : Type} {M : List α} {y : α} (h : ∀ j, j < M.length → M[j]? ≠ some y) : y ∉ M := fun hm => by
 obtain ⟨j, hj⟩ := List.getElem?_of_mem hm
 exact h j (List.getElem?_eq_some_iff.1 hj).1 hj
set_option maxHeartbeats 16000000 in
set_option maxRecDepth 1000000 in
theorem refProduct_any (D E : Dm) (cs es : List Value) (how : Int) (most : Nat) (w : World) (hv : DfaV w cs D) (he : DfaV w es E) (hm : MayD D) (hme : MayD E) (h1 : 1 ≤ how) (h4 : how ≤ 4) (hmost : most ≤ 100000) :
  Calls Try.prog 21 #[.agg cs.toArray, .agg es.toArray, .int .i64 how, .int .i64 (most : Int)] w fun e w' => PrdPost D E how most w e w' := by
 have V0 := qH hv
 have U0 := qH he
 have HM := qH hm
 have HME := qH hme
 have HDS := qH hv.size
 have HES := qH he.size
 obtain ⟨hw, hhw⟩ : ∃ n : Nat, how = (n : Int) + 1 := ⟨(how - 1).toNat, by omega⟩
 have HHW2 := qH hhw
 have HHW4 := qH (show hw < 4 by omega)
 obtain ⟨nD, hnD⟩ : ∃ n, n = D.next.length := ⟨_, rfl⟩
 obtain ⟨nE, hnE⟩ : ∃ n, n = E.next.length := ⟨_, rfl⟩
 obtain ⟨kd, hkd⟩ : ∃ k, k = clsA D.cl := ⟨_, rfl⟩
 obtain ⟨ke, hke⟩ : ∃ k, k = clsA E.cl := ⟨_, rfl⟩
 obtain ⟨bn, on, cn, be, oe, ce, hdr⟩ := dr_of hv hm hnD hkd
 obtain ⟨bn2, on2, cn2, be2, oe2, ce2, her⟩ := dr_of he hme hnE hke
 have HR := qH hdr
 have HRE := qH her
 have HND := qH hnD
 have HNE := qH hnE
 have HKD := qH hkd
 have HKE := qH hke
 have HL := qH hdr.hl
 have HLE2 := qH her.hl
 have HCS := qH hdr.cs
 have HCE := qH her.cs
 have HW1 := qH h1
 have HW4 := qH h4
 have HMO := qH hmost
 have g1 : ¬ how < 1 := by omega
 have g4 : ¬ how > 4 := by omega
 obtain ⟨d0, hd0⟩ : ∃ d0, d0 = dcl (ctab [] 0) (.slice none 0 0) (.slice none 0 0) := ⟨_, rfl⟩
 have HD0 := qH hd0
 have HDL := qH (show d0.length = 258 by rw [hd0]; exact dcl_len (ctab_length _ _))
 obtain ⟨id, hid, hdz⟩ := Option.map_eq_some_iff.1 inf_dfa
 rw [← hd0] at hdz
 obtain ⟨i1, hi1, hy0, hy1, hy2⟩ := infoP inf_int
 obtain ⟨i2, hi2, hb0, hb1, hb2⟩ := infoP inf_bool
 obtain ⟨il, hil, hl0, hl1, hl2⟩ := infoP inf_sl
 obtain ⟨ip, hip, hp0, hp1, hp2⟩ := infoP inf_p2
 obtain ⟨ps, hps⟩ : ∃ ps, ps = psP D E := ⟨_, rfl⟩
 have HPS := qH hps
 have HAK := qH (show ∀ b c, b < 256 → c < 256 → (alikeS ps b c = true ↔ clB D b = clB D c ∧ clB E b = clB E c) from fun b c hb hc => by
  rw [hps, psP_alike D E hb hc]
  unfold clB
  constructor
  ·rintro ⟨h1, h2⟩
   rw [h1, h2]
   exact ⟨rfl, rfl⟩
  ·rintro ⟨h1, h2⟩
   exact ⟨UInt8.toNat_inj.1 h1, UInt8.toNat_inj.1 h2⟩)
 clear hd0 hps hv he hm hme hdr her hnD hnE hkd hke h1 h4 hmost hhw
 go_enter Try.func21, Try.ntmps21
 go_wp2_with (first
  | ((with_reducible refine atDst 4 ?_); refine wpList_box rfl 28 _ rfl cs rfl (Below.refl w.heap.size w) (Nat.le_refl _) ?_; intro w1 hk1 hb1 hs1 _; have K1 := qH hk1; have B1 := qH hb1; clear hk1 hb1 hs1; (try simp only [Act.put, qA, qB, qC]))
  | ((with_reducible refine atDst 5 ?_); refine wpList_box rfl 28 _ rfl es rfl (Below.refl w1.heap.size w1) (Nat.le_refl _) ?_; intro w2 hk hb hs _; have L2 := qH hk; have K2 := qH (K1.out.below hb K1.out.lt); have B2 := qH (B1.out.trans (hb.mono B1.out.size)); have B12 := qH hb; clear hk hb hs; (try simp only [Act.put, qA, qB, qC]))
  | ((with_reducible refine atDst 8 ?_); refine wpList_new rfl 28 rfl id _ d0 hid hdz rfl (Below.refl w2.heap.size w2) (Nat.le_refl _) ?_; intro w3 hk hb hs _; have R3 := qH hk; have L3 := qH (L2.out.below hb L2.out.lt); have K3 := qH (K2.out.below hb K2.out.lt); have B3 := qH (B2.out.trans (hb.mono B2.out.size)); clear hk hb hs; (try simp only [Act.put, qA, qB, qC]))
  | ((with_reducible refine atDst 29 ?_); refine wpList_ldArr rfl 28 _ rfl w.heap.size rfl 28 _ _ K3.out Try.underlying28 rfl HDS.out ?_; (try simp only [Act.put, qA, qB, qC])))
 refine (refMay11_any D cs w3 (V0.out.below B3.out) HM.out).mono ?_
 rintro e w4 ⟨rfl, hb⟩
 have K4 := qH (K3.out.below hb K3.out.lt)
 have L4 := qH (L3.out.below hb L3.out.lt)
 have R4 := qH (R3.out.below hb R3.out.lt)
 have B4 := qH (B3.out.trans (hb.mono B3.out.size))
 clear hb
 go_wp2_with ((with_reducible refine atDst 33 ?_); refine wpList_ldArr rfl 28 _ rfl w1.heap.size rfl 28 _ _ L4.out Try.underlying28 rfl HES.out ?_; (try simp only [Act.put, qA, qB, qC]))
 refine (refMay11_any E es w4 (U0.out.below B4.out) HME.out).mono ?_
 rintro e w5 ⟨rfl, hb⟩
 have K5 := qH (K4.out.below hb K4.out.lt)
 have L5 := qH (L4.out.below hb L4.out.lt)
 have R5 := qH (R4.out.below hb R4.out.lt)
 have B5 := qH (B4.out.trans (hb.mono B4.out.size))
 clear hb K1 K2 K3 K4 L2 L3 L4 R3 R4 g1 g4
 obtain ⟨gd, hgd⟩ : ∃ g, g = w5.heap.size := ⟨_, rfl⟩
 have HGWB := qH B1.out.size
 have HGWZ := qH B2.out.size
 have HAG := qH (show w.heap.size < gd by rw [hgd]; exact K5.out.lt)
 have HBG := qH (show w1.heap.size < gd by rw [hgd]; exact L5.out.lt)
 have HZG := qH (show w2.heap.size < gd by rw [hgd]; exact R5.out.lt)
 go_wp2_with ((with_reducible refine atDst 10 ?_); refine wpList_new rfl 28 rfl id _ d0 hid hdz rfl (Below.refl w5.heap.size w5) (Nat.le_refl _) ?_; intro w6 hk hb hs _; have G6 := qH (show Blk w6 gd 28 d0 by rw [hgd]; exact hk); have B6 := qH (show Below gd w5 w6 by rw [hgd]; exact hb); clear hk hb hs; rw [← hgd]; (try simp only [Act.put, qA, qB, qC]))
 have HGD := qH hgd
 obtain ⟨H1, hH1⟩ : ∃ g, g = w6.heap.size := ⟨_, rfl⟩
 have HGH := qH (show gd < H1 by rw [hH1]; exact G6.out.lt)
 have HH1 := qH hH1
 clear hgd hH1
 go_loopw [11, 12] (fun f i wl => ∃ j : Nat, j ≤ 256 ∧ i = .int .i64 (j : Int) ∧ wl.ownsRow H1 3 1 f (firstJ ps j).length (fcs ps j) ∧ Blk wl gd 28 (dcl (ctab ps j) (.slice none 0 0) (.slice none 0 0)) ∧ Below gd w5 wl ∧ H1 ≤ wl.heap.size) (fun _ i _ => 256 - (intOf i).toNat)
 case atStart => exact ⟨0, Nat.zero_le _, rfl, ownN _ _ _, by rw [ctab_null ps [], ← HD0.out]; exact G6.out, B6.out, Nat.le_of_eq HH1.out⟩
 clear G6 B6
 obtain ⟨j, hj, rfl, ho, hk, hb, hs⟩ := hrel
 have HO := qH ho
 have HK := qH hk
 have HB := qH hb
 have HSZ := qH hs
 have HJ := qH hj
 clear ho hk hb hs hj
 obtain ⟨wo, hwo⟩ : ∃ wo : World, wo = wr := ⟨_, rfl⟩
 subst hwo
 by_cases hjl : j < 256
 ·as_aux_lemma =>
   have j1 : (j : Int) < 256 := Int.ofNat_lt.2 hjl
   have HJL := qH hjl
   have HMJ := qH (sub_next hjl)
   have e3 := wrap_one j (lt_256 hjl)
   have e4 := wrap_one' j (lt_256 hjl)
   obtain ⟨nf, hnf⟩ : ∃ n, n = (firstJ ps j).length := ⟨_, rfl⟩
   have HFL := qH (show nf ≤ j by rw [hnf]; exact firstJ_len ps j)
   rw [← hnf] at HO
   have HNFL := qH hnf
   have HCL := qH (show clsOf ps j ≤ nf by rw [hnf]; exact clsOf_le ps j)
   obtain ⟨A, cap, hu5⟩ := ownC_slice HO.out
   subst hu5
   obtain ⟨x, hx⟩ : ∃ x, clB D j = x := ⟨_, rfl⟩
   obtain ⟨xe, hxe⟩ : ∃ x, clB E j = x := ⟨_, rfl⟩
   have CX := qH (show cs[j]? = some (.int .u8 (x : Int)) by rw [HCS.out, dcl_cl HL.out hjl, clB_cell HL.out hjl, hx])
   have CXE := qH (show es[j]? = some (.int .u8 (xe : Int)) by rw [HCE.out, dcl_cl HLE2.out hjl, clB_cell HLE2.out hjl, hxe])
   have HX := qH hx
   have HXE := qH hxe
   clear hnf hjl hx hxe
   go_wp2_with fail
   go_loopw [13] (fun kk wl => ∃ k : Nat, k ≤ clsOf ps j ∧ kk = .int .i64 (k : Int) ∧ Below wo.heap.size wo wl) (fun kk _ => nf - (intOf kk).toNat)
   case atStart => exact ⟨0, Nat.zero_le _, rfl, Below.refl _ _⟩
   obtain ⟨k, hk, rfl, hbi⟩ := hrel
   have HBI := qH hbi
   have HKC := qH hk
   clear hbi hk
   have HKR := qH (HK.out.below HBI.out HK.out.lt)
   have HOR := qH (own6_stay HO.out fun q hq => HBI.out.block q (own6_lt HO.out q hq).1)
   have BR := qH (HB.out.trans (HBI.out.mono (by rw [HGD.out]; exact HB.out.size)))
   have SR := qH (Nat.le_trans HSZ.out HBI.out.size)
   have KR := qH (show Blk wr w.heap.size 28 cs from K5.out.below BR.out HAG.out)
   have LR := qH (show Blk wr w1.heap.size 28 es from L5.out.below BR.out HBG.out)
   have C57 := qH (show wr.cell? ⟨w.heap.size, j, none⟩ = some (.int .u8 (x : Int)) from (KR.out.cell j).trans CX.out)
   have C70 := qH (show wr.cell? ⟨w1.heap.size, j, none⟩ = some (.int .u8 (xe : Int)) from (LR.out.cell j).trans CXE.out)
   by_cases hkn : k < nf
   ·have k1 : (k : Int) < (nf : Int) := Int.ofNat_lt.2 hkn
    have HKN := qH hkn
    have HMK := qH (sub_next hkn)
    have hkl : k < (firstJ ps j).length := by rw [← HNFL.out]; exact hkn
    obtain ⟨f, hf⟩ : ∃ f, (firstJ ps j)[k]? = some f := ⟨_, List.getElem?_eq_getElem hkl⟩
    obtain ⟨b0, off, rfl, hb0, hcell⟩ := (Row.of_own HOR.out).at_ (by rw [fcs_length]; exact Nat.lt_of_le_of_lt (Nat.zero_le _) hkl)
    have CK := qH (show wr.cell? ⟨b0, off + k, none⟩ = some (.int .i64 (f : Int)) from hcell k _ (by simp [fcs, nums, hf]))
    have HB0 := qH hb0
    have HF := qH hf
    have HF256 := qH (show f < 256 from Nat.lt_trans (firstJ_lt ps j f (List.mem_of_getElem? hf)) HJL.out)
    have f1 : (f : Int) < 256 := Int.ofNat_lt.2 HF256.out
    obtain ⟨y, hy⟩ : ∃ y, clB D f = y := ⟨_, rfl⟩
    obtain ⟨ye, hye⟩ : ∃ y, clB E f = y := ⟨_, rfl⟩
    have C53 := qH (show wr.cell? ⟨w.heap.size, f, none⟩ = some (.int .u8 (y : Int)) from (KR.out.cell f).trans (by rw [HCS.out, dcl_cl HL.out HF256.out, clB_cell HL.out HF256.out, hy]))
    have C66 := qH (show wr.cell? ⟨w1.heap.size, f, none⟩ = some (.int .u8 (ye : Int)) from (LR.out.cell f).trans (by rw [HCE.out, dcl_cl HLE2.out HF256.out, clB_cell HLE2.out HF256.out, hye]))
    have HAL := qH (show alikeS ps j f = true ↔ x = y ∧ xe = ye by rw [HAK.out j f HJL.out HF256.out, HX.out, HXE.out, hy, hye])
    have f3 := wrap_one k (lt_256 (Nat.lt_trans (Nat.lt_of_lt_of_le hkn HFL.out) HJL.out))
    have f4 := wrap_one' k (lt_256 (Nat.lt_trans (Nat.lt_of_lt_of_le hkn HFL.out) HJL.out))
    have HKL := qH hkl
    have HFE := qH (show (firstJ ps j)[k]'HKL.out = f from Option.some.inj ((List.getElem?_eq_getElem HKL.out).symm.trans hf))
    clear hkn hkl hf hcell hb0 hy hye
    go_wp2_with fail
    refine mc_start (fun V => Below wr.heap.size wr V) (fun _ => True) 32 (by kernel_rfl) (fun wd hwd => ?_)
    have hX : Below wr.heap.size wr wd := by rw [hwd]; exact (Below.refl _ _).drew
    clear hwd
    by_cases hxy : x = y
    ·have Q1 := qH (show ((y : Int) != (x : Int)) = false by rw [hxy]; simp)
     refine mc_take (i := 0) (oi := ⟨some 42, _, _, _, _, _⟩) (v := ?_) rfl (by kernel_rfl) (by kernel_rfl) (by kernel_rfl) (fun _ _ _ h => h) rfl hX ?_ ?_; rotate_left; (intro W hW; go_simp; try with_reducible rfl); simp only [Act.put, qA, qB, qC]
     refine mc_take (i := 1) (oi := ⟨some 43, _, _, _, _, _⟩) (v := ?_) rfl (by kernel_rfl) (by kernel_rfl) (by kernel_rfl) (fun _ _ _ h => h) rfl hX ?_ ?_; rotate_left; (intro W hW; go_simp; try with_reducible rfl); simp only [Act.put, qA, qB, qC]
     refine mc_take (i := 2) (oi := ⟨some 44, _, _, _, _, _⟩) (v := ?_) rfl (by kernel_rfl) (by kernel_rfl) (by kernel_rfl) (fun _ _ _ h => h) rfl hX ?_ ?_; rotate_left; (intro W hW; go_simp; try with_reducible rfl); simp only [Act.put, qA, qB, qC]
     refine mc_take (i := 3) (oi := ⟨some 45, _, _, _, _, _⟩) (v := ?_) rfl (by kernel_rfl) (by kernel_rfl) (by kernel_rfl) (fun _ _ _ h => h) rfl hX ?_ ?_; rotate_left; (intro W hW; go_simp; try with_reducible rfl); simp only [Act.put, qA, qB, qC]
     refine mc_take (i := 4) (oi := ⟨some 46, _, _, _, _, _⟩) (v := ?_) rfl (by kernel_rfl) (by kernel_rfl) (by kernel_rfl) (fun _ _ _ h => h) rfl hX ?_ ?_; rotate_left; (intro W hW; go_simp; try with_reducible rfl); simp only [Act.put, qA, qB, qC]
     refine mc_take (i := 5) (oi := ⟨some 47, _, _, _, _, _⟩) (v := ?_) rfl (by kernel_rfl) (by kernel_rfl) (by kernel_rfl) (fun _ _ _ h => h) rfl hX ?_ ?_; rotate_left; (intro W hW; go_simp; try with_reducible rfl); simp only [Act.put, qA, qB, qC]
     refine mc_take (i := 6) (oi := ⟨some 48, _, _, _, _, _⟩) (v := ?_) rfl (by kernel_rfl) (by kernel_rfl) (by kernel_rfl) (fun _ _ _ h => h) rfl hX ?_ ?_; rotate_left; (intro W hW; go_simp; try with_reducible rfl); simp only [Act.put, qA, qB, qC]
     refine mc_take (i := 7) (oi := ⟨some 49, _, _, _, _, _⟩) (v := ?_) rfl (by kernel_rfl) (by kernel_rfl) (by kernel_rfl) (fun _ _ _ h => h) rfl hX ?_ ?_; rotate_left; (intro W hW; go_simp; try with_reducible rfl); simp only [Act.put, qA, qB, qC]
     refine mc_take (i := 8) (oi := ⟨some 50, _, _, _, _, _⟩) (v := .int .i64 (f : Int)) rfl (by kernel_rfl) (by kernel_rfl) (by kernel_rfl) (fun _ _ _ h => h) rfl hX (fun V hV => ld_int9 (.tmp 49) rfl rfl ((hV.cell (p := ⟨b0, off + k, none⟩) HB0.out).trans CK.out)) ?_; simp only [Act.put, qA, qB, qC]
     refine mc_take (i := 9) (oi := ⟨some 51, _, _, _, _, _⟩) (v := ?_) rfl (by kernel_rfl) (by kernel_rfl) (by kernel_rfl) (fun _ _ _ h => h) rfl hX ?_ ?_; rotate_left; (intro W hW; go_simp; try with_reducible rfl); simp only [Act.put, qA, qB, qC]
     refine mc_take (i := 10) (oi := ⟨some 52, _, _, _, _, _⟩) (v := ?_) rfl (by kernel_rfl) (by kernel_rfl) (by kernel_rfl) (fun _ _ _ h => h) rfl hX ?_ ?_; rotate_left; (intro W hW; go_simp; try with_reducible rfl); simp only [Act.put, qA, qB, qC]
     refine mc_take (i := 11) (oi := ⟨some 53, _, _, _, _, _⟩) (v := .int .u8 (y : Int)) rfl (by kernel_rfl) (by kernel_rfl) (by kernel_rfl) (fun _ _ _ h => h) rfl hX (fun V hV => ld_u9 (.tmp 52) rfl rfl ((hV.cell (p := ⟨w.heap.size, f, none⟩) KR.out.lt).trans C53.out)) ?_; simp only [Act.put, qA, qB, qC]
     refine mc_take (i := 12) (oi := ⟨some 54, _, _, _, _, _⟩) (v := ?_) rfl (by kernel_rfl) (by kernel_rfl) (by kernel_rfl) (fun _ _ _ h => h) rfl hX ?_ ?_; rotate_left; (intro W hW; go_simp; try with_reducible rfl); simp only [Act.put, qA, qB, qC]
     refine mc_take (i := 13) (oi := ⟨some 55, _, _, _, _, _⟩) (v := ?_) rfl (by kernel_rfl) (by kernel_rfl) (by kernel_rfl) (fun _ _ _ h => h) rfl hX ?_ ?_; rotate_left; (intro W hW; go_simp; try with_reducible rfl); simp only [Act.put, qA, qB, qC]
     refine mc_take (i := 14) (oi := ⟨some 56, _, _, _, _, _⟩) (v := ?_) rfl (by kernel_rfl) (by kernel_rfl) (by kernel_rfl) (fun _ _ _ h => h) rfl hX ?_ ?_; rotate_left; (intro W hW; go_simp; try with_reducible rfl); simp only [Act.put, qA, qB, qC]
     refine mc_take (i := 15) (oi := ⟨some 57, _, _, _, _, _⟩) (v := .int .u8 (x : Int)) rfl (by kernel_rfl) (by kernel_rfl) (by kernel_rfl) (fun _ _ _ h => h) rfl hX (fun V hV => ld_u9 (.tmp 56) rfl rfl ((hV.cell (p := ⟨w.heap.size, j, none⟩) KR.out.lt).trans C57.out)) ?_; simp only [Act.put, qA, qB, qC]
     refine mc_take (i := 16) (oi := ⟨some 58, _, _, _, _, _⟩) (v := .bool false) rfl (by kernel_rfl) (by kernel_rfl) (by kernel_rfl) (fun _ _ _ h => h) rfl hX (fun V hV => px_neU (.tmp 53) (.tmp 57) rfl rfl rfl Q1.out V) ?_; simp only [Act.put, qA, qB, qC]
     refine mc_take (i := 17) (oi := ⟨some 59, _, _, _, _, _⟩) (v := ?_) rfl (by kernel_rfl) (by kernel_rfl) (by kernel_rfl) (fun _ _ _ h => h) rfl hX ?_ ?_; rotate_left; (intro W hW; go_simp; try with_reducible rfl); simp only [Act.put, qA, qB, qC]
     by_cases hxe : xe = ye
     ·have Q2 := qH (show ((ye : Int) != (xe : Int)) = false by rw [hxe]; simp)
      have HZ := qH (HAL.out.2 ⟨hxy, hxe⟩)
      refine mc_take (i := 18) (oi := ⟨some 60, _, _, _, _, _⟩) (v := ?_) rfl (by kernel_rfl) (by kernel_rfl) (by kernel_rfl) (fun _ _ _ h => h) rfl hX ?_ ?_; rotate_left; (intro W hW; go_simp; try with_reducible rfl); simp only [Act.put, qA, qB, qC]
      refine mc_take (i := 19) (oi := ⟨some 61, _, _, _, _, _⟩) (v := ?_) rfl (by kernel_rfl) (by kernel_rfl) (by kernel_rfl) (fun _ _ _ h => h) rfl hX ?_ ?_; rotate_left; (intro W hW; go_simp; try with_reducible rfl); simp only [Act.put, qA, qB, qC]
      refine mc_take (i := 20) (oi := ⟨some 62, _, _, _, _, _⟩) (v := ?_) rfl (by kernel_rfl) (by kernel_rfl) (by kernel_rfl) (fun _ _ _ h => h) rfl hX ?_ ?_; rotate_left; (intro W hW; go_simp; try with_reducible rfl); simp only [Act.put, qA, qB, qC]
      refine mc_take (i := 21) (oi := ⟨some 63, _, _, _, _, _⟩) (v := .int .i64 (f : Int)) rfl (by kernel_rfl) (by kernel_rfl) (by kernel_rfl) (fun _ _ _ h => h) rfl hX (fun V hV => ld_int9 (.tmp 62) rfl rfl ((hV.cell (p := ⟨b0, off + k, none⟩) HB0.out).trans CK.out)) ?_; simp only [Act.put, qA, qB, qC]
      refine mc_take (i := 22) (oi := ⟨some 64, _, _, _, _, _⟩) (v := ?_) rfl (by kernel_rfl) (by kernel_rfl) (by kernel_rfl) (fun _ _ _ h => h) rfl hX ?_ ?_; rotate_left; (intro W hW; go_simp; try with_reducible rfl); simp only [Act.put, qA, qB, qC]
      refine mc_take (i := 23) (oi := ⟨some 65, _, _, _, _, _⟩) (v := ?_) rfl (by kernel_rfl) (by kernel_rfl) (by kernel_rfl) (fun _ _ _ h => h) rfl hX ?_ ?_; rotate_left; (intro W hW; go_simp; try with_reducible rfl); simp only [Act.put, qA, qB, qC]
      refine mc_take (i := 24) (oi := ⟨some 66, _, _, _, _, _⟩) (v := .int .u8 (ye : Int)) rfl (by kernel_rfl) (by kernel_rfl) (by kernel_rfl) (fun _ _ _ h => h) rfl hX (fun V hV => ld_u9 (.tmp 65) rfl rfl ((hV.cell (p := ⟨w1.heap.size, f, none⟩) LR.out.lt).trans C66.out)) ?_; simp only [Act.put, qA, qB, qC]
      refine mc_take (i := 25) (oi := ⟨some 67, _, _, _, _, _⟩) (v := ?_) rfl (by kernel_rfl) (by kernel_rfl) (by kernel_rfl) (fun _ _ _ h => h) rfl hX ?_ ?_; rotate_left; (intro W hW; go_simp; try with_reducible rfl); simp only [Act.put, qA, qB, qC]
      refine mc_take (i := 26) (oi := ⟨some 68, _, _, _, _, _⟩) (v := ?_) rfl (by kernel_rfl) (by kernel_rfl) (by kernel_rfl) (fun _ _ _ h => h) rfl hX ?_ ?_; rotate_left; (intro W hW; go_simp; try with_reducible rfl); simp only [Act.put, qA, qB, qC]
      refine mc_take (i := 27) (oi := ⟨some 69, _, _, _, _, _⟩) (v := ?_) rfl (by kernel_rfl) (by kernel_rfl) (by kernel_rfl) (fun _ _ _ h => h) rfl hX ?_ ?_; rotate_left; (intro W hW; go_simp; try with_reducible rfl); simp only [Act.put, qA, qB, qC]
      refine mc_take (i := 28) (oi := ⟨some 70, _, _, _, _, _⟩) (v := .int .u8 (xe : Int)) rfl (by kernel_rfl) (by kernel_rfl) (by kernel_rfl) (fun _ _ _ h => h) rfl hX (fun V hV => ld_u9 (.tmp 69) rfl rfl ((hV.cell (p := ⟨w1.heap.size, j, none⟩) LR.out.lt).trans C70.out)) ?_; simp only [Act.put, qA, qB, qC]
      refine mc_take (i := 29) (oi := ⟨some 71, _, _, _, _, _⟩) (v := .bool false) rfl (by kernel_rfl) (by kernel_rfl) (by kernel_rfl) (fun _ _ _ h => h) rfl hX (fun V hV => px_neU (.tmp 66) (.tmp 70) rfl rfl rfl Q2.out V) ?_; simp only [Act.put, qA, qB, qC]
      refine mc_take (i := 30) (oi := ⟨some 72, _, _, _, _, _⟩) (v := ?_) rfl (by kernel_rfl) (by kernel_rfl) (by kernel_rfl) (fun _ _ _ h => h) rfl hX ?_ ?_; rotate_left; (intro W hW; go_simp; try with_reducible rfl); simp only [Act.put, qA, qB, qC]
      refine mc_take (i := 31) (oi := ⟨some 73, _, _, _, _, _⟩) (v := ?_) rfl (by kernel_rfl) (by kernel_rfl) (by kernel_rfl) (fun _ _ _ h => h) rfl hX ?_ ?_; rotate_left; (intro W hW; go_simp; try with_reducible rfl); simp only [Act.put, qA, qB, qC]
      clear hxy hxe
      refine wpAnyC_done (by kernel_rfl) ?_ _
      have K4' := qH (HKR.out.below hX HKR.out.lt)
      have O4 := qH (own6_stay HOR.out fun q hq => hX.block q (own6_lt HOR.out q hq).1)
      have B4' := qH (BR.out.trans (hX.mono (by rw [HGD.out]; exact BR.out.size)))
      have S4 := qH (Nat.le_trans SR.out hX.size)
      clear hX
      have HST := qH (clsOf_stop HKC.out HKL.out (by rw [HFE.out]; exact HZ.out))
      have HFN := qH (firstJ_hit (ps := ps) (j := j) (by rw [HST.out]; exact HKL.out))
      have hkb : ((k : Int) == (nf : Int)) = false := by rw [beq_eq_false_iff_ne]; exact fun e => Nat.ne_of_lt HKN.out (Int.ofNat_inj.1 e)
      have hwk : IntKind.u8.wrap (k : Int) = (k : Int) := wrap8N k (Nat.lt_trans (Nat.lt_of_lt_of_le HKN.out HFL.out) HJL.out)
      have hgc := K4'.out.cell j
      obtain ⟨u, hu⟩ : ∃ u, (ctab ps j)[j]? = some u := ⟨_, List.getElem?_eq_getElem (by rw [ctab_length]; exact HJL.out)⟩
      rw [dcl_cl (ctab_length _ _) HJL.out, bvs_get _ _ _ hu] at hgc
      have hfz := K4'.out.frozen j
      clear hu
      go_wp2_with fail
      refine ⟨⟨j + 1, HJL.out, by congr 1, ?_, ?_, B4'.out.setCell (p := ⟨gd, j, none⟩) (Nat.le_refl _) _, by simpa using S4.out⟩, by simpa [intOf] using HMJ.out⟩
      ·rw [show fcs ps (j + 1) = fcs ps j by unfold fcs; rw [HFN.out], HFN.out, ← HNFL.out]
       exact own_far O4.out HGH.out _
      ·rw [← HST.out]
       exact dcl_put K4'.out HJL.out (Nat.lt_of_le_of_lt (Nat.le_trans HCL.out HFL.out) HJL.out)
     ·have Q2 := qH (show ((ye : Int) != (xe : Int)) = true by rw [bne_iff_ne]; exact fun e => hxe (Int.ofNat_inj.1 e).symm)
      have HZ := qH (Bool.eq_false_iff.2 fun h => hxe (HAL.out.1 h).2)
      refine mc_take (i := 18) (oi := ⟨some 60, _, _, _, _, _⟩) (v := ?_) rfl (by kernel_rfl) (by kernel_rfl) (by kernel_rfl) (fun _ _ _ h => h) rfl hX ?_ ?_; rotate_left; (intro W hW; go_simp; try with_reducible rfl); simp only [Act.put, qA, qB, qC]
      refine mc_take (i := 19) (oi := ⟨some 61, _, _, _, _, _⟩) (v := ?_) rfl (by kernel_rfl) (by kernel_rfl) (by kernel_rfl) (fun _ _ _ h => h) rfl hX ?_ ?_; rotate_left; (intro W hW; go_simp; try with_reducible rfl); simp only [Act.put, qA, qB, qC]
      refine mc_take (i := 20) (oi := ⟨some 62, _, _, _, _, _⟩) (v := ?_) rfl (by kernel_rfl) (by kernel_rfl) (by kernel_rfl) (fun _ _ _ h => h) rfl hX ?_ ?_; rotate_left; (intro W hW; go_simp; try with_reducible rfl); simp only [Act.put, qA, qB, qC]
      refine mc_take (i := 21) (oi := ⟨some 63, _, _, _, _, _⟩) (v := .int .i64 (f : Int)) rfl (by kernel_rfl) (by kernel_rfl) (by kernel_rfl) (fun _ _ _ h => h) rfl hX (fun V hV => ld_int9 (.tmp 62) rfl rfl ((hV.cell (p := ⟨b0, off + k, none⟩) HB0.out).trans CK.out)) ?_; simp only [Act.put, qA, qB, qC]
      refine mc_take (i := 22) (oi := ⟨some 64, _, _, _, _, _⟩) (v := ?_) rfl (by kernel_rfl) (by kernel_rfl) (by kernel_rfl) (fun _ _ _ h => h) rfl hX ?_ ?_; rotate_left; (intro W hW; go_simp; try with_reducible rfl); simp only [Act.put, qA, qB, qC]
      refine mc_take (i := 23) (oi := ⟨some 65, _, _, _, _, _⟩) (v := ?_) rfl (by kernel_rfl) (by kernel_rfl) (by kernel_rfl) (fun _ _ _ h => h) rfl hX ?_ ?_; rotate_left; (intro W hW; go_simp; try with_reducible rfl); simp only [Act.put, qA, qB, qC]
      refine mc_take (i := 24) (oi := ⟨some 66, _, _, _, _, _⟩) (v := .int .u8 (ye : Int)) rfl (by kernel_rfl) (by kernel_rfl) (by kernel_rfl) (fun _ _ _ h => h) rfl hX (fun V hV => ld_u9 (.tmp 65) rfl rfl ((hV.cell (p := ⟨w1.heap.size, f, none⟩) LR.out.lt).trans C66.out)) ?_; simp only [Act.put, qA, qB, qC]
      refine mc_take (i := 25) (oi := ⟨some 67, _, _, _, _, _⟩) (v := ?_) rfl (by kernel_rfl) (by kernel_rfl) (by kernel_rfl) (fun _ _ _ h => h) rfl hX ?_ ?_; rotate_left; (intro W hW; go_simp; try with_reducible rfl); simp only [Act.put, qA, qB, qC]
      refine mc_take (i := 26) (oi := ⟨some 68, _, _, _, _, _⟩) (v := ?_) rfl (by kernel_rfl) (by kernel_rfl) (by kernel_rfl) (fun _ _ _ h => h) rfl hX ?_ ?_; rotate_left; (intro W hW; go_simp; try with_reducible rfl); simp only [Act.put, qA, qB, qC]
      refine mc_take (i := 27) (oi := ⟨some 69, _, _, _, _, _⟩) (v := ?_) rfl (by kernel_rfl) (by kernel_rfl) (by kernel_rfl) (fun _ _ _ h => h) rfl hX ?_ ?_; rotate_left; (intro W hW; go_simp; try with_reducible rfl); simp only [Act.put, qA, qB, qC]
      refine mc_take (i := 28) (oi := ⟨some 70, _, _, _, _, _⟩) (v := .int .u8 (xe : Int)) rfl (by kernel_rfl) (by kernel_rfl) (by kernel_rfl) (fun _ _ _ h => h) rfl hX (fun V hV => ld_u9 (.tmp 69) rfl rfl ((hV.cell (p := ⟨w1.heap.size, j, none⟩) LR.out.lt).trans C70.out)) ?_; simp only [Act.put, qA, qB, qC]
      refine mc_take (i := 29) (oi := ⟨some 71, _, _, _, _, _⟩) (v := .bool true) rfl (by kernel_rfl) (by kernel_rfl) (by kernel_rfl) (fun _ _ _ h => h) rfl hX (fun V hV => px_neU (.tmp 66) (.tmp 70) rfl rfl rfl Q2.out V) ?_; simp only [Act.put, qA, qB, qC]
      refine mc_take (i := 30) (oi := ⟨some 72, _, _, _, _, _⟩) (v := ?_) rfl (by kernel_rfl) (by kernel_rfl) (by kernel_rfl) (fun _ _ _ h => h) rfl hX ?_ ?_; rotate_left; (intro W hW; go_simp; try with_reducible rfl); simp only [Act.put, qA, qB, qC]
      refine mc_take (i := 31) (oi := ⟨some 73, _, _, _, _, _⟩) (v := ?_) rfl (by kernel_rfl) (by kernel_rfl) (by kernel_rfl) (fun _ _ _ h => h) rfl hX ?_ ?_; rotate_left; (intro W hW; go_simp; try with_reducible rfl); simp only [Act.put, qA, qB, qC]
      clear hxy hxe
      refine wpAnyC_done (by kernel_rfl) ?_ _
      have HNX := qH (clsOf_next HKC.out HKL.out (by rw [HFE.out]; exact HZ.out))
      have BI4 := qH (HBI.out.trans (hX.mono HBI.out.size))
      clear hX
      go_wp2_with fail
      exact ⟨⟨k + 1, HNX.out, by congr 1, BI4.out⟩, by simpa [intOf] using HMK.out⟩
    ·have Q1 := qH (show ((y : Int) != (x : Int)) = true by rw [bne_iff_ne]; exact fun e => hxy (Int.ofNat_inj.1 e).symm)
     have HZ := qH (Bool.eq_false_iff.2 fun h => hxy (HAL.out.1 h).1)
     refine mc_take (i := 0) (oi := ⟨some 42, _, _, _, _, _⟩) (v := ?_) rfl (by kernel_rfl) (by kernel_rfl) (by kernel_rfl) (fun _ _ _ h => h) rfl hX ?_ ?_; rotate_left; (intro W hW; go_simp; try with_reducible rfl); simp only [Act.put, qA, qB, qC]
     refine mc_take (i := 1) (oi := ⟨some 43, _, _, _, _, _⟩) (v := ?_) rfl (by kernel_rfl) (by kernel_rfl) (by kernel_rfl) (fun _ _ _ h => h) rfl hX ?_ ?_; rotate_left; (intro W hW; go_simp; try with_reducible rfl); simp only [Act.put, qA, qB, qC]
     refine mc_take (i := 2) (oi := ⟨some 44, _, _, _, _, _⟩) (v := ?_) rfl (by kernel_rfl) (by kernel_rfl) (by kernel_rfl) (fun _ _ _ h => h) rfl hX ?_ ?_; rotate_left; (intro W hW; go_simp; try with_reducible rfl); simp only [Act.put, qA, qB, qC]
     refine mc_take (i := 3) (oi := ⟨some 45, _, _, _, _, _⟩) (v := ?_) rfl (by kernel_rfl) (by kernel_rfl) (by kernel_rfl) (fun _ _ _ h => h) rfl hX ?_ ?_; rotate_left; (intro W hW; go_simp; try with_reducible rfl); simp only [Act.put, qA, qB, qC]
     refine mc_take (i := 4) (oi := ⟨some 46, _, _, _, _, _⟩) (v := ?_) rfl (by kernel_rfl) (by kernel_rfl) (by kernel_rfl) (fun _ _ _ h => h) rfl hX ?_ ?_; rotate_left; (intro W hW; go_simp; try with_reducible rfl); simp only [Act.put, qA, qB, qC]
     refine mc_take (i := 5) (oi := ⟨some 47, _, _, _, _, _⟩) (v := ?_) rfl (by kernel_rfl) (by kernel_rfl) (by kernel_rfl) (fun _ _ _ h => h) rfl hX ?_ ?_; rotate_left; (intro W hW; go_simp; try with_reducible rfl); simp only [Act.put, qA, qB, qC]
     refine mc_take (i := 6) (oi := ⟨some 48, _, _, _, _, _⟩) (v := ?_) rfl (by kernel_rfl) (by kernel_rfl) (by kernel_rfl) (fun _ _ _ h => h) rfl hX ?_ ?_; rotate_left; (intro W hW; go_simp; try with_reducible rfl); simp only [Act.put, qA, qB, qC]
     refine mc_take (i := 7) (oi := ⟨some 49, _, _, _, _, _⟩) (v := ?_) rfl (by kernel_rfl) (by kernel_rfl) (by kernel_rfl) (fun _ _ _ h => h) rfl hX ?_ ?_; rotate_left; (intro W hW; go_simp; try with_reducible rfl); simp only [Act.put, qA, qB, qC]
     refine mc_take (i := 8) (oi := ⟨some 50, _, _, _, _, _⟩) (v := .int .i64 (f : Int)) rfl (by kernel_rfl) (by kernel_rfl) (by kernel_rfl) (fun _ _ _ h => h) rfl hX (fun V hV => ld_int9 (.tmp 49) rfl rfl ((hV.cell (p := ⟨b0, off + k, none⟩) HB0.out).trans CK.out)) ?_; simp only [Act.put, qA, qB, qC]
     refine mc_take (i := 9) (oi := ⟨some 51, _, _, _, _, _⟩) (v := ?_) rfl (by kernel_rfl) (by kernel_rfl) (by kernel_rfl) (fun _ _ _ h => h) rfl hX ?_ ?_; rotate_left; (intro W hW; go_simp; try with_reducible rfl); simp only [Act.put, qA, qB, qC]
     refine mc_take (i := 10) (oi := ⟨some 52, _, _, _, _, _⟩) (v := ?_) rfl (by kernel_rfl) (by kernel_rfl) (by kernel_rfl) (fun _ _ _ h => h) rfl hX ?_ ?_; rotate_left; (intro W hW; go_simp; try with_reducible rfl); simp only [Act.put, qA, qB, qC]
     refine mc_take (i := 11) (oi := ⟨some 53, _, _, _, _, _⟩) (v := .int .u8 (y : Int)) rfl (by kernel_rfl) (by kernel_rfl) (by kernel_rfl) (fun _ _ _ h => h) rfl hX (fun V hV => ld_u9 (.tmp 52) rfl rfl ((hV.cell (p := ⟨w.heap.size, f, none⟩) KR.out.lt).trans C53.out)) ?_; simp only [Act.put, qA, qB, qC]
     refine mc_take (i := 12) (oi := ⟨some 54, _, _, _, _, _⟩) (v := ?_) rfl (by kernel_rfl) (by kernel_rfl) (by kernel_rfl) (fun _ _ _ h => h) rfl hX ?_ ?_; rotate_left; (intro W hW; go_simp; try with_reducible rfl); simp only [Act.put, qA, qB, qC]
     refine mc_take (i := 13) (oi := ⟨some 55, _, _, _, _, _⟩) (v := ?_) rfl (by kernel_rfl) (by kernel_rfl) (by kernel_rfl) (fun _ _ _ h => h) rfl hX ?_ ?_; rotate_left; (intro W hW; go_simp; try with_reducible rfl); simp only [Act.put, qA, qB, qC]
     refine mc_take (i := 14) (oi := ⟨some 56, _, _, _, _, _⟩) (v := ?_) rfl (by kernel_rfl) (by kernel_rfl) (by kernel_rfl) (fun _ _ _ h => h) rfl hX ?_ ?_; rotate_left; (intro W hW; go_simp; try with_reducible rfl); simp only [Act.put, qA, qB, qC]
     refine mc_take (i := 15) (oi := ⟨some 57, _, _, _, _, _⟩) (v := .int .u8 (x : Int)) rfl (by kernel_rfl) (by kernel_rfl) (by kernel_rfl) (fun _ _ _ h => h) rfl hX (fun V hV => ld_u9 (.tmp 56) rfl rfl ((hV.cell (p := ⟨w.heap.size, j, none⟩) KR.out.lt).trans C57.out)) ?_; simp only [Act.put, qA, qB, qC]
     refine mc_take (i := 16) (oi := ⟨some 58, _, _, _, _, _⟩) (v := .bool true) rfl (by kernel_rfl) (by kernel_rfl) (by kernel_rfl) (fun _ _ _ h => h) rfl hX (fun V hV => px_neU (.tmp 53) (.tmp 57) rfl rfl rfl Q1.out V) ?_; simp only [Act.put, qA, qB, qC]
     refine mc_take (i := 17) (oi := ⟨some 59, _, _, _, _, _⟩) (v := ?_) rfl (by kernel_rfl) (by kernel_rfl) (by kernel_rfl) (fun _ _ _ h => h) rfl hX ?_ ?_; rotate_left; (intro W hW; go_simp; try with_reducible rfl); simp only [Act.put, qA, qB, qC]
     refine mc_skip (i := 18) (oi := ⟨some 60, _, _, _, _, _⟩) rfl (by kernel_rfl) (by kernel_rfl) (by kernel_rfl) (fun _ _ _ h => h) rfl hX ?_; simp only [Act.put, qA, qB, qC]
     refine mc_skip (i := 19) (oi := ⟨some 61, _, _, _, _, _⟩) rfl (by kernel_rfl) (by kernel_rfl) (by kernel_rfl) (fun _ _ _ h => h) rfl hX ?_; simp only [Act.put, qA, qB, qC]
     refine mc_skip (i := 20) (oi := ⟨some 62, _, _, _, _, _⟩) rfl (by kernel_rfl) (by kernel_rfl) (by kernel_rfl) (fun _ _ _ h => h) rfl hX ?_; simp only [Act.put, qA, qB, qC]
     refine mc_skip (i := 21) (oi := ⟨some 63, _, _, _, _, _⟩) rfl (by kernel_rfl) (by kernel_rfl) (by kernel_rfl) (fun _ _ _ h => h) rfl hX ?_; simp only [Act.put, qA, qB, qC]
     refine mc_skip (i := 22) (oi := ⟨some 64, _, _, _, _, _⟩) rfl (by kernel_rfl) (by kernel_rfl) (by kernel_rfl) (fun _ _ _ h => h) rfl hX ?_; simp only [Act.put, qA, qB, qC]
     refine mc_skip (i := 23) (oi := ⟨some 65, _, _, _, _, _⟩) rfl (by kernel_rfl) (by kernel_rfl) (by kernel_rfl) (fun _ _ _ h => h) rfl hX ?_; simp only [Act.put, qA, qB, qC]
     refine mc_skip (i := 24) (oi := ⟨some 66, _, _, _, _, _⟩) rfl (by kernel_rfl) (by kernel_rfl) (by kernel_rfl) (fun _ _ _ h => h) rfl hX ?_; simp only [Act.put, qA, qB, qC]
     refine mc_skip (i := 25) (oi := ⟨some 67, _, _, _, _, _⟩) rfl (by kernel_rfl) (by kernel_rfl) (by kernel_rfl) (fun _ _ _ h => h) rfl hX ?_; simp only [Act.put, qA, qB, qC]
     refine mc_skip (i := 26) (oi := ⟨some 68, _, _, _, _, _⟩) rfl (by kernel_rfl) (by kernel_rfl) (by kernel_rfl) (fun _ _ _ h => h) rfl hX ?_; simp only [Act.put, qA, qB, qC]
     refine mc_skip (i := 27) (oi := ⟨some 69, _, _, _, _, _⟩) rfl (by kernel_rfl) (by kernel_rfl) (by kernel_rfl) (fun _ _ _ h => h) rfl hX ?_; simp only [Act.put, qA, qB, qC]
     refine mc_skip (i := 28) (oi := ⟨some 70, _, _, _, _, _⟩) rfl (by kernel_rfl) (by kernel_rfl) (by kernel_rfl) (fun _ _ _ h => h) rfl hX ?_; simp only [Act.put, qA, qB, qC]
     refine mc_skip (i := 29) (oi := ⟨some 71, _, _, _, _, _⟩) rfl (by kernel_rfl) (by kernel_rfl) (by kernel_rfl) (fun _ _ _ h => h) rfl hX ?_; simp only [Act.put, qA, qB, qC]
     refine mc_take (i := 30) (oi := ⟨some 72, _, _, _, _, _⟩) (v := ?_) rfl (by kernel_rfl) (by kernel_rfl) (by kernel_rfl) (fun _ _ _ h => h) rfl hX ?_ ?_; rotate_left; (intro W hW; go_simp; try with_reducible rfl); simp only [Act.put, qA, qB, qC]
     refine mc_take (i := 31) (oi := ⟨some 73, _, _, _, _, _⟩) (v := ?_) rfl (by kernel_rfl) (by kernel_rfl) (by kernel_rfl) (fun _ _ _ h => h) rfl hX ?_ ?_; rotate_left; (intro W hW; go_simp; try with_reducible rfl); simp only [Act.put, qA, qB, qC]
     clear hxy
     refine wpAnyC_done (by kernel_rfl) ?_ _
     have HNX := qH (clsOf_next HKC.out HKL.out (by rw [HFE.out]; exact HZ.out))
     have BI4 := qH (HBI.out.trans (hX.mono HBI.out.size))
     clear hX
     go_wp2_with fail
     exact ⟨⟨k + 1, HNX.out, by congr 1, BI4.out⟩, by simpa [intOf] using HMK.out⟩
   ·obtain rfl : nf = k := Nat.le_antisymm (Nat.le_of_not_lt hkn) (Nat.le_trans HKC.out HCL.out)
    have k1 : ¬ (nf : Int) < (nf : Int) := Int.lt_irrefl _
    have hkb : ((nf : Int) == (nf : Int)) = true := by simp
    have hwk : IntKind.u8.wrap (nf : Int) = (nf : Int) := wrap8N nf (Nat.lt_of_le_of_lt HFL.out HJL.out)
    have HST := qH (show clsOf ps j = nf from Nat.le_antisymm HCL.out HKC.out)
    have HFN := qH (firstJ_new (ps := ps) (j := j) (by rw [HST.out, HNFL.out]))
    have HBD := qH (show nf + (nums .i64 [(j : Int)]).length ≤ 2097152 by rw [nums_length]; exact Nat.le_trans (Nat.succ_le_of_lt (Nat.lt_of_le_of_lt HFL.out HJL.out)) (by decide))
    obtain ⟨u, hu⟩ : ∃ u, (ctab ps j)[j]? = some u := ⟨_, List.getElem?_eq_getElem (by rw [ctab_length]; exact HJL.out)⟩
    have HU := qH hu
    clear hu hkn
    go_wp2_with fail
    refine mc_start (fun V => Below wr.heap.size wr V) (fun _ => True) 32 (by kernel_rfl) (fun wd hwd => ?_)
    have hX : Below wr.heap.size wr wd := by rw [hwd]; exact (Below.refl _ _).drew
    clear hwd
    refine mc_take (i := 0) (oi := ⟨some 42, _, _, _, _, _⟩) (v := ?_) rfl (by kernel_rfl) (by kernel_rfl) (by kernel_rfl) (fun _ _ _ h => h) rfl hX ?_ ?_; rotate_left; (intro W hW; go_simp; try with_reducible rfl); simp only [Act.put, qA, qB, qC]
    refine mc_take (i := 1) (oi := ⟨some 43, _, _, _, _, _⟩) (v := ?_) rfl (by kernel_rfl) (by kernel_rfl) (by kernel_rfl) (fun _ _ _ h => h) rfl hX ?_ ?_; rotate_left; (intro W hW; go_simp; try with_reducible rfl); simp only [Act.put, qA, qB, qC]
    refine mc_take (i := 2) (oi := ⟨some 44, _, _, _, _, _⟩) (v := ?_) rfl (by kernel_rfl) (by kernel_rfl) (by kernel_rfl) (fun _ _ _ h => h) rfl hX ?_ ?_; rotate_left; (intro W hW; go_simp; try with_reducible rfl); simp only [Act.put, qA, qB, qC]
    refine mc_take (i := 3) (oi := ⟨some 45, _, _, _, _, _⟩) (v := ?_) rfl (by kernel_rfl) (by kernel_rfl) (by kernel_rfl) (fun _ _ _ h => h) rfl hX ?_ ?_; rotate_left; (intro W hW; go_simp; try with_reducible rfl); simp only [Act.put, qA, qB, qC]
    refine mc_take (i := 4) (oi := ⟨some 46, _, _, _, _, _⟩) (v := ?_) rfl (by kernel_rfl) (by kernel_rfl) (by kernel_rfl) (fun _ _ _ h => h) rfl hX ?_ ?_; rotate_left; (intro W hW; go_simp; try with_reducible rfl); simp only [Act.put, qA, qB, qC]
    refine mc_skip (i := 5) (oi := ⟨some 47, _, _, _, _, _⟩) rfl (by kernel_rfl) (by kernel_rfl) (by kernel_rfl) (fun _ _ _ h => h) rfl hX ?_; simp only [Act.put, qA, qB, qC]
    refine mc_skip (i := 6) (oi := ⟨some 48, _, _, _, _, _⟩) rfl (by kernel_rfl) (by kernel_rfl) (by kernel_rfl) (fun _ _ _ h => h) rfl hX ?_; simp only [Act.put, qA, qB, qC]
    refine mc_skip (i := 7) (oi := ⟨some 49, _, _, _, _, _⟩) rfl (by kernel_rfl) (by kernel_rfl) (by kernel_rfl) (fun _ _ _ h => h) rfl hX ?_; simp only [Act.put, qA, qB, qC]
    refine mc_skip (i := 8) (oi := ⟨some 50, _, _, _, _, _⟩) rfl (by kernel_rfl) (by kernel_rfl) (by kernel_rfl) (fun _ _ _ h => h) rfl hX ?_; simp only [Act.put, qA, qB, qC]
    refine mc_skip (i := 9) (oi := ⟨some 51, _, _, _, _, _⟩) rfl (by kernel_rfl) (by kernel_rfl) (by kernel_rfl) (fun _ _ _ h => h) rfl hX ?_; simp only [Act.put, qA, qB, qC]
    refine mc_skip (i := 10) (oi := ⟨some 52, _, _, _, _, _⟩) rfl (by kernel_rfl) (by kernel_rfl) (by kernel_rfl) (fun _ _ _ h => h) rfl hX ?_; simp only [Act.put, qA, qB, qC]
    refine mc_skip (i := 11) (oi := ⟨some 53, _, _, _, _, _⟩) rfl (by kernel_rfl) (by kernel_rfl) (by kernel_rfl) (fun _ _ _ h => h) rfl hX ?_; simp only [Act.put, qA, qB, qC]
    refine mc_skip (i := 12) (oi := ⟨some 54, _, _, _, _, _⟩) rfl (by kernel_rfl) (by kernel_rfl) (by kernel_rfl) (fun _ _ _ h => h) rfl hX ?_; simp only [Act.put, qA, qB, qC]
    refine mc_skip (i := 13) (oi := ⟨some 55, _, _, _, _, _⟩) rfl (by kernel_rfl) (by kernel_rfl) (by kernel_rfl) (fun _ _ _ h => h) rfl hX ?_; simp only [Act.put, qA, qB, qC]
    refine mc_skip (i := 14) (oi := ⟨some 56, _, _, _, _, _⟩) rfl (by kernel_rfl) (by kernel_rfl) (by kernel_rfl) (fun _ _ _ h => h) rfl hX ?_; simp only [Act.put, qA, qB, qC]
    refine mc_skip (i := 15) (oi := ⟨some 57, _, _, _, _, _⟩) rfl (by kernel_rfl) (by kernel_rfl) (by kernel_rfl) (fun _ _ _ h => h) rfl hX ?_; simp only [Act.put, qA, qB, qC]
    refine mc_skip (i := 16) (oi := ⟨some 58, _, _, _, _, _⟩) rfl (by kernel_rfl) (by kernel_rfl) (by kernel_rfl) (fun _ _ _ h => h) rfl hX ?_; simp only [Act.put, qA, qB, qC]
    refine mc_skip (i := 17) (oi := ⟨some 59, _, _, _, _, _⟩) rfl (by kernel_rfl) (by kernel_rfl) (by kernel_rfl) (fun _ _ _ h => h) rfl hX ?_; simp only [Act.put, qA, qB, qC]
    refine mc_skip (i := 18) (oi := ⟨some 60, _, _, _, _, _⟩) rfl (by kernel_rfl) (by kernel_rfl) (by kernel_rfl) (fun _ _ _ h => h) rfl hX ?_; simp only [Act.put, qA, qB, qC]
    refine mc_skip (i := 19) (oi := ⟨some 61, _, _, _, _, _⟩) rfl (by kernel_rfl) (by kernel_rfl) (by kernel_rfl) (fun _ _ _ h => h) rfl hX ?_; simp only [Act.put, qA, qB, qC]
    refine mc_skip (i := 20) (oi := ⟨some 62, _, _, _, _, _⟩) rfl (by kernel_rfl) (by kernel_rfl) (by kernel_rfl) (fun _ _ _ h => h) rfl hX ?_; simp only [Act.put, qA, qB, qC]
    refine mc_skip (i := 21) (oi := ⟨some 63, _, _, _, _, _⟩) rfl (by kernel_rfl) (by kernel_rfl) (by kernel_rfl) (fun _ _ _ h => h) rfl hX ?_; simp only [Act.put, qA, qB, qC]
    refine mc_skip (i := 22) (oi := ⟨some 64, _, _, _, _, _⟩) rfl (by kernel_rfl) (by kernel_rfl) (by kernel_rfl) (fun _ _ _ h => h) rfl hX ?_; simp only [Act.put, qA, qB, qC]
    refine mc_skip (i := 23) (oi := ⟨some 65, _, _, _, _, _⟩) rfl (by kernel_rfl) (by kernel_rfl) (by kernel_rfl) (fun _ _ _ h => h) rfl hX ?_; simp only [Act.put, qA, qB, qC]
    refine mc_skip (i := 24) (oi := ⟨some 66, _, _, _, _, _⟩) rfl (by kernel_rfl) (by kernel_rfl) (by kernel_rfl) (fun _ _ _ h => h) rfl hX ?_; simp only [Act.put, qA, qB, qC]
    refine mc_skip (i := 25) (oi := ⟨some 67, _, _, _, _, _⟩) rfl (by kernel_rfl) (by kernel_rfl) (by kernel_rfl) (fun _ _ _ h => h) rfl hX ?_; simp only [Act.put, qA, qB, qC]
    refine mc_skip (i := 26) (oi := ⟨some 68, _, _, _, _, _⟩) rfl (by kernel_rfl) (by kernel_rfl) (by kernel_rfl) (fun _ _ _ h => h) rfl hX ?_; simp only [Act.put, qA, qB, qC]
    refine mc_skip (i := 27) (oi := ⟨some 69, _, _, _, _, _⟩) rfl (by kernel_rfl) (by kernel_rfl) (by kernel_rfl) (fun _ _ _ h => h) rfl hX ?_; simp only [Act.put, qA, qB, qC]
    refine mc_skip (i := 28) (oi := ⟨some 70, _, _, _, _, _⟩) rfl (by kernel_rfl) (by kernel_rfl) (by kernel_rfl) (fun _ _ _ h => h) rfl hX ?_; simp only [Act.put, qA, qB, qC]
    refine mc_skip (i := 29) (oi := ⟨some 71, _, _, _, _, _⟩) rfl (by kernel_rfl) (by kernel_rfl) (by kernel_rfl) (fun _ _ _ h => h) rfl hX ?_; simp only [Act.put, qA, qB, qC]
    refine mc_skip (i := 30) (oi := ⟨some 72, _, _, _, _, _⟩) rfl (by kernel_rfl) (by kernel_rfl) (by kernel_rfl) (fun _ _ _ h => h) rfl hX ?_; simp only [Act.put, qA, qB, qC]
    refine mc_take (i := 31) (oi := ⟨some 73, _, _, _, _, _⟩) (v := ?_) rfl (by kernel_rfl) (by kernel_rfl) (by kernel_rfl) (fun _ _ _ h => h) rfl hX ?_ ?_; rotate_left; (intro W hW; go_simp; try with_reducible rfl); simp only [Act.put, qA, qB, qC]
    refine wpAnyC_done (by kernel_rfl) ?_ _
    have K4' := qH (HKR.out.below hX HKR.out.lt)
    have O4 := qH (own6_stay HOR.out fun q hq => hX.block q (own6_lt HOR.out q hq).1)
    have B4' := qH (BR.out.trans (hX.mono (by rw [HGD.out]; exact BR.out.size)))
    have S4 := qH (Nat.le_trans SR.out hX.size)
    clear hX
    go_wp2_with (first
     | ((with_reducible refine atDst 82 ?_); refine wpList_plain rfl fun K hK => wp_bldI 47 3 (.tmp 81) rfl i1 Try.underlying47 hi1 0 hy0 hy1 (j : Int) rfl ?_; intro wb hr hb; have RB := qH hr; have KB := qH (K4'.out.below hb K4'.out.lt); have OB := qH (own6_stay O4.out fun q hq => hb.block q (own6_lt O4.out q hq).1); have BB := qH (B4'.out.trans (hb.mono (by rw [HGD.out]; exact B4'.out.size))); have SB := qH (Nat.le_trans S4.out hb.size); clear hr hb; refine hK _ _ ?_; clear hK K; (try simp only [Act.put, qA, qB, qC]))
     | ((with_reducible refine atDst 83 ?_); refine wpList_appW (base := H1) rfl (.tmp 80) (.tmp 82) 47 rfl 3 i1 (.int .i64 0) 8 Try.underlying47 hi1 hy0 hy1 hy2 rfl _ _ (fcs ps j) rfl OB.out _ (nums .i64 [(j : Int)]) rfl RB.out (nums_one _ _) HBD.out (by decide) SB.out ?_; intro v2 wc ho hgr hwr; have OC := qH ho; have BC := qH (BB.out.trans ((below_own (Below.refl H1 wb) SB.out hgr fun q hq => (own6_lt OB.out q hq).2).mono (Nat.le_of_lt HGH.out))); have KC := qH (show Blk wc gd 28 (dcl (ctab ps j) (.slice none 0 0) (.slice none 0 0)) from KB.out.grown hgr fun h => Nat.lt_irrefl gd (Nat.lt_of_lt_of_le HGH.out (own6_lt OB.out gd h.symm).2)); have SC := qH (Nat.le_trans SB.out hgr.size); have hgc := KC.out.cell j; rw [dcl_cl (ctab_length _ _) HJL.out, bvs_get _ _ _ HU.out] at hgc; have hfz := KC.out.frozen j; clear ho hgr hwr; (try simp only [Act.put, qA, qB, qC])))
    refine ⟨⟨j + 1, HJL.out, by congr 1, ?_, ?_, BC.out.setCell (p := ⟨gd, j, none⟩) (Nat.le_refl _) _, by simpa using SC.out⟩, by simpa [intOf] using HMJ.out⟩
    ·rw [show fcs ps (j + 1) = fcs ps j ++ nums .i64 [(j : Int)] by unfold fcs; rw [HFN.out, List.map_append, nums_append]; rfl, HFN.out, List.length_append, ← HNFL.out]
     exact own_far OC.out HGH.out _
    ·rw [← HST.out]
     exact dcl_put KC.out HJL.out (by rw [HST.out]; exact Nat.lt_of_le_of_lt HFL.out HJL.out)
 ·obtain rfl : 256 = j := Nat.le_antisymm (Nat.le_of_not_lt hjl) HJ.out
  have j1 : ¬ ((256 : Int) < 256) := Int.lt_irrefl _
  obtain ⟨cl, hcl⟩ : ∃ c, c = ctab ps 256 := ⟨_, rfl⟩
  have HCL := qH hcl
  have HCLL := qH (show cl.length = 256 by rw [hcl]; exact ctab_length _ _)
  obtain ⟨fb, hfb⟩ : ∃ fb, fb = firstJ ps 256 := ⟨_, rfl⟩
  have HFB := qH hfb
  obtain ⟨kk, hkk⟩ : ∃ kk, kk = fb.length := ⟨_, rfl⟩
  have HKK := qH hkk
  have HK256 := qH (show kk ≤ 256 by rw [hkk, hfb]; exact firstJ_len ps 256)
  obtain ⟨xs, hxs⟩ : ∃ xs, xs = nums .i64 (fb.map fun (n : Nat) => (n : Int)) := ⟨_, rfl⟩
  have HXS := qH hxs
  have HO2 := qH (show wo.ownsRow H1 3 1 u11 kk xs by
   have h1 := HO.out
   rw [← hfb, ← hkk, show fcs ps 256 = xs by rw [hxs]; unfold fcs; rw [hfb]] at h1
   exact h1)
  obtain ⟨Af, cf, huf⟩ := ownC_slice HO2.out
  subst huf
  have HK2 := qH (show Blk wo gd 28 (dcl cl (.slice none 0 0) (.slice none 0 0)) by rw [hcl]; exact HK.out)
  clear hjl hcl hfb hkk hxs HO HK
  go_wp2_with ((with_reducible refine atDst 90 ?_); refine wpList_plain rfl fun K hK => px_bld1 (.tmp 89) rfl (0, 0) rfl ?_; intro wc hk hb; have KC := qH hk; have BC := qH hb; clear hk hb; refine hK _ _ ?_; clear hK K; (try simp only [Act.put, qA, qB, qC]))
  obtain ⟨H, hH⟩ : ∃ g, g = wo.heap.size := ⟨_, rfl⟩
  have HH := qH hH
  have HGHH := qH (show gd < H by rw [hH]; exact HK2.out.lt)
  have HFH := qH (show ∀ k, (Value.slice Af kk cf).ownBlock = some k → k < H from fun k hk => by rw [hH]; exact (own6_lt HO2.out k hk).1)
  have EC := qH (show EnvL w5 wc gd H1 cl (.slice none 0 0) (.slice none 0 0) (.slice Af kk cf) kk xs from
   ⟨HK2.out.below BC.out HK2.out.lt, own6_stay HO2.out fun q hq => BC.out.block q (own6_lt HO2.out q hq).1, HB.out.trans (BC.out.mono (Nat.le_of_lt HK2.out.lt))⟩)
  have AC := qH (show ApS tyP szP wc H 3 (putV (fun _ => .slice none 0 0) 2 (.slice (some ⟨wo.heap.size, 0, none⟩) 1 1)) (putX (fun _ => []) 2 (prs [(0, 0)])) from
   aps_one (Blk.own2 KC.out (Nat.le_of_eq hH) (by unfold maxLen; simp)))
  obtain ⟨qf, hqf⟩ : ∃ f : Nat × Nat → List (Nat × Nat), f = fG (psP D E) (gP D E) := ⟨_, rfl⟩
  have HQF := qH hqf
  obtain ⟨x0, hx0⟩ : ∃ x : Nat × Nat, x = (0, 0) := ⟨_, rfl⟩
  have HX0 := qH hx0
  obtain ⟨ef, hef⟩ : ∃ e : Nat × Nat → Bool, e = endP D E how := ⟨_, rfl⟩
  have HEF := qH hef
  have MC := qH (MdP.zero (f := qf) (x0 := x0) (e := ef) (good := [x0].length ≤ most) (v := .slice (some ⟨wo.heap.size, 0, none⟩) 1 1) (y := x0))
  rw [← hx0] at AC
  have HHW := qH (show H ≤ wc.heap.size by rw [hH]; exact BC.out.size)
  have HLQ := qH (show ∀ r, QPr D E r = Lq qf x0 r from fun r => by rw [hqf, hx0]; rfl)
  have HLT := qH (show ∀ r, ∀ q ∈ Lq qf x0 r, q.1 < nD ∧ q.2 < nE from fun r => by rw [← HLQ.out r, HND.out, HNE.out]; exact prd_rng HM.out HL.out HME.out HLE2.out r)
  have HFL := qH (show ∀ q, (qf q).length = kk from fun q => by rw [hqf, fG_len, HKK.out, HFB.out, HPS.out])
  have HFG := qH (show ∀ (q : Nat × Nat) (k b : Nat), fb[k]? = some b → (qf q)[k]? = some (stC D q.1 (clB D b), stC E q.2 (clB E b)) from fun q k b h => by rw [hqf]; exact fG_at (by rw [← HPS.out, ← HFB.out]; exact h))
  have SM1 := qH (show [x0].length ≤ most → [x0] = Lq qf x0 0 from fun _ => rfl)
  have SM2 := qH (show most < [x0].length → ∀ n, FitPr D E n → most < n from fun h => bud_over (i := 0) (L := [x0]) (by rw [HLQ.out]; exact Nat.le_refl _) h)
  clear hH hqf hx0 hef HO2 HK2 KC BC HB HSZ
  go_wp2_with fail
  go_loopw [14, 15] (fun lv iv wl => ∃ (i : Nat) (U : Nat → Value) (X : Nat → List Value) (el : List Bool) (M : List (Nat × Nat)), iv = .int .i64 (i : Int) ∧ i ≤ M.length ∧ M.length ≤ most + 1 ∧ lv = U 2 ∧ ApS tyP szP wl H (3 + i) U X ∧ EnvL w5 wl gd H1 cl (U 0) (U 1) (.slice Af kk cf) kk xs ∧ MdP qf x0 ef (M.length ≤ most) i U X el M ∧ (M.length ≤ most → M = Lq qf x0 i) ∧ (most < M.length → ∀ n, FitPr D E n → most < n) ∧ H ≤ wl.heap.size) (fun _ iv _ => most + 2 - (intOf iv).toNat)
  case atStart => exact ⟨0, _, _, [], [x0], rfl, Nat.zero_le _, Nat.le_add_left 1 most, (putV_at _ _ _).symm, AC.out, EC.out, MC.out, SM1.out, SM2.out, HHW.out⟩
  clear AC EC MC HHW SM1 SM2
  obtain ⟨i, U, X, el, M0, rfl, hi, hmb, rfl, ha, he, hm, hs1, hs2, hh⟩ := hrel
  have HI := qH hi
  have HMB := qH hmb
  have AI := qH ha
  have EI := qH he
  have MI := qH hm
  have SI1 := qH hs1
  have SI2 := qH hs2
  have HHI := qH hh
  obtain ⟨m, hm2⟩ : ∃ m, m = M0.length := ⟨_, rfl⟩
  have HML := qH hm2
  have O2 := qH (show wr.ownsRow H 70 2 (U 2) m (prs M0) from aps_at2 ha (l32 i) rfl hm.a2 hm2)
  obtain ⟨A2, c2, hu2⟩ := own2_slice O2.out
  have HU2 := qH hu2
  rw [hu2]
  obtain ⟨wi, hwi⟩ : ∃ v : World, v = wr := ⟨_, rfl⟩
  subst hwi
  clear hi hmb ha he hm hs1 hs2 hh hm2 hu2
  by_cases him : i < m ∧ m ≤ most
  ·have y1 : (i : Int) < (m : Int) := Int.ofNat_lt.2 him.1
   have y2 : (m : Int) ≤ (most : Int) := Int.ofNat_le.2 him.2
   have HIM := qH him.1
   have HMM := qH him.2
   have HMI := qH (mea_p him.1 him.2)
   have HM0 := qH (SI1.out (by rw [← HML.out]; exact him.2))
   obtain ⟨q, hq⟩ : ∃ q, M0[i]? = some q := ⟨_, List.getElem?_eq_getElem (by rw [← HML.out]; exact him.1)⟩
   rw [HM0.out] at hq
   have HQ := qH hq
   obtain ⟨hq1, hq2⟩ := HLT.out i q (List.mem_of_getElem? hq)
   have HQ1 := qH hq1
   have HQ2 := qH hq2
   obtain ⟨Lj, Rw, hin⟩ := inG_is (kk := kk) hq (HFL.out q)
   have IN := qH hin
   have HIL := qH (show i ≤ (Lq qf x0 i).length from Nat.le_of_lt (List.getElem?_eq_some_iff.1 hq).1)
   have AJ0 := qH (show ApS tyP szP wi H (3 + i + 1) (putV U (3 + i) (.slice none 0 0)) (putX X (3 + i) []) from AI.out.more)
   have MJ0 := qH (show MdP qf x0 ef True i (putV U (3 + i) (.slice none 0 0)) (putX X (3 + i) []) el (Lj 0) by
    rw [hin.zero, ← HM0.out]
    exact (MI.out.weak fun _ => by rw [← HML.out]; exact HMM.out).rowU fun _ => HIL.out)
   have EJ0 := qH (show EnvL w5 wi gd H1 cl (putV U (3 + i) (.slice none 0 0) 0) (putV U (3 + i) (.slice none 0 0) 1) (.slice Af kk cf) kk xs by rw [putV_ne (n30 i), putV_ne (n31 i)]; exact EI.out)
   have U2J := qH (show Value.slice A2 m c2 = putV U (3 + i) (.slice none 0 0) 2 by rw [putV_ne (n32 i)]; exact HU2.out.symm)
   have U3J := qH (show Value.slice none 0 0 = putV U (3 + i) (.slice none 0 0) (i + 3) by rw [Nat.add_comm i 3, putV_at])
   have X3J := qH (show putX X (3 + i) [] (i + 3) = nums .i64 (Rw.take 0) by rw [Nat.add_comm i 3, putX_at]; rfl)
   have L0B := qH (show (Lj 0).length ≤ most + 1 by rw [hin.zero, ← HM0.out]; exact HMB.out)
   clear him hq hq1 hq2 hin
   go_wp2_with fail
   go_loopw [14, 16, 17] (fun lv rv kv wl => ∃ (j : Nat) (V : Nat → Value) (Y : Nat → List Value), j ≤ kk ∧ kv = .int .i64 (j : Int) ∧ lv = V 2 ∧ rv = V (i + 3) ∧ ApS tyP szP wl H (3 + i + 1) V Y ∧ EnvL w5 wl gd H1 cl (V 0) (V 1) (.slice Af kk cf) kk xs ∧ MdP qf x0 ef True i V Y el (Lj j) ∧ Y (i + 3) = nums .i64 (Rw.take j) ∧ (Lj j).length ≤ most + 1 ∧ H ≤ wl.heap.size) (fun _ _ kv _ => kk - (intOf kv).toNat)
   case atStart => exact ⟨0, _, _, Nat.zero_le _, rfl, U2J.out, U3J.out, AJ0.out, EJ0.out, MJ0.out, X3J.out, L0B.out, HHI.out⟩
   clear AJ0 MJ0 EJ0 U2J U3J X3J L0B O2 HU2 AI EI MI HHI
   obtain ⟨j, V, Y, hj, rfl, rfl, rfl, ha, he, hm, hx3, hlb, hh⟩ := hrel
   have HJ := qH hj
   have AJ := qH ha
   have EJ := qH he
   have MJ := qH hm
   have X3 := qH hx3
   have HHJ := qH hh
   obtain ⟨M, hM⟩ : ∃ M, M = Lj j := ⟨_, rfl⟩
   have HME2 := qH hM
   obtain ⟨mj, hmj⟩ : ∃ m, m = M.length := ⟨_, rfl⟩
   have HMJL := qH hmj
   have HMJN := qH (show mj ≤ most + 1 by rw [hmj, hM]; exact hlb)
   have HMI3 := qH (show M[i]? = some q by rw [hM]; exact IN.out.at_ j)
   have HNDP := qH (show M.Nodup by rw [hM]; exact IN.out.nd j)
   have HIMJ := qH (show i < mj by rw [hmj]; exact (List.getElem?_eq_some_iff.1 HMI3.out).1)
   have O2 := qH (show wr.ownsRow H 70 2 (V 2) mj (prs M) from aps_at2 ha (l32s i) rfl (by rw [hm.a2, hM]) hmj)
   obtain ⟨rl, hrl⟩ : ∃ r, r = Rw.take j := ⟨_, rfl⟩
   have HRL := qH hrl
   have HRLL := qH (show rl.length = j by rw [hrl, List.length_take, IN.out.len]; exact Nat.min_eq_left hj)
   have O3 := qH (show wr.ownsRow H 3 1 (V (i + 3)) j (nums .i64 rl) from aps_at3 ha rfl (by rw [hx3, ← hrl]) HRLL.out)
   obtain ⟨g2, c2, hv2, hg2H, hg2L, hpr⟩ := own2_in O2.out (Nat.lt_of_le_of_lt (Nat.zero_le _) HIMJ.out)
   obtain ⟨A3, c3, hv3⟩ := ownC_slice O3.out
   have HV2 := qH hv2
   have HV3 := qH hv3
   have HG2H := qH hg2H
   have HG2L := qH hg2L
   have HPR := qH hpr
   rw [hv2, hv3]
   rw [hv2] at O2
   rw [hv3] at O3
   obtain ⟨wp, hwp⟩ : ∃ v : World, v = wr := ⟨_, rfl⟩
   subst hwp
   have HWB := qH (show ∀ W, Below wp.heap.size wp W → Below w.heap.size w W from fun W hW => B5.out.trans ((EJ.out.bel.trans (hW.mono (Nat.le_of_lt EJ.out.blk.lt))).mono (by rw [HGD.out]; exact B5.out.size)))
   clear hj ha he hm hx3 hlb hh hM hmj hrl hv2 hv3 hg2H hg2L hpr
   by_cases hjk : j < kk ∧ mj ≤ most
   ·as_aux_lemma =>
     have k1 : (j : Int) < (kk : Int) := Int.ofNat_lt.2 hjk.1
     have k2 : (mj : Int) ≤ (most : Int) := Int.ofNat_le.2 hjk.2
     have HJK := qH hjk.1
     have HMJM := qH hjk.2
     have HMJ := qH (sub_next hjk.1)
     have f3 := wrap_one j (lt_k256 hjk.1 HK256.out)
     have f4 := wrap_one' j (lt_k256 hjk.1 HK256.out)
     clear hjk
     obtain ⟨b, hb⟩ : ∃ b, fb[j]? = some b := ⟨_, List.getElem?_eq_getElem (by rw [← HKK.out]; exact HJK.out)⟩
     have HB256 := qH (show b < 256 from firstJ_lt ps 256 b (by rw [HFB.out] at hb; exact List.mem_of_getElem? hb))
     obtain ⟨y, hy⟩ : ∃ y, clB D b = y := ⟨_, rfl⟩
     obtain ⟨ye, hye⟩ : ∃ y, clB E b = y := ⟨_, rfl⟩
     have HYK := qH (show y < kd by rw [← hy, HKD.out]; exact clB_lt HL.out HB256.out)
     have HYE := qH (show ye < ke by rw [← hye, HKE.out]; exact clB_lt HLE2.out HB256.out)
     obtain ⟨v, hv⟩ : ∃ v, stC D q.1 y = v := ⟨_, rfl⟩
     obtain ⟨ve, hve⟩ : ∃ v, stC E q.2 ye = v := ⟨_, rfl⟩
     obtain ⟨t, ht⟩ : ∃ t : Nat × Nat, t = (v, ve) := ⟨_, rfl⟩
     have HFJ := qH (show (qf q)[j]? = some t by rw [HFG.out q j b hb, hy, hye, hv, hve, ht])
     have STP := qH (show (t ∈ M ∧ Lj (j + 1) = M ∧ Rw.take (j + 1) = rl ++ [((ixOf M t : Nat) : Int)]) ∨ (t ∉ M ∧ Lj (j + 1) = M ++ [t] ∧ Rw.take (j + 1) = rl ++ [(mj : Int)]) by
      have h1 := IN.out.step j t HFJ.out
      rw [← HME2.out, ← HRL.out, ← HMJL.out] at h1
      exact h1)
     obtain ⟨r1, o1, cr1, hr1, hr1l, hr1c⟩ := HR.out.at_ (s := q.1) (c := y) HQ1.out HYK.out
     obtain ⟨r2, o2, cr2, hr2, hr2l, hr2c⟩ := HRE.out.at_ (s := q.2) (c := ye) HQ2.out HYE.out
     rw [hv] at hr1c
     rw [hve] at hr2c
     obtain ⟨bf, of, haf, hbf, hcf⟩ := (Row.of_own EJ.out.own).at_ (by rw [HXS.out, nums_length, List.length_map, ← HKK.out]; exact Nat.lt_of_le_of_lt (Nat.zero_le _) HJK.out)
     have HAF := qH haf
     have CFJ := qH (show ∀ W, Below wp.heap.size wp W → W.cell? ⟨bf, of + j, none⟩ = some (.int .i64 (b : Int)) from fun W hW => (hW.cell (p := ⟨bf, of + j, none⟩) hbf).trans (hcf j _ (by rw [HXS.out]; simp [nums, hb])))
     have KP := qH (show ∀ W, Below wp.heap.size wp W → Blk W w.heap.size 28 cs from fun W hW => K5.out.below (EJ.out.bel.trans (hW.mono (Nat.le_of_lt EJ.out.blk.lt))) HAG.out)
     have LP := qH (show ∀ W, Below wp.heap.size wp W → Blk W w1.heap.size 28 es from fun W hW => L5.out.below (EJ.out.bel.trans (hW.mono (Nat.le_of_lt EJ.out.blk.lt))) HBG.out)
     have C116 := qH (show ∀ W, Below wp.heap.size wp W → W.cell? ⟨w.heap.size, 256, none⟩ = some (.slice (some ⟨bn, on, none⟩) nD cn) from fun W hW => ((KP.out W hW).cell 256).trans (by rw [HCS.out]; exact dcl_n HL.out))
     have C134 := qH (show ∀ W, Below wp.heap.size wp W → W.cell? ⟨w1.heap.size, 256, none⟩ = some (.slice (some ⟨bn2, on2, none⟩) nE cn2) from fun W hW => ((LP.out W hW).cell 256).trans (by rw [HCE.out]; exact dcl_n HLE2.out))
     have C130 := qH (show ∀ W, Below wp.heap.size wp W → W.cell? ⟨w.heap.size, b, none⟩ = some (.int .u8 (y : Int)) from fun W hW => ((KP.out W hW).cell b).trans (by rw [HCS.out, dcl_cl HL.out HB256.out, clB_cell HL.out HB256.out, hy]))
     have C148 := qH (show ∀ W, Below wp.heap.size wp W → W.cell? ⟨w1.heap.size, b, none⟩ = some (.int .u8 (ye : Int)) from fun W hW => ((LP.out W hW).cell b).trans (by rw [HCE.out, dcl_cl HLE2.out HB256.out, clB_cell HLE2.out HB256.out, hye]))
     have CPR := qH (show ∀ W, Below wp.heap.size wp W → ∀ a z, a < mj → M[a]? = some z → W.rangeAt g2 (a * 2) (pr2 z) from fun W hW a z ha hz k u hu => (hW.cell (p := ⟨g2, a * 2 + k, none⟩) HG2L.out).trans (HPR.out a z ha hz k u hu))
     have C121 := qH (show ∀ W, Below wp.heap.size wp W → W.cell? ⟨g2, i * 2, none⟩ = some (.int .i64 (q.1 : Int)) from fun W hW => CPR.out W hW i q HIMJ.out HMI3.out 0 _ rfl)
     have C139 := qH (show ∀ W, Below wp.heap.size wp W → W.cell? ⟨g2, i * 2 + 1, none⟩ = some (.int .i64 (q.2 : Int)) from fun W hW => CPR.out W hW i q HIMJ.out HMI3.out 1 _ rfl)
     have C123 := qH (show ∀ W, Below wp.heap.size wp W → W.cell? ⟨bn, on + q.1, none⟩ = some (.slice (some ⟨r1, o1, none⟩) kd cr1) from fun W hW => ((HWB.out W hW).cell (p := ⟨bn, on + q.1, none⟩) HR.out.hbn).trans hr1)
     have C141 := qH (show ∀ W, Below wp.heap.size wp W → W.cell? ⟨bn2, on2 + q.2, none⟩ = some (.slice (some ⟨r2, o2, none⟩) ke cr2) from fun W hW => ((HWB.out W hW).cell (p := ⟨bn2, on2 + q.2, none⟩) HRE.out.hbn).trans hr2)
     have C132 := qH (show ∀ W, Below wp.heap.size wp W → W.cell? ⟨r1, o1 + y, none⟩ = some (.int .i64 (v : Int)) from fun W hW => ((HWB.out W hW).cell (p := ⟨r1, o1 + y, none⟩) hr1l).trans hr1c)
     have C150 := qH (show ∀ W, Below wp.heap.size wp W → W.cell? ⟨r2, o2 + ye, none⟩ = some (.int .i64 (ve : Int)) from fun W hW => ((HWB.out W hW).cell (p := ⟨r2, o2 + ye, none⟩) hr2l).trans hr2c)
     have z3 : (b : Int) < 256 := Int.ofNat_lt.2 HB256.out
     have HT := qH ht
     subst haf
     clear hb hy hye hv hve ht hr1 hr1l hr1c hr2 hr2l hr2c hbf hcf
     go_wp2_with fail
     refine mc_start (fun V => Below wp.heap.size wp V) (fun _ => True) 39 (by kernel_rfl) (fun wd hwd => ?_)
     have hX : Below wp.heap.size wp wd := by rw [hwd]; exact (Below.refl _ _).drew
     have hY : True := trivial
     clear hwd
     refine mc_take (i := 0) (oi := ⟨some 115, _, _, _, _, _⟩) (v := ?_) rfl (by kernel_rfl) (by kernel_rfl) (by kernel_rfl) (fun _ _ _ h => h) rfl hX ?_ ?_; rotate_left; (intro W hW; go_simp; try with_reducible rfl); simp only [Act.put, qA, qB, qC]
     refine mc_take (i := 1) (oi := ⟨some 116, _, _, _, _, _⟩) (v := .slice (some ⟨bn, on, none⟩) nD cn) rfl (by kernel_rfl) (by kernel_rfl) (by kernel_rfl) (fun _ _ _ h => h) rfl hX (fun W hW => lk_ldIss (.tmp 115) rfl rfl (C116.out W hW)) ?_; simp only [Act.put, qA, qB, qC]
     refine mc_take (i := 2) (oi := ⟨some 117, _, _, _, _, _⟩) (v := ?_) rfl (by kernel_rfl) (by kernel_rfl) (by kernel_rfl) (fun _ _ _ h => h) rfl hX ?_ ?_; rotate_left; (intro W hW; go_simp; try with_reducible rfl); simp only [Act.put, qA, qB, qC]
     refine mc_take (i := 3) (oi := ⟨some 118, _, _, _, _, _⟩) (v := ?_) rfl (by kernel_rfl) (by kernel_rfl) (by kernel_rfl) (fun _ _ _ h => h) rfl hX ?_ ?_; rotate_left; (intro W hW; go_simp; try with_reducible rfl); simp only [Act.put, qA, qB, qC]
     refine mc_take (i := 4) (oi := ⟨some 119, _, _, _, _, _⟩) (v := .pointer (some ⟨g2, i * 2, none⟩)) rfl (by kernel_rfl) (by kernel_rfl) (by kernel_rfl) (fun _ _ _ h => h) rfl hX (fun W _ => px_ix0 (.tmp 117) (.tmp 118) rfl rfl rfl HIMJ.out W) ?_; simp only [Act.put, qA, qB, qC]
     refine mc_take (i := 5) (oi := ⟨some 120, _, _, _, _, _⟩) (v := .pointer (some ⟨g2, i * 2, none⟩)) rfl (by kernel_rfl) (by kernel_rfl) (by kernel_rfl) (fun _ _ _ h => h) rfl hX (fun W _ => px_i0 (.tmp 119) rfl rfl rfl W) ?_; simp only [Act.put, qA, qB, qC]
     refine mc_take (i := 6) (oi := ⟨some 121, _, _, _, _, _⟩) (v := .int .i64 (q.1 : Int)) rfl (by kernel_rfl) (by kernel_rfl) (by kernel_rfl) (fun _ _ _ h => h) rfl hX (fun W hW => lk_ldI (.tmp 120) rfl rfl (C121.out W hW)) ?_; simp only [Act.put, qA, qB, qC]
     refine mc_take (i := 7) (oi := ⟨some 122, _, _, _, _, _⟩) (v := .pointer (some ⟨bn, on + q.1, none⟩)) rfl (by kernel_rfl) (by kernel_rfl) (by kernel_rfl) (fun _ _ _ h => h) rfl hX (fun W _ => lk_ixIs (.tmp 116) (.tmp 121) rfl rfl rfl HQ1.out W) ?_; simp only [Act.put, qA, qB, qC]
     refine mc_take (i := 8) (oi := ⟨some 123, _, _, _, _, _⟩) (v := .slice (some ⟨r1, o1, none⟩) kd cr1) rfl (by kernel_rfl) (by kernel_rfl) (by kernel_rfl) (fun _ _ _ h => h) rfl hX (fun W hW => lk_ldIs (.tmp 122) rfl rfl (C123.out W hW)) ?_; simp only [Act.put, qA, qB, qC]
     refine mc_take (i := 9) (oi := ⟨some 124, _, _, _, _, _⟩) (v := ?_) rfl (by kernel_rfl) (by kernel_rfl) (by kernel_rfl) (fun _ _ _ h => h) rfl hX ?_ ?_; rotate_left; (intro W hW; go_simp; try with_reducible rfl); simp only [Act.put, qA, qB, qC]
     refine mc_take (i := 10) (oi := ⟨some 125, _, _, _, _, _⟩) (v := ?_) rfl (by kernel_rfl) (by kernel_rfl) (by kernel_rfl) (fun _ _ _ h => h) rfl hX ?_ ?_; rotate_left; (intro W hW; go_simp; try with_reducible rfl); simp only [Act.put, qA, qB, qC]
     refine mc_take (i := 11) (oi := ⟨some 126, _, _, _, _, _⟩) (v := .pointer (some ⟨bf, of + j, none⟩)) rfl (by kernel_rfl) (by kernel_rfl) (by kernel_rfl) (fun _ _ _ h => h) rfl hX (fun W _ => lk_ixI (.tmp 124) (.tmp 125) rfl rfl rfl HJK.out W) ?_; simp only [Act.put, qA, qB, qC]
     refine mc_take (i := 12) (oi := ⟨some 127, _, _, _, _, _⟩) (v := .int .i64 (b : Int)) rfl (by kernel_rfl) (by kernel_rfl) (by kernel_rfl) (fun _ _ _ h => h) rfl hX (fun W hW => lk_ldI (.tmp 126) rfl rfl (CFJ.out W hW)) ?_; simp only [Act.put, qA, qB, qC]
     refine mc_take (i := 13) (oi := ⟨some 128, _, _, _, _, _⟩) (v := ?_) rfl (by kernel_rfl) (by kernel_rfl) (by kernel_rfl) (fun _ _ _ h => h) rfl hX ?_ ?_; rotate_left; (intro W hW; go_simp; try with_reducible rfl); simp only [Act.put, qA, qB, qC]
     refine mc_take (i := 14) (oi := ⟨some 129, _, _, _, _, _⟩) (v := ?_) rfl (by kernel_rfl) (by kernel_rfl) (by kernel_rfl) (fun _ _ _ h => h) rfl hX ?_ ?_; rotate_left; (intro W hW; go_simp; try with_reducible rfl); simp only [Act.put, qA, qB, qC]
     refine mc_take (i := 15) (oi := ⟨some 130, _, _, _, _, _⟩) (v := .int .u8 (y : Int)) rfl (by kernel_rfl) (by kernel_rfl) (by kernel_rfl) (fun _ _ _ h => h) rfl hX (fun W hW => lk_ldU (.tmp 129) rfl rfl (C130.out W hW)) ?_; simp only [Act.put, qA, qB, qC]
     refine mc_take (i := 16) (oi := ⟨some 131, _, _, _, _, _⟩) (v := .pointer (some ⟨r1, o1 + y, none⟩)) rfl (by kernel_rfl) (by kernel_rfl) (by kernel_rfl) (fun _ _ _ h => h) rfl hX (fun W _ => lk_ixIu (.tmp 123) (.tmp 130) rfl rfl rfl HYK.out W) ?_; simp only [Act.put, qA, qB, qC]
     refine mc_take (i := 17) (oi := ⟨some 132, _, _, _, _, _⟩) (v := .int .i64 (v : Int)) rfl (by kernel_rfl) (by kernel_rfl) (by kernel_rfl) (fun _ _ _ h => h) rfl hX (fun W hW => lk_ldI (.tmp 131) rfl rfl (C132.out W hW)) ?_; simp only [Act.put, qA, qB, qC]
     refine mc_take (i := 18) (oi := ⟨some 133, _, _, _, _, _⟩) (v := ?_) rfl (by kernel_rfl) (by kernel_rfl) (by kernel_rfl) (fun _ _ _ h => h) rfl hX ?_ ?_; rotate_left; (intro W hW; go_simp; try with_reducible rfl); simp only [Act.put, qA, qB, qC]
     refine mc_take (i := 19) (oi := ⟨some 134, _, _, _, _, _⟩) (v := .slice (some ⟨bn2, on2, none⟩) nE cn2) rfl (by kernel_rfl) (by kernel_rfl) (by kernel_rfl) (fun _ _ _ h => h) rfl hX (fun W hW => lk_ldIss (.tmp 133) rfl rfl (C134.out W hW)) ?_; simp only [Act.put, qA, qB, qC]
     refine mc_take (i := 20) (oi := ⟨some 135, _, _, _, _, _⟩) (v := ?_) rfl (by kernel_rfl) (by kernel_rfl) (by kernel_rfl) (fun _ _ _ h => h) rfl hX ?_ ?_; rotate_left; (intro W hW; go_simp; try with_reducible rfl); simp only [Act.put, qA, qB, qC]
     refine mc_take (i := 21) (oi := ⟨some 136, _, _, _, _, _⟩) (v := ?_) rfl (by kernel_rfl) (by kernel_rfl) (by kernel_rfl) (fun _ _ _ h => h) rfl hX ?_ ?_; rotate_left; (intro W hW; go_simp; try with_reducible rfl); simp only [Act.put, qA, qB, qC]
     refine mc_take (i := 22) (oi := ⟨some 137, _, _, _, _, _⟩) (v := .pointer (some ⟨g2, i * 2, none⟩)) rfl (by kernel_rfl) (by kernel_rfl) (by kernel_rfl) (fun _ _ _ h => h) rfl hX (fun W _ => px_ix0 (.tmp 135) (.tmp 136) rfl rfl rfl HIMJ.out W) ?_; simp only [Act.put, qA, qB, qC]
     refine mc_take (i := 23) (oi := ⟨some 138, _, _, _, _, _⟩) (v := .pointer (some ⟨g2, i * 2 + 1, none⟩)) rfl (by kernel_rfl) (by kernel_rfl) (by kernel_rfl) (fun _ _ _ h => h) rfl hX (fun W _ => px_i1 (.tmp 137) rfl rfl rfl W) ?_; simp only [Act.put, qA, qB, qC]
     refine mc_take (i := 24) (oi := ⟨some 139, _, _, _, _, _⟩) (v := .int .i64 (q.2 : Int)) rfl (by kernel_rfl) (by kernel_rfl) (by kernel_rfl) (fun _ _ _ h => h) rfl hX (fun W hW => lk_ldI (.tmp 138) rfl rfl (C139.out W hW)) ?_; simp only [Act.put, qA, qB, qC]
     refine mc_take (i := 25) (oi := ⟨some 140, _, _, _, _, _⟩) (v := .pointer (some ⟨bn2, on2 + q.2, none⟩)) rfl (by kernel_rfl) (by kernel_rfl) (by kernel_rfl) (fun _ _ _ h => h) rfl hX (fun W _ => lk_ixIs (.tmp 134) (.tmp 139) rfl rfl rfl HQ2.out W) ?_; simp only [Act.put, qA, qB, qC]
     refine mc_take (i := 26) (oi := ⟨some 141, _, _, _, _, _⟩) (v := .slice (some ⟨r2, o2, none⟩) ke cr2) rfl (by kernel_rfl) (by kernel_rfl) (by kernel_rfl) (fun _ _ _ h => h) rfl hX (fun W hW => lk_ldIs (.tmp 140) rfl rfl (C141.out W hW)) ?_; simp only [Act.put, qA, qB, qC]
     refine mc_take (i := 27) (oi := ⟨some 142, _, _, _, _, _⟩) (v := ?_) rfl (by kernel_rfl) (by kernel_rfl) (by kernel_rfl) (fun _ _ _ h => h) rfl hX ?_ ?_; rotate_left; (intro W hW; go_simp; try with_reducible rfl); simp only [Act.put, qA, qB, qC]
     refine mc_take (i := 28) (oi := ⟨some 143, _, _, _, _, _⟩) (v := ?_) rfl (by kernel_rfl) (by kernel_rfl) (by kernel_rfl) (fun _ _ _ h => h) rfl hX ?_ ?_; rotate_left; (intro W hW; go_simp; try with_reducible rfl); simp only [Act.put, qA, qB, qC]
     refine mc_take (i := 29) (oi := ⟨some 144, _, _, _, _, _⟩) (v := .pointer (some ⟨bf, of + j, none⟩)) rfl (by kernel_rfl) (by kernel_rfl) (by kernel_rfl) (fun _ _ _ h => h) rfl hX (fun W _ => lk_ixI (.tmp 142) (.tmp 143) rfl rfl rfl HJK.out W) ?_; simp only [Act.put, qA, qB, qC]
     refine mc_take (i := 30) (oi := ⟨some 145, _, _, _, _, _⟩) (v := .int .i64 (b : Int)) rfl (by kernel_rfl) (by kernel_rfl) (by kernel_rfl) (fun _ _ _ h => h) rfl hX (fun W hW => lk_ldI (.tmp 144) rfl rfl (CFJ.out W hW)) ?_; simp only [Act.put, qA, qB, qC]
     refine mc_take (i := 31) (oi := ⟨some 146, _, _, _, _, _⟩) (v := ?_) rfl (by kernel_rfl) (by kernel_rfl) (by kernel_rfl) (fun _ _ _ h => h) rfl hX ?_ ?_; rotate_left; (intro W hW; go_simp; try with_reducible rfl); simp only [Act.put, qA, qB, qC]
     refine mc_take (i := 32) (oi := ⟨some 147, _, _, _, _, _⟩) (v := ?_) rfl (by kernel_rfl) (by kernel_rfl) (by kernel_rfl) (fun _ _ _ h => h) rfl hX ?_ ?_; rotate_left; (intro W hW; go_simp; try with_reducible rfl); simp only [Act.put, qA, qB, qC]
     refine mc_take (i := 33) (oi := ⟨some 148, _, _, _, _, _⟩) (v := .int .u8 (ye : Int)) rfl (by kernel_rfl) (by kernel_rfl) (by kernel_rfl) (fun _ _ _ h => h) rfl hX (fun W hW => lk_ldU (.tmp 147) rfl rfl (C148.out W hW)) ?_; simp only [Act.put, qA, qB, qC]
     refine mc_take (i := 34) (oi := ⟨some 149, _, _, _, _, _⟩) (v := .pointer (some ⟨r2, o2 + ye, none⟩)) rfl (by kernel_rfl) (by kernel_rfl) (by kernel_rfl) (fun _ _ _ h => h) rfl hX (fun W _ => lk_ixIu (.tmp 141) (.tmp 148) rfl rfl rfl HYE.out W) ?_; simp only [Act.put, qA, qB, qC]
     refine mc_take (i := 35) (oi := ⟨some 150, _, _, _, _, _⟩) (v := .int .i64 (ve : Int)) rfl (by kernel_rfl) (by kernel_rfl) (by kernel_rfl) (fun _ _ _ h => h) rfl hX (fun W hW => lk_ldI (.tmp 149) rfl rfl (C150.out W hW)) ?_; simp only [Act.put, qA, qB, qC]
     refine mc_take (i := 36) (oi := ⟨some 151, _, _, _, _, _⟩) (v := .agg (pr2 (v, ve)).toArray) rfl (by kernel_rfl) (by kernel_rfl) (by kernel_rfl) (fun _ _ _ h => h) rfl hX (fun W _ => px_bld (.tmp 132) (.tmp 150) rfl rfl rfl W) ?_; simp only [Act.put, qA, qB, qC]
     refine mc_actB (i := 37) (o := ⟨some 18, _, _, _, _, _⟩) rfl (by kernel_rfl) rfl (fun K hK => ?_)
     refine wp_newL 70 rfl ip _ (pr2 (0, 0)) hip hp0 rfl ?_
     intro wa hk hb
     obtain ⟨gt, hgt⟩ : ∃ g, g = wd.heap.size := ⟨_, rfl⟩
     rw [← hgt] at hk
     rw [← hgt]
     have KA := qH hk
     have HGT := qH (show wp.heap.size ≤ gt by rw [hgt]; exact hX.size)
     have hX2 := hX.trans (hb.mono hX.size)
     clear hk hb hgt
     refine hK _ _ hX2 trivial ?_
     clear hK K hX
     (try simp only [Act.put, qA, qB, qC])
     have hX := hX2
     clear hX2
     refine mc_actB (i := 38) (o := ⟨none, _, _, _, _, _⟩) rfl (by kernel_rfl) rfl (fun K hK => ?_)
     refine wp_stBlk 70 (.tmp 18) (.tmp 151) rfl gt (pr2 (v, ve)) rfl rfl 70 _ KA.out inf_p2s rfl rfl hX HGT.out ?_
     intro ws hk hb hs ho hbb
     have KT := qH (show Blk ws gt 70 (pr2 t) by rw [HT.out]; exact hk)
     refine hK _ _ hb trivial ?_
     clear hK K hX hY
     have hX := hb
     clear hk hb hs ho hbb
     (try simp only [Act.put, qA, qB, qC])
     refine wpAnyC_done (by kernel_rfl) ?_ _
     have AD := qH (AJ.out.below hX)
     have ED := qH (EJ.out.below hX)
     have SD := qH (Nat.le_trans HHJ.out hX.size)
     have BS := qH hX
     clear hX z3
     go_wp2_with fail
     go_loopw [19] (fun av wl => ∃ a : Nat, a ≤ mj ∧ av = .int .i64 (a : Int) ∧ (∀ x, x < a → M[x]? ≠ some t) ∧ Below ws.heap.size ws wl) (fun av _ => mj - (intOf av).toNat)
     case atStart => exact ⟨0, Nat.zero_le _, rfl, fun x hx => absurd hx (Nat.not_lt_zero x), Below.refl _ _⟩
     obtain ⟨a, ha, rfl, hno, hb⟩ := hrel
     have HA := qH ha
     have HNO := qH hno
     have BA := qH hb
     have AA := qH (AD.out.below hb)
     have EA := qH (ED.out.below hb)
     have SA := qH (Nat.le_trans SD.out hb.size)
     have KTA := qH (KT.out.below hb KT.out.lt)
     have BWA := qH (show Below wp.heap.size wp wr from BS.out.trans (hb.mono BS.out.size))
     clear ha hno hb
     by_cases ham : a < mj
     ·have a1 : (a : Int) < (mj : Int) := Int.ofNat_lt.2 ham
      have HAM := qH ham
      obtain ⟨z, hz⟩ : ∃ z, M[a]? = some z := ⟨_, List.getElem?_eq_getElem (by rw [← HMJL.out]; exact ham)⟩
      have HZ := qH hz
      have CZ := qH (show ∀ W, Below wr.heap.size wr W → W.rangeAt g2 (a * 2) (pr2 z) from fun W hW => CPR.out W (BWA.out.trans (hW.mono BWA.out.size)) a z HAM.out hz)
      have CT := qH (show ∀ W, Below wr.heap.size wr W → W.rangeAt gt 0 (pr2 t) from fun W hW k u hu => by
       rw [Nat.zero_add, (KTA.out.below hW KTA.out.lt).cell k]
       exact hu)
      obtain ⟨d, hd⟩ : ∃ d, decide (z ≠ t) = d := ⟨_, rfl⟩
      have HD := qH hd
      clear ham hz hd
      go_wp2_with fail
      refine mc_start (fun V => Below wr.heap.size wr V) (fun _ => True) 12 (by kernel_rfl) (fun wd2 hwd => ?_)
      have hX : Below wr.heap.size wr wd2 := by rw [hwd]; exact (Below.refl _ _).drew
      clear hwd
      refine mc_take (i := 0) (oi := ⟨some 152, _, _, _, _, _⟩) (v := ?_) rfl (by kernel_rfl) (by kernel_rfl) (by kernel_rfl) (fun _ _ _ h => h) rfl hX ?_ ?_; rotate_left; (intro W hW; go_simp; try with_reducible rfl); simp only [Act.put, qA, qB, qC]
      refine mc_take (i := 1) (oi := ⟨some 153, _, _, _, _, _⟩) (v := ?_) rfl (by kernel_rfl) (by kernel_rfl) (by kernel_rfl) (fun _ _ _ h => h) rfl hX ?_ ?_; rotate_left; (intro W hW; go_simp; try with_reducible rfl); simp only [Act.put, qA, qB, qC]
      refine mc_take (i := 2) (oi := ⟨some 154, _, _, _, _, _⟩) (v := ?_) rfl (by kernel_rfl) (by kernel_rfl) (by kernel_rfl) (fun _ _ _ h => h) rfl hX ?_ ?_; rotate_left; (intro W hW; go_simp; try with_reducible rfl); simp only [Act.put, qA, qB, qC]
      refine mc_take (i := 3) (oi := ⟨some 155, _, _, _, _, _⟩) (v := ?_) rfl (by kernel_rfl) (by kernel_rfl) (by kernel_rfl) (fun _ _ _ h => h) rfl hX ?_ ?_; rotate_left; (intro W hW; go_simp; try with_reducible rfl); simp only [Act.put, qA, qB, qC]
      refine mc_take (i := 4) (oi := ⟨some 156, _, _, _, _, _⟩) (v := ?_) rfl (by kernel_rfl) (by kernel_rfl) (by kernel_rfl) (fun _ _ _ h => h) rfl hX ?_ ?_; rotate_left; (intro W hW; go_simp; try with_reducible rfl); simp only [Act.put, qA, qB, qC]
      refine mc_take (i := 5) (oi := ⟨some 157, _, _, _, _, _⟩) (v := ?_) rfl (by kernel_rfl) (by kernel_rfl) (by kernel_rfl) (fun _ _ _ h => h) rfl hX ?_ ?_; rotate_left; (intro W hW; go_simp; try with_reducible rfl); simp only [Act.put, qA, qB, qC]
      refine mc_take (i := 6) (oi := ⟨some 158, _, _, _, _, _⟩) (v := ?_) rfl (by kernel_rfl) (by kernel_rfl) (by kernel_rfl) (fun _ _ _ h => h) rfl hX ?_ ?_; rotate_left; (intro W hW; go_simp; try with_reducible rfl); simp only [Act.put, qA, qB, qC]
      refine mc_take (i := 7) (oi := ⟨some 159, _, _, _, _, _⟩) (v := .pointer (some ⟨g2, a * 2, none⟩)) rfl (by kernel_rfl) (by kernel_rfl) (by kernel_rfl) (fun _ _ _ h => h) rfl hX (fun W _ => px_ix0 (.tmp 157) (.tmp 158) rfl rfl rfl HAM.out W) ?_; simp only [Act.put, qA, qB, qC]
      refine mc_take (i := 8) (oi := ⟨some 160, _, _, _, _, _⟩) (v := .agg (pr2 z).toArray) rfl (by kernel_rfl) (by kernel_rfl) (by kernel_rfl) (fun _ _ _ h => h) rfl hX (fun W hW => px_ld (.tmp 159) rfl rfl (CZ.out W hW)) ?_; simp only [Act.put, qA, qB, qC]
      refine mc_take (i := 9) (oi := ⟨some 161, _, _, _, _, _⟩) (v := .agg (pr2 t).toArray) rfl (by kernel_rfl) (by kernel_rfl) (by kernel_rfl) (fun _ _ _ h => h) rfl hX (fun W hW => px_ld (.tmp 18) rfl rfl (CT.out W hW)) ?_; simp only [Act.put, qA, qB, qC]
      refine mc_take (i := 10) (oi := ⟨some 162, _, _, _, _, _⟩) (v := .bool d) rfl (by kernel_rfl) (by kernel_rfl) (by kernel_rfl) (fun _ _ _ h => h) rfl hX (fun W _ => px_neB (.tmp 160) (.tmp 161) _ rfl rfl rfl HD.out W) ?_; simp only [Act.put, qA, qB, qC]
      refine mc_take (i := 11) (oi := ⟨some 163, _, _, _, _, _⟩) (v := ?_) rfl (by kernel_rfl) (by kernel_rfl) (by kernel_rfl) (fun _ _ _ h => h) rfl hX ?_ ?_; rotate_left; (intro W hW; go_simp; try with_reducible rfl); simp only [Act.put, qA, qB, qC]
      refine wpAnyC_done (by kernel_rfl) ?_ _
      have AA2 := qH (AA.out.below hX)
      have EA2 := qH (EA.out.below hX)
      have SA2 := qH (Nat.le_trans SA.out hX.size)
      have BA2 := qH (BA.out.trans (hX.mono BA.out.size))
      clear hX
      by_cases hzt : z = t
      ·have hd : d = false := by rw [← HD.out, hzt]; simp
       subst hd
       have x4 : ((a : Int) == (mj : Int)) = false := by rw [beq_eq_false_iff_ne]; exact fun e => Nat.ne_of_lt HAM.out (Int.ofNat_inj.1 e)
       have HH1 := qH (show t ∈ M ∧ ixOf M t = a from ⟨List.mem_of_getElem? (hzt ▸ HZ.out), idx_is HNDP.out (hzt ▸ HZ.out)⟩)
       have HST := qH (show Lj (j + 1) = M ∧ Rw.take (j + 1) = rl ++ [(a : Int)] by
        rcases STP.out with h | h
        ·refine ⟨h.2.1, ?_⟩
         rw [h.2.2, HH1.out.2]
        ·exact absurd HH1.out.1 h.1)
       have HRT := qH HST.out.2
       have MA := qH (show MdP qf x0 ef True i V Y el (Lj (j + 1)) by rw [HST.out.1, HME2.out]; exact MJ.out)
       have LB2 := qH (show (Lj (j + 1)).length ≤ most + 1 by rw [HST.out.1, ← HMJL.out]; exact HMJN.out)
       have HBR := qH (show j + (nums .i64 [(a : Int)]).length ≤ 2097152 from bnd_2000 HJK.out (Nat.le_trans HK256.out (by decide)))
       have X3R := qH (show Y (i + 3) = nums .i64 rl by rw [X3.out, HRL.out])
       clear hzt
       go_wp2_with (first
        | ((with_reducible refine atDst 176 ?_); refine wpList_plain rfl fun K hK => wp_bldI 47 3 (.tmp 175) rfl i1 Try.underlying47 hi1 0 hy0 hy1 (a : Int) rfl ?_; intro wb hr hb; have RB := qH hr; have AB := qH (AA2.out.below hb); have EB := qH (EA2.out.below hb); have SB := qH (Nat.le_trans SA2.out hb.size); have OB := qH (aps_at3 AB.out HV3.out X3R.out HRLL.out); clear hr hb; refine hK _ _ ?_; clear hK K; (try simp only [Act.put, qA, qB, qC]))
        | ((with_reducible refine atDst 177 ?_); refine wpList_appW (base := H) rfl (.tmp 174) (.tmp 176) 47 rfl 3 i1 (.int .i64 0) 8 Try.underlying47 hi1 hy0 hy1 hy2 rfl _ _ (nums .i64 rl) rfl OB.out _ (nums .i64 [(a : Int)]) rfl RB.out (nums_one _ _) HBR.out (by decide) SB.out ?_; intro v9 wc ho hgr hwr; have AC := qH (aps_row AB.out HV3.out (r' := rl ++ [(a : Int)]) (ho_snoc ho) hgr hwr); have BC := qH (show Below H wb wc from below_own (Below.refl H wb) SB.out hgr fun q hq => (own6_lt OB.out q hq).2); have EC := qH (EB.out.off HGHH.out HFH.out BC.out); have SC := qH (Nat.le_trans SB.out BC.out.size); clear ho hgr hwr; (try simp only [Act.put, qA, qB, qC])))
       refine ⟨⟨j + 1, _, _, HJK.out, by congr 1, ?_, (by rw [Nat.add_comm i 3, putV_at]), AC.out, ?_, MA.out.rowU (fun _ => HIL.out), ?_, LB2.out, SC.out⟩, by simpa [intOf] using HMJ.out⟩
       ·rw [putV_ne (n32 i)]
        exact HV2.out.symm
       ·rw [putV_ne (n30 i), putV_ne (n31 i)]
        exact EC.out
       ·rw [Nat.add_comm i 3, putX_at, HRT.out]
      ·have hd : d = true := by rw [← HD.out]; exact decide_eq_true hzt
       subst hd
       have HNO2 := qH (show ∀ x, x < a + 1 → M[x]? ≠ some t from fun x hx e => by
        rcases Nat.lt_or_ge x a with h | h
        ·exact HNO.out x h e
        ·have e2 : x = a := Nat.le_antisymm (Nat.le_of_lt_succ hx) h
         rw [e2, HZ.out] at e
         exact hzt (Option.some.inj e))
       have g3 := wrap_one a (bndP_w HA.out HMJN.out HMO.out)
       have g4 := wrap_one' a (bndP_w HA.out HMJN.out HMO.out)
       have HMA := qH (sub_next HAM.out)
       clear hzt
       go_wp2_with fail
       exact ⟨⟨a + 1, HAM.out, by congr 1, HNO2.out, BA2.out⟩, by simpa [intOf] using HMA.out⟩
     ·obtain rfl : mj = a := Nat.le_antisymm (Nat.le_of_not_lt ham) HA.out
      have a1 : ¬ (mj : Int) < (mj : Int) := Int.lt_irrefl _
      have x4 : ((mj : Int) == (mj : Int)) = true := by simp
      have HNI := qH (srchP_none (y := t) fun x hx => HNO.out x (by rw [HMJL.out]; exact hx))
      have HST := qH (show Lj (j + 1) = M ++ [t] ∧ Rw.take (j + 1) = rl ++ [(mj : Int)] by
       rcases STP.out with h | h
       ·exact absurd h.1 HNI.out
       ·exact h.2)
      have HRT := qH HST.out.2
      have LB2 := qH (show (Lj (j + 1)).length ≤ most + 1 by rw [HST.out.1, List.length_append, List.length_singleton, ← HMJL.out]; exact Nat.succ_le_succ HMJM.out)
      have HBR := qH (show j + (nums .i64 [(mj : Int)]).length ≤ 2097152 from bnd_2000 HJK.out (Nat.le_trans HK256.out (by decide)))
      have HBO := qH (show M.length + 1 ≤ 1048576 by rw [← HMJL.out]; exact bndP_m HMJN.out HMO.out)
      have X3R := qH (show Y (i + 3) = nums .i64 rl by rw [X3.out, HRL.out])
      have Y2 := qH (show Y 2 = prs M by rw [MJ.out.a2, HME2.out])
      clear ham
      go_wp2_with fail
      refine mc_start (fun V => Below wr.heap.size wr V) (fun _ => True) 12 (by kernel_rfl) (fun wd2 hwd => ?_)
      have hX : Below wr.heap.size wr wd2 := by rw [hwd]; exact (Below.refl _ _).drew
      clear hwd
      refine mc_take (i := 0) (oi := ⟨some 152, _, _, _, _, _⟩) (v := ?_) rfl (by kernel_rfl) (by kernel_rfl) (by kernel_rfl) (fun _ _ _ h => h) rfl hX ?_ ?_; rotate_left; (intro W hW; go_simp; try with_reducible rfl); simp only [Act.put, qA, qB, qC]
      refine mc_take (i := 1) (oi := ⟨some 153, _, _, _, _, _⟩) (v := ?_) rfl (by kernel_rfl) (by kernel_rfl) (by kernel_rfl) (fun _ _ _ h => h) rfl hX ?_ ?_; rotate_left; (intro W hW; go_simp; try with_reducible rfl); simp only [Act.put, qA, qB, qC]
      refine mc_take (i := 2) (oi := ⟨some 154, _, _, _, _, _⟩) (v := ?_) rfl (by kernel_rfl) (by kernel_rfl) (by kernel_rfl) (fun _ _ _ h => h) rfl hX ?_ ?_; rotate_left; (intro W hW; go_simp; try with_reducible rfl); simp only [Act.put, qA, qB, qC]
      refine mc_take (i := 3) (oi := ⟨some 155, _, _, _, _, _⟩) (v := ?_) rfl (by kernel_rfl) (by kernel_rfl) (by kernel_rfl) (fun _ _ _ h => h) rfl hX ?_ ?_; rotate_left; (intro W hW; go_simp; try with_reducible rfl); simp only [Act.put, qA, qB, qC]
      refine mc_take (i := 4) (oi := ⟨some 156, _, _, _, _, _⟩) (v := ?_) rfl (by kernel_rfl) (by kernel_rfl) (by kernel_rfl) (fun _ _ _ h => h) rfl hX ?_ ?_; rotate_left; (intro W hW; go_simp; try with_reducible rfl); simp only [Act.put, qA, qB, qC]
      refine mc_skip (i := 5) (oi := ⟨some 157, _, _, _, _, _⟩) rfl (by kernel_rfl) (by kernel_rfl) (by kernel_rfl) (fun _ _ _ h => h) rfl hX ?_; simp only [Act.put, qA, qB, qC]
      refine mc_skip (i := 6) (oi := ⟨some 158, _, _, _, _, _⟩) rfl (by kernel_rfl) (by kernel_rfl) (by kernel_rfl) (fun _ _ _ h => h) rfl hX ?_; simp only [Act.put, qA, qB, qC]
      refine mc_skip (i := 7) (oi := ⟨some 159, _, _, _, _, _⟩) rfl (by kernel_rfl) (by kernel_rfl) (by kernel_rfl) (fun _ _ _ h => h) rfl hX ?_; simp only [Act.put, qA, qB, qC]
      refine mc_skip (i := 8) (oi := ⟨some 160, _, _, _, _, _⟩) rfl (by kernel_rfl) (by kernel_rfl) (by kernel_rfl) (fun _ _ _ h => h) rfl hX ?_; simp only [Act.put, qA, qB, qC]
      refine mc_skip (i := 9) (oi := ⟨some 161, _, _, _, _, _⟩) rfl (by kernel_rfl) (by kernel_rfl) (by kernel_rfl) (fun _ _ _ h => h) rfl hX ?_; simp only [Act.put, qA, qB, qC]
      refine mc_skip (i := 10) (oi := ⟨some 162, _, _, _, _, _⟩) rfl (by kernel_rfl) (by kernel_rfl) (by kernel_rfl) (fun _ _ _ h => h) rfl hX ?_; simp only [Act.put, qA, qB, qC]
      refine mc_take (i := 11) (oi := ⟨some 163, _, _, _, _, _⟩) (v := ?_) rfl (by kernel_rfl) (by kernel_rfl) (by kernel_rfl) (fun _ _ _ h => h) rfl hX ?_ ?_; rotate_left; (intro W hW; go_simp; try with_reducible rfl); simp only [Act.put, qA, qB, qC]
      refine wpAnyC_done (by kernel_rfl) ?_ _
      have AA2 := qH (AA.out.below hX)
      have EA2 := qH (EA.out.below hX)
      have SA2 := qH (Nat.le_trans SA.out hX.size)
      have KT2 := qH (KTA.out.below hX KTA.out.lt)
      clear hX
      go_wp2_with (first
        | ((with_reducible refine atDst 171 ?_); refine wpList_ldArr rfl 70 _ rfl gt rfl 70 _ _ KT2.out Try.underlying70 rfl inf_p2s ?_; (try simp only [Act.put, qA, qB, qC]))
        | ((with_reducible refine atDst 172 ?_); refine wpList_plain rfl fun K hK => px_bld1 (.tmp 171) rfl t rfl ?_; intro wx hr hb; have RX := qH hr; have AX := qH (AA2.out.below hb); have EX := qH (EA2.out.below hb); have SX := qH (Nat.le_trans SA2.out hb.size); have OX := qH (aps_at2 AX.out (l32s i) HV2.out Y2.out rfl); clear hr hb; refine hK _ _ ?_; clear hK K; (try simp only [Act.put, qA, qB, qC]))
        | ((with_reducible refine atDst 173 ?_); refine wpList_plain rfl fun K hK => px_app (base := H) (.tmp 170) (.tmp 172) rfl _ M rfl OX.out _ _ _ t rfl RX.out HBO.out SX.out ?_; intro v8 wy ho hgr hwr; have AY := qH (aps_list AX.out (l32s i) HV2.out (M := M ++ [t]) ho hgr hwr); have BY := qH (show Below H wx wy from below_own (Below.refl H wx) SX.out hgr fun q hq => (own6_lt OX.out q hq).2); have EY := qH (show EnvL w5 wy gd H1 cl (putV V 2 v8 0) (putV V 2 v8 1) _ kk xs from (by rw [putV_ne (by decide), putV_ne (by decide)]; exact EX.out.off HGHH.out HFH.out BY.out)); have SY := qH (Nat.le_trans SX.out BY.out.size); have MY := qH (show MdP qf x0 ef True i (putV V 2 v8) (putX Y 2 (prs (M ++ [t]))) el (Lj (j + 1)) from (by rw [HST.out.1]; refine MdP.push (M := M) ?_ t; rw [HME2.out]; exact MJ.out)); have V3Y := qH (show putV V 2 v8 (i + 3) = .slice A3 j c3 from (by rw [putV_ne (ni32 i)]; exact HV3.out)); have X3Y := qH (show putX Y 2 (prs (M ++ [t])) (i + 3) = nums .i64 rl from (by rw [putX_ne (ni32 i)]; exact X3R.out)); clear ho hgr hwr; refine hK _ _ ?_; clear hK K; (try simp only [Act.put, qA, qB, qC]))
        | ((with_reducible refine atDst 176 ?_); refine wpList_plain rfl fun K hK => wp_bldI 47 3 (.tmp 175) rfl i1 Try.underlying47 hi1 0 hy0 hy1 (mj : Int) rfl ?_; intro wb hr hb; have RB := qH hr; have AB := qH (AY.out.below hb); have EB := qH (EY.out.below hb); have SB := qH (Nat.le_trans SY.out hb.size); have OB := qH (aps_at3 AB.out V3Y.out X3Y.out HRLL.out); clear hr hb; refine hK _ _ ?_; clear hK K; (try simp only [Act.put, qA, qB, qC]))
        | ((with_reducible refine atDst 177 ?_); refine wpList_appW (base := H) rfl (.tmp 174) (.tmp 176) 47 rfl 3 i1 (.int .i64 0) 8 Try.underlying47 hi1 hy0 hy1 hy2 rfl _ _ (nums .i64 rl) rfl OB.out _ (nums .i64 [(mj : Int)]) rfl RB.out (nums_one _ _) HBR.out (by decide) SB.out ?_; intro v9 wc ho hgr hwr; have AC := qH (aps_row AB.out V3Y.out (r' := rl ++ [(mj : Int)]) (ho_snoc ho) hgr hwr); have BC := qH (show Below H wb wc from below_own (Below.refl H wb) SB.out hgr fun q hq => (own6_lt OB.out q hq).2); have EC := qH (EB.out.off HGHH.out HFH.out BC.out); have SC := qH (Nat.le_trans SB.out BC.out.size); clear ho hgr hwr; (try simp only [Act.put, qA, qB, qC])))
      refine ⟨⟨j + 1, _, _, HJK.out, by congr 1, ?_, (by rw [Nat.add_comm i 3, putV_at]), AC.out, ?_, MY.out.rowU (fun _ => HIL.out), ?_, LB2.out, SC.out⟩, by simpa [intOf] using HMJ.out⟩
      ·rw [putV_ne (n32 i)]
       exact (putV_at _ _ _).symm
      ·rw [putV_ne (n30 i), putV_ne (n31 i)]
       exact EC.out
      ·rw [Nat.add_comm i 3, putX_at, HRT.out]
   ·have HFULL := qH (show mj ≤ most → j = kk from fun h => Nat.le_antisymm HJ.out (Nat.le_of_not_lt fun h2 => hjk ⟨h2, h⟩))
    have ON := qH (show wp.ownsRow H 47 1 (V 0) i ((List.range i).map fun q => V (q + 3)) by
     have h1 := AJ.out.own1 (i := 0) (by omega) rfl
     rw [MJ.out.a0, List.length_map, List.length_range] at h1
     exact h1)
    have OE := qH (show wp.ownsRow H 4 1 (V 1) i (bools el) by
     have h1 := AJ.out.own1 (i := 1) (by omega) rfl
     rw [MJ.out.a1, bools_length, MJ.out.len] at h1
     exact h1)
    obtain ⟨An, cnn, hu0⟩ := ownC_slice ON.out
    obtain ⟨Ae, cen, hu1⟩ := ownC_slice OE.out
    have HU0 := qH hu0
    have HU1 := qH hu1
    have EJ2 := qH (show EnvL w5 wp gd H1 cl (.slice An i cnn) (.slice Ae i cen) (.slice Af kk cf) kk xs by rw [← hu0, ← hu1]; exact EJ.out)
    obtain ⟨xa, hxa⟩ : ∃ b, D.ends.getD q.1 false = b := ⟨_, rfl⟩
    obtain ⟨xb, hxb⟩ : ∃ b, E.ends.getD q.2 false = b := ⟨_, rfl⟩
    have HBZ := qH (show ef q = opP how xa xb by rw [HEF.out, ← hxa, ← hxb]; rfl)
    have KP := qH (show ∀ W, Below wp.heap.size wp W → Blk W w.heap.size 28 cs from fun W hW => K5.out.below (EJ.out.bel.trans (hW.mono (Nat.le_of_lt EJ.out.blk.lt))) HAG.out)
    have LP := qH (show ∀ W, Below wp.heap.size wp W → Blk W w1.heap.size 28 es from fun W hW => L5.out.below (EJ.out.bel.trans (hW.mono (Nat.le_of_lt EJ.out.blk.lt))) HBG.out)
    have C179 := qH (show ∀ W, Below wp.heap.size wp W → W.cell? ⟨w.heap.size, 257, none⟩ = some (.slice (some ⟨be, oe, none⟩) nD ce) from fun W hW => ((KP.out W hW).cell 257).trans (by rw [HCS.out]; exact dcl_e HL.out))
    have C188 := qH (show ∀ W, Below wp.heap.size wp W → W.cell? ⟨w1.heap.size, 257, none⟩ = some (.slice (some ⟨be2, oe2, none⟩) nE ce2) from fun W hW => ((LP.out W hW).cell 257).trans (by rw [HCE.out]; exact dcl_e HLE2.out))
    have CPR := qH (show ∀ W, Below wp.heap.size wp W → ∀ a z, a < mj → M[a]? = some z → W.rangeAt g2 (a * 2) (pr2 z) from fun W hW a z ha hz k u hu => (hW.cell (p := ⟨g2, a * 2 + k, none⟩) HG2L.out).trans (HPR.out a z ha hz k u hu))
    have C184 := qH (show ∀ W, Below wp.heap.size wp W → W.cell? ⟨g2, i * 2, none⟩ = some (.int .i64 (q.1 : Int)) from fun W hW => CPR.out W hW i q HIMJ.out HMI3.out 0 _ rfl)
    have C193 := qH (show ∀ W, Below wp.heap.size wp W → W.cell? ⟨g2, i * 2 + 1, none⟩ = some (.int .i64 (q.2 : Int)) from fun W hW => CPR.out W hW i q HIMJ.out HMI3.out 1 _ rfl)
    have C186 := qH (show ∀ W, Below wp.heap.size wp W → W.cell? ⟨be, oe + q.1, none⟩ = some (.bool xa) from fun W hW => ((HWB.out W hW).cell (p := ⟨be, oe + q.1, none⟩) HR.out.hbe).trans (by rw [HR.out.ends q.1 HQ1.out, hxa]))
    have C195 := qH (show ∀ W, Below wp.heap.size wp W → W.cell? ⟨be2, oe2 + q.2, none⟩ = some (.bool xb) from fun W hW => ((HWB.out W hW).cell (p := ⟨be2, oe2 + q.2, none⟩) HRE.out.hbe).trans (by rw [HRE.out.ends q.2 HQ2.out, hxb]))
    have HB1 := qH (show i + [Value.slice A3 j c3].length ≤ 2097152 from bndP_i (Nat.le_of_lt HIMJ.out) HMJN.out HMO.out)
    have HB4 := qH (show i + [Value.bool (ef q)].length ≤ 2097152 from bndP_i (Nat.le_of_lt HIMJ.out) HMJN.out HMO.out)
    have HSW := qH (show H ≤ wp.heap.size from HHJ.out)
    have MM := qH (show MdP qf x0 ef True i V Y el M by rw [HME2.out]; exact MJ.out)
    have X3R := qH (show Y (i + 3) = nums .i64 rl by rw [X3.out, HRL.out])
    have HRW := qH (show M.length ≤ most → rl = rowI (Lq qf x0 (i + 1)) (qf q) from fun hg => by
     rw [HRL.out, HFULL.out (by rw [HMJL.out]; exact hg), List.take_of_length_le (Nat.le_of_eq IN.out.len)]
     exact IN.out.row)
    have SM1 := qH (show M.length ≤ most → M = Lq qf x0 (i + 1) from fun hg => by
     rw [HME2.out, HFULL.out (by rw [HMJL.out]; exact hg)]
     exact IN.out.all)
    have SM2 := qH (show most < M.length → ∀ n, FitPr D E n → most < n from fun h => bud_over (i := i + 1) (L := M) (by rw [HLQ.out, HME2.out]; exact IN.out.le j) h)
    have HI2 := qH (show i + 1 ≤ M.length by rw [← HMJL.out]; exact HIMJ.out)
    have HMB2 := qH (show M.length ≤ most + 1 by rw [← HMJL.out]; exact HMJN.out)
    clear hu0 hu1 hxa hxb
    by_cases hj1 : j < kk
    case' pos =>
     have k1 : (j : Int) < (kk : Int) := Int.ofNat_lt.2 hj1
     have k2 : ¬ ((mj : Int) ≤ (most : Int)) := fun h => hjk ⟨hj1, Int.ofNat_le.1 h⟩
     clear hj1 hjk
     go_wp2_with fail
     clear k1 k2
    case' neg =>
     have k1 : ¬ ((j : Int) < (kk : Int)) := fun h => hj1 (Int.ofNat_lt.1 h)
     clear hj1 hjk
     go_wp2_with fail
     clear k1
    all_goals
     refine mc_start (fun V => Below wp.heap.size wp V) (fun _ => True) 20 (by kernel_rfl) (fun wd hwd => ?_)
     have hX : Below wp.heap.size wp wd := by rw [hwd]; exact (Below.refl _ _).drew
     clear hwd
     refine mc_take (i := 0) (oi := ⟨some 178, _, _, _, _, _⟩) (v := ?_) rfl (by kernel_rfl) (by kernel_rfl) (by kernel_rfl) (fun _ _ _ h => h) rfl hX ?_ ?_; rotate_left; (intro W hW; go_simp; try with_reducible rfl); simp only [Act.put, qA, qB, qC]
     refine mc_take (i := 1) (oi := ⟨some 179, _, _, _, _, _⟩) (v := .slice (some ⟨be, oe, none⟩) nD ce) rfl (by kernel_rfl) (by kernel_rfl) (by kernel_rfl) (fun _ _ _ h => h) rfl hX (fun W hW => lk_ldBs (.tmp 178) rfl rfl (C179.out W hW)) ?_; simp only [Act.put, qA, qB, qC]
     refine mc_take (i := 2) (oi := ⟨some 180, _, _, _, _, _⟩) (v := ?_) rfl (by kernel_rfl) (by kernel_rfl) (by kernel_rfl) (fun _ _ _ h => h) rfl hX ?_ ?_; rotate_left; (intro W hW; go_simp; try with_reducible rfl); simp only [Act.put, qA, qB, qC]
     refine mc_take (i := 3) (oi := ⟨some 181, _, _, _, _, _⟩) (v := ?_) rfl (by kernel_rfl) (by kernel_rfl) (by kernel_rfl) (fun _ _ _ h => h) rfl hX ?_ ?_; rotate_left; (intro W hW; go_simp; try with_reducible rfl); simp only [Act.put, qA, qB, qC]
     refine mc_take (i := 4) (oi := ⟨some 182, _, _, _, _, _⟩) (v := .pointer (some ⟨g2, i * 2, none⟩)) rfl (by kernel_rfl) (by kernel_rfl) (by kernel_rfl) (fun _ _ _ h => h) rfl hX (fun W _ => px_ix0 (.tmp 180) (.tmp 181) rfl rfl rfl HIMJ.out W) ?_; simp only [Act.put, qA, qB, qC]
     refine mc_take (i := 5) (oi := ⟨some 183, _, _, _, _, _⟩) (v := .pointer (some ⟨g2, i * 2, none⟩)) rfl (by kernel_rfl) (by kernel_rfl) (by kernel_rfl) (fun _ _ _ h => h) rfl hX (fun W _ => px_i0 (.tmp 182) rfl rfl rfl W) ?_; simp only [Act.put, qA, qB, qC]
     refine mc_take (i := 6) (oi := ⟨some 184, _, _, _, _, _⟩) (v := .int .i64 (q.1 : Int)) rfl (by kernel_rfl) (by kernel_rfl) (by kernel_rfl) (fun _ _ _ h => h) rfl hX (fun W hW => lk_ldI (.tmp 183) rfl rfl (C184.out W hW)) ?_; simp only [Act.put, qA, qB, qC]
     refine mc_take (i := 7) (oi := ⟨some 185, _, _, _, _, _⟩) (v := .pointer (some ⟨be, oe + q.1, none⟩)) rfl (by kernel_rfl) (by kernel_rfl) (by kernel_rfl) (fun _ _ _ h => h) rfl hX (fun W _ => lk_ixB (.tmp 179) (.tmp 184) rfl rfl rfl HQ1.out W) ?_; simp only [Act.put, qA, qB, qC]
     refine mc_take (i := 8) (oi := ⟨some 186, _, _, _, _, _⟩) (v := .bool xa) rfl (by kernel_rfl) (by kernel_rfl) (by kernel_rfl) (fun _ _ _ h => h) rfl hX (fun W hW => lk_ldB (.tmp 185) rfl rfl (C186.out W hW)) ?_; simp only [Act.put, qA, qB, qC]
     refine mc_take (i := 9) (oi := ⟨some 187, _, _, _, _, _⟩) (v := ?_) rfl (by kernel_rfl) (by kernel_rfl) (by kernel_rfl) (fun _ _ _ h => h) rfl hX ?_ ?_; rotate_left; (intro W hW; go_simp; try with_reducible rfl); simp only [Act.put, qA, qB, qC]
     refine mc_take (i := 10) (oi := ⟨some 188, _, _, _, _, _⟩) (v := .slice (some ⟨be2, oe2, none⟩) nE ce2) rfl (by kernel_rfl) (by kernel_rfl) (by kernel_rfl) (fun _ _ _ h => h) rfl hX (fun W hW => lk_ldBs (.tmp 187) rfl rfl (C188.out W hW)) ?_; simp only [Act.put, qA, qB, qC]
     refine mc_take (i := 11) (oi := ⟨some 189, _, _, _, _, _⟩) (v := ?_) rfl (by kernel_rfl) (by kernel_rfl) (by kernel_rfl) (fun _ _ _ h => h) rfl hX ?_ ?_; rotate_left; (intro W hW; go_simp; try with_reducible rfl); simp only [Act.put, qA, qB, qC]
     refine mc_take (i := 12) (oi := ⟨some 190, _, _, _, _, _⟩) (v := ?_) rfl (by kernel_rfl) (by kernel_rfl) (by kernel_rfl) (fun _ _ _ h => h) rfl hX ?_ ?_; rotate_left; (intro W hW; go_simp; try with_reducible rfl); simp only [Act.put, qA, qB, qC]
     refine mc_take (i := 13) (oi := ⟨some 191, _, _, _, _, _⟩) (v := .pointer (some ⟨g2, i * 2, none⟩)) rfl (by kernel_rfl) (by kernel_rfl) (by kernel_rfl) (fun _ _ _ h => h) rfl hX (fun W _ => px_ix0 (.tmp 189) (.tmp 190) rfl rfl rfl HIMJ.out W) ?_; simp only [Act.put, qA, qB, qC]
     refine mc_take (i := 14) (oi := ⟨some 192, _, _, _, _, _⟩) (v := .pointer (some ⟨g2, i * 2 + 1, none⟩)) rfl (by kernel_rfl) (by kernel_rfl) (by kernel_rfl) (fun _ _ _ h => h) rfl hX (fun W _ => px_i1 (.tmp 191) rfl rfl rfl W) ?_; simp only [Act.put, qA, qB, qC]
     refine mc_take (i := 15) (oi := ⟨some 193, _, _, _, _, _⟩) (v := .int .i64 (q.2 : Int)) rfl (by kernel_rfl) (by kernel_rfl) (by kernel_rfl) (fun _ _ _ h => h) rfl hX (fun W hW => lk_ldI (.tmp 192) rfl rfl (C193.out W hW)) ?_; simp only [Act.put, qA, qB, qC]
     refine mc_take (i := 16) (oi := ⟨some 194, _, _, _, _, _⟩) (v := .pointer (some ⟨be2, oe2 + q.2, none⟩)) rfl (by kernel_rfl) (by kernel_rfl) (by kernel_rfl) (fun _ _ _ h => h) rfl hX (fun W _ => lk_ixB (.tmp 188) (.tmp 193) rfl rfl rfl HQ2.out W) ?_; simp only [Act.put, qA, qB, qC]
     refine mc_take (i := 17) (oi := ⟨some 195, _, _, _, _, _⟩) (v := .bool xb) rfl (by kernel_rfl) (by kernel_rfl) (by kernel_rfl) (fun _ _ _ h => h) rfl hX (fun W hW => lk_ldB (.tmp 194) rfl rfl (C195.out W hW)) ?_; simp only [Act.put, qA, qB, qC]
     refine mc_take (i := 18) (oi := ⟨some 20, _, _, _, _, _⟩) (v := ?_) rfl (by kernel_rfl) (by kernel_rfl) (by kernel_rfl) (fun _ _ _ h => h) rfl hX ?_ ?_; rotate_left; (intro W hW; go_simp; try with_reducible rfl); simp only [Act.put, qA, qB, qC]
     refine mc_take (i := 19) (oi := ⟨some 21, _, _, _, _, _⟩) (v := ?_) rfl (by kernel_rfl) (by kernel_rfl) (by kernel_rfl) (fun _ _ _ h => h) rfl hX ?_ ?_; rotate_left; (intro W hW; go_simp; try with_reducible rfl); simp only [Act.put, qA, qB, qC]
     refine wpAnyC_done (by kernel_rfl) ?_ _
     have AD := qH (AJ.out.below hX)
     have BD := qH (show Below H wp wd from hX.mono HSW.out)
     clear hX
     go_wp2_with fail
     refine mc_start (fun _ => True) (fun W => Blk W gd 28 (dcl cl (.slice An i cnn) (.slice Ae i cen))) 31 (by kernel_rfl) (fun v0 hwd => ?_)
     have hBD : Below wd.heap.size wd v0 := by rw [hwd]; exact (Below.refl _ _).drew
     have AQ0 := qH (AD.out.below hBD)
     have BQ0 := qH (BD.out.trans (hBD.mono (Nat.le_trans HSW.out BD.out.size)))
     have KQX := qH (show ∀ W, Below H wp W → Blk W gd 28 (dcl cl (.slice An i cnn) (.slice Ae i cen)) from fun W hW => (EJ2.out.off HGHH.out HFH.out hW).blk)
     have hX : True := trivial
     have hY := KQX.out v0 BQ0.out
     clear hwd hBD
     refine mc_take (i := 0) (oi := ⟨some 196, _, _, _, _, _⟩) (v := ?_) rfl (by kernel_rfl) (by kernel_rfl) (by kernel_rfl) (fun _ _ _ h => h) rfl hX ?_ ?_; rotate_left; (intro W hW; go_simp; try with_reducible rfl); simp only [Act.put, qA, qB, qC]
     refine mc_takeS (i := 1) (oi := ⟨some 197, _, _, _, _, _⟩) (v := .slice An i cnn) rfl (by kernel_rfl) (by kernel_rfl) (by kernel_rfl) (fun _ _ _ h => h) rfl hX hY (fun W _ hS => lk_ldIss (.tmp 196) rfl rfl (by have := Blk.cell hS 256; rw [dcl_n HCLL.out] at this; exact this)) ?_; simp only [Act.put, qA, qB, qC]
     refine mc_take (i := 2) (oi := ⟨some 198, _, _, _, _, _⟩) (v := ?_) rfl (by kernel_rfl) (by kernel_rfl) (by kernel_rfl) (fun _ _ _ h => h) rfl hX ?_ ?_; rotate_left; (intro W hW; go_simp; try with_reducible rfl); simp only [Act.put, qA, qB, qC]
     refine mc_take (i := 5) (oi := ⟨some 201, _, _, _, _, _⟩) (v := ?_) rfl (by kernel_rfl) (by kernel_rfl) (by kernel_rfl) (fun _ _ _ h => h) rfl hX ?_ ?_; rotate_left; (intro W hW; go_simp; try with_reducible rfl); simp only [Act.put, qA, qB, qC]
     refine mc_takeS (i := 6) (oi := ⟨some 202, _, _, _, _, _⟩) (v := .slice Ae i cen) rfl (by kernel_rfl) (by kernel_rfl) (by kernel_rfl) (fun _ _ _ h => h) rfl hX hY (fun W _ hS => lk_ldBs (.tmp 201) rfl rfl (by have := Blk.cell hS 257; rw [dcl_e HCLL.out] at this; exact this)) ?_; simp only [Act.put, qA, qB, qC]
     refine mc_take (i := 7) (oi := ⟨some 203, _, _, _, _, _⟩) (v := ?_) rfl (by kernel_rfl) (by kernel_rfl) (by kernel_rfl) (fun _ _ _ h => h) rfl hX ?_ ?_; rotate_left; (intro W hW; go_simp; try with_reducible rfl); simp only [Act.put, qA, qB, qC]
     refine mc_take (i := 11) (oi := ⟨some 207, _, _, _, _, _⟩) (v := ?_) rfl (by kernel_rfl) (by kernel_rfl) (by kernel_rfl) (fun _ _ _ h => h) rfl hX ?_ ?_; rotate_left; (intro W hW; go_simp; try with_reducible rfl); simp only [Act.put, qA, qB, qC]
     refine mc_take (i := 15) (oi := ⟨some 211, _, _, _, _, _⟩) (v := ?_) rfl (by kernel_rfl) (by kernel_rfl) (by kernel_rfl) (fun _ _ _ h => h) rfl hX ?_ ?_; rotate_left; (intro W hW; go_simp; try with_reducible rfl); simp only [Act.put, qA, qB, qC]
     refine mc_take (i := 20) (oi := ⟨some 216, _, _, _, _, _⟩) (v := ?_) rfl (by kernel_rfl) (by kernel_rfl) (by kernel_rfl) (fun _ _ _ h => h) rfl hX ?_ ?_; rotate_left; (intro W hW; go_simp; try with_reducible rfl); simp only [Act.put, qA, qB, qC]
     refine mc_take (i := 21) (oi := ⟨some 217, _, _, _, _, _⟩) (v := ?_) rfl (by kernel_rfl) (by kernel_rfl) (by kernel_rfl) (fun _ _ _ h => h) rfl hX ?_ ?_; rotate_left; (intro W hW; go_simp; try with_reducible rfl); simp only [Act.put, qA, qB, qC]
     refine mc_take (i := 22) (oi := ⟨some 218, _, _, _, _, _⟩) (v := ?_) rfl (by kernel_rfl) (by kernel_rfl) (by kernel_rfl) (fun _ _ _ h => h) rfl hX ?_ ?_; rotate_left; (intro W hW; go_simp; try with_reducible rfl); simp only [Act.put, qA, qB, qC]
     refine mc_take (i := 24) (oi := ⟨some 220, _, _, _, _, _⟩) (v := ?_) rfl (by kernel_rfl) (by kernel_rfl) (by kernel_rfl) (fun _ _ _ h => h) rfl hX ?_ ?_; rotate_left; (intro W hW; go_simp; try with_reducible rfl); simp only [Act.put, qA, qB, qC]
     refine mc_take (i := 25) (oi := ⟨some 221, _, _, _, _, _⟩) (v := .int .i64 (hw : Int)) rfl (by kernel_rfl) (by kernel_rfl) (by kernel_rfl) (fun _ _ _ h => h) rfl hX (fun W _ => px_sub1 (.tmp 220) rfl rfl rfl HHW2.out HHW4.out W) ?_; simp only [Act.put, qA, qB, qC]
     refine mc_actB (i := 3) (o := ⟨some 199, _, _, _, _, _⟩) rfl (by kernel_rfl) rfl (fun K hK => ?_)
     refine wp_bldVk 25 47 (.tmp 198) rfl il (.slice none 0 0) Try.underlying25 hil hl0 hl1 rfl (.slice A3 j c3) rfl rfl ?_
     intro v1 hk hb
     have B3_1 := qH hk
     have AQ1 := qH (AQ0.out.below hb)
     have BQ1 := qH (BQ0.out.trans (hb.mono (Nat.le_trans HSW.out BQ0.out.size)))
     refine hK _ _ trivial (KQX.out v1 BQ1.out) ?_
     clear hK K hX hY
     (try simp only [Act.put, qA, qB, qC])
     clear hk hb
     have hX : True := trivial
     have hY := KQX.out v1 BQ1.out
     refine mc_actB (i := 4) (o := ⟨some 200, _, _, _, _, _⟩) rfl (by kernel_rfl) rfl (fun K hK => ?_)
     have ON2 := qH (show v1.ownsRow H 47 1 (.slice An i cnn) i ((List.range i).map fun q => V (q + 3)) by
      have h1 := AQ1.out.own1 (i := 0) (by omega) rfl
      rw [MJ.out.a0, List.length_map, List.length_range, HU0.out] at h1
      exact h1)
     refine wp_appW (base := H) (.tmp 197) (.tmp 199) 25 rfl 47 il (.slice none 0 0) 24 Try.underlying25 hil hl0 hl1 hl2 rfl _ i ((List.range i).map fun q => V (q + 3)) rfl ON2.out _ [.slice A3 j c3] rfl (rowB B3_1.out rfl (by decide)) (fun u hu => by obtain rfl := List.mem_singleton.1 hu; rfl) HB1.out (by decide) (Nat.le_trans HSW.out BQ1.out.size) ?_
     intro vn2 v2 ho hg hw2
     have AQ2 := qH (AQ1.out.grow (s := 0) (v := vn2) (l := (List.range i).map (fun q => V (q + 3)) ++ [.slice A3 j c3]) (by omega) ho (by rw [HU0.out]; exact hg) (by rw [HU0.out]; exact hw2))
     have BQ2 := qH (below_own BQ1.out (Nat.le_trans HSW.out BQ1.out.size) hg fun k hk => (own6_lt ON2.out k hk).2)
     obtain ⟨A22, c22, hvn⟩ : ∃ A c, vn2 = .slice A (i + 1) c := ownC_slice ho
     have HVN := qH hvn
     refine hK _ _ trivial (KQX.out v2 BQ2.out) ?_
     rw [hvn]
     clear hK K hX hY
     (try simp only [Act.put, qA, qB, qC])
     clear ho hg hw2 hvn
     have hX : True := trivial
     have hY := KQX.out v2 BQ2.out
     cases xa
     case' false =>
      refine mc_take (i := 8) (oi := ⟨some 204, _, _, _, _, _⟩) (v := ?_) rfl (by kernel_rfl) (by kernel_rfl) (by kernel_rfl) (fun _ _ _ h => h) rfl hX ?_ ?_; rotate_left; (intro W hW; go_simp; try with_reducible rfl); simp only [Act.put, qA, qB, qC]
      refine mc_skip (i := 9) (oi := ⟨some 205, _, _, _, _, _⟩) rfl (by kernel_rfl) (by kernel_rfl) (by kernel_rfl) (fun _ _ _ h => h) rfl hX ?_; simp only [Act.put, qA, qB, qC]
      refine mc_take (i := 10) (oi := ⟨some 206, _, _, _, _, _⟩) (v := ?_) rfl (by kernel_rfl) (by kernel_rfl) (by kernel_rfl) (fun _ _ _ h => h) rfl hX ?_ ?_; rotate_left; (intro W hW; go_simp; try with_reducible rfl); simp only [Act.put, qA, qB, qC]
      refine mc_take (i := 12) (oi := ⟨some 208, _, _, _, _, _⟩) (v := ?_) rfl (by kernel_rfl) (by kernel_rfl) (by kernel_rfl) (fun _ _ _ h => h) rfl hX ?_ ?_; rotate_left; (intro W hW; go_simp; try with_reducible rfl); simp only [Act.put, qA, qB, qC]
      refine mc_take (i := 13) (oi := ⟨some 209, _, _, _, _, _⟩) (v := ?_) rfl (by kernel_rfl) (by kernel_rfl) (by kernel_rfl) (fun _ _ _ h => h) rfl hX ?_ ?_; rotate_left; (intro W hW; go_simp; try with_reducible rfl); simp only [Act.put, qA, qB, qC]
      refine mc_take (i := 14) (oi := ⟨some 210, _, _, _, _, _⟩) (v := ?_) rfl (by kernel_rfl) (by kernel_rfl) (by kernel_rfl) (fun _ _ _ h => h) rfl hX ?_ ?_; rotate_left; (intro W hW; go_simp; try with_reducible rfl); simp only [Act.put, qA, qB, qC]
      refine mc_take (i := 16) (oi := ⟨some 212, _, _, _, _, _⟩) (v := ?_) rfl (by kernel_rfl) (by kernel_rfl) (by kernel_rfl) (fun _ _ _ h => h) rfl hX ?_ ?_; rotate_left; (intro W hW; go_simp; try with_reducible rfl); simp only [Act.put, qA, qB, qC]
      refine mc_skip (i := 17) (oi := ⟨some 213, _, _, _, _, _⟩) rfl (by kernel_rfl) (by kernel_rfl) (by kernel_rfl) (fun _ _ _ h => h) rfl hX ?_; simp only [Act.put, qA, qB, qC]
      refine mc_skip (i := 18) (oi := ⟨some 214, _, _, _, _, _⟩) rfl (by kernel_rfl) (by kernel_rfl) (by kernel_rfl) (fun _ _ _ h => h) rfl hX ?_; simp only [Act.put, qA, qB, qC]
      refine mc_take (i := 19) (oi := ⟨some 215, _, _, _, _, _⟩) (v := ?_) rfl (by kernel_rfl) (by kernel_rfl) (by kernel_rfl) (fun _ _ _ h => h) rfl hX ?_ ?_; rotate_left; (intro W hW; go_simp; try with_reducible rfl); simp only [Act.put, qA, qB, qC]
      refine mc_take (i := 30) (oi := ⟨some 226, _, _, _, _, _⟩) (v := ?_) rfl (by kernel_rfl) (by kernel_rfl) (by kernel_rfl) (fun _ _ _ h => h) rfl hX ?_ ?_; rotate_left; (intro W hW; go_simp; try with_reducible rfl); simp only [Act.put, qA, qB, qC]
     case' true =>
      refine mc_take (i := 8) (oi := ⟨some 204, _, _, _, _, _⟩) (v := ?_) rfl (by kernel_rfl) (by kernel_rfl) (by kernel_rfl) (fun _ _ _ h => h) rfl hX ?_ ?_; rotate_left; (intro W hW; go_simp; try with_reducible rfl); simp only [Act.put, qA, qB, qC]
      refine mc_take (i := 9) (oi := ⟨some 205, _, _, _, _, _⟩) (v := ?_) rfl (by kernel_rfl) (by kernel_rfl) (by kernel_rfl) (fun _ _ _ h => h) rfl hX ?_ ?_; rotate_left; (intro W hW; go_simp; try with_reducible rfl); simp only [Act.put, qA, qB, qC]
      refine mc_take (i := 10) (oi := ⟨some 206, _, _, _, _, _⟩) (v := ?_) rfl (by kernel_rfl) (by kernel_rfl) (by kernel_rfl) (fun _ _ _ h => h) rfl hX ?_ ?_; rotate_left; (intro W hW; go_simp; try with_reducible rfl); simp only [Act.put, qA, qB, qC]
      refine mc_take (i := 12) (oi := ⟨some 208, _, _, _, _, _⟩) (v := ?_) rfl (by kernel_rfl) (by kernel_rfl) (by kernel_rfl) (fun _ _ _ h => h) rfl hX ?_ ?_; rotate_left; (intro W hW; go_simp; try with_reducible rfl); simp only [Act.put, qA, qB, qC]
      refine mc_skip (i := 13) (oi := ⟨some 209, _, _, _, _, _⟩) rfl (by kernel_rfl) (by kernel_rfl) (by kernel_rfl) (fun _ _ _ h => h) rfl hX ?_; simp only [Act.put, qA, qB, qC]
      refine mc_take (i := 14) (oi := ⟨some 210, _, _, _, _, _⟩) (v := ?_) rfl (by kernel_rfl) (by kernel_rfl) (by kernel_rfl) (fun _ _ _ h => h) rfl hX ?_ ?_; rotate_left; (intro W hW; go_simp; try with_reducible rfl); simp only [Act.put, qA, qB, qC]
      refine mc_take (i := 16) (oi := ⟨some 212, _, _, _, _, _⟩) (v := ?_) rfl (by kernel_rfl) (by kernel_rfl) (by kernel_rfl) (fun _ _ _ h => h) rfl hX ?_ ?_; rotate_left; (intro W hW; go_simp; try with_reducible rfl); simp only [Act.put, qA, qB, qC]
      refine mc_take (i := 17) (oi := ⟨some 213, _, _, _, _, _⟩) (v := ?_) rfl (by kernel_rfl) (by kernel_rfl) (by kernel_rfl) (fun _ _ _ h => h) rfl hX ?_ ?_; rotate_left; (intro W hW; go_simp; try with_reducible rfl); simp only [Act.put, qA, qB, qC]
      refine mc_take (i := 18) (oi := ⟨some 214, _, _, _, _, _⟩) (v := ?_) rfl (by kernel_rfl) (by kernel_rfl) (by kernel_rfl) (fun _ _ _ h => h) rfl hX ?_ ?_; rotate_left; (intro W hW; go_simp; try with_reducible rfl); simp only [Act.put, qA, qB, qC]
      refine mc_take (i := 19) (oi := ⟨some 215, _, _, _, _, _⟩) (v := ?_) rfl (by kernel_rfl) (by kernel_rfl) (by kernel_rfl) (fun _ _ _ h => h) rfl hX ?_ ?_; rotate_left; (intro W hW; go_simp; try with_reducible rfl); simp only [Act.put, qA, qB, qC]
      refine mc_take (i := 30) (oi := ⟨some 226, _, _, _, _, _⟩) (v := ?_) rfl (by kernel_rfl) (by kernel_rfl) (by kernel_rfl) (fun _ _ _ h => h) rfl hX ?_ ?_; rotate_left; (intro W hW; go_simp; try with_reducible rfl); simp only [Act.put, qA, qB, qC]
     all_goals
      refine mc_actB (i := 23) (o := ⟨some 219, _, _, _, _, _⟩) rfl (by kernel_rfl) rfl (fun K hK => ?_)
      refine px_bld4 (.tmp 206) (.tmp 210) (.tmp 215) (.tmp 218) rfl i2 hi2 hb0 hb1 _ _ _ _ rfl rfl rfl rfl ?_
      intro v3 hk hb
      obtain ⟨g4, hg4⟩ : ∃ g, g = v2.heap.size := ⟨_, rfl⟩
      rw [← hg4] at hk
      rw [← hg4]
      have C223 := qH (show v3.cell? ⟨g4, hw, none⟩ = some (.bool (ef q)) by
       rw [hk.cell hw, HBZ.out, HHW2.out]
       first | exact opP_t xb HHW4.out | exact opP_f xb HHW4.out)
      have AQ3 := qH (AQ2.out.below hb)
      have BQ3 := qH (BQ2.out.trans (hb.mono (Nat.le_trans HSW.out BQ2.out.size)))
      refine hK _ _ trivial (KQX.out v3 BQ3.out) ?_
      clear hK K hX hY
      (try simp only [Act.put, qA, qB, qC])
      clear hk hb hg4
      have hX : True := trivial
      have hY := KQX.out v3 BQ3.out
      refine mc_take (i := 26) (oi := ⟨some 222, _, _, _, _, _⟩) (v := .pointer (some ⟨g4, hw, none⟩)) rfl (by kernel_rfl) (by kernel_rfl) (by kernel_rfl) (fun _ _ _ h => h) rfl hX (fun W _ => lk_ixB0 (.tmp 219) (.tmp 221) rfl rfl rfl HHW4.out W) ?_; simp only [Act.put, qA, qB, qC]
      refine mc_actB (i := 27) (o := ⟨some 223, _, _, _, _, _⟩) rfl (by kernel_rfl) rfl (fun K hK => ?_)
      refine wp_rd (lk_ldB (.tmp 222) rfl rfl C223.out) ?_
      refine hK _ _ trivial (KQX.out v3 BQ3.out) ?_
      clear hK K hX hY
      (try simp only [Act.put, qA, qB, qC])
      have hX : True := trivial
      have hY := KQX.out v3 BQ3.out
      refine mc_actB (i := 28) (o := ⟨some 224, _, _, _, _, _⟩) rfl (by kernel_rfl) rfl (fun K hK => ?_)
      refine wp_bldVk 26 4 (.tmp 223) rfl i2 (.bool false) Try.underlying26 hi2 hb0 hb1 rfl (.bool (ef q)) rfl rfl ?_
      intro v4 hk hb
      have B28 := qH hk
      have AQ4 := qH (AQ3.out.below hb)
      have BQ4 := qH (BQ3.out.trans (hb.mono (Nat.le_trans HSW.out BQ3.out.size)))
      refine hK _ _ trivial (KQX.out v4 BQ4.out) ?_
      clear hK K hX hY
      (try simp only [Act.put, qA, qB, qC])
      clear hk hb
      have hX : True := trivial
      have hY := KQX.out v4 BQ4.out
      refine mc_actB (i := 29) (o := ⟨some 225, _, _, _, _, _⟩) rfl (by kernel_rfl) rfl (fun K hK => ?_)
      have OE4 := qH (show v4.ownsRow H 4 1 (.slice Ae i cen) i (bools el) by
       have h1 := AQ4.out.own1 (i := 1) (by omega) rfl
       rw [putV_ne (by decide), putX_ne (by decide), MJ.out.a1, bools_length, MJ.out.len, HU1.out] at h1
       exact h1)
      refine wp_appW (base := H) (.tmp 202) (.tmp 224) 26 rfl 4 i2 (.bool false) 1 Try.underlying26 hi2 hb0 hb1 hb2 rfl _ i (bools el) rfl OE4.out _ [.bool (ef q)] rfl (rowB B28.out rfl (by decide)) (fun u hu => by obtain rfl := List.mem_singleton.1 hu; rfl) HB4.out (by decide) (Nat.le_trans HSW.out BQ4.out.size) ?_
      intro ve2 wf ho hg hw2
      have AF := qH (AQ4.out.grow (s := 1) (v := ve2) (l := bools el ++ [.bool (ef q)]) (by omega) ho (by rw [putV_ne (by decide), HU1.out]; exact hg) (by rw [putV_ne (by decide), HU1.out]; exact hw2))
      have BF := qH (below_own BQ4.out (Nat.le_trans HSW.out BQ4.out.size) hg fun k hk => (own6_lt OE4.out k hk).2)
      obtain ⟨A33, c33, hve⟩ : ∃ A c, ve2 = .slice A (i + 1) c := ownC_slice ho
      have HVE := qH hve
      have EF := qH (EJ2.out.off HGHH.out HFH.out BF.out)
      have EG := qH (EF.out.setn HCLL.out HGH.out vn2)
      have EH := qH (EG.out.sete HCLL.out HGH.out ve2)
      have HC6 := qH (show wf.cell? ⟨gd, 256, none⟩ = some (.slice An i cnn) from (EF.out.blk.cell 256).trans (dcl_n HCLL.out))
      have HF6 := qH (EF.out.blk.frozen 256)
      have HC7 := qH (show (wf.setCell ⟨gd, 256, none⟩ vn2).cell? ⟨gd, 257, none⟩ = some (.slice Ae i cen) from (EG.out.blk.cell 257).trans (dcl_e HCLL.out))
      have HF7 := qH (EG.out.blk.frozen 257)
      rw [HVN.out] at HC7 HF7
      refine hK _ _ trivial (KQX.out wf BF.out) ?_
      rw [hve]
      clear hK K hX hY
      (try simp only [Act.put, qA, qB, qC])
      clear ho hg hw2 hve
      have hX : True := trivial
      have hY := KQX.out wf BF.out
      refine mc_last (i := 31) (o := ⟨none, _, _, _, _, _⟩) rfl (by kernel_rfl) rfl (fun K hK => ?_)
      refine wp_stIns (.tmp 226) (.tmp 200) rfl rfl rfl HC6.out HF6.out ?_
      refine hK _ _ trivial ?_
      clear hK K hX hY
      (try simp only [Act.put, qA, qB, qC])
      have hX : True := trivial
      refine mc_take (i := 32) (oi := ⟨some 227, _, _, _, _, _⟩) (v := ?_) rfl (by kernel_rfl) (by kernel_rfl) (by kernel_rfl) (fun _ _ _ h => h) rfl hX ?_ ?_; rotate_left; (intro W hW; go_simp; try with_reducible rfl); simp only [Act.put, qA, qB, qC]
      refine mc_last (i := 33) (o := ⟨none, _, _, _, _, _⟩) rfl (by kernel_rfl) rfl (fun K hK => ?_)
      refine wp_stBls (.tmp 227) (.tmp 225) rfl rfl rfl HC7.out HF7.out ?_
      refine hK _ _ trivial ?_
      clear hK K hX
      (try simp only [Act.put, qA, qB, qC])
      refine wpAnyC_done (by kernel_rfl) ?_ _
      have MZ := qH (MM.out.step (good' := M.length ≤ most) (v := .slice A3 j c3) (vn := vn2) (ve := ve2) (r := rl) (q := q) HRW.out HQ.out HV3.out X3R.out)
      have AZ := qH (aps_set2 (a := vn2) (b := ve2) AF.out HGHH.out)
      have SZ := qH (show H ≤ ((wf.setCell ⟨gd, 256, none⟩ vn2).setCell ⟨gd, 257, none⟩ ve2).heap.size by simpa using Nat.le_trans HSW.out BF.out.size)
      have V2Z := qH (show Value.slice (some ⟨g2, 0, none⟩) mj c2 = putV (putV V 0 vn2) 1 ve2 2 by rw [putV_ne (by decide), putV_ne (by decide)]; exact HV2.out.symm)
      have EZ := qH (show EnvL w5 ((wf.setCell ⟨gd, 256, none⟩ vn2).setCell ⟨gd, 257, none⟩ ve2) gd H1 cl (putV (putV V 0 vn2) 1 ve2 0) (putV (putV V 0 vn2) 1 ve2 1) (.slice Af kk cf) kk xs by rw [putV_ne (by decide), putV_at, putV_at]; exact EH.out)
      rw [← HVN.out, ← HVE.out]
      obtain ⟨wz, hwz⟩ : ∃ v, v = (wf.setCell ⟨gd, 256, none⟩ vn2).setCell ⟨gd, 257, none⟩ ve2 := ⟨_, rfl⟩
      rw [← hwz] at AZ SZ EZ
      rw [← hwz]
      have e3 := wrap_one i (bndP_w (Nat.le_of_lt HIMJ.out) HMJN.out HMO.out)
      have e4 := wrap_one' i (bndP_w (Nat.le_of_lt HIMJ.out) HMJN.out HMO.out)
      clear hwz
      go_wp2_with fail
      exact ⟨⟨i + 1, _, _, _, M, by congr 1, HI2.out, HMB2.out, V2Z.out, AZ.out, EZ.out, MZ.out, SM1.out, SM2.out, SZ.out⟩, by simpa [intOf] using HMI.out⟩
  ·have RI := qH (show Blk wi w2.heap.size 28 d0 from R5.out.below EI.out.bel HZG.out)
   have BW := qH (show Below w.heap.size w wi from B5.out.trans (EI.out.bel.mono (Nat.le_of_lt HAG.out)))
   have HD1 := qH (show d0.all (·.oneCell') = true by rw [HD0.out]; exact dcl_one)
   have HDS0 := qH (show (Try.prog.info? 28).map (·.size) = some d0.length by rw [HD0.out]; exact size_dfa (ctab_length _ _))
   have HDB := qH (show Try.prog.built 28 [] = some d0.toArray by rw [HD0.out]; exact built_d0)
   by_cases hmm : m ≤ most
   ·obtain rfl : i = m := Nat.le_antisymm (by rw [HML.out]; exact HI.out) (Nat.le_of_not_lt fun h => him ⟨h, hmm⟩)
    have y1 : ¬ ((i : Int) < (i : Int)) := Int.lt_irrefl _
    have y2 : ¬ ((most : Int) < (i : Int)) := fun h => Nat.not_lt.2 hmm (Int.ofNat_lt.1 h)
    have HMM := qH hmm
    have HM0 := qH (SI1.out (by rw [← HML.out]; exact hmm))
    obtain ⟨da, hda⟩ : ∃ da, da = dcl cl (U 0) (U 1) := ⟨_, rfl⟩
    have HDA := qH hda
    have HDLa := qH (show da.length = 258 by rw [hda]; exact dcl_len HCLL.out)
    have HDOa := qH (show da.all (·.oneCell') = true by
     obtain ⟨A5, c5, h5⟩ := ownC_slice (AI.out.own1 (i := 0) (by omega) rfl)
     obtain ⟨A6, c6, h6⟩ := ownC_slice (AI.out.own1 (i := 1) (by omega) rfl)
     rw [hda, h5, h6]; exact dcl_one)
    have HDSa := qH (show (Try.prog.info? 28).map (·.size) = some da.length by rw [hda]; exact size_dfa HCLL.out)
    have KDa := qH (show Blk wi gd 28 da by rw [hda]; exact EI.out.blk)
    clear him hmm hda
    go_wp2_with (first
     | ((with_reducible refine atDst 233 ?_); refine wpList_ldArr rfl 28 _ rfl gd rfl 28 _ _ KDa.out Try.underlying28 rfl HDSa.out ?_; (try simp only [Act.put, qA, qB, qC]))
     | ((with_reducible refine atStore 28 8 233 ?_); refine wpList_stBlk rfl 28 _ _ rfl w2.heap.size da rfl rfl 28 _ RI.out HDSa.out (by rw [HDL.out, HDLa.out]) HDOa.out BW.out HGWZ.out ?_; intro w9 hk hb hs ho; have K9 := qH hk; have B9 := qH hb; have HO9 := qH ho; clear hk hb hs ho; (try simp only [Act.put, qA, qB, qC])))
    refine bodyPost_ret (results_blk2 rfl _ _ w2.heap.size 28 _ _ _ rfl rfl K9.out Try.underlying28 rfl HDSa.out) rfl ?_
    refine .inl ⟨i, da, HMM.out, ?_, rfl, ?_, B9.out⟩
    ·show (QPr D E i).length = i
     rw [HLQ.out, ← HM0.out]
     exact HML.out.symm
    ·have h9 := MI.out.dfa (by rw [← HML.out]; exact HMM.out) (AI.out.stay (w' := w9) fun k hk _ => HO9.out k (fun e => by have h1 := HZG.out; have h2 := HGHH.out; omega)) (by omega) HCLL.out (by rw [← HM0.out]; exact HI.out)
     rw [HDA.out, prd_is, HLQ.out, ← HQF.out, ← HEF.out, ← HPS.out, ← HCL.out]
     exact h9
   ·have y2 : (most : Int) < (m : Int) := Int.ofNat_lt.2 (Nat.lt_of_not_le hmm)
    have y3 : ¬ ((m : Int) ≤ (most : Int)) := fun h => hmm (Int.ofNat_le.1 h)
    have HSO := qH (SI2.out (by rw [← HML.out]; exact Nat.lt_of_not_le hmm))
    by_cases hil : i < m
    case' pos => have y1 : (i : Int) < (m : Int) := Int.ofNat_lt.2 hil
    case' neg => have y1 : ¬ ((i : Int) < (m : Int)) := fun h => hil (Int.ofNat_lt.1 h)
    all_goals
     clear him hmm hil
     go_wp2_with (first
      | ((with_reducible refine atDst 232 ?_); refine wpList_bld rfl 28 #[] rfl d0 HDB.out ?_; (try simp only [Act.put, qA, qB, qC]))
      | ((with_reducible refine atStore 28 8 232 ?_); refine wpList_stBlk rfl 28 _ _ rfl w2.heap.size d0 rfl rfl 28 _ RI.out HDS0.out rfl HD1.out BW.out HGWZ.out ?_; intro w9 hk hb hs ho; have K9 := qH hk; have B9 := qH hb; clear hk hb hs ho; (try simp only [Act.put, qA, qB, qC])))
     refine bodyPost_ret (results_blk2 rfl _ _ w2.heap.size 28 _ _ _ rfl rfl K9.out Try.underlying28 rfl HDS0.out) rfl ?_
     refine .inr ⟨HSO.out, ?_, B9.out⟩
     rw [HD0.out]
     rfl
end Go.Proofs.Ytaakdebcagdfgaa
