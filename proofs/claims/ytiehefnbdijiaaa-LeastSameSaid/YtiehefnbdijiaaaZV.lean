/-
  Texts of this proof, put together: LkV. No statement is proved here.
-/
import Derived.Test.YtiehefnbdijiaaaZU
import Derived.Test.YtiehefnbdijiaaaZQ
import Derived.Test.YtiehefnbdijiaaaZJ
import Derived.Test.YtiehefnbdijiaaaZP
namespace Go.Proofs.Ytiehefnbdijiaaa
open Go.RowKit
set_option linter.unusedSimpArgs false
set_option linter.unusedVariables false
theorem oneEndM {H X : Nat → Nat → List Value → World → Prop} {G : Prop} (main : (∀ g gm d w', H g gm d w' → X g gm d w') → G) (fin : ∀ g gm d w', H g gm d w' → X g gm d w') : G := main fin
theorem nlt0 (k : Nat) : ¬ ((k : Int) < 0) := by omega
theorem cls_kb {c K : Nat} (h : c < K) (hK : K ≤ 256) : c + 1 ≤ 2097152 := by omega
theorem row_bnd {n c m : Nat} (h : n ≤ c) (hc : c < 256) : n + 1 ≤ 2097152 := by omega
set_option maxHeartbeats 16000000 in
set_option maxRecDepth 1000000 in
theorem lMerged_any (E : Dm) (cs : List Value) (m K : Nat) (w : World) (hv : DfaV w cs E) (hs : ShE E m K) :
  Calls Try.prog 18 #[.agg cs.toArray] w fun e w' => ∃ cs', e = .returned (.agg cs'.toArray) ∧ DfaV w' cs' (mrgD E K) ∧ Below w.heap.size w w' := by
 have HDS := qH hv.size
 have HSH := qH hs
 obtain ⟨bn, on, cn, be, oe, ce, hdr, hre⟩ := dr_sh hv hs
 have HR := qH hdr
 have HRE := qH hre
 have HCS := qH hdr.cs
 have HL := qH hdr.hl
 have HMF := qH hs.few
 have HMP := qH hs.pos
 have HK256 := qH hs.k256
 have HKP := qH hs.kpos
 obtain ⟨i1, hi1, hy0, hy1, hy2⟩ := infoP inf_int
 obtain ⟨il, hil, hl0, hl1, hl2⟩ := infoP inf_sl
 obtain ⟨i8, hi8, hz8, hs8, hb8⟩ := infoC inf_u8c
 have HYL := qH (show il.bytes * m ≤ 281474976710656 by have := HMF.out; rw [hl2]; omega)
 have HM3 := qH (show m ≤ 9223372036854775807 by have := HMF.out; omega)
 obtain ⟨d0, hd0⟩ : ∃ d0, d0 = dcl (ctab [] 0) (.slice none 0 0) (.slice none 0 0) := ⟨_, rfl⟩
 have HDL := qH (show d0.length = 258 by rw [hd0]; exact dcl_len (ctab_length _ _))
 obtain ⟨id, hid, hdz⟩ := Option.map_eq_some_iff.1 inf_dfa
 rw [← hd0] at hdz
 have HDZ := qH hdz
 clear hv hs hdr hre hd0 hdz
 go_enter Try.func18, Try.ntmps18
 go_wp2_with (first
  | ((with_reducible refine atDst 1 ?_); refine wpList_box rfl 28 _ rfl cs rfl (Below.refl w.heap.size w) (Nat.le_refl _) ?_; intro w1 hk1 hb1 hs1 _; have K1 := qH hk1; have B1 := qH hb1; clear hk1 hb1 hs1; (try simp only [Act.put, qA, qB, qC]))
  | ((with_reducible refine atDst 2 ?_); refine wpList_new rfl 28 rfl id _ d0 hid HDZ.out rfl (Below.refl w1.heap.size w1) (Nat.le_refl _) ?_; intro w2 hk hb hs _; have R2 := qH hk; have K2 := qH (K1.out.below hb K1.out.lt); have B2 := qH (B1.out.trans (hb.mono B1.out.size)); clear hk hb hs; (try simp only [Act.put, qA, qB, qC])))
 obtain ⟨H, hH⟩ : ∃ H, H = w2.heap.size := ⟨_, rfl⟩
 have HH := qH hH
 obtain ⟨gz, hgz⟩ : ∃ g, g = w1.heap.size := ⟨_, rfl⟩
 rw [← hgz] at R2
 rw [← hgz]
 have HGZ := qH (show w.heap.size < gz by rw [hgz]; exact K1.out.lt)
 have HGZH := qH (show gz < H by rw [hH]; exact R2.out.lt)
 have HWH := qH (show w.heap.size < H from Nat.lt_trans HGZ.out HGZH.out)
 clear hH hgz
 apply oneEndM (H := fun g gm d w' => d = dcl (ctab [] 0) (.slice (some ⟨g, 0, none⟩) m m) (.slice (some ⟨be, oe, none⟩) m ce) ∧ Blk w' g 38 (List.replicate m (.slice none 0 0)) ∧ Blk w' gm 28 d ∧ H ≤ g ∧ H ≤ gm ∧ g ≠ gm ∧ Below H w2 w')
 case main =>
  intro fin
  have FIN := qH fin
  clear fin
  refine mc_start (fun V => Below H w2 V) (fun _ => True) 9 (by kernel_rfl) (fun wd hwd => ?_)
  have hX : Below H w2 wd := by rw [hwd]; exact (Below.refl _ _).drew
  clear hwd
  have C256 := qH (show ∀ V, Below H w2 V → V.cell? ⟨w.heap.size, 256, none⟩ = some (.slice (some ⟨bn, on, none⟩) m cn) from fun V hV => ((K2.out.below hV HWH.out).cell 256).trans (by rw [HCS.out]; exact dcl_n HL.out))
  have C257 := qH (show ∀ V, Below H w2 V → V.cell? ⟨w.heap.size, 257, none⟩ = some (.slice (some ⟨be, oe, none⟩) m ce) from fun V hV => ((K2.out.below hV HWH.out).cell 257).trans (by rw [HCS.out]; exact dcl_e HL.out))
  obtain ⟨v0, hv0⟩ : ∃ v : World, v = wd := ⟨_, rfl⟩
  subst hv0
  have HS0 := qH (show H ≤ v0.heap.size by rw [HH.out]; exact hX.size)
  refine mc_take (i := 0) (oi := ⟨some 13, _, _, _, _, _⟩) (v := ?_) rfl (by kernel_rfl) (by kernel_rfl) (by kernel_rfl) (fun _ _ _ h => h) rfl hX ?_ ?_; rotate_left; (intro W hW; go_simp; try with_reducible rfl); simp only [Act.put, qA, qB, qC]
  refine mc_take (i := 1) (oi := ⟨some 14, _, _, _, _, _⟩) (v := .slice (some ⟨bn, on, none⟩) m cn) rfl (by kernel_rfl) (by kernel_rfl) (by kernel_rfl) (fun _ _ _ h => h) rfl hX (fun V hV => lk_ldIss (.tmp 13) rfl rfl (C256.out V hV)) ?_; simp only [Act.put, qA, qB, qC]
  refine mc_take (i := 2) (oi := ⟨some 15, _, _, _, _, _⟩) (v := ?_) rfl (by kernel_rfl) (by kernel_rfl) (by kernel_rfl) (fun _ _ _ h => h) rfl hX ?_ ?_; rotate_left; (intro W hW; go_simp; try with_reducible rfl); simp only [Act.put, qA, qB, qC]
  refine mc_take (i := 4) (oi := ⟨some 17, _, _, _, _, _⟩) (v := ?_) rfl (by kernel_rfl) (by kernel_rfl) (by kernel_rfl) (fun _ _ _ h => h) rfl hX ?_ ?_; rotate_left; (intro W hW; go_simp; try with_reducible rfl); simp only [Act.put, qA, qB, qC]
  refine mc_take (i := 5) (oi := ⟨some 18, _, _, _, _, _⟩) (v := .slice (some ⟨be, oe, none⟩) m ce) rfl (by kernel_rfl) (by kernel_rfl) (by kernel_rfl) (fun _ _ _ h => h) rfl hX (fun V hV => lk_ldBs (.tmp 17) rfl rfl (C257.out V hV)) ?_; simp only [Act.put, qA, qB, qC]
  refine mc_two (i := 3) (j := 7) (oi := ⟨some 16, _, _, _, _, _⟩) (oj := ⟨some 3, _, _, _, _, _⟩) rfl rfl (by kernel_rfl) rfl rfl (fun K hK => ?_) (fun K hK => ?_)
  ·refine wp_mk _ _ 25 rfl 38 il (.slice none 0 0) Try.underlying25 hil hl0 hl1 rfl m rfl rfl HYL.out HM3.out ?_
   intro v1 hk hb _
   obtain ⟨g, hg⟩ : ∃ g, g = v0.heap.size := ⟨_, rfl⟩
   rw [← hg] at hk
   rw [← hg]
   have G1 := qH hk
   have PG := qH (show H ≤ g by rw [hg]; exact HS0.out)
   have hX2 := hX.trans (hb.mono HS0.out)
   have HS1 := qH (Nat.le_trans HS0.out hb.size)
   clear hk hb hg
   refine hK _ _ hX2 trivial ?_
   clear hK K hX
   (try simp only [Act.put, qA, qB, qC])
   have hX := hX2
   clear hX2
   obtain ⟨d, hd⟩ : ∃ d, d = dcl (ctab [] 0) (.slice (some ⟨g, 0, none⟩) m m) (.slice (some ⟨be, oe, none⟩) m ce) := ⟨_, rfl⟩
   have HD := qH hd
   have HBD := qH (show Try.prog.built 28 [(1, .slice (some ⟨g, 0, none⟩) m m), (2, .slice (some ⟨be, oe, none⟩) m ce)] = some d.toArray by rw [hd]; exact built_nxL _ _ _ _ _ _)
   have HD1 := qH (show d.length = 258 by rw [hd]; exact dcl_len (ctab_length _ _))
   have HDO := qH (show d.all (·.oneCell') = true by rw [hd]; exact dcl_one)
   have HDZ2 := qH (show (Try.prog.info? 28).map (·.size) = some d.length by rw [hd]; exact size_dfa (ctab_length _ _))
   clear hd
   refine mc_take (i := 6) (oi := ⟨some 19, _, _, _, _, _⟩) (v := .agg d.toArray) rfl (by kernel_rfl) (by kernel_rfl) (by kernel_rfl) (fun _ _ _ h => h) rfl hX (fun V _ => ex_bld2 1 2 (.tmp 16) (.tmp 18) rfl rfl rfl HBD.out V) ?_; simp only [Act.put, qA, qB, qC]
   refine mc_actB (i := 7) (o := ⟨some 3, _, _, _, _, _⟩) rfl (by kernel_rfl) rfl (fun K hK => ?_)
   refine wp_newL 28 rfl id _ d0 hid HDZ.out rfl ?_
   intro v2 hk hb
   obtain ⟨gm, hg⟩ : ∃ g, g = v1.heap.size := ⟨_, rfl⟩
   rw [← hg] at hk
   rw [← hg]
   have G7 := qH hk
   have PM := qH (show H ≤ gm by rw [hg]; exact HS1.out)
   have G2 := qH (G1.out.below hb G1.out.lt)
   have NGM := qH (show g ≠ gm by rw [hg]; exact Nat.ne_of_lt G1.out.lt)
   have hX2 := hX.trans (hb.mono HS1.out)
   clear hk hb hg
   refine hK _ _ hX2 trivial ?_
   clear hK K hX
   (try simp only [Act.put, qA, qB, qC])
   have hX := hX2
   clear hX2
   refine mc_actB (i := 8) (o := ⟨none, _, _, _, _, _⟩) rfl (by kernel_rfl) rfl (fun K hK => ?_)
   refine wp_stBlk 28 (.tmp 3) (.tmp 19) rfl gm d rfl rfl 28 _ G7.out HDZ2.out (by rw [HDL.out, HD1.out]) HDO.out hX PM.out ?_
   intro v4 hk hb hs ho hbb
   refine hK _ _ hb trivial ?_
   clear hK K hX
   (try simp only [Act.put, qA, qB, qC])
   refine wpAnyC_done (by kernel_rfl) ?_ _
   exact FIN.out g gm d v4 ⟨HD.out, (ho g NGM.out).trans G2.out, hk, PG.out, PM.out, NGM.out, hb⟩
  ·refine wp_newL 28 rfl id _ d0 hid HDZ.out rfl ?_
   intro v1 hk hb
   obtain ⟨gm, hg⟩ : ∃ g, g = v0.heap.size := ⟨_, rfl⟩
   rw [← hg] at hk
   rw [← hg]
   have G7 := qH hk
   have PM := qH (show H ≤ gm by rw [hg]; exact HS0.out)
   have hX2 := hX.trans (hb.mono HS0.out)
   have HS1 := qH (Nat.le_trans HS0.out hb.size)
   clear hk hb hg
   refine hK _ _ hX2 trivial ?_
   clear hK K hX
   (try simp only [Act.put, qA, qB, qC])
   have hX := hX2
   clear hX2
   refine mc_actB (i := 3) (o := ⟨some 16, _, _, _, _, _⟩) rfl (by kernel_rfl) rfl (fun K hK => ?_)
   refine wp_mk _ _ 25 rfl 38 il (.slice none 0 0) Try.underlying25 hil hl0 hl1 rfl m rfl rfl HYL.out HM3.out ?_
   intro v2 hk hb _
   obtain ⟨g, hg⟩ : ∃ g, g = v1.heap.size := ⟨_, rfl⟩
   rw [← hg] at hk
   rw [← hg]
   have G2 := qH hk
   have PG := qH (show H ≤ g by rw [hg]; exact HS1.out)
   have G7' := qH (G7.out.below hb G7.out.lt)
   have NGM := qH (show g ≠ gm by rw [hg]; exact Nat.ne_of_gt G7.out.lt)
   have hX2 := hX.trans (hb.mono HS1.out)
   clear hk hb hg
   refine hK _ _ hX2 trivial ?_
   clear hK K hX
   (try simp only [Act.put, qA, qB, qC])
   have hX := hX2
   clear hX2
   obtain ⟨d, hd⟩ : ∃ d, d = dcl (ctab [] 0) (.slice (some ⟨g, 0, none⟩) m m) (.slice (some ⟨be, oe, none⟩) m ce) := ⟨_, rfl⟩
   have HD := qH hd
   have HBD := qH (show Try.prog.built 28 [(1, .slice (some ⟨g, 0, none⟩) m m), (2, .slice (some ⟨be, oe, none⟩) m ce)] = some d.toArray by rw [hd]; exact built_nxL _ _ _ _ _ _)
   have HD1 := qH (show d.length = 258 by rw [hd]; exact dcl_len (ctab_length _ _))
   have HDO := qH (show d.all (·.oneCell') = true by rw [hd]; exact dcl_one)
   have HDZ2 := qH (show (Try.prog.info? 28).map (·.size) = some d.length by rw [hd]; exact size_dfa (ctab_length _ _))
   clear hd
   refine mc_take (i := 6) (oi := ⟨some 19, _, _, _, _, _⟩) (v := .agg d.toArray) rfl (by kernel_rfl) (by kernel_rfl) (by kernel_rfl) (fun _ _ _ h => h) rfl hX (fun V _ => ex_bld2 1 2 (.tmp 16) (.tmp 18) rfl rfl rfl HBD.out V) ?_; simp only [Act.put, qA, qB, qC]
   refine mc_actB (i := 8) (o := ⟨none, _, _, _, _, _⟩) rfl (by kernel_rfl) rfl (fun K hK => ?_)
   refine wp_stBlk 28 (.tmp 3) (.tmp 19) rfl gm d rfl rfl 28 _ G7'.out HDZ2.out (by rw [HDL.out, HD1.out]) HDO.out hX PM.out ?_
   intro v4 hk hb hs ho hbb
   refine hK _ _ hb trivial ?_
   clear hK K hX
   (try simp only [Act.put, qA, qB, qC])
   refine wpAnyC_done (by kernel_rfl) ?_ _
   exact FIN.out g gm d v4 ⟨HD.out, (ho g NGM.out).trans G2.out, hk, PG.out, PM.out, NGM.out, hb⟩
 case fin =>
  rintro g gm d w3 ⟨rfl, hkt, hkm, hg, hgm, hne, hb⟩
  have KM3 := qH hkm
  have HG := qH hg
  have HGM := qH hgm
  have B23 := qH hb
  have A3 := qH (apg_mg0 hkt hg HMF.out (m + 3 + 0))
  have S3 := qH (MgS.zero E m g)
  have NG3 := qH (show ∀ i, i < m + 3 + 0 → (mg0 m g i).ownBlock ≠ some gm from fun i _ e => by
   unfold mg0 at e
   by_cases h : i = 0
   ·rw [if_pos h] at e
    exact hne (Option.some.inj (show some g = some gm from e))
   ·rw [if_neg h] at e
    cases (show (none : Option Nat) = some gm from e))
  obtain ⟨F, hF⟩ : ∃ F : Nat → List Nat, F = firstJ (psC E m) := ⟨_, rfl⟩
  have HF := qH hF
  obtain ⟨cf, hcf⟩ : ∃ cf : Nat → Nat, cf = clsOf (psC E m) := ⟨_, rfl⟩
  have HCF := qH hcf
  have HFL := qH (show ∀ c, (F c).length ≤ c from fun c => by rw [hF]; exact firstJ_len _ c)
  have HF0 := qH (show F 0 = [] by rw [hF]; rfl)
  have HBW := qH (show ∀ V, Below H w2 V → Below w.heap.size w V from fun V hV => B2.out.trans (hV.mono (Nat.le_of_lt HWH.out)))
  obtain ⟨dm, hdm⟩ : ∃ d, d = dcl (ctab [] 0) (.slice (some ⟨g, 0, none⟩) m m) (.slice (some ⟨be, oe, none⟩) m ce) := ⟨_, rfl⟩
  have HDM := qH hdm
  rw [← hdm] at KM3
  obtain ⟨b0, o0, cr0, h01, h02, _⟩ := (HR.out.below (HBW.out w3 hb)).row 0 (by have := HMP.out; omega)
  have c256 : w3.cell? ⟨w.heap.size, 256, none⟩ = some (.slice (some ⟨bn, on, none⟩) m cn) := by
   rw [(K2.out.below hb HWH.out).cell 256, HCS.out]
   exact dcl_n HL.out
  have c23 : w3.cell? ⟨bn, on, none⟩ = some (.slice (some ⟨b0, o0, none⟩) K cr0) := h01
  have m0 : (0 : Int) < (m : Int) := by have := HMP.out; omega
  clear hkt hkm hg hgm hne hb hF hcf hdm h01 h02
  go_wp2_with fail
  clear c256 c23 m0
  go_loopw [4, 5, 25] (fun kv cv iv wl => ∃ (c : Nat) (U : Nat → Value) (X : Nat → List Value), c ≤ K ∧ iv = .int .i64 (c : Int) ∧ kv = U 1 ∧ cv = U 2 ∧ U 0 = .slice (some ⟨g, 0, none⟩) m m ∧ ApG tyM wl H (m + 3 + (F c).length) U X ∧ MgS E m c (F c) (F c) 0 U X ∧ Blk wl gm 28 dm ∧ (∀ i, i < m + 3 + (F c).length → (U i).ownBlock ≠ some gm) ∧ Below H w2 wl) (fun _ _ iv _ => K - (intOf iv).toNat)
  case atStart => exact ⟨0, _, _, Nat.zero_le _, rfl, rfl, rfl, rfl, by rw [HF0.out]; exact A3.out, by rw [HF0.out]; exact S3.out, KM3.out, by rw [HF0.out]; exact NG3.out, B23.out⟩
  clear A3 S3 KM3 NG3 B23
  obtain ⟨c, U, X, hc, rfl, rfl, rfl, hu0, ha, hs, hk, hn, hb⟩ := hrel
  obtain ⟨wl, hwl⟩ : ∃ v : World, v = wr := ⟨_, rfl⟩
  subst hwl
  have HC := qH hc
  have HU0 := qH hu0
  have AC := qH ha
  have SC := qH hs
  have KC := qH hk
  have NC := qH hn
  have BC := qH hb
  obtain ⟨kp, hkp⟩ : ∃ kp, kp = F c := ⟨_, rfl⟩
  have HKPE := qH hkp
  rw [← hkp] at AC SC NC
  obtain ⟨n, hnn⟩ : ∃ n, n = kp.length := ⟨_, rfl⟩
  have HN := qH hnn
  rw [← hnn] at AC NC
  have HNC := qH (show n ≤ c by rw [hnn, hkp]; exact HFL.out c)
  have OK := qH (show wl.ownsRow H 38 1 (U 1) n ((List.range n).map fun k => U (k + (m + 3))) by
   have h1 := AC.out.own 1 (by omega)
   rw [SC.out.x1, List.length_map, List.length_range, ← hnn] at h1
   exact h1)
  have OC := qH (show wl.ownsRow H 5 1 (U 2) c (clsB E m c) by
   have h1 := AC.out.own 2 (by omega)
   rw [SC.out.x2, clsB_len] at h1
   exact h1)
  obtain ⟨A1, c1, hu1⟩ := ownC_slice OK.out
  obtain ⟨A2, c2, hu2⟩ := ownC_slice OC.out
  have HU1 := qH hu1
  have HU2 := qH hu2
  rw [hu1, hu2]
  have HSL := qH (show H ≤ wl.heap.size by rw [HH.out]; exact hb.size)
  clear hc hu0 ha hs hk hn hb hkp hnn hu1 hu2
  by_cases hck : c < K
  ·have x1 : (c : Int) < (K : Int) := Int.ofNat_lt.2 hck
   have HCK := qH hck
   have HMC := qH (sub_next hck)
   have HC256 := qH (Nat.lt_of_lt_of_le hck HK256.out)
   have KB := qH (show Blk wl w.heap.size 28 cs from K2.out.below BC.out HWH.out)
   clear hck
   go_wp2_with ((with_reducible refine atDst 28 ?_); refine wpList_ldArr rfl 28 _ rfl w.heap.size rfl 28 _ _ KB.out Try.underlying28 rfl HDS.out ?_; (try simp only [Act.put, qA, qB, qC]))
   refine (lColD_any wl HDS.out (HR.out.below (HBW.out wl BC.out)) HMF.out HCK.out).mono ?_
   rintro e w4 ⟨gc, rfl, hkc, hgc, hb4⟩
   rw [← colI_ncs] at hkc
   have K4 := qH hkc
   have HGC := qH hgc
   have B4 := qH hb4
   have A4 := qH (show ApG tyM w4 H (m + 3 + n + 1) (putV U (m + 3 + n) (.slice (some ⟨gc, 0, none⟩) m m)) (putX X (m + 3 + n) (nums .i64 (colI E m c))) from by
    refine (AC.out.below hb4).add ?_ fun i hi k hk e => ?_
    ·have h1 := hkc.own (Nat.le_trans HSL.out hgc) (by rw [nums_length, colI_len]; unfold maxLen; have := HMF.out; omega)
     rw [nums_length, colI_len] at h1 ⊢
     rw [show tyM (m + 3 + n) = 3 by rw [show m + 3 + n = m + n + 3 by omega]; rfl]
     exact h1
    ·have h1 := (AC.out.lt hi k hk).1
     have h2 : gc = k := Option.some.inj (show some gc = some k from e)
     omega)
   have KM4 := qH (KC.out.below hb4 KC.out.lt)
   have BH4 := qH (BC.out.trans (hb4.mono HSL.out))
   have HGML := qH KC.out.lt
   clear hkc hgc hb4
   go_wp2_with (first
    | ((with_reducible refine atDst 7 ?_); refine wpList_new rfl 38 rfl il (.slice none 0 0) [.slice none 0 0] hil hl0 rfl (Below.refl w4.heap.size w4) (Nat.le_refl _) ?_; intro w5 hk hb hs _; have K5 := qH hk; have B5 := qH hb; have hc5 := hk.cell 0; have hf5 := hk.frozen 0; clear hk hb hs; (try simp only [Act.put, qA, qB, qC]))
    | ((with_reducible refine atStore 38 7 30 ?_); refine wpList_plain rfl fun K hK => wp_stL (.tmp 7) (.tmp 30) rfl w4.heap.size 0 rfl (some ⟨gc, 0, none⟩) m m rfl _ hc5 hf5 ?_; refine hK _ _ ?_; clear hK K; (try simp only [Act.put, qA, qB, qC])))
   obtain ⟨gl, hgl⟩ : ∃ g, g = w4.heap.size := ⟨_, rfl⟩
   rw [← hgl] at K5
   rw [← hgl]
   have HGLE := qH hgl
   obtain ⟨w6, hw6⟩ : ∃ v, v = w5.setCell ⟨gl, 0, none⟩ (.slice (some ⟨gc, 0, none⟩) m m) := ⟨_, rfl⟩
   rw [← hw6]
   have K6 := qH (show Blk w6 gl 38 [.slice (some ⟨gc, 0, none⟩) m m] by
    have h1 := K5.out.set 0 (.slice (some ⟨gc, 0, none⟩) m m)
    rw [← hw6] at h1
    exact h1)
   have B6 := qH (show Below w4.heap.size w4 w6 by
    rw [hw6]
    exact B5.out.setCell (p := ⟨gl, 0, none⟩) (by rw [hgl]; exact Nat.le_refl _) _)
   have A6 := qH (A4.out.below B6.out)
   have KM6 := qH (KM4.out.below B6.out KM4.out.lt)
   have HS4 := qH (Nat.le_trans HSL.out B4.out.size)
   have BH6 := qH (BH4.out.trans (B6.out.mono HS4.out))
   have RC6 := qH (show Row w6 (.slice (some ⟨gc, 0, none⟩) m m) (nums .i64 (colI E m c)) from rowB (K4.out.below B6.out K4.out.lt) (by rw [nums_length, colI_len]) (Nat.le_trans HMF.out (by decide)))
   have RK6 := qH (show Row w6 (.slice A1 n c1) ((List.range (kp.map (colI E m)).length).map fun k => U (k + (m + 3))) by
    rw [List.length_map, ← HN.out, ← HU1.out]
    exact Row.of_own (own6_stay OK.out fun j hj => ((B6.out.block j (Nat.lt_of_lt_of_le (own6_lt OK.out j hj).1 B4.out.size)).trans (B4.out.block j (own6_lt OK.out j hj).1)))
    )
   have RT6 := qH (show ∀ (i : Nat) (r : List Int), (kp.map (colI E m))[i]? = some r → Row w6 (U (i + (m + 3))) (nums .i64 r) from fun i r hr => by
    rw [List.getElem?_map, Option.map_eq_some_iff] at hr
    obtain ⟨d, hd, rfl⟩ := hr
    have hi : i < n := by rw [HN.out]; exact (List.getElem?_eq_some_iff.1 hd).1
    have h1 := (AC.out.below B4.out).below B6.out
    have h2 := Row.of_own (h1.own (i + (m + 3)) (by omega))
    rw [SC.out.xc i d hd] at h2
    exact h2)
   have HIX := qH (show ixL (kp.map (colI E m)) (colI E m c) = if cf c < n then (cf c : Int) else -1 by
    rw [HKPE.out, HCF.out, HF.out, ixL_cls HC256.out, HN.out, HKPE.out, HF.out])
   have HLN := qH (show (kp.map (colI E m)).length ≤ 2000 by rw [List.length_map, ← HN.out]; have := HNC.out; have := HC256.out; omega)
   clear hgl hw6 hc5 hf5 B5 K5 A4 KM4
   go_wp2_with fail
   refine (ixL_any (kp.map (colI E m)) _ (colI E m c) (.slice A1 n c1) _ gl w6 RK6.out RT6.out RC6.out K6.out.lt (K6.out.cell 0) HLN.out (fun r hr => by
    obtain ⟨d, _, rfl⟩ := List.mem_map.1 hr
    rw [colI_len]
    exact Nat.le_trans HMF.out (by decide))).mono ?_
   rintro e w7 ⟨rfl, hb7⟩
   rw [HIX.out]
   have A7 := qH (A6.out.below hb7)
   have K7 := qH (K6.out.below hb7 K6.out.lt)
   have KM7 := qH (KM6.out.below hb7 KM6.out.lt)
   have HS6 := qH (Nat.le_trans HS4.out B6.out.size)
   have BH7 := qH (BH6.out.trans (hb7.mono HS6.out))
   have HS7 := qH (Nat.le_trans HS6.out hb7.size)
   have BL7 := qH (show Below wl.heap.size wl w7 from (B4.out.trans (B6.out.mono B4.out.size)).trans (hb7.mono (Nat.le_trans B4.out.size B6.out.size)))
   clear hb7 A6 K6 KM6 RC6 RK6 RT6
   have HCF256 := qH (show cf c < 256 by rw [HCF.out]; exact Nat.lt_of_le_of_lt (clsOf_le _ c) (Nat.lt_of_le_of_lt (firstJ_len _ c) HC256.out))
   by_cases hcn : cf c < n
   ·rw [if_pos hcn]
    have HFN := qH (show F (c + 1) = kp by
     rw [HF.out, HKPE.out, HF.out]
     exact firstJ_hit (by rw [← HCF.out, ← HF.out, ← HKPE.out, ← HN.out]; exact hcn))
    have nl := nlt0 (cf c)
    obtain ⟨VX, hVX⟩ : ∃ V, V = U := ⟨_, rfl⟩
    have AX := qH (show ApG tyM w7 H (m + 3 + (F (c + 1)).length) VX X by rw [hVX, HFN.out, ← HN.out]; exact AC.out.below BL7.out)
    have SX := qH (show MgS E m c (F (c + 1)) (F (c + 1)) 0 VX X by rw [hVX, HFN.out]; exact SC.out)
    have KX := qH KM7.out
    have NX := qH (show ∀ i, i < m + 3 + (F (c + 1)).length → (VX i).ownBlock ≠ some gm by rw [hVX, HFN.out, ← HN.out]; exact NC.out)
    have BX := qH BH7.out
    have HSX := qH HS7.out
    have VX0 := qH (show VX 0 = .slice (some ⟨g, 0, none⟩) m m by rw [hVX]; exact HU0.out)
    have VX1 := qH (show VX 1 = .slice A1 n c1 by rw [hVX]; exact HU1.out)
    have VX2 := qH (show VX 2 = .slice A2 c c2 by rw [hVX]; exact HU2.out)
    clear hcn hVX
    have OCX := qH (show w7.ownsRow H 5 1 (.slice A2 c c2) c (clsB E m c) by
     have h1 := AX.out.own 2 (by omega)
     rw [SX.out.x2, clsB_len, VX2.out] at h1
     exact h1)
    have HLC := qH (show c + [Value.int .u8 (cf c : Int)].length ≤ 2097152 from cls_kb HCK.out HK256.out)
    have cv8 := cv_ix HCF256.out
    have e3 := wrap_one c (lt_k HCK.out HK256.out)
    have e4 := wrap_one' c (lt_k HCK.out HK256.out)
    go_wp2_with (first
     | ((with_reducible refine atDst 65 ?_); refine wpList_plain rfl fun K hK => wp_bldVk 22 5 (.tmp 64) rfl i8 (.int .u8 0) Try.underlying22 hi8 hz8 hs8 rfl (.int .u8 (cf c : Int)) rfl rfl ?_; intro wy hk hb; have KY := qH hk; have BY := qH hb; have AY := qH (AX.out.below hb); have OCY := qH (own6_stay OCX.out fun j hj => hb.block j (own6_lt OCX.out j hj).1); clear hk hb; refine hK _ _ ?_; clear hK K; (try simp only [Act.put, qA, qB, qC]))
     | ((with_reducible refine atDst 66 ?_); refine wpList_appW (base := H) rfl (.tmp 62) (.tmp 65) 22 rfl 5 i8 (.int .u8 0) 1 Try.underlying22 hi8 hz8 hs8 hb8 rfl _ _ _ rfl OCY.out _ [Value.int .u8 (cf c : Int)] rfl (rowB KY.out rfl (by decide)) (fun u hu => by obtain rfl := List.mem_singleton.1 hu; rfl) HLC.out (by decide) (Nat.le_trans HSX.out BY.out.size) ?_; intro v8 wf ho hgr hwr; have HO8 := qH (show wf.ownsRow H 5 1 v8 (c + 1) (clsB E m (c + 1)) by (rw [clsB_next, ← HCF.out]; exact ho)); have HG8 := qH hgr; have HW8 := qH hwr; clear ho hgr hwr; (try simp only [Act.put, qA, qB, qC])))
    have AZ := qH (AY.out.grow (s := 2) (v := v8) (l := clsB E m (c + 1)) (by omega) (by rw [clsB_len]; exact HO8.out) (by rw [VX2.out]; exact HG8.out) (by rw [VX2.out]; exact HW8.out))
    have SZ := qH (SX.out.cls (v := v8) (Nat.le_add_left 3 m))
    have HG8' := qH (show ∀ k, (Value.slice A2 c c2).ownBlock = some k → H ≤ k from fun k hk => (own6_lt OCY.out k hk).2)
    have KZ := qH (show Blk wf gm 28 dm from (KX.out.below BY.out KX.out.lt).grown HG8.out fun e => NX.out 2 (by omega) (by rw [VX2.out]; exact e.symm))
    have NZ := qH (show ∀ i, i < m + 3 + (F (c + 1)).length → (putV VX 2 v8 i).ownBlock ≠ some gm from fun i hi e => by
     by_cases h2 : i = 2
     ·subst h2
      rw [putV_at] at e
      rcases HW8.out gm e with h | h
      ·exact NX.out 2 (by omega) (by rw [VX2.out]; exact h)
      ·have h3 := KX.out.lt
       have h4 := BY.out.size
       omega
     ·rw [putV_ne h2] at e
      exact NX.out i hi e)
    have BZ := qH (below_own (BX.out.trans (BY.out.mono HSX.out)) (Nat.le_trans HSX.out BY.out.size) HG8.out fun k hk => HG8'.out k hk)
    have V0Z := qH (show putV VX 2 v8 0 = .slice (some ⟨g, 0, none⟩) m m by rw [putV_ne (by decide)]; exact VX0.out)
    refine ⟨⟨c + 1, putV VX 2 v8, _, HCK.out, rfl, ?_, ?_, V0Z.out, AZ.out, SZ.out, KZ.out, NZ.out, BZ.out⟩, by simpa [intOf] using HMC.out⟩
    ·rw [putV_ne (by decide)]
     exact VX1.out.symm
    ·rw [putV_at]
   ·rw [if_neg hcn]
    have HCN := qH (show cf c = n from Nat.le_antisymm (by rw [HN.out, HKPE.out, HF.out, HCF.out]; exact clsOf_le _ c) (Nat.le_of_not_lt hcn))
    have HFN := qH (show F (c + 1) = kp ++ [c] by
     rw [HF.out, HKPE.out, HF.out]
     exact firstJ_new (by rw [← HCF.out, HCN.out, HN.out, HKPE.out, HF.out]))
    have HFNL := qH (show (F (c + 1)).length = n + 1 by rw [HFN.out, List.length_append, List.length_singleton, ← HN.out])
    have hc7 := K7.out.cell 0
    have OK7 := qH (show w7.ownsRow H 38 1 (.slice A1 n c1) n ((List.range n).map fun k => U (k + (m + 3))) by
     have h1 := OK.out
     rw [HU1.out] at h1
     exact own6_stay h1 fun j hj => BL7.out.block j (own6_lt h1 j hj).1)
    have HLN1 := qH (show n + [Value.slice (some ⟨gc, 0, none⟩) m m].length ≤ 2097152 from row_bnd (m := m) HNC.out HC256.out)
    have U1L := qH (show ∀ k, (Value.slice A1 n c1).ownBlock = some k → k < wl.heap.size from fun k hk => by
     have h1 := OK.out
     rw [HU1.out] at h1
     exact (own6_lt h1 k hk).1)
    have HGLL := qH (show wl.heap.size ≤ gl by rw [HGLE.out]; exact B4.out.size)
    clear hcn
    go_wp2_with (first
     | ((with_reducible refine atDst 40 ?_); refine wpList_plain rfl fun K hK => wp_bldVk 25 38 (.tmp 39) rfl il (.slice none 0 0) Try.underlying25 hil hl0 hl1 rfl (.slice (some ⟨gc, 0, none⟩) m m) rfl rfl ?_; intro w8 hk hb; have K8 := qH hk; have B8 := qH hb; have A8 := qH (A7.out.below hb); have OK8 := qH (own6_stay OK7.out fun j hj => hb.block j (own6_lt OK7.out j hj).1); have KL8 := qH (K7.out.below hb K7.out.lt); clear hk hb; refine hK _ _ ?_; clear hK K; (try simp only [Act.put, qA, qB, qC]))
     | ((with_reducible refine atDst 41 ?_); refine wpList_appW (base := H) rfl (.tmp 38) (.tmp 40) 25 rfl 38 il (.slice none 0 0) 24 Try.underlying25 hil hl0 hl1 hl2 rfl _ _ _ rfl OK8.out _ [Value.slice (some ⟨gc, 0, none⟩) m m] rfl (rowB K8.out rfl (by decide)) (fun u hu => by obtain rfl := List.mem_singleton.1 hu; rfl) HLN1.out (by decide) (Nat.le_trans HS7.out B8.out.size) ?_; intro v9 w9 ho hgr hwr; have HO9 := qH ho; have HG9 := qH hgr; have HW9 := qH hwr; have KL9 := qH (show Blk w9 gl 38 [.slice (some ⟨gc, 0, none⟩) m m] from KL8.out.grown hgr fun e => by { have h1 := U1L.out gl e.symm; have h2 := HGLL.out; omega }); have hc9 := KL9.out.cell 0; clear ho hgr hwr; (try simp only [Act.put, qA, qB, qC])))
    have A9 := qH (show ApG tyM w9 H (m + 3 + n + 1) (putV (putV U (m + 3 + n) (.slice (some ⟨gc, 0, none⟩) m m)) 1 v9) (putX (putX X (m + 3 + n) (nums .i64 (colI E m c))) 1 ((List.range n).map (fun k => U (k + (m + 3))) ++ [.slice (some ⟨gc, 0, none⟩) m m])) from A8.out.grow (s := 1) (by omega) (by rw [List.length_append, List.length_map, List.length_range]; exact HO9.out) (by rw [putV_ne (by omega), HU1.out]; exact HG9.out) (by rw [putV_ne (by omega), HU1.out]; exact HW9.out))
    have S9 := qH (show MgS E m c kp (kp ++ [c]) 0 (putV (putV U (m + 3 + n) (.slice (some ⟨gc, 0, none⟩) m m)) 1 v9) (putX (putX X (m + 3 + n) (nums .i64 (colI E m c))) 1 ((List.range n).map (fun k => U (k + (m + 3))) ++ [.slice (some ⟨gc, 0, none⟩) m m])) by
     have h1 := SC.out.keep (v := .slice (some ⟨gc, 0, none⟩) m m) (kv := v9) (d := c)
     rw [← HN.out] at h1
     exact h1)
    have KM9 := qH (show Blk w9 gm 28 dm from (KM7.out.below B8.out KM7.out.lt).grown HG9.out fun e => NC.out 1 (by omega) (by rw [HU1.out]; exact e.symm))
    have N9 := qH (show ∀ i, i < m + 3 + n + 1 → (putV (putV U (m + 3 + n) (.slice (some ⟨gc, 0, none⟩) m m)) 1 v9 i).ownBlock ≠ some gm from fun i hi e => by
     by_cases h1 : i = 1
     ·subst h1
      rw [putV_at] at e
      rcases HW9.out gm e with h | h
      ·exact NC.out 1 (by omega) (by rw [HU1.out]; exact h)
      ·have h3 := KM7.out.lt
       have h4 := B8.out.size
       omega
     ·rw [putV_ne h1] at e
      by_cases h2 : i = m + 3 + n
      ·subst h2
       rw [putV_at] at e
       have h3 := Option.some.inj (show some gc = some gm from e)
       have h4 := HGML.out
       have h5 := HGC.out
       omega
      ·rw [putV_ne h2] at e
       exact NC.out i (by omega) e)
    have B9 := qH (below_own (BH7.out.trans (B8.out.mono HS7.out)) (Nat.le_trans HS7.out B8.out.size) HG9.out fun k hk => (own6_lt OK8.out k hk).2)
    have V09 := qH (show putV (putV U (m + 3 + n) (.slice (some ⟨gc, 0, none⟩) m m)) 1 v9 0 = .slice (some ⟨g, 0, none⟩) m m by rw [putV_ne (by decide), putV_ne (by omega)]; exact HU0.out)
    have V29 := qH (show putV (putV U (m + 3 + n) (.slice (some ⟨gc, 0, none⟩) m m)) 1 v9 2 = .slice A2 c c2 by rw [putV_ne (by decide), putV_ne (by omega)]; exact HU2.out)
    have VC9 := qH (show putV (putV U (m + 3 + n) (.slice (some ⟨gc, 0, none⟩) m m)) 1 v9 (m + 3 + n) = .slice (some ⟨gc, 0, none⟩) m m by rw [putV_ne (by omega), putV_at])
    obtain ⟨A9v, c9v, hv9⟩ := ownC_slice HO9.out
    have V19 := qH (show putV (putV U (m + 3 + n) (.slice (some ⟨gc, 0, none⟩) m m)) 1 v9 1 = .slice A9v (n + [Value.slice (some ⟨gc, 0, none⟩) m m].length) c9v by rw [putV_at]; exact hv9)
    rw [hv9]
    clear hc7 hc9 hv9 A7 A8 OK7 OK8 K7 KL8 KL9 K8
    go_wp2_with fail
    go_loopw [44] (fun iv wm => ∃ (i : Nat) (V : Nat → Value) (Y : Nat → List Value), i ≤ m ∧ iv = .int .i64 (i : Int) ∧ V 0 = .slice (some ⟨g, 0, none⟩) m m ∧ V 1 = .slice A9v (n + [Value.slice (some ⟨gc, 0, none⟩) m m].length) c9v ∧ V 2 = .slice A2 c c2 ∧ V (m + 3 + n) = .slice (some ⟨gc, 0, none⟩) m m ∧ ApG tyM wm H (m + 3 + n + 1) V Y ∧ MgS E m c kp (kp ++ [c]) i V Y ∧ Blk wm gm 28 dm ∧ (∀ i, i < m + 3 + n + 1 → (V i).ownBlock ≠ some gm) ∧ Below H w2 wm) (fun iv _ => m - (intOf iv).toNat)
    case atStart => exact ⟨0, _, _, Nat.zero_le _, rfl, V09.out, V19.out, V29.out, VC9.out, A9.out, S9.out, KM9.out, N9.out, B9.out⟩
    clear A9 S9 KM9 N9 B9 V09 V19 V29 VC9
    obtain ⟨i, V, Y, hi, rfl, hv0, hv1, hv2, hvc, ha, hs, hk, hn, hb⟩ := hrel
    obtain ⟨wm, hwm⟩ : ∃ v : World, v = wr := ⟨_, rfl⟩
    subst hwm
    have HI := qH hi
    have HV0 := qH hv0
    have HV1 := qH hv1
    have HV2 := qH hv2
    have HVC := qH hvc
    have AI := qH ha
    have SI := qH hs
    have KI := qH hk
    have NI := qH hn
    have BI := qH hb
    have HSI := qH (show H ≤ wm.heap.size by rw [HH.out]; exact hb.size)
    clear hi hv0 hv1 hv2 hvc ha hs hk hn hb
    by_cases him : i < m
    ·have y1 : (i : Int) < (m : Int) := Int.ofNat_lt.2 him
     have HIM := qH him
     have HMI := qH (sub_next him)
     have OR := qH (show wm.ownsRow H 3 1 (V (i + 3)) n (nums .i64 (kp.map fun d => (stC E i d : Int))) by
      have h1 := AI.out.own (i + 3) (by omega)
      rw [SI.out.xr i HIM.out, if_neg (Nat.lt_irrefl i), nums_length, List.length_map, ← HN.out] at h1
      exact h1)
     obtain ⟨Ar, cr, hvr⟩ := ownC_slice OR.out
     have HVR := qH hvr
     have CTX := qH (show ∀ W Y' c', ApG tyM W H (m + 3 + n + 1) V Y' → (Y' 0)[i]? = some c' → W.cell? ⟨g, i, none⟩ = some c' from fun W Y' c' h1 h2 => (apg_cell h1 (s := 0) (q := i) (by omega) HV0.out h2).1)
     have X0I := qH (show (Y 0)[i]? = some (.slice Ar n cr) by
      rw [SI.out.x0, ← hvr]
      simp [HIM.out])
     have CMX := qH (show ∀ W, Blk W gm 28 dm → W.cell? ⟨gm, 256, none⟩ = some (.slice (some ⟨g, 0, none⟩) m m) from fun W h1 => (h1.cell 256).trans (by rw [HDM.out]; exact dcl_n (ctab_length _ _)))
     have cL : wm.cell? ⟨gc, i, none⟩ = some (.int .i64 (stC E i c : Int)) := (apg_cell AI.out (s := m + 3 + n) (q := i) (by omega) HVC.out (by
      rw [show m + 3 + n = n + (m + 3) by omega, SI.out.xc n c (by rw [HN.out, List.getElem?_append_right (Nat.le_refl _), Nat.sub_self]; rfl)]
      rw [colI_ncs, ncs_get _ HIM.out])).1
     have HB1 := qH (show n + [Value.int .i64 (stC E i c : Int)].length ≤ 2097152 from row_bnd (m := m) HNC.out HC256.out)
     have NGM := qH (show g ≠ gm from fun e => NI.out 0 (by omega) (by rw [HV0.out, e]; rfl))
     have NRM := qH (show ∀ k, (Value.slice Ar n cr).ownBlock = some k → k ≠ gm from fun k hk e => NI.out (i + 3) (by omega) (by rw [HVR.out, hk, e]))
     clear him hvr
     go_wp2_with fail
     clear cL
     refine mc_start (fun W => W.cell? ⟨gm, 256, none⟩ = some (.slice (some ⟨g, 0, none⟩) m m)) (fun W => W.cell? ⟨g, i, none⟩ = some (.slice Ar n cr)) 12 (by kernel_rfl) (fun wd hwd => ?_)
     have hBD : Below wm.heap.size wm wd := by rw [hwd]; exact (Below.refl _ _).drew
     have AD := qH (AI.out.below hBD)
     have KD := qH (KI.out.below hBD KI.out.lt)
     have HSD := qH (Nat.le_trans HSI.out hBD.size)
     have BD := qH (BI.out.trans (hBD.mono HSI.out))
     have hX := CMX.out wd KD.out
     have hY := CTX.out wd Y _ AD.out X0I.out
     clear hwd hBD
     refine mc_take (i := 0) (oi := ⟨some 49, _, _, _, _, _⟩) (v := ?_) rfl (by kernel_rfl) (by kernel_rfl) (by kernel_rfl) (fun _ _ _ h => h) rfl hX ?_ ?_; rotate_left; (intro W hW; go_simp; try with_reducible rfl); simp only [Act.put, qA, qB, qC]
     refine mc_take (i := 1) (oi := ⟨some 50, _, _, _, _, _⟩) (v := .slice (some ⟨g, 0, none⟩) m m) rfl (by kernel_rfl) (by kernel_rfl) (by kernel_rfl) (fun _ _ _ h => h) rfl hX (fun W hT => lk_ldIss (.tmp 49) rfl rfl hT) ?_; simp only [Act.put, qA, qB, qC]
     refine mc_take (i := 2) (oi := ⟨some 51, _, _, _, _, _⟩) (v := ?_) rfl (by kernel_rfl) (by kernel_rfl) (by kernel_rfl) (fun _ _ _ h => h) rfl hX ?_ ?_; rotate_left; (intro W hW; go_simp; try with_reducible rfl); simp only [Act.put, qA, qB, qC]
     refine mc_take (i := 3) (oi := ⟨some 52, _, _, _, _, _⟩) (v := ?_) rfl (by kernel_rfl) (by kernel_rfl) (by kernel_rfl) (fun _ _ _ h => h) rfl hX ?_ ?_; rotate_left; (intro W hW; go_simp; try with_reducible rfl); simp only [Act.put, qA, qB, qC]
     refine mc_take (i := 4) (oi := ⟨some 53, _, _, _, _, _⟩) (v := .slice (some ⟨g, 0, none⟩) m m) rfl (by kernel_rfl) (by kernel_rfl) (by kernel_rfl) (fun _ _ _ h => h) rfl hX (fun W hT => lk_ldIss (.tmp 52) rfl rfl hT) ?_; simp only [Act.put, qA, qB, qC]
     refine mc_take (i := 5) (oi := ⟨some 54, _, _, _, _, _⟩) (v := ?_) rfl (by kernel_rfl) (by kernel_rfl) (by kernel_rfl) (fun _ _ _ h => h) rfl hX ?_ ?_; rotate_left; (intro W hW; go_simp; try with_reducible rfl); simp only [Act.put, qA, qB, qC]
     refine mc_take (i := 6) (oi := ⟨some 55, _, _, _, _, _⟩) (v := ?_) rfl (by kernel_rfl) (by kernel_rfl) (by kernel_rfl) (fun _ _ _ h => h) rfl hX ?_ ?_; rotate_left; (intro W hW; go_simp; try with_reducible rfl); simp only [Act.put, qA, qB, qC]
     refine mc_takeS (i := 7) (oi := ⟨some 56, _, _, _, _, _⟩) (v := .slice Ar n cr) rfl (by kernel_rfl) (by kernel_rfl) (by kernel_rfl) (fun _ _ _ h => h) rfl hX hY (fun W _ hS => lk_ldIs (.tmp 55) rfl rfl hS) ?_; simp only [Act.put, qA, qB, qC]
     refine mc_take (i := 8) (oi := ⟨some 57, _, _, _, _, _⟩) (v := ?_) rfl (by kernel_rfl) (by kernel_rfl) (by kernel_rfl) (fun _ _ _ h => h) rfl hX ?_ ?_; rotate_left; (intro W hW; go_simp; try with_reducible rfl); simp only [Act.put, qA, qB, qC]
     refine mc_actB (i := 9) (o := ⟨some 58, _, _, _, _, _⟩) rfl (by kernel_rfl) rfl (fun K hK => ?_)
     refine wp_bldVk 38 3 (.tmp 57) rfl i1 (.int .i64 0) Try.underlying38 hi1 hy0 hy1 rfl (.int .i64 (stC E i c : Int)) rfl rfl ?_
     intro wa hk hb
     have KA := qH hk
     have AA := qH (AD.out.below hb)
     have DA := qH (KD.out.below hb KD.out.lt)
     have HSA := qH (Nat.le_trans HSD.out hb.size)
     have BA := qH (BD.out.trans (hb.mono HSD.out))
     refine hK _ _ (CMX.out wa DA.out) (CTX.out wa Y _ AA.out X0I.out) ?_
     clear hK K hX hY
     (try simp only [Act.put, qA, qB, qC])
     clear hk hb
     have hX := CMX.out wa DA.out
     have hY := CTX.out wa Y _ AA.out X0I.out
     refine mc_actB (i := 10) (o := ⟨some 59, _, _, _, _, _⟩) rfl (by kernel_rfl) rfl (fun K hK => ?_)
     have OA := qH (show wa.ownsRow H 3 1 (.slice Ar n cr) n (nums .i64 (kp.map fun d => (stC E i d : Int))) by
      have h1 := AA.out.own (i + 3) (by omega)
      rw [SI.out.xr i HIM.out, if_neg (Nat.lt_irrefl i), nums_length, List.length_map, ← HN.out, HVR.out] at h1
      exact h1)
     refine wp_appW (base := H) (.tmp 56) (.tmp 58) 38 rfl 3 i1 (.int .i64 0) 8 Try.underlying38 hi1 hy0 hy1 hy2 rfl _ n (nums .i64 (kp.map fun d => (stC E i d : Int))) rfl OA.out _ [.int .i64 (stC E i c : Int)] rfl (rowB KA.out rfl (by decide)) (fun u hu => by obtain rfl := List.mem_singleton.1 hu; rfl) HB1.out (by decide) HSA.out ?_
     intro vn wb ho hg hw
     have AB := qH (AA.out.grow (s := i + 3) (v := vn) (l := nums .i64 ((kp ++ [c]).map fun d => (stC E i d : Int))) (by omega) (by
      rw [nums_length, List.length_map, List.length_append, List.length_singleton, ← HN.out, List.map_append, nums, List.map_append]
      exact ho) (by rw [HVR.out]; exact hg) (by rw [HVR.out]; exact hw))
     have DB := qH (DA.out.grown hg fun e => NRM.out _ e.symm rfl)
     have BB := qH (below_own BA.out HSA.out hg fun k hk => (own6_lt OA.out k hk).2)
     have HWB := qH (show ∀ k, vn.ownBlock = some k → k ≠ gm from fun k hk e => by
      rcases hw k hk with h | h
      ·exact NRM.out k h e
      ·have h3 := DA.out.lt
       omega)
     obtain ⟨Av, cv, hvn⟩ : ∃ A c, vn = .slice A (n + 1) c := ownC_slice ho
     have HVN := qH hvn
     have X0B := qH (show ((putX Y (i + 3) (nums .i64 ((kp ++ [c]).map fun d => (stC E i d : Int)))) 0)[i]? = some (.slice Ar n cr) by
      rw [putX_ne (by omega)]
      exact X0I.out)
     have V0B := qH (show putV V (i + 3) vn 0 = .slice (some ⟨g, 0, none⟩) m m by rw [putV_ne (by omega)]; exact HV0.out)
     have CB := qH (apg_cell AB.out (s := 0) (q := i) (by omega) V0B.out X0B.out)
     refine hK _ _ (CMX.out wb DB.out) CB.out.1 ?_
     clear hK K hX hY
     rw [hvn]
     (try simp only [Act.put, qA, qB, qC])
     clear ho hg hw hvn
     have hX := CMX.out wb DB.out
     have hY := CB.out.1
     refine mc_take (i := 11) (oi := ⟨some 60, _, _, _, _, _⟩) (v := ?_) rfl (by kernel_rfl) (by kernel_rfl) (by kernel_rfl) (fun _ _ _ h => h) rfl hX ?_ ?_; rotate_left; (intro W hW; go_simp; try with_reducible rfl); simp only [Act.put, qA, qB, qC]
     refine mc_last (i := 12) (o := ⟨none, _, _, _, _, _⟩) rfl (by kernel_rfl) rfl (fun K hK => ?_)
     refine wp_stL (.tmp 60) (.tmp 59) rfl g i rfl Av (n + 1) cv rfl _ CB.out.1 CB.out.2 ?_
     obtain ⟨wz, hwz⟩ : ∃ v, v = wb.setCell ⟨g, i, none⟩ (.slice Av (n + 1) cv) := ⟨_, rfl⟩
     rw [← hwz]
     have DZ := qH (show Blk wz gm 28 dm by rw [hwz]; exact DB.out.far (p := ⟨g, i, none⟩) NGM.out.symm _)
     have X0L := qH (show i < ((putX Y (i + 3) (nums .i64 ((kp ++ [c]).map fun d => (stC E i d : Int)))) 0).length from (List.getElem?_eq_some_iff.1 X0B.out).1)
     have AZ := qH (show ApG tyM wz H (m + 3 + n + 1) (putV V (i + 3) vn) (putX (putX Y (i + 3) (nums .i64 ((kp ++ [c]).map fun d => (stC E i d : Int)))) 0 ((Y 0).set i vn)) by
      have h1 := AB.out.set (s := 0) (by omega) V0B.out X0L.out (.slice Av (n + 1) cv)
      rw [putX_ne (show 0 ≠ i + 3 by omega), ← hwz, ← HVN.out] at h1
      exact h1)
     have SZ := qH (SI.out.put HIM.out (v := vn))
     have BZ := qH (show Below H w2 wz by
      rw [hwz]
      exact BB.out.setCell (p := ⟨g, i, none⟩) ((AI.out.lt (i := 0) (by omega) g (by rw [HV0.out]; rfl)).2) _)
     have NZ := qH (show ∀ j, j < m + 3 + n + 1 → (putV V (i + 3) vn j).ownBlock ≠ some gm from fun j hj e => by
      by_cases h1 : j = i + 3
      ·subst h1
       rw [putV_at] at e
       exact HWB.out gm e rfl
      ·rw [putV_ne h1] at e
       exact NI.out j hj e)
     have V1Z := qH (show putV V (i + 3) vn 1 = .slice A9v (n + [Value.slice (some ⟨gc, 0, none⟩) m m].length) c9v by rw [putV_ne (by omega)]; exact HV1.out)
     have V2Z := qH (show putV V (i + 3) vn 2 = .slice A2 c c2 by rw [putV_ne (by omega)]; exact HV2.out)
     have VCZ := qH (show putV V (i + 3) vn (m + 3 + n) = .slice (some ⟨gc, 0, none⟩) m m by rw [putV_ne (by omega)]; exact HVC.out)
     refine hK _ _ (CMX.out wz DZ.out) ?_
     clear hK K hX hY hwz
     (try simp only [Act.put, qA, qB, qC])
     refine wpAnyC_done (by kernel_rfl) ?_ _
     have e3 := wrap_one i (lt_bigN HIM.out HMF.out)
     have e4 := wrap_one' i (lt_bigN HIM.out HMF.out)
     go_wp2_with fail
     exact ⟨⟨i + 1, putV V (i + 3) vn, _, HIM.out, rfl, V0B.out, V1Z.out, V2Z.out, VCZ.out, AZ.out, SZ.out, DZ.out, NZ.out, BZ.out⟩, by simpa [intOf] using HMI.out⟩
    ·obtain rfl : m = i := Nat.le_antisymm (Nat.le_of_not_lt him) HI.out
     have y1 : ¬ ((m : Int) < (m : Int)) := Int.lt_irrefl _
     obtain ⟨VX, hVX⟩ : ∃ W, W = V := ⟨_, rfl⟩
     have AX := qH (show ApG tyM wm H (m + 3 + (F (c + 1)).length) VX Y by rw [hVX, HFNL.out]; exact AI.out)
     have SX := qH (show MgS E m c (F (c + 1)) (F (c + 1)) 0 VX Y by rw [hVX, HFN.out]; exact SI.out.all (Nat.le_refl _))
     have KX := qH KI.out
     have NX := qH (show ∀ j, j < m + 3 + (F (c + 1)).length → (VX j).ownBlock ≠ some gm by rw [hVX, HFNL.out]; exact NI.out)
     have BX := qH BI.out
     have HSX := qH HSI.out
     have VX0 := qH (show VX 0 = .slice (some ⟨g, 0, none⟩) m m by rw [hVX]; exact HV0.out)
     have VX1 := qH (show VX 1 = .slice A9v (n + [Value.slice (some ⟨gc, 0, none⟩) m m].length) c9v by rw [hVX]; exact HV1.out)
     have VX2 := qH (show VX 2 = .slice A2 c c2 by rw [hVX]; exact HV2.out)
     have hcn : (n : Int) = (cf c : Int) := by rw [HCN.out]
     rw [hcn]
     clear him hVX
     have OCX := qH (show wm.ownsRow H 5 1 (.slice A2 c c2) c (clsB E m c) by
      have h1 := AX.out.own 2 (by omega)
      rw [SX.out.x2, clsB_len, VX2.out] at h1
      exact h1)
     have HLC := qH (show c + [Value.int .u8 (cf c : Int)].length ≤ 2097152 from cls_kb HCK.out HK256.out)
     have cv8 := cv_ix HCF256.out
     have e3 := wrap_one c (lt_k HCK.out HK256.out)
     have e4 := wrap_one' c (lt_k HCK.out HK256.out)
     go_wp2_with (first
      | ((with_reducible refine atDst 65 ?_); refine wpList_plain rfl fun K hK => wp_bldVk 22 5 (.tmp 64) rfl i8 (.int .u8 0) Try.underlying22 hi8 hz8 hs8 rfl (.int .u8 (cf c : Int)) rfl rfl ?_; intro wy hk hb; have KY := qH hk; have BY := qH hb; have AY := qH (AX.out.below hb); have OCY := qH (own6_stay OCX.out fun j hj => hb.block j (own6_lt OCX.out j hj).1); clear hk hb; refine hK _ _ ?_; clear hK K; (try simp only [Act.put, qA, qB, qC]))
      | ((with_reducible refine atDst 66 ?_); refine wpList_appW (base := H) rfl (.tmp 62) (.tmp 65) 22 rfl 5 i8 (.int .u8 0) 1 Try.underlying22 hi8 hz8 hs8 hb8 rfl _ _ _ rfl OCY.out _ [Value.int .u8 (cf c : Int)] rfl (rowB KY.out rfl (by decide)) (fun u hu => by obtain rfl := List.mem_singleton.1 hu; rfl) HLC.out (by decide) (Nat.le_trans HSX.out BY.out.size) ?_; intro v8 wf ho hgr hwr; have HO8 := qH (show wf.ownsRow H 5 1 v8 (c + 1) (clsB E m (c + 1)) by (rw [clsB_next, ← HCF.out]; exact ho)); have HG8 := qH hgr; have HW8 := qH hwr; clear ho hgr hwr; (try simp only [Act.put, qA, qB, qC])))
     have AZ := qH (AY.out.grow (s := 2) (v := v8) (l := clsB E m (c + 1)) (by omega) (by rw [clsB_len]; exact HO8.out) (by rw [VX2.out]; exact HG8.out) (by rw [VX2.out]; exact HW8.out))
     have SZ := qH (SX.out.cls (v := v8) (Nat.le_add_left 3 m))
     have HG8' := qH (show ∀ k, (Value.slice A2 c c2).ownBlock = some k → H ≤ k from fun k hk => (own6_lt OCY.out k hk).2)
     have KZ := qH (show Blk wf gm 28 dm from (KX.out.below BY.out KX.out.lt).grown HG8.out fun e => NX.out 2 (by omega) (by rw [VX2.out]; exact e.symm))
     have NZ := qH (show ∀ i, i < m + 3 + (F (c + 1)).length → (putV VX 2 v8 i).ownBlock ≠ some gm from fun i hi e => by
      by_cases h2 : i = 2
      ·subst h2
       rw [putV_at] at e
       rcases HW8.out gm e with h | h
       ·exact NX.out 2 (by omega) (by rw [VX2.out]; exact h)
       ·have h3 := KX.out.lt
        have h4 := BY.out.size
        omega
      ·rw [putV_ne h2] at e
       exact NX.out i hi e)
     have BZ := qH (below_own (BX.out.trans (BY.out.mono HSX.out)) (Nat.le_trans HSX.out BY.out.size) HG8.out fun k hk => HG8'.out k hk)
     have V0Z := qH (show putV VX 2 v8 0 = .slice (some ⟨g, 0, none⟩) m m by rw [putV_ne (by decide)]; exact VX0.out)
     refine ⟨⟨c + 1, putV VX 2 v8, _, HCK.out, rfl, ?_, ?_, V0Z.out, AZ.out, SZ.out, KZ.out, NZ.out, BZ.out⟩, by simpa [intOf] using HMC.out⟩
     ·rw [putV_ne (by decide)]
      exact VX1.out.symm
     ·rw [putV_at]
  ·obtain rfl : K = c := Nat.le_antisymm (Nat.le_of_not_lt hck) HC.out
   have x1 : ¬ ((K : Int) < (K : Int)) := Int.lt_irrefl _
   obtain ⟨cb, hcb⟩ : ∃ cb, cb = bvs E.cl := ⟨_, rfl⟩
   have HCB := qH hcb
   have HSC := qH (show (Try.prog.info? 24).map (·.size) = some cb.length by rw [hcb]; exact size_ctab HL.out)
   have KB := qH (show Blk wl w.heap.size 28 cs from K2.out.below BC.out HWH.out)
   have r1 := qH (show wl.rangeAt w.heap.size 0 cb from fun i v hv => by
    rw [HCB.out] at hv
    rw [Nat.zero_add, KB.out.cell i, HCS.out, dcl_cl HL.out (by have := (List.getElem?_eq_some_iff.1 hv).1; rw [bvs_length, HL.out] at this; exact this)]
    exact hv)
   obtain ⟨f, hf⟩ : ∃ f : Nat → Nat, f = fun b => cf (clB E b) := ⟨_, rfl⟩
   have HFB := qH (show ∀ b, f b = cf (clB E b) from fun b => by rw [hf])
   have HF2 := qH (show ∀ b, b < 256 → f b < 256 from fun b hb => by
    rw [hf]
    show cf (clB E b) < 256
    rw [HCF.out]
    exact Nat.lt_of_le_of_lt (clsOf_le _ _) (Nat.lt_of_le_of_lt (firstJ_len _ _) (Nat.lt_of_lt_of_le (HSH.out.cl b hb) HK256.out)))
   have K0 := qH (show Blk wl gm 28 (dcl (tabF f 0) (.slice (some ⟨g, 0, none⟩) m m) (.slice (some ⟨be, oe, none⟩) m ce)) by
    rw [tabF_zero, ← HDM.out]
    exact KC.out)
   have RW2 := qH (show Row wl (.slice A2 K c2) (clsB E m K) by
    rw [← HU2.out]
    exact Row.of_own OC.out)
   obtain ⟨ba, oa, rfl, hba, hca⟩ := RW2.out.at_ (by rw [clsB_len]; exact HKP.out)
   have CLX := qH (show ∀ x, x < K → wl.cell? ⟨ba, oa + x, none⟩ = some (.int .u8 (cf x : Int)) from fun x hx => hca x _ (by rw [clsB_get hx, ← HCF.out]))
   have HBA := qH hba
   have NBA := qH (show ba ≠ gm from fun e => by
    refine NC.out 2 (by omega) ?_
    have h1 := OC.out
    rw [HU2.out] at h1 ⊢
    rcases h1.2 with ⟨e1, _⟩ | ⟨g', cap', cur, e1, _⟩
    ·injection e1 with e2
     cases e2
    ·injection e1 with e2
     injection e2 with e3
     injection e3 with e4 e5
     rw [e5, e]
     rfl)
   clear hck hcb hf hba hca
   go_wp2_with ((with_reducible refine atDst 69 ?_); refine wpList_load_mid rfl 24 _ rfl w.heap.size 0 rfl cb _ r1.out Try.underlying24 rfl HSC.out ?_; (try simp only [Act.put, qA, qB, qC]))
   go_loopw [70] (fun bv wk => ∃ b : Nat, b ≤ 256 ∧ bv = .int .i64 (b : Int) ∧ Blk wk gm 28 (dcl (tabF f b) (.slice (some ⟨g, 0, none⟩) m m) (.slice (some ⟨be, oe, none⟩) m ce)) ∧ Off (fun k => k = gm) wl wk) (fun bv _ => 256 - (intOf bv).toNat)
   case atStart => exact ⟨0, Nat.zero_le _, rfl, K0.out, Off.refl _ _⟩
   clear K0
   obtain ⟨b, hb, rfl, hk, ho⟩ := hrel
   obtain ⟨wb, hwb⟩ : ∃ v : World, v = wr := ⟨_, rfl⟩
   subst hwb
   have HB := qH hb
   have KB3 := qH hk
   have OB := qH ho
   clear hb hk ho
   by_cases hbl : b < 256
   ·have z1 : (b : Int) < 256 := Int.ofNat_lt.2 hbl
    have HBL := qH hbl
    have HMB := qH (sub_next hbl)
    have e3 := wrap_one b (lt_256 hbl)
    have e4 := wrap_one' b (lt_256 hbl)
    obtain ⟨x, hx⟩ : ∃ x, E.cl[b]? = some x := ⟨_, List.getElem?_eq_getElem (by rw [HL.out]; exact hbl)⟩
    have hxb : clB E b = x.toNat := by
     unfold clB
     rw [List.getD_eq_getElem?_getD, hx]
     rfl
    have hix : ∀ w, (Instr.index 24 (.agg cb.toArray) (.int .i64 (b : Int))).run Try.prog w = .ok (.int .u8 (x.toNat : Int)) w := fun w => ix_arr cb b _ hbl (by rw [HCB.out]; exact bvs_get _ _ _ hx) w
    have hxk : x.toNat < K := by
     rw [← hxb]
     exact HSH.out.cl b hbl
    have z2 : (x.toNat : Int) < (K : Int) := Int.ofNat_lt.2 hxk
    have z3 : (0 : Int) ≤ (x.toNat : Int) := Int.natCast_nonneg _
    have cX : wb.cell? ⟨ba, oa + x.toNat, none⟩ = some (.int .u8 (f b : Int)) := by
     rw [HFB.out, hxb]
     exact OB.out.cell HBA.out NBA.out (CLX.out _ hxk)
    have hcc := KB3.out.cell b
    obtain ⟨u, hu⟩ : ∃ u, (tabF f b)[b]? = some u := ⟨_, List.getElem?_eq_getElem (by rw [tabF_len]; exact hbl)⟩
    rw [dcl_cl (tabF_len _ _) hbl, bvs_get _ _ _ hu] at hcc
    have hff := KB3.out.frozen b
    have KZ := qH (dcl_putF KB3.out hbl (HF2.out b hbl))
    have OZ := qH (OB.out.trans (Off.set (D := fun k => k = gm) wb b (.int .u8 (f b : Int)) rfl))
    clear hbl hx hxb hxk hu
    go_wp2_with fail
    exact ⟨⟨b + 1, HBL.out, rfl, KZ.out, OZ.out⟩, by simpa [intOf] using HMB.out⟩
   ·obtain rfl : 256 = b := Nat.le_antisymm (Nat.le_of_not_lt hbl) HB.out
    have z1 : ¬ ((256 : Int) < 256) := Int.lt_irrefl _
    obtain ⟨da, hda⟩ : ∃ da, da = dcl (tabF f 256) (.slice (some ⟨g, 0, none⟩) m m) (.slice (some ⟨be, oe, none⟩) m ce) := ⟨_, rfl⟩
    have HDLa := qH (show da.length = 258 by rw [hda]; exact dcl_len (tabF_len _ _))
    have HDOa := qH (show da.all (·.oneCell') = true by rw [hda]; exact dcl_one)
    have HDSa := qH (show (Try.prog.info? 28).map (·.size) = some da.length by rw [hda]; exact size_dfa (tabF_len _ _))
    have KDa := qH (show Blk wb gm 28 da by rw [hda]; exact KB3.out)
    have HDA := qH hda
    have RZ := qH (OB.out.blk (b := gz) (fun e => by have := HGZH.out; have := HGM.out; omega) (R2.out.below BC.out HGZH.out))
    clear hbl hda
    go_wp2_with (first
     | ((with_reducible refine atDst 82 ?_); refine wpList_ldArr rfl 28 _ rfl gm rfl 28 _ _ KDa.out Try.underlying28 rfl HDSa.out ?_; (try simp only [Act.put, qA, qB, qC]))
     | ((with_reducible refine atStore 28 2 82 ?_); refine wpList_stBlk rfl 28 _ _ rfl gz da rfl rfl 28 _ RZ.out HDSa.out (by rw [HDLa.out, HDL.out]) HDOa.out (Below.refl gz wb) (Nat.le_refl _) ?_; intro we hk hb hs ho; have KE := qH hk; have HO9 := qH ho; have BE := qH hb; clear hk hb hs ho; (try simp only [Act.put, qA, qB, qC])))
    refine bodyPost_ret (results_blk rfl _ _ gz 28 _ _ rfl KE.out Try.underlying28 rfl HDSa.out) rfl ?_
    have OWB := qH (show Below w.heap.size w wb from (HBW.out wl BC.out).trans (OB.out.below (B := w.heap.size) (fun k hk => by rw [hk]; exact Nat.le_of_lt (Nat.lt_of_lt_of_le HWH.out HGM.out)) (HBW.out wl BC.out).size))
    have BEW := qH (show Below w.heap.size w we from OWB.out.trans ⟨BE.out.os, BE.out.tape, BE.out.output, BE.out.size, fun k hk => HO9.out k (Nat.ne_of_lt (Nat.lt_trans hk HGZ.out))⟩)
    refine ⟨da, rfl, ?_, BEW.out⟩
    have AE := qH (show ApG tyM we H (m + 3 + n) U X from (AC.out.offs OB.out fun i hi k hk e => NC.out i hi (by rw [hk, e])).stay fun k hk _ => HO9.out k (Nat.ne_of_gt (Nat.lt_of_lt_of_le HGZH.out hk)))
    have hd := SC.out.dfa AE.out (by omega) (tabF_len f 256) (HRE.out.below BEW.out)
    have h1 : mrgD E K = ⟨tabF f 256, (List.range m).map fun s => kp.map fun d => (stC E s d : Int), E.ends⟩ := by
     unfold mrgD
     rw [HSH.out.len, ← HF.out, ← HKPE.out]
     congr 1
     exact tabF_congr fun b _ => by rw [HFB.out, HCF.out]
    rw [h1, HDA.out, ← HU0.out]
    exact hd
end Go.Proofs.Ytiehefnbdijiaaa
