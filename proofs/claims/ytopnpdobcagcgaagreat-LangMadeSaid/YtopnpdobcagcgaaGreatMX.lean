/-
  Texts of this proof, put together: RxP, PyE. No statement is proved here.
-/
import Derived.Test.YtopnpdobcagcgaaGreatMI
import Derived.Test.YtopnpdobcagcgaaGreatMU
import Derived.Test.YtopnpdobcagcgaaGreatMV
import Derived.Test.YtopnpdobcagcgaaGreatMW
import Derived.Test.YtopnpdobcagcgaaGreatMN
import Derived.Test.YtopnpdobcagcgaaGreatMM
namespace Go.Proofs.YtopnpdobcagcgaaGreat
open Go.RowKit
set_option linter.unusedSimpArgs false
set_option linter.unusedVariables false
set_option maxHeartbeats 8000000 in
set_option maxRecDepth 100000 in
theorem rxAlt0_any (l : List T) (v : Value) (w : World) (hr : RowT w.heap.size w v l) (hn : nodesL l ≤ 549755813887) (hg : ∀ t ∈ l, good t) :
  Calls Tryz.prog 80 #[v] w fun e w' => ∃ ds, e = .returned (.agg ds.toArray) ∧ RxV w'.heap.size w' ds (altT l) ∧ Below w.heap.size w w' := by
 have R := qH hr
 have HN := qH hn
 have HGD := qH hg
 have HFN := qH (flatT_nodes 5 l)
 obtain ⟨i0, hi0, hz0, hz1, hz2⟩ := inf_rx'
 obtain ⟨z, hz⟩ : ∃ z, z = rxc 0 zeroS (.slice none 0 0) := ⟨_, rfl⟩
 have HZL := qH (show z.length = 6 by rw [hz]; rfl)
 have HZ0 := qH (show i0.zero = some (.agg z.toArray) by rw [hz]; exact hz0)
 have HZ1 := qH hz0
 obtain ⟨i1, hi1, hy0⟩ := info_set
 have HBS := qH builtS
 obtain ⟨zs, hzs⟩ : ∃ zs, zs = zeroS := ⟨_, rfl⟩
 have HZS := qH hzs
 rw [← hzs] at HBS
 have HY0 := qH (show i1.zero = some (.agg (wds zs).toArray) by rw [hzs]; exact hy0)
 clear hr hn hg hz hz0 hzs hy0
 go_enter Tryz.func80, Tryz.ntmps80
 go_wp2_with (first
  | ((with_reducible refine atDst 2 ?_); refine wpList_new rfl 29 rfl i0 _ z hi0 HZ0.out rfl (Below.refl w.heap.size w) (Nat.le_refl _) ?_; intro w1 hk1 hb1 hs1 _; have K1 := qH hk1; have B1 := qH hb1; have S1 := qH hs1; clear hk1 hb1 hs1; (try simp only [Act.put, qA, qB, qC]))
  | ((with_reducible refine atDst 3 ?_); refine wpList_new rfl 26 rfl i1 _ (wds zs) hi1 HY0.out rfl B1.out B1.out.size ?_; intro w2 hk2 hb2 hs2 ho2; have M2 := qH hk2; have B2 := qH hb2; have S2 := qH hs2; have K2 := qH (show Blk w2 w.heap.size 29 z from (ho2 _ K1.out.lt).trans K1.out); clear hk2 hb2 hs2 ho2; (try simp only [Act.put, qA, qB, qC])))
 refine (rxFlat_any 5 l v w2 (D := fun k => k < w.heap.size) (fun k hk => Nat.lt_of_lt_of_le hk B2.out.size) (R.out.below B2.out).rowD (by have := HN.out; omega)).mono ?_
 rintro e w3 ⟨v3, rfl, ho3, hb3⟩
 have R3 := qH ho3.rowD
 have B3 := qH (B2.out.trans (hb3.mono B2.out.size))
 have K3 := qH (K2.out.below hb3 K2.out.lt)
 have M3 := qH (M2.out.below hb3 M2.out.lt)
 have S3 := qH hb3.size
 clear ho3 hb3
 go_wp2_with fail
 refine (rxWithout_any 1 (flatT 5 l) v3 w3 (fun k hk => hk.2) R3.out (by have := HFN.out; have := HN.out; omega)).mono ?_
 rintro e w4 ⟨v4, rfl, ho4, hb4⟩
 obtain ⟨E, hE⟩ : ∃ E, E = withoutT 1 (flatT 5 l) := ⟨_, rfl⟩
 have HAT := qH (show altT l = wrapT 5 noneT (sortU (itemsT E)) by rw [hE]; rfl)
 have HEG := qH (show ∀ t ∈ E, good t by rw [hE]; exact good_without (good_flat HGD.out))
 have HEN := qH (show nodesL E ≤ 549755813887 by rw [hE]; have h1 := withoutT_nodes 1 (flatT 5 l); have h2 := HFN.out; have h3 := HN.out; omega)
 rw [← hE] at ho4
 clear hE
 have B4 := qH (B3.out.trans (hb4.mono B3.out.size))
 have K4 := qH (K3.out.below hb4 K3.out.lt)
 have M4 := qH (M3.out.below hb4 M3.out.lt)
 have G4 := qH (show w1.heap.size < w4.heap.size from M4.out.lt)
 have S4 := qH hb4.size
 have R4 := qH (ho4.rowD.mono (D' := fun k => k ≠ w.heap.size ∧ k ≠ w1.heap.size ∧ k < w4.heap.size) fun k hk => by
  have h1 := S1.out
  have h2 := S2.out
  have h3 := S3.out
  rcases hk.1 with h | h
  ·rcases h.1 with h4 | h4
   ·exact ⟨by omega, by omega, hk.2⟩
   ·exact ⟨by omega, by omega, hk.2⟩
  ·exact ⟨by omega, by omega, hk.2⟩)
 clear ho4 hb4
 have HLE := qH (len_nodes E)
 obtain ⟨A, cap, f, rfl, h1, h2, h0, h3, h4⟩ := R4.out
 have H3 := qH h3
 have H4 := qH h4
 clear h1 h2 h0 h3 h4
 have HKM := qH (show w.heap.size ≠ w1.heap.size by have := S1.out; omega)
 go_wp2_with fail
 go_loopw [4, 11] (fun v i wl => ∃ (v1 : Value) (j : Nat), v1 = v ∧ j ≤ E.length ∧ i = .int .i64 (j : Int) ∧ OwnT (fun k => k ≠ w.heap.size ∧ k ≠ w1.heap.size ∧ k < w4.heap.size) w4.heap.size wl v1 (withoutT 3 (E.take j)) ∧ Blk wl w1.heap.size 26 (wds (orT (E.take j))) ∧
  w4.grownBy wl (some w1.heap.size)) (fun _ i _ => E.length - (intOf i).toNat)
 case atStart =>
  refine ⟨_, 0, rfl, by omega, by simp, OwnT.nil _ _ _, ?_, World.grownBy.refl _ _⟩
  have : orT (E.take 0) = zs := by rw [HZS.out]; rfl
  rw [this]
  exact M4.out
 case round =>
  obtain ⟨v1, j, rfl, hj, rfl, ho, hm, hg⟩ := hrel
  have HO := qH ho
  have HM := qH hm
  have HG := qH hg
  have HB := qH (B4.out.grown hg B4.out.size (fun q hq => by have h1 := Option.some.inj hq; have h2 := S1.out; omega))
  have KR := qH (show Blk wr w.heap.size 29 z from (hg.block _ K4.out.lt (fun e => HKM.out (Option.some.inj e))).trans K4.out)
  clear ho hm hg
  by_cases hjl : j < E.length
  ·have j1 : (j : Int) < (E.length : Int) := Int.ofNat_lt.2 hjl
   obtain ⟨b, off, rfl, hb, hrng⟩ := H3.out (by rintro rfl; simp at hjl)
   obtain ⟨u, hu⟩ : ∃ u, E[j]? = some u := ⟨_, List.getElem?_eq_getElem hjl⟩
   have HV := qH ((H4.out j u hu).stay (w' := wr) fun k hk => HG.out.block k hk.2.2 (fun e => hk.2.1 (Option.some.inj e)))
   have HRG := qH (range_heap (hrng j hjl) (HG.out.block b hb.2.2 (fun e => hb.2.1 (Option.some.inj e))))
   obtain ⟨Au, cu, hsp, hru⟩ := HV.out.split
   have HV6 := qH HV.out.length
   have HV1 := qH (show (f j).all (·.oneCell') = true from List.all_eq_true.2 HV.out.one)
   have HG0 := qH (show (f j)[0]? = some (.int .i64 u.kind) by rw [hsp]; rfl)
   have HSP := qH hsp
   have HU := qH hu
   have hj62 : j ≤ 4611686018427387904 := by have := HEN.out; have := HLE.out; omega
   have e3 := wrap_one j hj62
   have e4 := wrap_one' j hj62
   have HSW := qH HG.out.size
   have HNX := qH (withoutT_next 3 E j u hu)
   have HNO := qH (orT_next E j u hu)
   have HNL := qH (Nat.le_trans (withoutT_len 3 (E.take j)) (List.length_take_le j E))
   have HJ1 := qH (show E.length - (j + 1) < E.length - j by omega)
   have HJ2 := qH (show j + 1 ≤ E.length from hjl)
   obtain ⟨cur, hcur⟩ : ∃ cur, cur = withoutT 3 (E.take j) := ⟨_, rfl⟩
   obtain ⟨o1, ho1⟩ : ∃ o1, o1 = orT (E.take j) := ⟨_, rfl⟩
   rw [← hcur] at HO HNX HNL
   rw [← ho1] at HM HNO
   have HLC := qH (show cur.length + 1 ≤ 1099511627776 by have h1 := HNL.out; have h2 := HLE.out; have h3 := HEN.out; omega)
   clear hrng hu hj62 hb hsp hru hcur ho1
   by_cases hk : u.kind = 3
   ·have hkb : (u.kind == 3) = true := by simpa using hk
    have HE := qH (show withoutT 3 (E.take (j + 1)) = cur by rw [HNX.out, if_pos hk, List.append_nil])
    have HEO := qH (show orT (E.take (j + 1)) = fun b => Bool.or (o1 b) (u.set b) by rw [HNO.out]; funext b; simp [hk])
    clear hk
    go_wp2_with (first
     | ((with_reducible refine atDst 14 ?_); refine wpList_load_mid rfl 29 _ rfl b (off + j * 6) rfl (f j) _ HRG.out Tryz.underlying29 rfl (size_rx HV6.out) ?_; (try simp only [Act.put, qA, qB, qC]))
     | ((with_reducible refine atDst 6 ?_); refine wpList_new rfl 29 rfl i0 _ z hi0 HZ0.out rfl (Below.refl wr.heap.size wr) (Nat.le_refl _) ?_; intro w5 hk5 hb5 hs5 _; have K5 := qH hk5; have B5 := qH hb5; clear hk5 hb5 hs5; (try simp only [Act.put, qA, qB, qC]))
     | ((with_reducible refine atStore 29 6 14 ?_); refine wpList_stBlk rfl 29 _ _ rfl wr.heap.size (f j) rfl rfl 29 _ K5.out (size_rx HV6.out) (by rw [HZL.out, HV6.out]) HV1.out B5.out (Nat.le_refl _) ?_; intro w6 hk6 hb6 hs6 _; have K6 := qH hk6; have B6 := qH hb6; have a0 := K6.out.cell 0; rw [HG0.out] at a0; have M6 := qH (HM.out.below hb6 HM.out.lt); have BW := qH (HB.out.trans (hb6.mono HB.out.size)); have SR := qH (set_range6 HSP.out K6.out); clear hk6 hb6 hs6; (try simp only [Act.put, qA, qB, qC]))
     | ((with_reducible refine atDst 18 ?_); refine wpList_ldArr rfl 26 _ rfl w1.heap.size rfl 26 _ _ M6.out Tryz.underlying26 rfl (size_set o1) ?_; (try simp only [Act.put, qA, qB, qC]))
     | ((with_reducible refine atDst 20 ?_); refine wpList_load_mid rfl 26 _ rfl wr.heap.size 1 rfl (wds u.set) _ SR.out Tryz.underlying26 rfl (size_set u.set) ?_; (try simp only [Act.put, qA, qB, qC])))
    refine (bsOr_any o1 u.set w6).mono ?_
    rintro e w7 ⟨rfl, hb7⟩
    have M7 := qH (M6.out.below hb7 M6.out.lt)
    have B7 := qH (BW.out.trans (hb7.mono BW.out.size))
    have C7 := qH (B6.out.trans (hb7.mono B6.out.size))
    have HWM := qH (show w.heap.size ≤ w1.heap.size by have := S1.out; omega)
    clear hb7
    go_wp2_with ((with_reducible refine atStore 26 3 21 ?_); refine wpList_stBlk rfl 26 _ _ rfl w1.heap.size (wds fun b => Bool.or (o1 b) (u.set b)) rfl rfl 26 _ M7.out (size_set _) rfl (wds_all _) B7.out HWM.out ?_; intro w8 hk8 hb8 hs8 ho8; have M8 := qH hk8; have B8 := qH hb8; have S8 := qH hs8; have O8 := qH ho8; clear hk8 hb8 hs8 ho8; (try simp only [Act.put, qA, qB, qC]))
    have S78 := qH (show wr.heap.size ≤ w8.heap.size by rw [S8.out]; exact C7.out.size)
    refine ⟨⟨_, j + 1, rfl, HJ2.out, by congr 1, ?_, by rw [HEO.out]; exact M8.out, ?_⟩, by simpa [intOf] using HJ1.out⟩
    ·rw [HE.out]
     refine HO.out.keepX S78.out fun k hk hd => (O8.out k fun e => ?_).trans (C7.out.block k hk)
     rcases hd with h | h
     ·exact h.2.1 e
     ·have := G4.out; omega
    ·exact grown_at (grown_below HG.out C7.out (Nat.le_refl _)) B7.out B8.out (by rw [S8.out]; exact Nat.le_refl _) O8.out
   ·have hkb : (u.kind == 3) = false := by simpa using hk
    have HE := qH (show withoutT 3 (E.take (j + 1)) = cur ++ [u] by rw [HNX.out, if_neg hk])
    have HEO := qH (show orT (E.take (j + 1)) = o1 by rw [HNO.out]; funext b; simp [hk])
    clear hk
    go_wp2_with (first
     | ((with_reducible refine atDst 14 ?_); refine wpList_load_mid rfl 29 _ rfl b (off + j * 6) rfl (f j) _ HRG.out Tryz.underlying29 rfl (size_rx HV6.out) ?_; (try simp only [Act.put, qA, qB, qC]))
     | ((with_reducible refine atDst 6 ?_); refine wpList_new rfl 29 rfl i0 _ z hi0 HZ0.out rfl (Below.refl wr.heap.size wr) (Nat.le_refl _) ?_; intro w5 hk5 hb5 hs5 _; have K5 := qH hk5; have B5 := qH hb5; clear hk5 hb5 hs5; (try simp only [Act.put, qA, qB, qC]))
     | ((with_reducible refine atStore 29 6 14 ?_); refine wpList_stBlk rfl 29 _ _ rfl wr.heap.size (f j) rfl rfl 29 _ K5.out (size_rx HV6.out) (by rw [HZL.out, HV6.out]) HV1.out B5.out (Nat.le_refl _) ?_; intro w6 hk6 hb6 hs6 _; have K6 := qH hk6; have B6 := qH hb6; have a0 := K6.out.cell 0; rw [HG0.out] at a0; have M6 := qH (HM.out.below hb6 HM.out.lt); have O6 := qH (HO.out.stay hb6); clear hk6 hb6 hs6; (try simp only [Act.put, qA, qB, qC]))
     | ((with_reducible refine atDst 23 ?_); refine wpList_ldArr rfl 29 _ rfl wr.heap.size rfl 29 _ _ K6.out Tryz.underlying29 rfl (size_rx HV6.out) ?_; (try simp only [Act.put, qA, qB, qC]))
     | ((with_reducible refine atDst 24 ?_); refine wpList_bldT1 rfl 27 29 (.tmp 23) rfl i0 Tryz.underlying27 hi0 HZ1.out hz1 (f j) HV6.out rfl ?_; intro w7 hk7 hb7 hs7; have K7 := qH hk7; have O7 := qH (O6.out.stay hb7); have C7 := qH (B6.out.trans (hb7.mono B6.out.size)); have M7 := qH (M6.out.below hb7 M6.out.lt); have V7 := qH (RxD.mono (HV.out.keep (B6.out.trans (hb7.mono B6.out.size)) fun k hk => Nat.lt_of_lt_of_le hk.2.2 HSW.out) (D' := fun k => (k ≠ w.heap.size ∧ k ≠ w1.heap.size ∧ k < w4.heap.size) ∧ k < w7.heap.size ∧ some k ≠ v1.ownBlock) fun k hk => ⟨hk, by have h1 := HSW.out; have h2 := B6.out.size; have h3 := hb7.size; have h4 := hk.2.2; omega, fun he => by have h1 := HO.out.ge k he.symm; have h4 := hk.2.2; omega⟩); clear hk7 hb7 hs7; (try simp only [Act.put, qA, qB, qC]))
     | ((with_reducible refine atDst 25 ?_); refine wpList_appT (D := fun k => k ≠ w.heap.size ∧ k ≠ w1.heap.size ∧ k < w4.heap.size) (base := w4.heap.size) rfl (.tmp 22) (.tmp 24) rfl i0 hi0 HZ1.out hz1 hz2 v1 _ rfl O7.out w6.heap.size 1 29 (f j) u rfl K7.out V7.out HLC.out (Nat.le_trans HSW.out C7.out.size) ?_; intro v8 w8 ho8 hg8; have O8 := qH ho8; have G8 := qH hg8; clear ho8 hg8; (try simp only [Act.put, qA, qB, qC])))
    refine ⟨⟨_, j + 1, rfl, HJ2.out, by congr 1, by rw [HE.out]; exact O8.out, ?_, grown_own (grown_below HG.out C7.out (Nat.le_refl _)) G8.out (fun q hq => O7.out.ge q hq)⟩, by simpa [intOf] using HJ1.out⟩
    rw [HEO.out]
    exact (G8.out.block _ M7.out.lt (fun e => by have h1 := O7.out.ge _ e.symm; have h2 := G4.out; omega)).trans M7.out
  ·obtain rfl : j = E.length := by omega
   have j1 : ¬ ((E.length : Int) < (E.length : Int)) := by omega
   have ho := HO.out
   have hm := HM.out
   rw [List.take_length] at ho hm
   have O9 := qH ho
   have M9 := qH hm
   clear ho hm HO HM
   have HNI := qH (itemsT_nodes E)
   have HLI := qH (len_nodes (itemsT E))
   have HNM := qH (fun (t : T) (ht : t ∈ itemsT E) => show t.nodes ≤ 1099511627776 by have h1 := nodes_mem ht; have h2 := itemsT_nodes E; have h3 := HEN.out; omega)
   have HGI := qH (good_items HEG.out)
   have HLJ := qH (show (itemsT E).length ≤ 1099511627776 by have h1 := HLI.out; have h2 := HNI.out; have h3 := HEN.out; omega)
   have HW4 := qH (show w.heap.size < w4.heap.size from K4.out.lt)
   have HLC := qH (show (withoutT 3 E).length + 1 ≤ 1099511627776 by have h1 := withoutT_len 3 E; have h2 := HLE.out; have h3 := HEN.out; omega)
   cases hs : eqS (orT E) zs with
   | true =>
    have HNE := qH (show (!eqS (orT E) zs) = false by rw [hs]; rfl)
    have HI := qH (show itemsT E = withoutT 3 E by unfold itemsT; rw [← HZS.out, hs, if_pos rfl, List.append_nil])
    clear hs
    have OX := qH (show OwnT (fun k => k ≠ w.heap.size ∧ k ≠ w1.heap.size ∧ k < w4.heap.size) w4.heap.size wr v1 (itemsT E) by rw [HI.out]; exact O9.out)
    go_wp2_with (first
     | ((with_reducible refine atDst 27 ?_); refine wpList_ldArr rfl 26 _ rfl w1.heap.size rfl 26 _ _ M9.out Tryz.underlying26 rfl (size_set _) ?_; (try simp only [Act.put, qA, qB, qC]))
     | ((with_reducible refine atDst 28 ?_); refine wpList_bld rfl 26 _ rfl (wds zs) HBS.out ?_; (try simp only [Act.put, qA, qB, qC]))
     | ((with_reducible refine atDst 29 ?_); refine wpList_neSetG rfl HNE.out 26 24 (.tmp 27) (.tmp 28) 26 rfl guardSet Tryz.underlying26 Tryz.underlying24 sizeU64 rfl rfl ?_; (try simp only [Act.put, qA, qB, qC])))
    go_wp2_with fail
    refine (sortT_any w4.heap.size v1 (itemsT E) wr OX.out HLJ.out HNM.out).mono ?_
    rintro e w20 ⟨rfl, l', hp, hs, ho20, hg20⟩
    have HPM := qH hp
    have HST := qH hs
    have O20 := qH ho20
    have K20 := qH (show Blk w20 w.heap.size 29 z from (hg20.block _ KR.out.lt (fun e => by have h1 := OX.out.ge _ e.symm; have h2 := HW4.out; omega)).trans KR.out)
    have B20 := qH (HB.out.grown hg20 HB.out.size (fun q hq => by have h1 := OX.out.ge q hq; have h2 := HW4.out; omega))
    have HL20 := qH (show l'.length ≤ 1099511627776 by rw [hp.length_eq]; exact HLJ.out)
    have HM20 := qH (fun (t : T) (ht : t ∈ l') => HNM.out t (hp.mem_iff.1 ht))
    clear hp hs ho20 hg20
    go_wp2_with fail
    refine (compactT_any w4.heap.size v1 l' w20 O20.out HL20.out HM20.out).mono ?_
    rintro e w21 ⟨v21, rfl, hr21, hg21⟩
    have HDD := qH (ddU_sort HPM.out HST.out HGI.out)
    rw [HDD.out] at hr21
    have R21 := qH (hr21.mono (D' := fun k => k ≠ w.heap.size ∧ k < w21.heap.size) fun k hk => ⟨by have h2 := HW4.out; rcases hk.1 with h | h; exact h.1; omega, hk.2⟩)
    have K21 := qH (show Blk w21 w.heap.size 29 z from (hg21.block _ K20.out.lt (fun e => by have h1 := O20.out.ge _ e.symm; have h2 := HW4.out; omega)).trans K20.out)
    have B21 := qH (B20.out.grown hg21 B20.out.size (fun q hq => by have h1 := O20.out.ge q hq; have h2 := HW4.out; omega))
    clear hr21 hg21
    go_wp2_with fail
    refine (rxNone_any w21).mono ?_
    rintro e w22 ⟨ns, rfl, hd22, hb22⟩
    have R22 := qH ((R21.out.keep hb22 fun k hk => hk.2).mono (D' := fun k => k ≠ w.heap.size ∧ k < w22.heap.size) fun k hk => ⟨hk.1, Nat.lt_of_lt_of_le hk.2 hb22.size⟩)
    have V22 := qH (hd22 fun k => k ≠ w.heap.size ∧ k < w22.heap.size)
    have B22 := qH (B21.out.trans (hb22.mono B21.out.size))
    have K22 := qH (K21.out.below hb22 K21.out.lt)
    clear hd22 hb22
    go_wp2_with fail
    refine (rxJoin_any 5 _ noneT v21 ns w22 (fun k hk => hk.2) R22.out V22.out).mono ?_
    rintro e w23 ⟨dx, rfl, hd23, hb23⟩
    have V23 := qH hd23
    have D6 := qH hd23.length
    have D1 := qH (show dx.all (·.oneCell') = true from List.all_eq_true.2 (RxD.one hd23))
    have B23 := qH (B22.out.trans (hb23.mono B22.out.size))
    have K23 := qH (K22.out.below hb23 K22.out.lt)
    have S23 := qH hb23.size
    clear hd23 hb23
    go_wp2_with ((with_reducible refine atStore 29 2 40 ?_); refine wpList_stBlk rfl 29 _ _ rfl w.heap.size dx rfl rfl 29 _ K23.out (size_rx D6.out) (by rw [HZL.out, D6.out]) D1.out B23.out (Nat.le_refl _) ?_; intro w24 hk24 hb24 hs24 ho24; have K24 := qH hk24; have B24 := qH hb24; have V24 := qH (RxD.mono (V23.out.stay (w' := w24) fun k hk => ho24 k hk.1) (D' := fun k => k < w24.heap.size) fun k hk => by have h1 := hk.2; have h2 := S23.out; omega); clear hk24 hb24 hs24 ho24; (try simp only [Act.put, qA, qB, qC]))
    refine bodyPost_ret (results_blk rfl _ _ w.heap.size 29 _ _ rfl K24.out Tryz.underlying29 rfl (size_rx D6.out)) rfl ?_
    exact ⟨dx, rfl, by rw [HAT.out]; exact V24.out, B24.out⟩
   | false =>
    have HNE := qH (show (!eqS (orT E) zs) = true by rw [hs]; rfl)
    have HBT := qH (show bytesT (orT E) = .node 3 (orT E) [] by unfold bytesT; rw [← HZS.out, hs]; rfl)
    have HI := qH (show itemsT E = withoutT 3 E ++ [.node 3 (orT E) []] by unfold itemsT; rw [← HZS.out, hs]; rfl)
    clear hs
    go_wp2_with (first
     | ((with_reducible refine atDst 27 ?_); refine wpList_ldArr rfl 26 _ rfl w1.heap.size rfl 26 _ _ M9.out Tryz.underlying26 rfl (size_set _) ?_; (try simp only [Act.put, qA, qB, qC]))
     | ((with_reducible refine atDst 28 ?_); refine wpList_bld rfl 26 _ rfl (wds zs) HBS.out ?_; (try simp only [Act.put, qA, qB, qC]))
     | ((with_reducible refine atDst 29 ?_); refine wpList_neSetG rfl HNE.out 26 24 (.tmp 27) (.tmp 28) 26 rfl guardSet Tryz.underlying26 Tryz.underlying24 sizeU64 rfl rfl ?_; (try simp only [Act.put, qA, qB, qC]))
     | ((with_reducible refine atDst 31 ?_); refine wpList_ldArr rfl 26 _ rfl w1.heap.size rfl 26 _ _ M9.out Tryz.underlying26 rfl (size_set _) ?_; (try simp only [Act.put, qA, qB, qC])))
    refine (rxBytes_any (orT E) wr).mono ?_
    rintro e w10 ⟨ds, rfl, hd10, hb10⟩
    rw [HBT.out] at hd10
    have D10 := qH (hd10 fun _ => False)
    have D16 := qH (hd10 fun _ => False).length
    have O10 := qH (O9.out.stay hb10)
    have B10 := qH (HB.out.trans (hb10.mono HB.out.size))
    have K10 := qH (KR.out.below hb10 KR.out.lt)
    have S10 := qH (Nat.le_trans HG.out.size hb10.size)
    clear hd10 hb10
    go_wp2_with (first
     | ((with_reducible refine atDst 33 ?_); refine wpList_bldT1 rfl 27 29 (.tmp 32) rfl i0 Tryz.underlying27 hi0 HZ1.out hz1 ds D16.out rfl ?_; intro w11 hk11 hb11 hs11; have K11 := qH hk11; have O11 := qH (O10.out.stay hb11); have C11 := qH (K10.out.below hb11 K10.out.lt); have B11 := qH (B10.out.trans (hb11.mono B10.out.size)); have S11 := qH (Nat.le_trans S10.out hb11.size); have V11 := qH (RxD.mono (D10.out.stay (w' := w11) fun k hk => absurd hk id) (D' := fun k => (k ≠ w.heap.size ∧ k ≠ w1.heap.size ∧ k < w4.heap.size) ∧ k < w11.heap.size ∧ some k ≠ v1.ownBlock) fun k hk => absurd hk id); clear hk11 hb11 hs11; (try simp only [Act.put, qA, qB, qC]))
     | ((with_reducible refine atDst 34 ?_); refine wpList_appT (D := fun k => k ≠ w.heap.size ∧ k ≠ w1.heap.size ∧ k < w4.heap.size) (base := w4.heap.size) rfl (.tmp 30) (.tmp 33) rfl i0 hi0 HZ1.out hz1 hz2 v1 _ rfl O11.out w10.heap.size 1 29 ds (.node 3 (orT E) []) rfl K11.out V11.out HLC.out S11.out ?_; intro v12 w12 ho12 hg12; have OX := qH (show OwnT (fun k => k ≠ w.heap.size ∧ k ≠ w1.heap.size ∧ k < w4.heap.size) w4.heap.size w12 v12 (itemsT E) by rw [HI.out]; exact ho12); have KX := qH (show Blk w12 w.heap.size 29 z from (hg12.block _ C11.out.lt (fun e => by have h1 := O11.out.ge _ e.symm; have h2 := HW4.out; omega)).trans C11.out); have BX := qH (B11.out.grown hg12 B11.out.size (fun q hq => by have h1 := O11.out.ge q hq; have h2 := HW4.out; omega)); clear ho12 hg12; (try simp only [Act.put, qA, qB, qC])))
    go_wp2_with fail
    refine (sortT_any w4.heap.size v12 (itemsT E) w12 OX.out HLJ.out HNM.out).mono ?_
    rintro e w20 ⟨rfl, l', hp, hs, ho20, hg20⟩
    have HPM := qH hp
    have HST := qH hs
    have O20 := qH ho20
    have K20 := qH (show Blk w20 w.heap.size 29 z from (hg20.block _ KX.out.lt (fun e => by have h1 := OX.out.ge _ e.symm; have h2 := HW4.out; omega)).trans KX.out)
    have B20 := qH (BX.out.grown hg20 BX.out.size (fun q hq => by have h1 := OX.out.ge q hq; have h2 := HW4.out; omega))
    have HL20 := qH (show l'.length ≤ 1099511627776 by rw [hp.length_eq]; exact HLJ.out)
    have HM20 := qH (fun (t : T) (ht : t ∈ l') => HNM.out t (hp.mem_iff.1 ht))
    clear hp hs ho20 hg20
    go_wp2_with fail
    refine (compactT_any w4.heap.size v12 l' w20 O20.out HL20.out HM20.out).mono ?_
    rintro e w21 ⟨v21, rfl, hr21, hg21⟩
    have HDD := qH (ddU_sort HPM.out HST.out HGI.out)
    rw [HDD.out] at hr21
    have R21 := qH (hr21.mono (D' := fun k => k ≠ w.heap.size ∧ k < w21.heap.size) fun k hk => ⟨by have h2 := HW4.out; rcases hk.1 with h | h; exact h.1; omega, hk.2⟩)
    have K21 := qH (show Blk w21 w.heap.size 29 z from (hg21.block _ K20.out.lt (fun e => by have h1 := O20.out.ge _ e.symm; have h2 := HW4.out; omega)).trans K20.out)
    have B21 := qH (B20.out.grown hg21 B20.out.size (fun q hq => by have h1 := O20.out.ge q hq; have h2 := HW4.out; omega))
    clear hr21 hg21
    go_wp2_with fail
    refine (rxNone_any w21).mono ?_
    rintro e w22 ⟨ns, rfl, hd22, hb22⟩
    have R22 := qH ((R21.out.keep hb22 fun k hk => hk.2).mono (D' := fun k => k ≠ w.heap.size ∧ k < w22.heap.size) fun k hk => ⟨hk.1, Nat.lt_of_lt_of_le hk.2 hb22.size⟩)
    have V22 := qH (hd22 fun k => k ≠ w.heap.size ∧ k < w22.heap.size)
    have B22 := qH (B21.out.trans (hb22.mono B21.out.size))
    have K22 := qH (K21.out.below hb22 K21.out.lt)
    clear hd22 hb22
    go_wp2_with fail
    refine (rxJoin_any 5 _ noneT v21 ns w22 (fun k hk => hk.2) R22.out V22.out).mono ?_
    rintro e w23 ⟨dx, rfl, hd23, hb23⟩
    have V23 := qH hd23
    have D6 := qH hd23.length
    have D1 := qH (show dx.all (·.oneCell') = true from List.all_eq_true.2 (RxD.one hd23))
    have B23 := qH (B22.out.trans (hb23.mono B22.out.size))
    have K23 := qH (K22.out.below hb23 K22.out.lt)
    have S23 := qH hb23.size
    clear hd23 hb23
    go_wp2_with ((with_reducible refine atStore 29 2 40 ?_); refine wpList_stBlk rfl 29 _ _ rfl w.heap.size dx rfl rfl 29 _ K23.out (size_rx D6.out) (by rw [HZL.out, D6.out]) D1.out B23.out (Nat.le_refl _) ?_; intro w24 hk24 hb24 hs24 ho24; have K24 := qH hk24; have B24 := qH hb24; have V24 := qH (RxD.mono (V23.out.stay (w' := w24) fun k hk => ho24 k hk.1) (D' := fun k => k < w24.heap.size) fun k hk => by have h1 := hk.2; have h2 := S23.out; omega); clear hk24 hb24 hs24 ho24; (try simp only [Act.put, qA, qB, qC]))
    refine bodyPost_ret (results_blk rfl _ _ w.heap.size 29 _ _ rfl K24.out Tryz.underlying29 rfl (size_rx D6.out)) rfl ?_
    exact ⟨dx, rfl, by rw [HAT.out]; exact V24.out, B24.out⟩
set_option maxHeartbeats 2000000 in
set_option maxRecDepth 100000 in
theorem rxAlt_any (l : List T) (v : Value) (w : World) (hr : RowT w.heap.size w v l) (hn : nodesL l ≤ 274877906944) (hg : ∀ t ∈ l, good t) :
  Calls Tryz.prog 74 #[v] w fun e w' => ∃ ds, e = .returned (.agg ds.toArray) ∧ RxD (fun k => w.heap.size ≤ k ∧ k < w'.heap.size) w' ds (altT l) ∧ Below w.heap.size w w' := by
 have R := qH hr
 have HN := qH hn
 have HNC := qH (altT_nodes l)
 obtain ⟨i0, hi0, hz0, hz1, hz2⟩ := inf_rx'
 obtain ⟨z, hz⟩ : ∃ z, z = rxc 0 zeroS (.slice none 0 0) := ⟨_, rfl⟩
 have HZL := qH (show z.length = 6 by rw [hz]; rfl)
 have HZ0 := qH (show i0.zero = some (.agg z.toArray) by rw [hz]; exact hz0)
 clear hr hn hz hz0
 go_enter Tryz.func74, Tryz.ntmps74
 go_wp2_with ((with_reducible refine atDst 2 ?_); refine wpList_new rfl 29 rfl i0 _ z hi0 HZ0.out rfl (Below.refl w.heap.size w) (Nat.le_refl _) ?_; intro w1 hk1 hb1 hs1 _; have K1 := qH hk1; have B1 := qH hb1; clear hk1 hb1 hs1; (try simp only [Act.put, qA, qB, qC]))
 refine (rxAlt0_any l v w1 ((R.out.below B1.out).monoB B1.out.size) (by have := HN.out; omega) hg).mono ?_
 rintro e w2 ⟨cs, rfl, hv2, hb2⟩
 have V2 := qH hv2
 have B2 := qH (B1.out.trans (hb2.mono B1.out.size))
 have K2 := qH (K1.out.below hb2 K1.out.lt)
 clear hv2 hb2
 go_wp2_with fail
 refine (rxClone_any _ (altT l) (Nat.le_refl _) (by have h1 := HNC.out; have h2 := HN.out; omega) cs w2 (fun k => k < w2.heap.size) (fun k hk => hk) V2.out).mono ?_
 rintro e w3 ⟨ds, rfl, hd3, hb3⟩
 have D3 := qH hd3
 have D6 := qH hd3.length
 have D1 := qH (show ds.all (·.oneCell') = true from List.all_eq_true.2 hd3.one)
 have B3 := qH (B2.out.trans (hb3.mono B2.out.size))
 have K3 := qH (K2.out.below hb3 K2.out.lt)
 have G2 := qH K2.out.lt
 clear hd3 hb3
 go_wp2_with ((with_reducible refine atStore 29 2 5 ?_); refine wpList_stBlk rfl 29 _ _ rfl w.heap.size ds rfl rfl 29 _ K3.out (size_rx D6.out) (by rw [HZL.out, D6.out]) D1.out B3.out (Nat.le_refl _) ?_; intro w4 hk4 hb4 hs4 ho4; have K4 := qH hk4; have B4 := qH hb4; have D4 := qH (RxD.mono (D3.out.stay (w' := w4) fun k hk => ho4 k (by have h1 := G2.out; have h2 := hk.1; omega)) (D' := fun k => w.heap.size ≤ k ∧ k < w4.heap.size) fun k hk => ⟨by have h1 := G2.out; have h2 := hk.1; omega, by have h1 := hk.2; omega⟩); clear hk4 hb4 hs4 ho4; (try simp only [Act.put, qA, qB, qC]))
 refine bodyPost_ret (results_blk rfl _ _ w.heap.size 29 _ _ rfl K4.out Tryz.underlying29 rfl (size_rx D6.out)) rfl ?_
 exact ⟨ds, rfl, D4.out, B4.out⟩
section
variable {P : Program} {w : World} {o : Oper} {a : Act} {K : Act → World → Prop} {Q : Exit → Act → World → Prop}
theorem wp_of_run {v : Value} (h : (execOp a.eval o).run P w = .ok (.value v) w) (hk : K (a.put o.dst v) w) : o.wp P a w K Q := by
 unfold Oper.wp
 rw [h]
 exact hk
theorem run_bldT2 (t e : TypeId) (i : TypeInfo) (ht : P.underlying t = some (.slice e)) (hi : P.info? e = some i) (hz : i.zero = some (.agg (Value.int .i64 0 :: (wds (fun _ => false) ++ [.slice none 0 0])).toArray)) (hs : i.size = 6) (cs ds : List Value) (hc : cs.length = 6) (hl : ds.length = 6) :
  (Instr.buildSlice t 2 #[(0, .agg cs.toArray), (1, .agg ds.toArray)]).run P w = .ok (.slice (some ⟨w.heap.size, 0, none⟩) 2 2) (w.alloc (.cells (cs ++ ds).toArray e)) := by
 have hzv : (zeroValue e).run P w = .ok (.agg (Value.int .i64 0 :: (wds (fun _ => false) ++ [.slice none 0 0])).toArray) w := by simp [zeroValue, typeInfo, hi, hz]
 match cs, hc with
 | [c0, c1, c2, c3, c4, c5], _ =>
  match ds, hl with
  | [d0, d1, d2, d3, d4, d5], _ =>
   simp [Instr.buildSlice, run_underlying ht, sizeOf, typeInfo, hi, hs, hzv, Value.cells, Instr.fill, wds, Array.range_succ, Array.range_zero', newRow]
theorem wp_bldT2 (t e : TypeId) (x y : Operand) (ho : o.op = .buildSlice t 2 #[(0, x), (1, y)]) (i : TypeInfo) (ht : P.underlying t = some (.slice e)) (hi : P.info? e = some i) (hz : i.zero = some (.agg (Value.int .i64 0 :: (wds (fun _ => false) ++ [.slice none 0 0])).toArray)) (hs : i.size = 6) (cs ds : List Value) (hc : cs.length = 6) (hl : ds.length = 6)
  (hx : a.eval x = .agg cs.toArray) (hy : a.eval y = .agg ds.toArray)
  (h : ∀ w', Blk w' w.heap.size e (cs ++ ds) → Below w.heap.size w w' → w'.heap.size = w.heap.size + 1 → K (a.put o.dst (.slice (some ⟨w.heap.size, 0, none⟩) 2 2)) w') : o.wp P a w K Q := by
 have hrun := run_bldT2 (P := P) (w := w) t e i ht hi hz hs cs ds hc hl
 unfold Oper.wp
 simp only [execOp, ho, List.map_toArray, List.map_cons, List.map_nil, hx, hy, hrun, Sem.run_bind, Result.andThen_ok, Sem.run_pure]
 exact (h _ (Blk.new w e _) ((Below.refl _ _).alloc (Nat.le_refl _) _) (by simp))
end
theorem row_two {w : World} {g : Nat} {ty : TypeId} {cs ds : List Value} {t u : T} {B : Nat} (hb : Blk w g ty (cs ++ ds)) (hc : RxV B w cs t) (hd : RxV B w ds u) (hg : g < B) : RowT B w (.slice (some ⟨g, 0, none⟩) 2 2) [t, u] := by
 have hc6 := hc.length
 have hd6 := hd.length
 refine ⟨some ⟨g, 0, none⟩, 2, fun i => if i = 0 then cs else ds, rfl, Nat.le_refl _, by unfold maxLen; omega, (fun h => by cases h), fun _ => ⟨g, 0, rfl, hg, fun i hi => ?_⟩, fun i x hx => ?_⟩
 ·have hi2 : i = 0 ∨ i = 1 := by simp at hi; omega
  rcases hi2 with rfl | rfl
  ·intro j v hv
   have hj := (List.getElem?_eq_some_iff.1 hv).1
   have hv' : cs[j]? = some v := hv
   rw [hb.cell, show 0 + 0 * 6 + j = j by omega, List.getElem?_append_left (by have := (List.getElem?_eq_some_iff.1 hv').1; exact this)]
   exact hv'
  ·intro j v hv
   have hv' : ds[j]? = some v := hv
   rw [hb.cell, show 0 + 1 * 6 + j = cs.length + j by omega, List.getElem?_append_right (by omega), show cs.length + j - cs.length = j by omega]
   exact hv'
 ·match i, hx with
  | 0, hx =>
   obtain rfl : t = x := by simpa using hx
   exact hc
  | 1, hx =>
   obtain rfl : u = x := by simpa using hx
   exact hd
end Go.Proofs.YtopnpdobcagcgaaGreat
