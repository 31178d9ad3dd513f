/-
  Texts of this proof, put together: (RxP) What package rx (alt, Alt) answers and leaves. No statement is proved here. (LgA) Which words an expression has, as a plain relation; what the constructors do to it. No conditions; no statement is proved here.
-/
import Derived.Test.YtopnpdobcagcgaaGreatPF
import Derived.Test.YtopnpdobcagcgaaGreatPQ
import Derived.Test.YtopnpdobcagcgaaGreatPP
import Derived.Test.YtopnpdobcagcgaaGreatPC
import Derived.Test.YtopnpdobcagcgaaGreatPJ
import Derived.Test.YtopnpdobcagcgaaGreatPK
namespace Go.Proofs.YtopnpdobcagcgaaGreat
open Go.RowKit
set_option linter.unusedSimpArgs false
set_option linter.unusedVariables false
set_option maxHeartbeats 8000000 in
set_option maxRecDepth 100000 in
theorem rxAlt0_any (l : List T) (v : Value) (w : World) (hr : RowT w.heap.size w v l) (hn : nodesL l ≤ 549755813887) (hg : ∀ t ∈ l, good t) :
  Calls Tryz.prog 80 #[v] w fun e w' => ∃ ds, e = .returned (.agg ds.toArray) ∧ RxV w'.heap.size w' ds (altT l) ∧ Below w.heap.size w w' := by
 have R := Lib.hid hr
 have HN := Lib.hid hn
 have HGD := Lib.hid hg
 have HFN := Lib.hid (flatT_nodes 5 l)
 obtain ⟨i0, hi0, hz0, hz1, hz2⟩ := inf_rx'
 obtain ⟨z, hz⟩ : ∃ z, z = rxc 0 zeroS (.slice none 0 0) := ⟨_, rfl⟩
 have HZL := Lib.hid (show z.length = 6 by rw [hz]; rfl)
 have HZ0 := Lib.hid (show i0.zero = some (.agg z.toArray) by rw [hz]; exact hz0)
 have HZ1 := Lib.hid hz0
 obtain ⟨i1, hi1, hy0⟩ := info_set
 have HBS := Lib.hid builtS
 obtain ⟨zs, hzs⟩ : ∃ zs, zs = zeroS := ⟨_, rfl⟩
 have HZS := Lib.hid hzs
 rw [← hzs] at HBS
 have HY0 := Lib.hid (show i1.zero = some (.agg (wds zs).toArray) by rw [hzs]; exact hy0)
 clear hr hn hg hz hz0 hzs hy0
 go_enter Tryz.func80, Tryz.ntmps80
 go_wp2_with (first
  | ((with_reducible refine atDst 2 ?_); refine wpList_new rfl 29 rfl i0 _ z hi0 HZ0.out rfl (Below.refl w.heap.size w) (Nat.le_refl _) ?_; intro w1 hk1 hb1 hs1 _; have K1 := Lib.hid hk1; have B1 := Lib.hid hb1; have S1 := Lib.hid hs1; clear hk1 hb1 hs1; (try simp only [Act.put, qA, qB, qC]))
  | ((with_reducible refine atDst 3 ?_); refine wpList_new rfl 26 rfl i1 _ (wds zs) hi1 HY0.out rfl B1.out B1.out.size ?_; intro w2 hk2 hb2 hs2 ho2; have M2 := Lib.hid hk2; have B2 := Lib.hid hb2; have S2 := Lib.hid hs2; have K2 := Lib.hid (show Blk w2 w.heap.size 29 z from (ho2 _ K1.out.lt).trans K1.out); clear hk2 hb2 hs2 ho2; (try simp only [Act.put, qA, qB, qC])))
 refine (rxFlat_any 5 l v w2 (D := fun k => k < w.heap.size) (fun k hk => Nat.lt_of_lt_of_le hk B2.out.size) (R.out.below B2.out).rowD (by have := HN.out; omega)).mono ?_
 rintro e w3 ⟨v3, rfl, ho3, hb3⟩
 have R3 := Lib.hid ho3.rowD
 have B3 := Lib.hid (B2.out.trans (hb3.mono B2.out.size))
 have K3 := Lib.hid (K2.out.below hb3 K2.out.lt)
 have M3 := Lib.hid (M2.out.below hb3 M2.out.lt)
 have S3 := Lib.hid hb3.size
 clear ho3 hb3
 go_wp2_with fail
 refine (rxWithout_any 1 (flatT 5 l) v3 w3 (fun k hk => hk.2) R3.out (by have := HFN.out; have := HN.out; omega)).mono ?_
 rintro e w4 ⟨v4, rfl, ho4, hb4⟩
 obtain ⟨E, hE⟩ : ∃ E, E = withoutT 1 (flatT 5 l) := ⟨_, rfl⟩
 have HAT := Lib.hid (show altT l = wrapT 5 noneT (sortU (itemsT E)) by rw [hE]; rfl)
 have HEG := Lib.hid (show ∀ t ∈ E, good t by rw [hE]; exact good_without (good_flat HGD.out))
 have HEN := Lib.hid (show nodesL E ≤ 549755813887 by rw [hE]; have h1 := withoutT_nodes 1 (flatT 5 l); have h2 := HFN.out; have h3 := HN.out; omega)
 rw [← hE] at ho4
 clear hE
 have B4 := Lib.hid (B3.out.trans (hb4.mono B3.out.size))
 have K4 := Lib.hid (K3.out.below hb4 K3.out.lt)
 have M4 := Lib.hid (M3.out.below hb4 M3.out.lt)
 have G4 := Lib.hid (show w1.heap.size < w4.heap.size from M4.out.lt)
 have S4 := Lib.hid hb4.size
 have R4 := Lib.hid (ho4.rowD.mono (D' := fun k => k ≠ w.heap.size ∧ k ≠ w1.heap.size ∧ k < w4.heap.size) fun k hk => by
  have h1 := S1.out
  have h2 := S2.out
  have h3 := S3.out
  rcases hk.1 with h | h
  ·rcases h.1 with h4 | h4
   ·exact ⟨by omega, by omega, hk.2⟩
   ·exact ⟨by omega, by omega, hk.2⟩
  ·exact ⟨by omega, by omega, hk.2⟩)
 clear ho4 hb4
 have HLE := Lib.hid (len_nodes E)
 obtain ⟨A, cap, f, rfl, h1, h2, h0, h3, h4⟩ := R4.out
 have H3 := Lib.hid h3
 have H4 := Lib.hid h4
 clear h1 h2 h0 h3 h4
 have HKM := Lib.hid (show w.heap.size ≠ w1.heap.size by have := S1.out; omega)
 go_wp2_with fail
 go_loopw [4, 11] (fun v i wl => ∃ (v1 : Value) (j : Nat), v1 = v ∧ j ≤ E.length ∧ i = .int .i64 (j : Int) ∧ OwnT (fun k => k ≠ w.heap.size ∧ k ≠ w1.heap.size ∧ k < w4.heap.size) w4.heap.size wl v1 (withoutT 3 (E.take j)) ∧ Blk wl w1.heap.size 26 (wds (orT (E.take j))) ∧
  w4.grownBy wl (some w1.heap.size)) (fun _ i _ => E.length - (intOf i).toNat)
 case atStart =>
  refine ⟨_, 0, rfl, by omega, by simp, OwnT.nil _ _ _, ?_, World.grownBy.refl _ _⟩
  have : orT (E.take 0) = zs := by rw [HZS.out]; rfl
  rw [this]
  exact M4.out
 case round =>
  obtain ⟨v1, j, rfl, hj, rfl, ho, hm, hg⟩ := hrel
  have HO := Lib.hid ho
  have HM := Lib.hid hm
  have HG := Lib.hid hg
  have HB := Lib.hid (B4.out.grown hg B4.out.size (fun q hq => by have h1 := Option.some.inj hq; have h2 := S1.out; omega))
  have KR := Lib.hid (show Blk wr w.heap.size 29 z from (hg.block _ K4.out.lt (fun e => HKM.out (Option.some.inj e))).trans K4.out)
  clear ho hm hg
  by_cases hjl : j < E.length
  ·have j1 : (j : Int) < (E.length : Int) := Int.ofNat_lt.2 hjl
   obtain ⟨b, off, rfl, hb, hrng⟩ := H3.out (by rintro rfl; simp at hjl)
   obtain ⟨u, hu⟩ : ∃ u, E[j]? = some u := ⟨_, List.getElem?_eq_getElem hjl⟩
   have HV := Lib.hid ((H4.out j u hu).stay (w' := wr) fun k hk => HG.out.block k hk.2.2 (fun e => hk.2.1 (Option.some.inj e)))
   have HRG := Lib.hid (range_heap (hrng j hjl) (HG.out.block b hb.2.2 (fun e => hb.2.1 (Option.some.inj e))))
   obtain ⟨Au, cu, hsp, hru⟩ := HV.out.split
   have HV6 := Lib.hid HV.out.length
   have HV1 := Lib.hid (show (f j).all (·.oneCell') = true from List.all_eq_true.2 HV.out.one)
   have HG0 := Lib.hid (show (f j)[0]? = some (.int .i64 u.kind) by rw [hsp]; rfl)
   have HSP := Lib.hid hsp
   have HU := Lib.hid hu
   have hj62 : j ≤ 4611686018427387904 := by have := HEN.out; have := HLE.out; omega
   have e3 := wrap_one j hj62
   have e4 := wrap_one' j hj62
   have HSW := Lib.hid HG.out.size
   have HNX := Lib.hid (withoutT_next 3 E j u hu)
   have HNO := Lib.hid (orT_next E j u hu)
   have HNL := Lib.hid (Nat.le_trans (withoutT_len 3 (E.take j)) (List.length_take_le j E))
   have HJ1 := Lib.hid (show E.length - (j + 1) < E.length - j by omega)
   have HJ2 := Lib.hid (show j + 1 ≤ E.length from hjl)
   obtain ⟨cur, hcur⟩ : ∃ cur, cur = withoutT 3 (E.take j) := ⟨_, rfl⟩
   obtain ⟨o1, ho1⟩ : ∃ o1, o1 = orT (E.take j) := ⟨_, rfl⟩
   rw [← hcur] at HO HNX HNL
   rw [← ho1] at HM HNO
   have HLC := Lib.hid (show cur.length + 1 ≤ 1099511627776 by have h1 := HNL.out; have h2 := HLE.out; have h3 := HEN.out; omega)
   clear hrng hu hj62 hb hsp hru hcur ho1
   by_cases hk : u.kind = 3
   ·have hkb : (u.kind == 3) = true := by simpa using hk
    have HE := Lib.hid (show withoutT 3 (E.take (j + 1)) = cur by rw [HNX.out, if_pos hk, List.append_nil])
    have HEO := Lib.hid (show orT (E.take (j + 1)) = fun b => Bool.or (o1 b) (u.set b) by rw [HNO.out]; funext b; simp [hk])
    clear hk
    go_wp2_with (first
     | ((with_reducible refine atDst 14 ?_); refine wpList_load_mid rfl 29 _ rfl b (off + j * 6) rfl (f j) _ HRG.out Tryz.underlying29 rfl (size_rx HV6.out) ?_; (try simp only [Act.put, qA, qB, qC]))
     | ((with_reducible refine atDst 6 ?_); refine wpList_new rfl 29 rfl i0 _ z hi0 HZ0.out rfl (Below.refl wr.heap.size wr) (Nat.le_refl _) ?_; intro w5 hk5 hb5 hs5 _; have K5 := Lib.hid hk5; have B5 := Lib.hid hb5; clear hk5 hb5 hs5; (try simp only [Act.put, qA, qB, qC]))
     | ((with_reducible refine atStore 29 6 14 ?_); refine wpList_stBlk rfl 29 _ _ rfl wr.heap.size (f j) rfl rfl 29 _ K5.out (size_rx HV6.out) (by rw [HZL.out, HV6.out]) HV1.out B5.out (Nat.le_refl _) ?_; intro w6 hk6 hb6 hs6 _; have K6 := Lib.hid hk6; have B6 := Lib.hid hb6; have a0 := K6.out.cell 0; rw [HG0.out] at a0; have M6 := Lib.hid (HM.out.below hb6 HM.out.lt); have BW := Lib.hid (HB.out.trans (hb6.mono HB.out.size)); have SR := Lib.hid (set_range6 HSP.out K6.out); clear hk6 hb6 hs6; (try simp only [Act.put, qA, qB, qC]))
     | ((with_reducible refine atDst 18 ?_); refine wpList_ldArr rfl 26 _ rfl w1.heap.size rfl 26 _ _ M6.out Tryz.underlying26 rfl (size_set o1) ?_; (try simp only [Act.put, qA, qB, qC]))
     | ((with_reducible refine atDst 20 ?_); refine wpList_load_mid rfl 26 _ rfl wr.heap.size 1 rfl (wds u.set) _ SR.out Tryz.underlying26 rfl (size_set u.set) ?_; (try simp only [Act.put, qA, qB, qC])))
    refine (bsOr_any o1 u.set w6).mono ?_
    rintro e w7 ⟨rfl, hb7⟩
    have M7 := Lib.hid (M6.out.below hb7 M6.out.lt)
    have B7 := Lib.hid (BW.out.trans (hb7.mono BW.out.size))
    have C7 := Lib.hid (B6.out.trans (hb7.mono B6.out.size))
    have HWM := Lib.hid (show w.heap.size ≤ w1.heap.size by have := S1.out; omega)
    clear hb7
    go_wp2_with ((with_reducible refine atStore 26 3 21 ?_); refine wpList_stBlk rfl 26 _ _ rfl w1.heap.size (wds fun b => Bool.or (o1 b) (u.set b)) rfl rfl 26 _ M7.out (size_set _) rfl (wds_all _) B7.out HWM.out ?_; intro w8 hk8 hb8 hs8 ho8; have M8 := Lib.hid hk8; have B8 := Lib.hid hb8; have S8 := Lib.hid hs8; have O8 := Lib.hid ho8; clear hk8 hb8 hs8 ho8; (try simp only [Act.put, qA, qB, qC]))
    have S78 := Lib.hid (show wr.heap.size ≤ w8.heap.size by rw [S8.out]; exact C7.out.size)
    refine ⟨⟨_, j + 1, rfl, HJ2.out, by congr 1, ?_, by rw [HEO.out]; exact M8.out, ?_⟩, by simpa [intOf] using HJ1.out⟩
    ·rw [HE.out]
     refine HO.out.keepX S78.out fun k hk hd => (O8.out k fun e => ?_).trans (C7.out.block k hk)
     rcases hd with h | h
     ·exact h.2.1 e
     ·have := G4.out; omega
    ·exact grown_at (grown_below HG.out C7.out (Nat.le_refl _)) B7.out B8.out (by rw [S8.out]; exact Nat.le_refl _) O8.out
   ·have hkb : (u.kind == 3) = false := by simpa using hk
    have HE := Lib.hid (show withoutT 3 (E.take (j + 1)) = cur ++ [u] by rw [HNX.out, if_neg hk])
    have HEO := Lib.hid (show orT (E.take (j + 1)) = o1 by rw [HNO.out]; funext b; simp [hk])
    clear hk
    go_wp2_with (first
     | ((with_reducible refine atDst 14 ?_); refine wpList_load_mid rfl 29 _ rfl b (off + j * 6) rfl (f j) _ HRG.out Tryz.underlying29 rfl (size_rx HV6.out) ?_; (try simp only [Act.put, qA, qB, qC]))
     | ((with_reducible refine atDst 6 ?_); refine wpList_new rfl 29 rfl i0 _ z hi0 HZ0.out rfl (Below.refl wr.heap.size wr) (Nat.le_refl _) ?_; intro w5 hk5 hb5 hs5 _; have K5 := Lib.hid hk5; have B5 := Lib.hid hb5; clear hk5 hb5 hs5; (try simp only [Act.put, qA, qB, qC]))
     | ((with_reducible refine atStore 29 6 14 ?_); refine wpList_stBlk rfl 29 _ _ rfl wr.heap.size (f j) rfl rfl 29 _ K5.out (size_rx HV6.out) (by rw [HZL.out, HV6.out]) HV1.out B5.out (Nat.le_refl _) ?_; intro w6 hk6 hb6 hs6 _; have K6 := Lib.hid hk6; have B6 := Lib.hid hb6; have a0 := K6.out.cell 0; rw [HG0.out] at a0; have M6 := Lib.hid (HM.out.below hb6 HM.out.lt); have O6 := Lib.hid (HO.out.stay hb6); clear hk6 hb6 hs6; (try simp only [Act.put, qA, qB, qC]))
     | ((with_reducible refine atDst 23 ?_); refine wpList_ldArr rfl 29 _ rfl wr.heap.size rfl 29 _ _ K6.out Tryz.underlying29 rfl (size_rx HV6.out) ?_; (try simp only [Act.put, qA, qB, qC]))
     | ((with_reducible refine atDst 24 ?_); refine wpList_bldT1 rfl 27 29 (.tmp 23) rfl i0 Tryz.underlying27 hi0 HZ1.out hz1 (f j) HV6.out rfl ?_; intro w7 hk7 hb7 hs7; have K7 := Lib.hid hk7; have O7 := Lib.hid (O6.out.stay hb7); have C7 := Lib.hid (B6.out.trans (hb7.mono B6.out.size)); have M7 := Lib.hid (M6.out.below hb7 M6.out.lt); have V7 := Lib.hid (RxD.mono (HV.out.keep (B6.out.trans (hb7.mono B6.out.size)) fun k hk => Nat.lt_of_lt_of_le hk.2.2 HSW.out) (D' := fun k => (k ≠ w.heap.size ∧ k ≠ w1.heap.size ∧ k < w4.heap.size) ∧ k < w7.heap.size ∧ some k ≠ v1.ownBlock) fun k hk => ⟨hk, by have h1 := HSW.out; have h2 := B6.out.size; have h3 := hb7.size; have h4 := hk.2.2; omega, fun he => by have h1 := HO.out.ge k he.symm; have h4 := hk.2.2; omega⟩); clear hk7 hb7 hs7; (try simp only [Act.put, qA, qB, qC]))
     | ((with_reducible refine atDst 25 ?_); refine wpList_appT (D := fun k => k ≠ w.heap.size ∧ k ≠ w1.heap.size ∧ k < w4.heap.size) (base := w4.heap.size) rfl (.tmp 22) (.tmp 24) rfl i0 hi0 HZ1.out hz1 hz2 v1 _ rfl O7.out w6.heap.size 1 29 (f j) u rfl K7.out V7.out HLC.out (Nat.le_trans HSW.out C7.out.size) ?_; intro v8 w8 ho8 hg8; have O8 := Lib.hid ho8; have G8 := Lib.hid hg8; clear ho8 hg8; (try simp only [Act.put, qA, qB, qC])))
    refine ⟨⟨_, j + 1, rfl, HJ2.out, by congr 1, by rw [HE.out]; exact O8.out, ?_, grown_own (grown_below HG.out C7.out (Nat.le_refl _)) G8.out (fun q hq => O7.out.ge q hq)⟩, by simpa [intOf] using HJ1.out⟩
    rw [HEO.out]
    exact (G8.out.block _ M7.out.lt (fun e => by have h1 := O7.out.ge _ e.symm; have h2 := G4.out; omega)).trans M7.out
  ·obtain rfl : j = E.length := by omega
   have j1 : ¬ ((E.length : Int) < (E.length : Int)) := by omega
   have ho := HO.out
   have hm := HM.out
   rw [List.take_length] at ho hm
   have O9 := Lib.hid ho
   have M9 := Lib.hid hm
   clear ho hm HO HM
   have HNI := Lib.hid (itemsT_nodes E)
   have HLI := Lib.hid (len_nodes (itemsT E))
   have HNM := Lib.hid (fun (t : T) (ht : t ∈ itemsT E) => show t.nodes ≤ 1099511627776 by have h1 := nodes_mem ht; have h2 := itemsT_nodes E; have h3 := HEN.out; omega)
   have HGI := Lib.hid (good_items HEG.out)
   have HLJ := Lib.hid (show (itemsT E).length ≤ 1099511627776 by have h1 := HLI.out; have h2 := HNI.out; have h3 := HEN.out; omega)
   have HW4 := Lib.hid (show w.heap.size < w4.heap.size from K4.out.lt)
   have HLC := Lib.hid (show (withoutT 3 E).length + 1 ≤ 1099511627776 by have h1 := withoutT_len 3 E; have h2 := HLE.out; have h3 := HEN.out; omega)
   cases hs : eqS (orT E) zs with
   | true =>
    have HNE := Lib.hid (show (!eqS (orT E) zs) = false by rw [hs]; rfl)
    have HI := Lib.hid (show itemsT E = withoutT 3 E by unfold itemsT; rw [← HZS.out, hs, if_pos rfl, List.append_nil])
    clear hs
    have OX := Lib.hid (show OwnT (fun k => k ≠ w.heap.size ∧ k ≠ w1.heap.size ∧ k < w4.heap.size) w4.heap.size wr v1 (itemsT E) by rw [HI.out]; exact O9.out)
    go_wp2_with (first
     | ((with_reducible refine atDst 27 ?_); refine wpList_ldArr rfl 26 _ rfl w1.heap.size rfl 26 _ _ M9.out Tryz.underlying26 rfl (size_set _) ?_; (try simp only [Act.put, qA, qB, qC]))
     | ((with_reducible refine atDst 28 ?_); refine wpList_bld rfl 26 _ rfl (wds zs) HBS.out ?_; (try simp only [Act.put, qA, qB, qC]))
     | ((with_reducible refine atDst 29 ?_); refine wpList_neSetG rfl HNE.out 26 24 (.tmp 27) (.tmp 28) 26 rfl guardSet Tryz.underlying26 Tryz.underlying24 sizeU64 rfl rfl ?_; (try simp only [Act.put, qA, qB, qC])))
    go_wp2_with fail
    refine (sortT_any w4.heap.size v1 (itemsT E) wr OX.out HLJ.out HNM.out).mono ?_
    rintro e w20 ⟨rfl, l', hp, hs, ho20, hg20⟩
    have HPM := Lib.hid hp
    have HST := Lib.hid hs
    have O20 := Lib.hid ho20
    have K20 := Lib.hid (show Blk w20 w.heap.size 29 z from (hg20.block _ KR.out.lt (fun e => by have h1 := OX.out.ge _ e.symm; have h2 := HW4.out; omega)).trans KR.out)
    have B20 := Lib.hid (HB.out.grown hg20 HB.out.size (fun q hq => by have h1 := OX.out.ge q hq; have h2 := HW4.out; omega))
    have HL20 := Lib.hid (show l'.length ≤ 1099511627776 by rw [hp.length_eq]; exact HLJ.out)
    have HM20 := Lib.hid (fun (t : T) (ht : t ∈ l') => HNM.out t (hp.mem_iff.1 ht))
    clear hp hs ho20 hg20
    go_wp2_with fail
    refine (compactT_any w4.heap.size v1 l' w20 O20.out HL20.out HM20.out).mono ?_
    rintro e w21 ⟨v21, rfl, hr21, hg21⟩
    have HDD := Lib.hid (ddU_sort HPM.out HST.out HGI.out)
    rw [HDD.out] at hr21
    have R21 := Lib.hid (hr21.mono (D' := fun k => k ≠ w.heap.size ∧ k < w21.heap.size) fun k hk => ⟨by have h2 := HW4.out; rcases hk.1 with h | h; exact h.1; omega, hk.2⟩)
    have K21 := Lib.hid (show Blk w21 w.heap.size 29 z from (hg21.block _ K20.out.lt (fun e => by have h1 := O20.out.ge _ e.symm; have h2 := HW4.out; omega)).trans K20.out)
    have B21 := Lib.hid (B20.out.grown hg21 B20.out.size (fun q hq => by have h1 := O20.out.ge q hq; have h2 := HW4.out; omega))
    clear hr21 hg21
    go_wp2_with fail
    refine (rxNone_any w21).mono ?_
    rintro e w22 ⟨ns, rfl, hd22, hb22⟩
    have R22 := Lib.hid ((R21.out.keep hb22 fun k hk => hk.2).mono (D' := fun k => k ≠ w.heap.size ∧ k < w22.heap.size) fun k hk => ⟨hk.1, Nat.lt_of_lt_of_le hk.2 hb22.size⟩)
    have V22 := Lib.hid (hd22 fun k => k ≠ w.heap.size ∧ k < w22.heap.size)
    have B22 := Lib.hid (B21.out.trans (hb22.mono B21.out.size))
    have K22 := Lib.hid (K21.out.below hb22 K21.out.lt)
    clear hd22 hb22
    go_wp2_with fail
    refine (rxJoin_any 5 _ noneT v21 ns w22 (fun k hk => hk.2) R22.out V22.out).mono ?_
    rintro e w23 ⟨dx, rfl, hd23, hb23⟩
    have V23 := Lib.hid hd23
    have D6 := Lib.hid hd23.length
    have D1 := Lib.hid (show dx.all (·.oneCell') = true from List.all_eq_true.2 (RxD.one hd23))
    have B23 := Lib.hid (B22.out.trans (hb23.mono B22.out.size))
    have K23 := Lib.hid (K22.out.below hb23 K22.out.lt)
    have S23 := Lib.hid hb23.size
    clear hd23 hb23
    go_wp2_with ((with_reducible refine atStore 29 2 40 ?_); refine wpList_stBlk rfl 29 _ _ rfl w.heap.size dx rfl rfl 29 _ K23.out (size_rx D6.out) (by rw [HZL.out, D6.out]) D1.out B23.out (Nat.le_refl _) ?_; intro w24 hk24 hb24 hs24 ho24; have K24 := Lib.hid hk24; have B24 := Lib.hid hb24; have V24 := Lib.hid (RxD.mono (V23.out.stay (w' := w24) fun k hk => ho24 k hk.1) (D' := fun k => k < w24.heap.size) fun k hk => by have h1 := hk.2; have h2 := S23.out; omega); clear hk24 hb24 hs24 ho24; (try simp only [Act.put, qA, qB, qC]))
    refine bodyPost_ret (results_blk rfl _ _ w.heap.size 29 _ _ rfl K24.out Tryz.underlying29 rfl (size_rx D6.out)) rfl ?_
    exact ⟨dx, rfl, by rw [HAT.out]; exact V24.out, B24.out⟩
   | false =>
    have HNE := Lib.hid (show (!eqS (orT E) zs) = true by rw [hs]; rfl)
    have HBT := Lib.hid (show bytesT (orT E) = .node 3 (orT E) [] by unfold bytesT; rw [← HZS.out, hs]; rfl)
    have HI := Lib.hid (show itemsT E = withoutT 3 E ++ [.node 3 (orT E) []] by unfold itemsT; rw [← HZS.out, hs]; rfl)
    clear hs
    go_wp2_with (first
     | ((with_reducible refine atDst 27 ?_); refine wpList_ldArr rfl 26 _ rfl w1.heap.size rfl 26 _ _ M9.out Tryz.underlying26 rfl (size_set _) ?_; (try simp only [Act.put, qA, qB, qC]))
     | ((with_reducible refine atDst 28 ?_); refine wpList_bld rfl 26 _ rfl (wds zs) HBS.out ?_; (try simp only [Act.put, qA, qB, qC]))
     | ((with_reducible refine atDst 29 ?_); refine wpList_neSetG rfl HNE.out 26 24 (.tmp 27) (.tmp 28) 26 rfl guardSet Tryz.underlying26 Tryz.underlying24 sizeU64 rfl rfl ?_; (try simp only [Act.put, qA, qB, qC]))
     | ((with_reducible refine atDst 31 ?_); refine wpList_ldArr rfl 26 _ rfl w1.heap.size rfl 26 _ _ M9.out Tryz.underlying26 rfl (size_set _) ?_; (try simp only [Act.put, qA, qB, qC])))
    refine (rxBytes_any (orT E) wr).mono ?_
    rintro e w10 ⟨ds, rfl, hd10, hb10⟩
    rw [HBT.out] at hd10
    have D10 := Lib.hid (hd10 fun _ => False)
    have D16 := Lib.hid (hd10 fun _ => False).length
    have O10 := Lib.hid (O9.out.stay hb10)
    have B10 := Lib.hid (HB.out.trans (hb10.mono HB.out.size))
    have K10 := Lib.hid (KR.out.below hb10 KR.out.lt)
    have S10 := Lib.hid (Nat.le_trans HG.out.size hb10.size)
    clear hd10 hb10
    go_wp2_with (first
     | ((with_reducible refine atDst 33 ?_); refine wpList_bldT1 rfl 27 29 (.tmp 32) rfl i0 Tryz.underlying27 hi0 HZ1.out hz1 ds D16.out rfl ?_; intro w11 hk11 hb11 hs11; have K11 := Lib.hid hk11; have O11 := Lib.hid (O10.out.stay hb11); have C11 := Lib.hid (K10.out.below hb11 K10.out.lt); have B11 := Lib.hid (B10.out.trans (hb11.mono B10.out.size)); have S11 := Lib.hid (Nat.le_trans S10.out hb11.size); have V11 := Lib.hid (RxD.mono (D10.out.stay (w' := w11) fun k hk => absurd hk id) (D' := fun k => (k ≠ w.heap.size ∧ k ≠ w1.heap.size ∧ k < w4.heap.size) ∧ k < w11.heap.size ∧ some k ≠ v1.ownBlock) fun k hk => absurd hk id); clear hk11 hb11 hs11; (try simp only [Act.put, qA, qB, qC]))
     | ((with_reducible refine atDst 34 ?_); refine wpList_appT (D := fun k => k ≠ w.heap.size ∧ k ≠ w1.heap.size ∧ k < w4.heap.size) (base := w4.heap.size) rfl (.tmp 30) (.tmp 33) rfl i0 hi0 HZ1.out hz1 hz2 v1 _ rfl O11.out w10.heap.size 1 29 ds (.node 3 (orT E) []) rfl K11.out V11.out HLC.out S11.out ?_; intro v12 w12 ho12 hg12; have OX := Lib.hid (show OwnT (fun k => k ≠ w.heap.size ∧ k ≠ w1.heap.size ∧ k < w4.heap.size) w4.heap.size w12 v12 (itemsT E) by rw [HI.out]; exact ho12); have KX := Lib.hid (show Blk w12 w.heap.size 29 z from (hg12.block _ C11.out.lt (fun e => by have h1 := O11.out.ge _ e.symm; have h2 := HW4.out; omega)).trans C11.out); have BX := Lib.hid (B11.out.grown hg12 B11.out.size (fun q hq => by have h1 := O11.out.ge q hq; have h2 := HW4.out; omega)); clear ho12 hg12; (try simp only [Act.put, qA, qB, qC])))
    go_wp2_with fail
    refine (sortT_any w4.heap.size v12 (itemsT E) w12 OX.out HLJ.out HNM.out).mono ?_
    rintro e w20 ⟨rfl, l', hp, hs, ho20, hg20⟩
    have HPM := Lib.hid hp
    have HST := Lib.hid hs
    have O20 := Lib.hid ho20
    have K20 := Lib.hid (show Blk w20 w.heap.size 29 z from (hg20.block _ KX.out.lt (fun e => by have h1 := OX.out.ge _ e.symm; have h2 := HW4.out; omega)).trans KX.out)
    have B20 := Lib.hid (BX.out.grown hg20 BX.out.size (fun q hq => by have h1 := OX.out.ge q hq; have h2 := HW4.out; omega))
    have HL20 := Lib.hid (show l'.length ≤ 1099511627776 by rw [hp.length_eq]; exact HLJ.out)
    have HM20 := Lib.hid (fun (t : T) (ht : t ∈ l') => HNM.out t (hp.mem_iff.1 ht))
    clear hp hs ho20 hg20
    go_wp2_with fail
    refine (compactT_any w4.heap.size v12 l' w20 O20.out HL20.out HM20.out).mono ?_
    rintro e w21 ⟨v21, rfl, hr21, hg21⟩
    have HDD := Lib.hid (ddU_sort HPM.out HST.out HGI.out)
    rw [HDD.out] at hr21
    have R21 := Lib.hid (hr21.mono (D' := fun k => k ≠ w.heap.size ∧ k < w21.heap.size) fun k hk => ⟨by have h2 := HW4.out; rcases hk.1 with h | h; exact h.1; omega, hk.2⟩)
    have K21 := Lib.hid (show Blk w21 w.heap.size 29 z from (hg21.block _ K20.out.lt (fun e => by have h1 := O20.out.ge _ e.symm; have h2 := HW4.out; omega)).trans K20.out)
    have B21 := Lib.hid (B20.out.grown hg21 B20.out.size (fun q hq => by have h1 := O20.out.ge q hq; have h2 := HW4.out; omega))
    clear hr21 hg21
    go_wp2_with fail
    refine (rxNone_any w21).mono ?_
    rintro e w22 ⟨ns, rfl, hd22, hb22⟩
    have R22 := Lib.hid ((R21.out.keep hb22 fun k hk => hk.2).mono (D' := fun k => k ≠ w.heap.size ∧ k < w22.heap.size) fun k hk => ⟨hk.1, Nat.lt_of_lt_of_le hk.2 hb22.size⟩)
    have V22 := Lib.hid (hd22 fun k => k ≠ w.heap.size ∧ k < w22.heap.size)
    have B22 := Lib.hid (B21.out.trans (hb22.mono B21.out.size))
    have K22 := Lib.hid (K21.out.below hb22 K21.out.lt)
    clear hd22 hb22
    go_wp2_with fail
    refine (rxJoin_any 5 _ noneT v21 ns w22 (fun k hk => hk.2) R22.out V22.out).mono ?_
    rintro e w23 ⟨dx, rfl, hd23, hb23⟩
    have V23 := Lib.hid hd23
    have D6 := Lib.hid hd23.length
    have D1 := Lib.hid (show dx.all (·.oneCell') = true from List.all_eq_true.2 (RxD.one hd23))
    have B23 := Lib.hid (B22.out.trans (hb23.mono B22.out.size))
    have K23 := Lib.hid (K22.out.below hb23 K22.out.lt)
    have S23 := Lib.hid hb23.size
    clear hd23 hb23
    go_wp2_with ((with_reducible refine atStore 29 2 40 ?_); refine wpList_stBlk rfl 29 _ _ rfl w.heap.size dx rfl rfl 29 _ K23.out (size_rx D6.out) (by rw [HZL.out, D6.out]) D1.out B23.out (Nat.le_refl _) ?_; intro w24 hk24 hb24 hs24 ho24; have K24 := Lib.hid hk24; have B24 := Lib.hid hb24; have V24 := Lib.hid (RxD.mono (V23.out.stay (w' := w24) fun k hk => ho24 k hk.1) (D' := fun k => k < w24.heap.size) fun k hk => by have h1 := hk.2; have h2 := S23.out; omega); clear hk24 hb24 hs24 ho24; (try simp only [Act.put, qA, qB, qC]))
    refine bodyPost_ret (results_blk rfl _ _ w.heap.size 29 _ _ rfl K24.out Tryz.underlying29 rfl (size_rx D6.out)) rfl ?_
    exact ⟨dx, rfl, by rw [HAT.out]; exact V24.out, B24.out⟩
set_option maxHeartbeats 2000000 in
set_option maxRecDepth 100000 in
theorem rxAlt_any (l : List T) (v : Value) (w : World) (hr : RowT w.heap.size w v l) (hn : nodesL l ≤ 274877906944) (hg : ∀ t ∈ l, good t) :
  Calls Tryz.prog 74 #[v] w fun e w' => ∃ ds, e = .returned (.agg ds.toArray) ∧ RxD (fun k => w.heap.size ≤ k ∧ k < w'.heap.size) w' ds (altT l) ∧ Below w.heap.size w w' := by
 have R := Lib.hid hr
 have HN := Lib.hid hn
 have HNC := Lib.hid (altT_nodes l)
 obtain ⟨i0, hi0, hz0, hz1, hz2⟩ := inf_rx'
 obtain ⟨z, hz⟩ : ∃ z, z = rxc 0 zeroS (.slice none 0 0) := ⟨_, rfl⟩
 have HZL := Lib.hid (show z.length = 6 by rw [hz]; rfl)
 have HZ0 := Lib.hid (show i0.zero = some (.agg z.toArray) by rw [hz]; exact hz0)
 clear hr hn hz hz0
 go_enter Tryz.func74, Tryz.ntmps74
 go_wp2_with ((with_reducible refine atDst 2 ?_); refine wpList_new rfl 29 rfl i0 _ z hi0 HZ0.out rfl (Below.refl w.heap.size w) (Nat.le_refl _) ?_; intro w1 hk1 hb1 hs1 _; have K1 := Lib.hid hk1; have B1 := Lib.hid hb1; clear hk1 hb1 hs1; (try simp only [Act.put, qA, qB, qC]))
 refine (rxAlt0_any l v w1 ((R.out.below B1.out).monoB B1.out.size) (by have := HN.out; omega) hg).mono ?_
 rintro e w2 ⟨cs, rfl, hv2, hb2⟩
 have V2 := Lib.hid hv2
 have B2 := Lib.hid (B1.out.trans (hb2.mono B1.out.size))
 have K2 := Lib.hid (K1.out.below hb2 K1.out.lt)
 clear hv2 hb2
 go_wp2_with fail
 refine (rxClone_any _ (altT l) (Nat.le_refl _) (by have h1 := HNC.out; have h2 := HN.out; omega) cs w2 (fun k => k < w2.heap.size) (fun k hk => hk) V2.out).mono ?_
 rintro e w3 ⟨ds, rfl, hd3, hb3⟩
 have D3 := Lib.hid hd3
 have D6 := Lib.hid hd3.length
 have D1 := Lib.hid (show ds.all (·.oneCell') = true from List.all_eq_true.2 hd3.one)
 have B3 := Lib.hid (B2.out.trans (hb3.mono B2.out.size))
 have K3 := Lib.hid (K2.out.below hb3 K2.out.lt)
 have G2 := Lib.hid K2.out.lt
 clear hd3 hb3
 go_wp2_with ((with_reducible refine atStore 29 2 5 ?_); refine wpList_stBlk rfl 29 _ _ rfl w.heap.size ds rfl rfl 29 _ K3.out (size_rx D6.out) (by rw [HZL.out, D6.out]) D1.out B3.out (Nat.le_refl _) ?_; intro w4 hk4 hb4 hs4 ho4; have K4 := Lib.hid hk4; have B4 := Lib.hid hb4; have D4 := Lib.hid (RxD.mono (D3.out.stay (w' := w4) fun k hk => ho4 k (by have h1 := G2.out; have h2 := hk.1; omega)) (D' := fun k => w.heap.size ≤ k ∧ k < w4.heap.size) fun k hk => ⟨by have h1 := G2.out; have h2 := hk.1; omega, by have h1 := hk.2; omega⟩); clear hk4 hb4 hs4 ho4; (try simp only [Act.put, qA, qB, qC]))
 refine bodyPost_ret (results_blk rfl _ _ w.heap.size 29 _ _ rfl K4.out Tryz.underlying29 rfl (size_rx D6.out)) rfl ?_
 exact ⟨ds, rfl, D4.out, B4.out⟩
end Go.Proofs.YtopnpdobcagcgaaGreat
namespace Go.Proofs.YtopnpdobcagcgaaGreat
open Go.RowKit
set_option linter.unusedSimpArgs false
set_option linter.unusedVariables false
inductive StarL (P : List UInt8 → Prop) : List UInt8 → Prop
 | nil : StarL P []
 | app {u v : List UInt8} : P u → StarL P v → StarL P (u ++ v)
mutual
def Lg : T → List UInt8 → Prop
 | .node k s l, w => if k = 2 then w = [] else if k = 3 then ∃ b : UInt8, w = [b] ∧ s b.toNat = true else if k = 4 then LgC l w else if k = 5 then LgA l w else if k = 6 then StarL (LgO l) w else False
def LgC : List T → List UInt8 → Prop
 | [], w => w = []
 | t :: r, w => ∃ u v, w = u ++ v ∧ Lg t u ∧ LgC r v
def LgA : List T → List UInt8 → Prop
 | [], _ => False
 | t :: r, w => Lg t w ∨ LgA r w
def LgO : List T → List UInt8 → Prop
 | [], _ => False
 | t :: r, w => r.length = 0 ∧ Lg t w
end
theorem lg_set {s : Nat → Bool} {l : List T} {w : List UInt8} : Lg (.node 3 s l) w ↔ ∃ b : UInt8, w = [b] ∧ s b.toNat = true := by
 rw [Lg, if_neg (by omega), if_pos rfl]
theorem lg_cat {s : Nat → Bool} {l : List T} {w : List UInt8} : Lg (.node 4 s l) w ↔ LgC l w := by
 rw [Lg, if_neg (by omega), if_neg (by omega), if_pos rfl]
theorem lg_alt {s : Nat → Bool} {l : List T} {w : List UInt8} : Lg (.node 5 s l) w ↔ LgA l w := by
 rw [Lg, if_neg (by omega), if_neg (by omega), if_neg (by omega), if_pos rfl]
theorem lg_star {s : Nat → Bool} {l : List T} {w : List UInt8} : Lg (.node 6 s l) w ↔ StarL (LgO l) w := by
 rw [Lg, if_neg (by omega), if_neg (by omega), if_neg (by omega), if_neg (by omega), if_pos rfl]
theorem lg_k1 {t : T} (h : t.kind = 1) (w : List UInt8) : ¬ Lg t w := by
 cases t with
 | node k s l =>
  have hk : k = 1 := h
  subst hk
  rw [Lg]
  simp
theorem lg_k2 {t : T} (h : t.kind = 2) (w : List UInt8) : Lg t w ↔ w = [] := by
 cases t with
 | node k s l =>
  have hk : k = 2 := h
  subst hk
  rw [Lg, if_pos rfl]
theorem lg_k3 {t : T} (h : t.kind = 3) (w : List UInt8) : Lg t w ↔ ∃ b : UInt8, w = [b] ∧ t.set b.toNat = true := by
 cases t with
 | node k s l =>
  have hk : k = 3 := h
  subst hk
  exact lg_set
theorem lg_k4 {t : T} (h : t.kind = 4) (w : List UInt8) : Lg t w ↔ LgC t.args w := by
 cases t with
 | node k s l =>
  have hk : k = 4 := h
  subst hk
  exact lg_cat
theorem lg_k5 {t : T} (h : t.kind = 5) (w : List UInt8) : Lg t w ↔ LgA t.args w := by
 cases t with
 | node k s l =>
  have hk : k = 5 := h
  subst hk
  exact lg_alt
theorem lg_k6 {t : T} (h : t.kind = 6) (w : List UInt8) : Lg t w ↔ StarL (LgO t.args) w := by
 cases t with
 | node k s l =>
  have hk : k = 6 := h
  subst hk
  exact lg_star
/-! ### sequences -/
theorem lgC_app : ∀ (l m : List T) (w : List UInt8), LgC (l ++ m) w ↔ ∃ u v, w = u ++ v ∧ LgC l u ∧ LgC m v
 | [], m, w => by
  simp only [List.nil_append, LgC]
  constructor
  ·intro h; exact ⟨[], w, rfl, rfl, h⟩
  ·rintro ⟨u, v, rfl, rfl, h⟩; exact h
 | t :: r, m, w => by
  simp only [List.cons_append, LgC]
  constructor
  ·rintro ⟨u, v, rfl, h1, h2⟩
   obtain ⟨a, b, rfl, h3, h4⟩ := (lgC_app r m v).1 h2
   exact ⟨u ++ a, b, by rw [List.append_assoc], ⟨u, a, rfl, h1, h3⟩, h4⟩
  ·rintro ⟨u, v, rfl, ⟨a, b, rfl, h1, h2⟩, h3⟩
   exact ⟨a, b ++ v, by rw [List.append_assoc], h1, (lgC_app r m _).2 ⟨b, v, rfl, h2, h3⟩⟩
theorem lgC_one (t : T) (w : List UInt8) : LgC [t] w ↔ Lg t w := by
 simp only [LgC]
 constructor
 ·rintro ⟨u, v, rfl, h, rfl⟩; rw [List.append_nil]; exact h
 ·intro h; exact ⟨w, [], by simp, h, rfl⟩
theorem lgC_flat : ∀ (l : List T) (w : List UInt8), LgC (flatT 4 l) w ↔ LgC l w
 | [], w => Iff.rfl
 | t :: r, w => by
  have e : flatT 4 (t :: r) = (if t.kind = 4 then t.args else [t]) ++ flatT 4 r := by simp [flatT]
  have h1 : ∀ u, LgC (if t.kind = 4 then t.args else [t]) u ↔ Lg t u := fun u => by
   by_cases h4 : t.kind = 4
   ·rw [if_pos h4, lg_k4 h4]
   ·rw [if_neg h4, lgC_one]
  rw [e, lgC_app]
  simp only [LgC]
  constructor
  ·rintro ⟨u, v, rfl, a, b⟩; exact ⟨u, v, rfl, (h1 u).1 a, (lgC_flat r v).1 b⟩
  ·rintro ⟨u, v, rfl, a, b⟩; exact ⟨u, v, rfl, (h1 u).2 a, (lgC_flat r v).2 b⟩
theorem lgC_without : ∀ (l : List T) (w : List UInt8), LgC (withoutT 2 l) w ↔ LgC l w
 | [], w => Iff.rfl
 | t :: r, w => by
  have ih := lgC_without r
  by_cases h2 : t.kind = 2
  ·have e : withoutT 2 (t :: r) = withoutT 2 r := by simp [withoutT, h2]
   rw [e, ih]
   simp only [LgC]
   constructor
   ·intro h; exact ⟨[], w, rfl, (lg_k2 h2 []).2 rfl, h⟩
   ·rintro ⟨u, v, rfl, a, b⟩
    rw [(lg_k2 h2 u).1 a]
    exact b
  ·have e : withoutT 2 (t :: r) = t :: withoutT 2 r := by simp [withoutT, h2]
   rw [e]
   simp only [LgC]
   constructor
   ·rintro ⟨u, v, rfl, a, b⟩; exact ⟨u, v, rfl, a, (ih v).1 b⟩
   ·rintro ⟨u, v, rfl, a, b⟩; exact ⟨u, v, rfl, a, (ih v).2 b⟩
theorem lgC_none : ∀ (l : List T) (w : List UInt8), anyK 1 l = true → ¬ LgC l w
 | [], w, h => by simp [anyK] at h
 | t :: r, w, h => by
  rintro ⟨u, v, rfl, a, b⟩
  by_cases h1 : t.kind = 1
  ·exact lg_k1 h1 u a
  ·exact lgC_none r v (by simpa [anyK, h1] using h) b
theorem lg_catT (l : List T) (w : List UInt8) : Lg (catT l) w ↔ LgC l w := by
 unfold catT
 cases ha : anyK 1 (flatT 4 l) with
 | true =>
  rw [if_pos rfl]
  have h1 := lg_k1 (t := noneT) rfl w
  have h2 := lgC_none _ w ha
  rw [lgC_flat] at h2
  exact ⟨fun h => absurd h h1, fun h => absurd h h2⟩
 | false =>
  rw [if_neg (by simp), ← lgC_flat l, ← lgC_without (flatT 4 l)]
  match withoutT 2 (flatT 4 l) with
  | [] => exact lg_k2 (t := emptyT) rfl w
  | [t] => exact (lgC_one t w).symm
  | a :: b :: r => exact lg_cat
/-! ### alternatives -/
theorem lgA_mem : ∀ (l : List T) (w : List UInt8), LgA l w ↔ ∃ t ∈ l, Lg t w
 | [], w => by simp [LgA]
 | t :: r, w => by
  simp only [LgA]
  rw [lgA_mem r w]
  simp
theorem lgA_flat (l : List T) (w : List UInt8) : LgA (flatT 5 l) w ↔ LgA l w := by
 rw [lgA_mem, lgA_mem]
 unfold flatT
 constructor
 ·rintro ⟨t, ht, h⟩
  obtain ⟨u, hu, hu2⟩ := List.mem_flatMap.1 ht
  refine ⟨u, hu, ?_⟩
  by_cases h5 : u.kind = 5
  ·rw [if_pos h5] at hu2
   exact (lg_k5 h5 w).2 ((lgA_mem _ w).2 ⟨t, hu2, h⟩)
  ·rw [if_neg h5] at hu2
   obtain rfl := List.mem_singleton.1 hu2
   exact h
 ·rintro ⟨u, hu, h⟩
  by_cases h5 : u.kind = 5
  ·obtain ⟨t, ht, h⟩ := (lgA_mem _ w).1 ((lg_k5 h5 w).1 h)
   exact ⟨t, List.mem_flatMap.2 ⟨u, hu, by rw [if_pos h5]; exact ht⟩, h⟩
  ·exact ⟨u, List.mem_flatMap.2 ⟨u, hu, by rw [if_neg h5]; simp⟩, h⟩
theorem lgA_without (l : List T) (w : List UInt8) : LgA (withoutT 1 l) w ↔ LgA l w := by
 rw [lgA_mem, lgA_mem]
 constructor
 ·rintro ⟨t, ht, h⟩; exact ⟨t, (List.mem_filter.1 ht).1, h⟩
 ·rintro ⟨t, ht, h⟩; exact ⟨t, List.mem_filter.2 ⟨ht, by simp; intro h1; exact lg_k1 h1 w h⟩, h⟩
theorem lgA_items (E : List T) (w : List UInt8) : LgA (itemsT E) w ↔ LgA E w := by
 rw [lgA_mem, lgA_mem]
 unfold itemsT
 constructor
 ·rintro ⟨t, ht, h⟩
  rcases List.mem_append.1 ht with ht | ht
  ·exact ⟨t, (List.mem_filter.1 ht).1, h⟩
  ·split at ht
   ·cases ht
   ·obtain rfl := List.mem_singleton.1 ht
    obtain ⟨b, rfl, hb⟩ := lg_set.1 h
    obtain ⟨u, hu, hu2⟩ := List.any_eq_true.1 (show List.any E (fun t => decide (t.kind = 3) && t.set b.toNat) = true from hb)
    rw [Bool.and_eq_true, decide_eq_true_eq] at hu2
    exact ⟨u, hu, (lg_k3 hu2.1 _).2 ⟨b, rfl, hu2.2⟩⟩
 ·rintro ⟨t, ht, h⟩
  by_cases h3 : t.kind = 3
  ·obtain ⟨b, rfl, hb⟩ := (lg_k3 h3 w).1 h
   have ho : orT E b.toNat = true := List.any_eq_true.2 ⟨t, ht, by simp [h3, hb]⟩
   refine ⟨.node 3 (orT E) [], List.mem_append.2 (.inr ?_), lg_set.2 ⟨b, rfl, ho⟩⟩
   cases he : eqS (orT E) zeroS with
   | true =>
    have := (eqS_iff _ _).1 he b.toNat b.toNat_lt
    rw [ho] at this
    cases this
   | false => simp
  ·exact ⟨t, List.mem_append.2 (.inl (List.mem_filter.2 ⟨ht, by simpa using h3⟩)), h⟩
theorem lg_altT {l : List T} (hg : ∀ t ∈ l, good t) (w : List UInt8) : Lg (altT l) w ↔ LgA l w := by
 have h1 := good_items (good_without (k := 1) (good_flat (k := 5) hg))
 have h2 : LgA (sortU (itemsT (withoutT 1 (flatT 5 l)))) w ↔ LgA l w := by
  rw [← lgA_flat l, ← lgA_without (flatT 5 l), ← lgA_items (withoutT 1 (flatT 5 l)), lgA_mem, lgA_mem]
  constructor
  ·rintro ⟨t, ht, h⟩; exact ⟨t, (sortU_mem h1 t).1 ht, h⟩
  ·rintro ⟨t, ht, h⟩; exact ⟨t, (sortU_mem h1 t).2 ht, h⟩
 rw [← h2]
 unfold altT
 match sortU (itemsT (withoutT 1 (flatT 5 l))) with
 | [] =>
  have h3 := lg_k1 (t := noneT) rfl w
  exact ⟨fun h => absurd h h3, fun h => by cases h⟩
 | [t] => simp [wrapT, LgA]
 | a :: b :: r => exact lg_alt
/-! ### stars -/
theorem starL_mono {P Q : List UInt8 → Prop} (h : ∀ u, P u → StarL Q u) {w : List UInt8} (hw : StarL P w) : StarL Q w := by
 induction hw with
 | nil => exact .nil
 | app hu _ ih =>
  have hq := h _ hu
  clear hu
  induction hq with
  | nil => exact ih
  | app h1 _ ih2 => rw [List.append_assoc]; exact .app h1 ih2
theorem starL_one {P : List UInt8 → Prop} {u : List UInt8} (h : P u) : StarL P u := by
 have := StarL.app h (StarL.nil (P := P))
 rwa [List.append_nil] at this
theorem starL_iff {P Q : List UInt8 → Prop} (h : ∀ u, P u → StarL Q u) (h' : ∀ u, Q u → StarL P u) (w : List UInt8) : StarL P w ↔ StarL Q w := ⟨starL_mono h, starL_mono h'⟩
theorem starL_same {P Q : List UInt8 → Prop} (h : ∀ u, P u ↔ Q u) (w : List UInt8) : StarL P w ↔ StarL Q w :=
 starL_iff (fun u hu => starL_one ((h u).1 hu)) (fun u hu => starL_one ((h u).2 hu)) w
theorem starL_nothing {P : List UInt8 → Prop} (h : ∀ u, P u → u = []) (w : List UInt8) : StarL P w ↔ w = [] := by
 constructor
 ·intro hw
  induction hw with
  | nil => rfl
  | app hu _ ih => rw [h _ hu, ih]; rfl
 ·rintro rfl; exact .nil
theorem lgO_one (t : T) (w : List UInt8) : LgO [t] w ↔ Lg t w := by simp [LgO]
theorem lg_star1 (r : T) (w : List UInt8) : Lg (star1T r) w ↔ StarL (Lg r) w := by
 unfold star1T
 by_cases h6 : r.kind = 6
 ·rw [if_pos h6, lg_k6 h6]
  exact starL_iff (fun u hu => starL_one ((lg_k6 h6 u).2 (starL_one hu))) (fun u hu => (lg_k6 h6 u).1 hu) w
 ·rw [if_neg h6]
  by_cases h12 : r.kind = 1 ∨ r.kind = 2
  ·rw [if_pos h12, lg_k2 (t := emptyT) rfl, starL_nothing]
   intro u hu
   rcases h12 with h | h
   ·exact absurd hu (lg_k1 h u)
   ·exact (lg_k2 h u).1 hu
  ·rw [if_neg h12, lg_star]
   exact starL_same (lgO_one r) w
theorem lg_starT {r : T} (hg : good r) (w : List UInt8) : Lg (starT r) w ↔ StarL (Lg r) w := by
 unfold starT
 split
 ·rename_i h5
  have hga : ∀ t ∈ withoutT 2 r.args, good t := fun t ht => good_args hg t (List.mem_filter.1 ht).1
  rw [lg_star1]
  refine starL_iff (fun u hu => ?_) (fun u hu => ?_) w
  ·obtain ⟨t, ht, h⟩ := (lgA_mem _ u).1 ((lg_altT hga u).1 hu)
   exact starL_one ((lg_k5 h5.1 u).2 ((lgA_mem _ u).2 ⟨t, (List.mem_filter.1 ht).1, h⟩))
  ·obtain ⟨t, ht, h⟩ := (lgA_mem _ u).1 ((lg_k5 h5.1 u).1 hu)
   by_cases h2 : t.kind = 2
   ·rw [(lg_k2 h2 u).1 h]; exact .nil
   ·exact starL_one ((lg_altT hga u).2 ((lgA_mem _ u).2 ⟨t, List.mem_filter.2 ⟨ht, by simpa using h2⟩, h⟩))
 ·exact lg_star1 r w
theorem lg_bytes (s : Nat → Bool) (w : List UInt8) : Lg (bytesT s) w ↔ ∃ b : UInt8, w = [b] ∧ s b.toNat = true := by
 unfold bytesT
 split
 ·rename_i h
  constructor
  ·intro hw; exact absurd hw (lg_k1 (t := noneT) rfl w)
  ·rintro ⟨b, rfl, hb⟩
   have := (eqS_iff _ _).1 h b.toNat b.toNat_lt
   rw [hb] at this
   cases this
 ·exact lg_set
end Go.Proofs.YtopnpdobcagcgaaGreat
