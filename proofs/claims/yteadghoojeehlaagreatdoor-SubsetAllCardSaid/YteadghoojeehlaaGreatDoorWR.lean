/-
  Texts of this proof, put together: SbQ, SbR. No statement is proved here.
-/
import Derived.Test.YteadghoojeehlaaGreatDoorWQ
namespace Go.Proofs.YteadghoojeehlaaGreatDoor
open Go.RowKit
set_option linter.unusedSimpArgs false
set_option linter.unusedVariables false
theorem wpList_stIB {w : World} {ops : Array Oper} {rest : List Oper} {o : Oper} {a : Act} {Q : Exit → Act → World → Prop} (hgd : o.guard = none) (x y : Operand) (ho : o.op = .store 3 x y) (g i : Nat) (hx : a.eval x = .pointer (some ⟨g, i, none⟩)) {v : Int} (hy : a.eval y = .int .i64 v)
  (t : TypeId) (cs : List Value) (hg : Blk w g t cs) {u : Int} (hu : cs[i]? = some (.int .i64 u))
  (h : ∀ w', Blk w' g t (cs.set i (.int .i64 v)) → w'.heap.size = w.heap.size → (∀ B w0, B ≤ g → Below B w0 w → Below B w0 w') → (∀ k, k ≠ g → w'.heap[k]? = w.heap[k]?) → wpList Tryz.prog ops Q rest (a.put o.dst undef) w') : wpList Tryz.prog ops Q (o :: rest) a w := by
 refine wpList_plain hgd fun K hK => ?_
 have hc : w.cell? ⟨g, i, none⟩ = some (.int .i64 u) := by rw [hg.cell, hu]
 have hf := hg.frozen i
 have key : K (a.put o.dst undef) (w.setCell ⟨g, i, none⟩ (.int .i64 v)) := hK _ _ (h _ (hg.set i _) (by simp) (fun B w0 hB hb => hb.setCell (p := ⟨g, i, none⟩) hB _) fun k hk => Below.heap_setCell w ⟨g, i, none⟩ _ k hk)
 unfold Oper.wp
 simp only [execOp, ho, hx, hy]
 go_simp
 exact key
def NmPost (A : Option Addr) (cap : Nat) (a z : Int) (S : List St) (w : World) (e : Ending) (w' : World) : Prop :=
 ∃ g mr mn sg, e = .returned (.pointer (some ⟨g, 0, none⟩)) ∧ MkV w' w.heap.size w'.heap.size g mr mn A cap a z (ctab (setsN S) 256) (fbN S).length sg S (.slice none 0 0) [] [] ∧ SgV w' w'.heap.size g mr mn sg (sgS S) ∧ Below w.heap.size w w'
set_option maxHeartbeats 8000000 in
set_option maxRecDepth 1000000 in
theorem newMaker_any (A : Option Addr) (cap : Nat) (a z : Int) (S : List St) (w : World) (hv : NfaV w (nfc A S.length cap a z) S a z) (hmy : MayN S a z) (hT : Tb w) :
  Calls Tryz.prog 18 #[.agg (nfc A S.length cap a z).toArray] w fun e w' => NmPost A cap a z S w e w' := by
 have V := qH hv
 have HM := qH hmy
 have HT := qH hT
 obtain ⟨cl0, hcl0⟩ : ∃ cl0, cl0 = ctab [] 0 := ⟨_, rfl⟩
 have HL0 := qH (show cl0.length = 256 by rw [hcl0]; exact ctab_length _ _)
 have HBM := qH (fun x y : Nat => by have := built_mk A S.length cap a z x y; rw [← hcl0] at this; exact this)
 obtain ⟨cl, hcl⟩ : ∃ cl, cl = ctab (setsN S) 256 := ⟨_, rfl⟩
 have HCL := qH hcl
 have HL := qH (show cl.length = 256 by rw [hcl]; exact ctab_length _ _)
 have HSC := qH (show (Tryz.prog.info? 27).map (·.size) = some (bvs cl).length from size_ctab HL.out)
 obtain ⟨k, hk⟩ : ∃ k, k = (fbN S).length := ⟨_, rfl⟩
 have HK := qH hk
 obtain ⟨one, hone⟩ : ∃ one : Nat → Bool, one = fun b => decide (b ∈ firstJ (setsN S) 256) := ⟨_, rfl⟩
 have HONE := qH hone
 obtain ⟨i4, hi4, hz4, hs4, hy4⟩ := infoP inf_set
 obtain ⟨zs, hzs⟩ : ∃ z : Nat → Bool, z = fun _ => false := ⟨_, rfl⟩
 rw [← hzs] at hz4
 obtain ⟨i0, hi0, hz0, hs0, hy0⟩ := infoP inf_nst
 obtain ⟨zz, hzz⟩ : ∃ z : List Value, z = stc ⟨fun _ => false, 0, []⟩ (.slice none 0 0) := ⟨_, rfl⟩
 have HZL := qH (show zz.length = 6 by rw [hzz]; rfl)
 have HZ0 := qH (show i0.zero = some (.agg zz.toArray) by rw [hzz]; exact hz0)
 obtain ⟨ib, hib, hbz, hbs, hby⟩ := infoP inf_bs
 obtain ⟨nv, hnv⟩ : ∃ nv, nv = nfc A S.length cap a z := ⟨_, rfl⟩
 have HNV := qH hnv
 have HN3 := qH (show (Tryz.prog.info? 24).map (·.size) = some nv.length from size_nfa (by rw [hnv]; rfl))
 have HC0 := qH (show nv[0]? = some (.slice A S.length cap) by rw [hnv]; rfl)
 rw [← hnv] at V HBM ⊢
 clear hv hmy hT hcl0 hcl hk hone hzs hzz hz0 hs0 hy0 hnv
 go_enter Tryz.func18, Tryz.ntmps18
 go_wp2_with (first
  | ((with_reducible refine atDst 1 ?_); refine wpList_box rfl 24 _ rfl nv rfl (Below.refl w.heap.size w) (Nat.le_refl _) ?_; intro w1 hk1 hb1 hs1 _; have K1 := qH hk1; have B1 := qH hb1; clear hk1 hb1 hs1; (try simp only [Act.put, qA, qB, qC]))
  | ((with_reducible refine atDst 7 ?_); refine wpList_ldArr rfl 24 _ rfl w.heap.size rfl 24 _ _ K1.out Tryz.underlying24 rfl HN3.out ?_; (try simp only [Act.put, qA, qB, qC]))
  | ((with_reducible refine atDst 8 ?_); refine wpList_mkMap rfl 60 rfl ?_; intro w2 hm hb hs; have R2 := qH hm; have B2 := qH hb; have Z2 := qH hs; clear hm hb hs; (try simp only [Act.put, qA, qB, qC]))
  | ((with_reducible refine atDst 9 ?_); refine wpList_mkMap rfl 62 rfl ?_; intro w3 hm hb hs; have N3 := qH hm; have B3 := qH hb; have Z3 := qH hs; clear hm hb hs; (try simp only [Act.put, qA, qB, qC]))
  | ((with_reducible refine atDst 10 ?_); refine wpList_bld rfl 64 #[(0, .tmp 7), (4, .tmp 8), (6, .tmp 9)] rfl (mkc nv cl0 0 (.slice none 0 0) w1.heap.size (.slice none 0 0) w2.heap.size) (HBM.out w1.heap.size w2.heap.size) ?_; (try simp only [Act.put, qA, qB, qC]))
  | ((with_reducible refine atDst 11 ?_); refine wpList_box rfl 64 _ rfl (mkc nv cl0 0 (.slice none 0 0) w1.heap.size (.slice none 0 0) w2.heap.size) rfl (Below.refl w3.heap.size w3) (Nat.le_refl _) ?_; intro w4 hk4 hb4 hs4 _; have K4 := qH (show Blk w4 w3.heap.size 64 (mkc (nfc A S.length cap a z) cl0 0 (.slice none 0 0) w1.heap.size (.slice none 0 0) w2.heap.size) by rw [← HNV.out]; exact hk4); have B4 := qH hb4; have B14 := qH (B2.out.trans ((B3.out.trans (hb4.mono B3.out.size)).mono B2.out.size)); have C4 := qH (K1.out.below (B2.out.trans ((B3.out.trans (hb4.mono B3.out.size)).mono B2.out.size)) K1.out.lt); clear hk4 hb4 hs4; (try simp only [Act.put, qA, qB, qC]))
  | ((with_reducible refine atDst 15 ?_); refine wpList_ldArr rfl 24 _ rfl w.heap.size rfl 24 _ _ C4.out Tryz.underlying24 rfl HN3.out ?_; (try simp only [Act.put, qA, qB, qC])))
 have B04 := qH (B1.out.trans (B14.out.mono B1.out.size))
 refine (sbClasses_any S a z nv w4 (V.out.below B04.out) HM.out.few (HT.out.belowG B04.out HT.out.lt)).mono ?_
 rintro e w5 ⟨rfl, hb⟩
 rw [← HCL.out, ← HK.out]
 have K5 := qH (K4.out.below hb K4.out.lt)
 have B5 := qH (B04.out.trans (hb.mono B04.out.size))
 have B45 := qH hb
 obtain ⟨g, hg⟩ : ∃ g, g = w3.heap.size := ⟨_, rfl⟩
 have HG := qH hg
 obtain ⟨mr, hmr⟩ : ∃ mr, mr = w1.heap.size := ⟨_, rfl⟩
 have HMR := qH hmr
 obtain ⟨mn, hmn⟩ : ∃ mn, mn = w2.heap.size := ⟨_, rfl⟩
 have HMN := qH hmn
 rw [← hg, ← hmr, ← hmn] at K5
 rw [← hg, ← hmr, ← hmn]
 have S0 := qH (show w.heap.size < mr by rw [hmr]; exact K1.out.lt)
 have S1 := qH (show mr < mn by rw [hmr, hmn, Z2.out]; omega)
 have S2 := qH (show mn < g by rw [hmn, hg, Z3.out]; omega)
 have S4 := qH (show g < w4.heap.size by rw [hg]; exact K4.out.lt)
 have MR5 := qH (show MapV w5 mr [] by rw [hmr]; exact R2.out.stay ((B3.out.trans ((B4.out.trans (hb.mono B4.out.size)).mono B3.out.size)).block _ R2.out.lt))
 have MN5 := qH (show MapV w5 mn [] by rw [hmn]; exact N3.out.stay ((B4.out.trans (hb.mono B4.out.size)).block _ N3.out.lt))
 have C5 := qH (show Blk w5 w.heap.size 24 nv from C4.out.below hb C4.out.lt)
 clear hb hg hmr hmn
 go_wp2_with (first
  | ((with_reducible refine atStore 27 20 17 ?_); refine wpList_stMidB rfl 27 _ _ rfl g 3 (bvs cl) rfl rfl 64 _ K5.out (by rw [mkc_len HL0.out, bvs_length, HL.out]; decide) HSC.out (bvs_all' _) ?_; intro w6 hk hs hb ho; rw [mkc_splice HL0.out HL.out] at hk; have K6 := qH hk; have Z6 := qH hs; have O6 := qH ho; have B6 := qH (hb w.heap.size w (Nat.le_of_lt (Nat.lt_trans S0.out (Nat.lt_trans S1.out S2.out))) B5.out); clear hk hs hb ho; (try simp only [Act.put, qA, qB, qC]))
  | ((with_reducible refine atStore 3 22 18 ?_); refine wpList_stIB rfl (.tmp 22) (.tmp 18) rfl g 259 rfl rfl 64 _ K6.out (mkc_k HL.out) ?_; intro w7 hk hs hb ho; rw [mkc_setk HL.out] at hk; have K7 := qH hk; have Z7 := qH (show w7.heap.size = w5.heap.size by rw [hs]; exact Z6.out); have O7 := qH (show ∀ i, i ≠ g → w7.heap[i]? = w5.heap[i]? from fun i hi => (ho i hi).trans (O6.out i hi)); have B7 := qH (hb w.heap.size w (Nat.le_of_lt (Nat.lt_trans S0.out (Nat.lt_trans S1.out S2.out))) B6.out); have G7 := qH (mkc_rng hk HL.out); clear hk hs hb ho; (try simp only [Act.put, qA, qB, qC]))
  | ((with_reducible refine atDst 26 ?_); refine wpList_load_mid rfl 27 _ rfl g 3 rfl (bvs cl) _ G7.out Tryz.underlying27 rfl HSC.out ?_; (try simp only [Act.put, qA, qB, qC])))
 rw [HCL.out]
 refine (leasts_any (setsN S) w7).mono ?_
 rintro e w8 ⟨rfl, hb⟩
 rw [← HCL.out, ← HONE.out]
 have B78 := qH hb
 have NG0 := qH (show w.heap.size ≠ g from Nat.ne_of_lt (Nat.lt_trans S0.out (Nat.lt_trans S1.out S2.out)))
 have C7 := qH (show Blk w7 w.heap.size 24 nv from (O7.out _ NG0.out).trans C5.out)
 have MR7 := qH (MR5.out.stay (O7.out mr (Nat.ne_of_lt (Nat.lt_trans S1.out S2.out))))
 have MN7 := qH (MN5.out.stay (O7.out mn (Nat.ne_of_lt S2.out)))
 clear hb
 go_wp2_with (first
  | ((with_reducible refine atDst 4 ?_); refine wpList_new rfl 43 rfl i4 _ (wds zs) hi4 hz4 rfl (Below.refl w8.heap.size w8) (Nat.le_refl _) ?_; intro w9 hk hb hs _; have K9 := qH hk; have B9 := qH hb; clear hk hb hs; (try simp only [Act.put, qA, qB, qC]))
  | ((with_reducible refine atStore 43 4 27 ?_); refine wpList_stBlk rfl 43 _ _ rfl w8.heap.size (wds one) rfl rfl 43 _ K9.out (size_set one) rfl (wds_all _) B9.out (Nat.le_refl _) ?_; intro wA hk hb hs ho; have PO := qH hk; have B7A := qH (B78.out.trans (hb.mono B78.out.size)); have CA := qH (C7.out.below (B78.out.trans (hb.mono B78.out.size)) C7.out.lt); have c0 := (C7.out.below (B78.out.trans (hb.mono B78.out.size)) C7.out.lt).cell 0; rw [HC0.out] at c0; clear hk hb hs ho; (try simp only [Act.put, qA, qB, qC])))
 clear c0
 have KA := qH (K7.out.below B7A.out K7.out.lt)
 have BA := qH (B7.out.trans (B7A.out.mono B7.out.size))
 have MRA := qH (MR7.out.stay (B7A.out.block mr MR7.out.lt))
 have MNA := qH (MN7.out.stay (B7A.out.block mn MN7.out.lt))
 obtain ⟨base, hbase⟩ : ∃ base, base = wA.heap.size := ⟨_, rfl⟩
 have HBS := qH hbase
 have GB := qH (show g < base by rw [hbase]; exact KA.out.lt)
 have PB := qH (show w8.heap.size < base by rw [hbase]; exact PO.out.lt)
 have P8 := qH (show g < w8.heap.size from Nat.lt_of_lt_of_le K7.out.lt B78.out.size)
 clear hbase
 go_loopw [31] (fun iv wl => ∃ (j : Nat) (sgv : Value) (vf : Nat → Value), j ≤ S.length ∧ iv = .int .i64 (j : Int) ∧ Blk wl g 64 (mkc (nfc A S.length cap a z) cl k sgv mr (.slice none 0 0) mn) ∧ wl.ownsRow base 38 1 sgv j ((List.range j).map vf) ∧
  (∀ i s, i < j → S[i]? = some s → SgR wl base sgv (vf i) (sgL S s)) ∧ Off (fun k => k = g ∨ base ≤ k) wA wl) (fun iv _ => S.length - (intOf iv).toNat)
 case atStart => exact ⟨0, .slice none 0 0, fun _ => undef, Nat.zero_le _, by simp, KA.out, ownN _ _ _, fun i s h => absurd h (Nat.not_lt_zero i), Off.refl _ _⟩
 case round =>
  obtain ⟨j, sgv, vf, hj, rfl, hk, ho, hr, hof⟩ := hrel
  have KJ := qH hk
  have OJ := qH ho
  have RJ := qH hr
  have FJ := qH hof
  clear hk ho hr hof
  obtain ⟨wq, hwq⟩ : ∃ v : World, v = wr := ⟨_, rfl⟩
  subst hwq
  have BQ := qH (show Below w.heap.size w wq from BA.out.trans (FJ.out.below (fun k hk => by
   rcases hk with h | h
   ·rw [h]; exact Nat.le_of_lt (Nat.lt_trans S0.out (Nat.lt_trans S1.out S2.out))
   ·exact Nat.le_trans (Nat.le_trans BA.out.size (Nat.le_of_eq HBS.out.symm)) h) BA.out.size))
  by_cases hjl : j < S.length
  ·have x1 : (j : Int) < (S.length : Int) := Int.ofNat_lt.2 hjl
   have HJ := qH hjl
   have HMX := qH (sub_next hjl)
   obtain ⟨s, hs⟩ : ∃ s, S[j]? = some s := ⟨_, List.getElem?_eq_getElem hjl⟩
   have HS := qH hs
   have VQ := V.out.below BQ.out
   rw [HNV.out] at VQ
   obtain ⟨b, off, Af, cf, rfl, hlt, hr, _⟩ := VQ.whole hs
   obtain ⟨st, hst⟩ : ∃ l, l = stc s (.slice Af s.free.length cf) := ⟨_, rfl⟩
   have HST := qH hst
   have HR2 := qH (show wq.rangeAt b (off + j * 6) st by rw [hst]; exact hr)
   have HT6 := qH (show st.length = 6 by rw [hst]; rfl)
   have HT1 := qH (show st.all (·.oneCell') = true by rw [hst]; exact stc_one _ _ _ _)
   have e3 := wrap_one j (lt_2k hjl HM.out.few)
   have e4 := wrap_one' j (lt_2k hjl HM.out.few)
   clear hj hjl hs hr hlt hst VQ
   go_wp2_with (first
    | ((with_reducible refine atDst 34 ?_); refine wpList_load_mid rfl 55 _ rfl b (off + j * 6) rfl st _ HR2.out Tryz.underlying55 rfl (size_nst HT6.out) ?_; (try simp only [Act.put, qA, qB, qC]))
    | ((with_reducible refine atDst 6 ?_); refine wpList_new rfl 55 rfl i0 _ zz hi0 HZ0.out rfl (Below.refl wq.heap.size wq) (Nat.le_refl _) ?_; intro wB hk hb hs ho; have KB := qH hk; have BB := qH hb; clear hk hb hs ho; (try simp only [Act.put, qA, qB, qC]))
    | ((with_reducible refine atStore 55 6 34 ?_); refine wpList_stBlk rfl 55 _ _ rfl wq.heap.size st rfl rfl 55 _ KB.out (size_nst HT6.out) (by rw [HZL.out, HT6.out]) HT1.out BB.out (Nat.le_refl _) ?_; intro wC hk hb hs ho; have BC := qH hb; have RS := qH (stc_range hk HST.out); have LC := qH hk.lt; clear hk hb hs ho; (try simp only [Act.put, qA, qB, qC])))
   have HRL := qH (show ((List.range j).map vf).length = j by simp)
   obtain ⟨As, cs0, hsgv, _⟩ := Row.of_own OJ.out
   rw [HRL.out] at hsgv
   have HSF := qH hsgv
   have OC := qH (ownBelow OJ.out BC.out (Nat.le_refl _))
   have HOA := qH (fun i (hi : sgv.ownBlock = some i) => (⟨own_above OJ.out i hi, (own6_lt OJ.out i hi).1⟩ : base ≤ i ∧ i < wq.heap.size))
   have KC := qH (KJ.out.below BC.out KJ.out.lt)
   have HCC := qH (show wC.cell? ⟨g, 260, none⟩ = some (.slice As j cs0) by have := KC.out.cell 260; rw [mkc_sg HL.out, hsgv] at this; exact this)
   have HGO := qH (show ¬ sgv.ownBlock = some g from fun h => by have := (HOA.out g h).1; have := GB.out; omega)
   have HPO := qH (show ¬ sgv.ownBlock = some w8.heap.size from fun h => by have := (HOA.out _ h).1; have := PB.out; omega)
   have HQO := qH (show ¬ sgv.ownBlock = some wq.heap.size from fun h => Nat.lt_irrefl _ (HOA.out _ h).2)
   have POC := qH (show Blk wC w8.heap.size 43 (wds one) from (Off.blk FJ.out (fun h => by
    rcases h with h | h
    ·have := P8.out; omega
    ·have := PB.out; omega) PO.out).below BC.out (Nat.lt_of_lt_of_le PO.out.lt FJ.out.size))
   have HTC := qH (HT.out.belowG (BQ.out.trans (BC.out.mono BQ.out.size)) HT.out.lt)
   have HTL := qH (show 0 < wC.heap.size from Nat.lt_of_lt_of_le HT.out.lt (Nat.le_trans BQ.out.size BC.out.size))
   obtain ⟨pq, hpq⟩ : ∃ pq : Nat → Bool, pq = fun b => s.set b && one b := ⟨_, rfl⟩
   have HPQ := qH hpq
   have HSG := qH (show memJ pq 256 = sgL S s by rw [hpq, HONE.out]; rfl)
   have HJN := qH (show j ≤ 2000 from Nat.le_trans (Nat.le_of_lt HJ.out) HM.out.few)
   clear hsgv hpq
   refine sb_start (fun W => Off (fun i => sgv.ownBlock = some i) wC W) 14 (by kernel_rfl) (fun wd hwd => ?_)
   have hX : Off (fun i => sgv.ownBlock = some i) wC wd := by rw [hwd]; exact Off.start _ _
   have HWD := qH (show Below wC.heap.size wC wd by rw [hwd]; exact (Below.refl _ _).drew)
   clear hwd
   refine sb_take (i := 0) (oi := ⟨some 35, _, _, _, _, _⟩) (v := ?_) rfl (by kernel_rfl) (by kernel_rfl) (by kernel_rfl) (fun _ _ _ h => h) rfl hX ?_ ?_; rotate_left; (intro W hW; go_simp; try with_reducible rfl); simp only [Act.put, qA, qB, qC]
   refine sb_take (i := 1) (oi := ⟨some 36, _, _, _, _, _⟩) (v := ?_) rfl (by kernel_rfl) (by kernel_rfl) (by kernel_rfl) (fun _ _ _ h => h) rfl hX ?_ ?_; rotate_left; (intro W hW; go_simp; try with_reducible rfl); simp only [Act.put, qA, qB, qC]
   refine sb_take (i := 2) (oi := ⟨some 37, _, _, _, _, _⟩) (v := ?_) rfl (by kernel_rfl) (by kernel_rfl) (by kernel_rfl) (fun _ _ _ h => h) rfl hX ?_ ?_; rotate_left; (intro W hW; go_simp; try with_reducible rfl); simp only [Act.put, qA, qB, qC]
   refine sb_take (i := 3) (oi := ⟨some 38, _, _, _, _, _⟩) (v := ?_) rfl (by kernel_rfl) (by kernel_rfl) (by kernel_rfl) (fun _ _ _ h => h) rfl hX ?_ ?_; rotate_left; (intro W hW; go_simp; try with_reducible rfl); simp only [Act.put, qA, qB, qC]
   refine sb_take (i := 4) (oi := ⟨some 39, _, _, _, _, _⟩) (v := .slice As j cs0) rfl (by kernel_rfl) (by kernel_rfl) (by kernel_rfl) (fun _ _ _ h => h) rfl hX (fun W hW => ld_bss (.tmp 38) rfl rfl (Off.cell hW KC.out.lt HGO.out HCC.out)) ?_; simp only [Act.put, qA, qB, qC]
   refine sb_take (i := 5) (oi := ⟨some 40, _, _, _, _, _⟩) (v := ?_) rfl (by kernel_rfl) (by kernel_rfl) (by kernel_rfl) (fun _ _ _ h => h) rfl hX ?_ ?_; rotate_left; (intro W hW; go_simp; try with_reducible rfl); simp only [Act.put, qA, qB, qC]
   refine sb_take (i := 6) (oi := ⟨some 41, _, _, _, _, _⟩) (v := .agg (wds s.set).toArray) rfl (by kernel_rfl) (by kernel_rfl) (by kernel_rfl) (fun _ _ _ h => h) rfl hX (fun W hW => ld_mid 43 _ rfl wq.heap.size 0 rfl (wds s.set) _ (Off.range hW LC.out HQO.out RS.out) (Nat.lt_of_lt_of_le LC.out (Off.size hW)) Tryz.underlying43 rfl (size_set s.set) W (Below.refl _ _)) ?_; simp only [Act.put, qA, qB, qC]
   refine sb_take (i := 7) (oi := ⟨some 42, _, _, _, _, _⟩) (v := .agg (wds one).toArray) rfl (by kernel_rfl) (by kernel_rfl) (by kernel_rfl) (fun _ _ _ h => h) rfl hX (fun W hW => ld_blk 43 _ rfl w8.heap.size rfl 43 (wds one) _ (Off.blk hW HPO.out POC.out) (Off.blk hW HPO.out POC.out).lt Tryz.underlying43 rfl (size_set one) W (Below.refl _ _)) ?_; simp only [Act.put, qA, qB, qC]
   refine sb_actB (i := 8) (o := ⟨some 43, _, _, _, _, _⟩) rfl (by kernel_rfl) rfl hX (fun K hK => ?_)
   go_wp2_with fail
   refine (bsAnd_any s.set one wd).mono ?_
   rintro e wE ⟨rfl, hb⟩
   rw [← HPQ.out]
   have BE := qH (HWD.out.trans (hb.mono HWD.out.size))
   go_wp2_with fail
   refine hK _ _ (hX.then hb) ?_
   clear hK K
   (try simp only [Act.put, qA, qB, qC])
   replace hX := hX.then hb
   clear hb
   refine sb_actB (i := 9) (o := ⟨some 44, _, _, _, _, _⟩) rfl (by kernel_rfl) rfl hX (fun K hK => ?_)
   go_wp2_with fail
   refine (bsList_own pq wE (HTC.out.belowG BE.out HTL.out)).mono ?_
   rintro e wF ⟨vl, rfl, hol, hb⟩
   rw [HSG.out] at hol
   have OL := qH hol
   have BF := qH (BE.out.trans (hb.mono BE.out.size))
   have BEF := qH hb
   obtain ⟨Al, cl2, hvl, _⟩ := Row.of_own hol
   rw [bvs_length] at hvl
   obtain ⟨nl, hnl⟩ : ∃ nl, nl = (sgL S s).length := ⟨_, rfl⟩
   rw [← hnl] at hvl
   subst hvl
   have HNL := qH hnl
   clear hnl
   go_wp2_with fail
   refine hK _ _ (hX.then hb) ?_
   clear hK K
   (try simp only [Act.put, qA, qB, qC])
   replace hX := hX.then hb
   clear hb hol
   refine sb_actB (i := 10) (o := ⟨some 45, _, _, _, _, _⟩) rfl (by kernel_rfl) rfl hX (fun K hK => ?_)
   refine wp_bldV 59 38 (.tmp 44) rfl ib (.slice none 0 0) Tryz.underlying59 hib hbz hbs rfl (.slice Al nl cl2) rfl rfl ?_
   intro wG hrG hb
   have RG := qH hrG
   have BG := qH (BF.out.trans (hb.mono BF.out.size))
   have BFG := qH hb
   refine hK _ _ (hX.then hb) ?_
   clear hK K
   (try simp only [Act.put, qA, qB, qC])
   replace hX := hX.then hb
   clear hb hrG
   refine sb_actB (i := 11) (o := ⟨some 46, _, _, _, _, _⟩) rfl (by kernel_rfl) rfl hX (fun K hK => ?_)
   refine wp_appW (base := base) (.tmp 39) (.tmp 45) 59 rfl 38 ib (.slice none 0 0) 24 Tryz.underlying59 hib hbz hbs hby rfl _ j ((List.range j).map vf) rfl (by have h1 := ownBelow OC.out BG.out (Nat.le_refl _); rw [HSF.out] at h1; exact h1) _ [.slice Al nl cl2] rfl RG.out (fun u hu => by obtain rfl := List.mem_singleton.1 hu; rfl) (by have := HJN.out; simp only [List.length_singleton]; omega) (by omega) (Nat.le_trans (Nat.le_trans (Nat.le_trans (Nat.le_of_eq HBS.out) FJ.out.size) BC.out.size) BG.out.size) ?_
   intro vn wH hoH hgH hwH
   rw [← HSF.out] at hgH hwH
   have OH := qH hoH
   have GH := qH hgH
   have WH := qH hwH
   have KH := qH ((KC.out.below BG.out KC.out.lt).grown hgH (fun e => HGO.out e.symm))
   have HCH := qH (show wH.cell? ⟨g, 260, none⟩ = some sgv by have := KH.out.cell 260; rw [mkc_sg HL.out] at this; exact this)
   have HFH := qH (KH.out.frozen 260)
   obtain ⟨An, cn, hvn, _⟩ := Row.of_own hoH
   obtain ⟨nn, hnn⟩ : ∃ nn, nn = ((List.range j).map vf ++ [Value.slice Al nl cl2]).length := ⟨_, rfl⟩
   rw [← hnn] at hvn
   subst hvn
   refine hK _ _ (hX.trans (Off.grown hgH fun i hi => .inr hi)) ?_
   clear hK K
   (try simp only [Act.put, qA, qB, qC])
   replace hX := hX.trans (Off.grown hgH fun i hi => .inr hi)
   clear hoH hgH hwH hnn
   refine sb_run (i := 12) (oi := ⟨some 47, _, _, _, _, _⟩) (v := ?_) rfl (by kernel_rfl) rfl hX ?_ ?_; rotate_left; (go_simp; try with_reducible rfl); simp only [Act.put, qA, qB, qC]
   refine sb_run (i := 13) (oi := ⟨some 48, _, _, _, _, _⟩) (v := ?_) rfl (by kernel_rfl) rfl hX ?_ ?_; rotate_left; (go_simp; try with_reducible rfl); simp only [Act.put, qA, qB, qC]
   refine sb_last (o := ⟨none, _, _, _, _, _⟩) rfl (by kernel_rfl) rfl (fun K hK => ?_)
   refine wp_stBss (.tmp 48) (.tmp 46) rfl rfl rfl HCH.out HFH.out ?_
   refine hK _ _ ?_
   clear hK K
   (try simp only [Act.put, qA, qB, qC])
   refine wpAnyB_done (by kernel_rfl) ?_ _
   have OX := qH hX
   clear hX
   obtain ⟨sgn, hsgn⟩ : ∃ v, v = Value.slice An nn cn := ⟨_, rfl⟩
   rw [← hsgn] at OH WH
   have HSN := qH hsgn
   have SZ := qH (show wq.heap.size ≤ wE.heap.size from Nat.le_trans BC.out.size BE.out.size)
   have HGN := qH (show ¬ sgn.ownBlock = some g from fun h => by
    rcases WH.out g h with e | e
    ·exact HGO.out e
    ·have h1 := KC.out.lt; have h2 := BG.out.size; exact Nat.not_lt.2 (Nat.le_trans h2 e) h1)
   have KE := qH (show Blk (wH.setCell ⟨g, 260, none⟩ sgn) g 64 (mkc (nfc (some ⟨b, off, none⟩) S.length cap a z) cl k sgn mr (.slice none 0 0) mn) from by
    have h1 := KH.out.set 260 sgn
    rw [mkc_setsg HL.out] at h1
    exact h1)
   have OFH := qH (show Off (fun i => i = g ∨ sgv.ownBlock = some i) wC (wH.setCell ⟨g, 260, none⟩ sgn) from (OX.out.mono (fun i _ h => .inr h)).trans (Off.set wH 260 sgn (.inl rfl)))
   have OFF := qH (show Off (fun i => i = g ∨ sgv.ownBlock = some i) wF (wH.setCell ⟨g, 260, none⟩ sgn) from (((Off.new _ BFG.out).trans (Off.grown GH.out fun i hi => .inr (.inr hi))).trans (Off.set wH 260 sgn (.inl rfl))))
   have OFQ := qH (show Off (fun i => i = g ∨ sgv.ownBlock = some i) wq (wH.setCell ⟨g, 260, none⟩ sgn) from (Off.new _ BC.out).trans OFH.out)
   have RE := qH (show ∀ i s', i < j + 1 → S[i]? = some s' → SgR (wH.setCell ⟨g, 260, none⟩ sgn) base sgn ((fun i => if i = j then Value.slice Al nl cl2 else vf i) i) (sgL S s') from fun i s' hi hs' => by
    show SgR _ base sgn (if i = j then Value.slice Al nl cl2 else vf i) (sgL S s')
    by_cases hij : i = j
    ·rw [if_pos hij]
     subst hij
     rw [HS.out] at hs'
     injection hs' with hs'
     subst hs'
     exact sgR_new OL.out (Nat.le_trans (Nat.le_trans (Nat.le_of_eq HBS.out) FJ.out.size) SZ.out) (fun i hi => by
      rcases WH.out i hi with e | e
      ·exact .inl (Nat.lt_of_lt_of_le (HOA.out i e).2 SZ.out)
      ·exact .inr (Nat.le_trans BFG.out.size e)) GB.out OFF.out (fun i hi => Nat.lt_of_lt_of_le (HOA.out i hi).2 SZ.out)
    ·rw [if_neg hij]
     exact (RJ.out i s' (by omega) hs').step OFQ.out GB.out (fun i hi => by
      rcases WH.out i hi with e | e
      ·exact .inl e
      ·exact .inr (Nat.le_trans (Nat.le_trans BC.out.size BG.out.size) e)))
   have OE := qH (show (wH.setCell ⟨g, 260, none⟩ sgn).ownsRow base 38 1 sgn (j + 1) ((List.range (j + 1)).map fun i => if i = j then Value.slice Al nl cl2 else vf i) from by
    rw [range_snoc]
    exact own6_stay OH.out fun i hi => Below.heap_setCell wH ⟨g, 260, none⟩ sgn i (fun e => HGN.out (by rw [← show i = g from e]; exact hi)))
   have FE := qH (FJ.out.trans (OFQ.out.mono fun i _ h => by
    rcases h with h | h
    ·exact .inl h
    ·exact .inr (HOA.out i h).1))
   rw [← HSN.out]
   clear hsgn
   go_wp2_with fail
   exact ⟨⟨j + 1, sgn, fun i => if i = j then Value.slice Al nl cl2 else vf i, HJ.out, by congr 1, KE.out, OE.out, RE.out, FE.out⟩, by simpa [intOf] using HMX.out⟩
  ·obtain rfl : j = S.length := Nat.le_antisymm hj (Nat.not_lt.1 hjl)
   have x1 : ¬ ((S.length : Int) < (S.length : Int)) := Int.lt_irrefl _
   have LB := qH (show base ≤ wq.heap.size from Nat.le_trans (Nat.le_of_eq HBS.out) FJ.out.size)
   have MRQ := qH (show MapV wq mr [] from MRA.out.stay (FJ.out.block mr MRA.out.lt (fun h => by
    rcases h with h | h
    ·have := S1.out; have := S2.out; omega
    ·have := S1.out; have := S2.out; have := GB.out; omega)))
   have MNQ := qH (show MapV wq mn [] from MNA.out.stay (FJ.out.block mn MNA.out.lt (fun h => by
    rcases h with h | h
    ·have := S2.out; omega
    ·have := S2.out; have := GB.out; omega)))
   have ME := qH (show MkV wq w.heap.size wq.heap.size g mr mn A cap a z cl k sgv S (.slice none 0 0) [] [] from
    ⟨KJ.out, HL.out, MRQ.out, MNQ.out, own32N _ _ _, by have := S0.out; have := S1.out; have := S2.out; omega, by have := S0.out; omega, by have := S0.out; have := S1.out; omega, Nat.lt_of_lt_of_le GB.out LB.out, by have := S1.out; have := S2.out; have := GB.out; have := LB.out; omega, by have := S2.out; have := GB.out; have := LB.out; omega, Nat.le_refl _, by have := S1.out; have := S2.out; omega, by have := S2.out; omega, by have := S1.out; omega, fun X h => by simp at h, .nil, fun x h => by simp at h⟩)
   have GE := qH (sg_fin (mr := mr) (mn := mn) OJ.out RJ.out GB.out (by have := S1.out; have := S2.out; have := GB.out; omega) (by have := S2.out; have := GB.out; omega))
   clear hj hjl KJ OJ RJ FJ
   go_wp2_with fail
   go_ret
   unfold NmPost
   rw [← HCL.out, ← HK.out]
   exact ⟨g, mr, mn, sgv, rfl, ME.out, GE.out, BQ.out⟩
def dcl (cl : List UInt8) (vn ve : Value) : List Value := bvs cl ++ [vn, ve]
section
variable {cl : List UInt8} {vn ve : Value}
theorem dcl_len (hl : cl.length = 256) : (dcl cl vn ve).length = 258 := by simp [dcl, bvs_length, hl]
theorem dcl_end (hl : cl.length = 256) (i : Nat) : (dcl cl vn ve)[256 + i]? = [vn, ve][i]? := by
 unfold dcl
 rw [List.getElem?_append_right (by rw [bvs_length, hl]; omega), bvs_length, hl, Nat.add_sub_cancel_left]
theorem dcl_n (hl : cl.length = 256) : (dcl cl vn ve)[256]? = some vn := dcl_end hl 0
theorem dcl_e (hl : cl.length = 256) : (dcl cl vn ve)[257]? = some ve := dcl_end hl 1
theorem dcl_cl (hl : cl.length = 256) {i : Nat} (hi : i < 256) : (dcl cl vn ve)[i]? = (bvs cl)[i]? := by
 unfold dcl
 rw [List.getElem?_append_left (by rw [bvs_length, hl]; exact hi)]
theorem dcl_set (hl : cl.length = 256) (i : Nat) (v : Value) : (dcl cl vn ve).set (256 + i) v = bvs cl ++ [vn, ve].set i v := by
 unfold dcl
 rw [List.set_append_right _ _ (by rw [bvs_length, hl]; omega), bvs_length, hl, Nat.add_sub_cancel_left]
theorem dcl_setn (hl : cl.length = 256) (v : Value) : (dcl cl vn ve).set 256 v = dcl cl v ve := dcl_set hl 0 v
theorem dcl_sete (hl : cl.length = 256) (v : Value) : (dcl cl vn ve).set 257 v = dcl cl vn v := dcl_set hl 1 v
theorem dcl_one {A : Option Addr} {n c : Nat} {A' : Option Addr} {n' c' : Nat} : (dcl cl (.slice A n c) (.slice A' n' c')).all (·.oneCell') = true := by
 unfold dcl
 rw [List.all_append, bvs_all']
 rfl
theorem size_dfa (hl : cl.length = 256) : (Tryz.prog.info? 31).map (·.size) = some (dcl cl vn ve).length := by
 rw [dcl_len hl]
 kernel_rfl
end
theorem inf_dfa : (Tryz.prog.info? 31).map (fun i => i.zero) = some (some (.agg (dcl (ctab [] 0) (.slice none 0 0) (.slice none 0 0)).toArray)) := by kernel_rfl
theorem built_d0 : Tryz.prog.built 31 [] = some (dcl (ctab [] 0) (.slice none 0 0) (.slice none 0 0)).toArray := by kernel_rfl
theorem ctab_no : ctab [] 0 = List.replicate 256 0 := by
 unfold ctab
 rw [List.map_congr_left (g := fun _ => 0) fun b _ => if_neg (by omega), List.map_const']
 simp
def DfaV (w : World) (cs : List Value) (D : Dm) : Prop :=
 D.cl.length = 256 ∧ ∃ (vn ve : Value) (vf : Nat → Value), cs = dcl D.cl vn ve ∧ Row w vn ((List.range D.next.length).map vf) ∧ (∀ i r, D.next[i]? = some r → Row w (vf i) (nums .i64 r)) ∧ Row w ve (bools D.ends)
theorem DfaV.below {w w' : World} {cs : List Value} {D : Dm} (h : DfaV w cs D) (hb : Below w.heap.size w w') : DfaV w' cs D := by
 obtain ⟨hl, vn, ve, vf, h1, h2, h3, h4⟩ := h
 exact ⟨hl, vn, ve, vf, h1, h2.below hb, fun i r hr => (h3 i r hr).below hb, h4.below hb⟩
theorem dfaV_no (w : World) : DfaV w (dcl (ctab [] 0) (.slice none 0 0) (.slice none 0 0)) noDm :=
 ⟨List.length_replicate .., .slice none 0 0, .slice none 0 0, fun _ => undef, by unfold noDm; rw [ctab_no], Row.nil w, fun i r h => absurd h (by show ¬ ([] : List (List Int))[i]? = some r; simp), Row.nil w⟩
def IntR (w : World) (base gd : Nat) (vn ve qv v : Value) (l : List Int) : Prop :=
 ∃ h, v = .slice (some ⟨h, 0, none⟩) l.length l.length ∧ Blk w h 3 (nums .i64 l) ∧ base ≤ h ∧ h ≠ gd ∧ vn.ownBlock ≠ some h ∧ ve.ownBlock ≠ some h ∧ qv.ownBlock ≠ some h ∧ l.length ≤ 256
structure DV (w : World) (base gd : Nat) (cl : List UInt8) (qv vn ve : Value) (vf : Nat → Value) (r : Nat) (R : List (List Int)) (E : List Bool) : Prop where
 blk : Blk w gd 31 (dcl cl vn ve)
 cl : cl.length = 256
 gB : base ≤ gd
 ownn : w.ownsRow base 53 1 vn r ((List.range r).map vf)
 owne : w.ownsRow base 4 1 ve E.length (bools E)
 rows : ∀ i l, R[i]? = some l → IntR w base gd vn ve qv (vf i) l
 qn : ∀ k, qv.ownBlock = some k → k ≠ gd ∧ vn.ownBlock ≠ some k ∧ ve.ownBlock ≠ some k
 nd : vn.ownBlock ≠ some gd
 ed : ve.ownBlock ≠ some gd
 ne : ∀ k, vn.ownBlock = some k → ve.ownBlock ≠ some k
 len : R.length = r
section
variable {w w' w'' : World} {base gd g mr mn r : Nat} {cl : List UInt8} {qv qv' vn ve vn' ve' : Value} {vf : Nat → Value} {R : List (List Int)} {E : List Bool}
theorem DV.mstep (x : DV w base gd cl qv vn ve vf r R E) (y : MStep w w' g mr mn qv qv') (hg : g < base) (hr : mr < base) (hn : mn < base) : DV w' base gd cl qv' vn ve vf r R E := by
 have st : ∀ k, k < w.heap.size → base ≤ k → qv.ownBlock ≠ some k → w'.heap[k]? = w.heap[k]? := fun k hk hb hq => y.off.block k hk (by
  rintro (e | e | e | e)
  ·omega
  ·omega
  ·omega
  ·exact hq e)
 have ln : ∀ k, vn.ownBlock = some k → k < w.heap.size := fun k hk => (own6_lt x.ownn k hk).1
 have le : ∀ k, ve.ownBlock = some k → k < w.heap.size := fun k hk => (own6_lt x.owne k hk).1
 refine ⟨(st gd x.blk.lt x.gB fun e => (x.qn gd e).1 rfl).trans x.blk, x.cl, x.gB, own6_stay x.ownn fun j hj => st j (ln j hj) (own_above x.ownn j hj) fun e => (x.qn j e).2.1 hj, own6_stay x.owne fun j hj => st j (le j hj) (own_above x.owne j hj) fun e => (x.qn j e).2.2 hj, fun i l hl => ?_, fun k hk => ?_, x.nd, x.ed, x.ne, x.len⟩
 ·obtain ⟨h, h1, h2, h3, h4, h5, h6, h7, h8⟩ := x.rows i l hl
  refine ⟨h, h1, (st h h2.lt h3 h7).trans h2, h3, h4, h5, h6, fun e => ?_, h8⟩
  rcases y.new h e with e | e
  ·exact h7 e
  ·have := h2.lt; omega
 ·rcases y.new k hk with e | e
  ·exact x.qn k e
  ·have := x.blk.lt
   exact ⟨by omega, fun e' => by have := ln k e'; omega, fun e' => by have := le k e'; omega⟩
theorem DV.below (x : DV w base gd cl qv vn ve vf r R E) (hb : Below w.heap.size w w') : DV w' base gd cl qv vn ve vf r R E := by
 have ln : ∀ k, vn.ownBlock = some k → k < w.heap.size := fun k hk => (own6_lt x.ownn k hk).1
 have le : ∀ k, ve.ownBlock = some k → k < w.heap.size := fun k hk => (own6_lt x.owne k hk).1
 refine { x with blk := (hb.block gd x.blk.lt).trans x.blk, ownn := own6_stay x.ownn fun j hj => hb.block j (ln j hj), owne := own6_stay x.owne fun j hj => hb.block j (le j hj), rows := fun i l hl => ?_ }
 obtain ⟨h, h1, h2, h3⟩ := x.rows i l hl
 exact ⟨h, h1, (hb.block h h2.lt).trans h2, h3⟩
theorem DV.ends (x : DV w base gd cl qv vn ve vf r R E) (hb : Below w.heap.size w w') (b : Bool) (ho : w''.ownsRow base 4 1 ve' (E ++ [b]).length (bools (E ++ [b]))) (hg : w'.grownBy w'' ve.ownBlock) (hw : ∀ k, ve'.ownBlock = some k → ve.ownBlock = some k ∨ w'.heap.size ≤ k) (hq : ∀ k, qv.ownBlock = some k → k < w.heap.size) :
  Blk w'' gd 31 (dcl cl vn ve) ∧ DV (w''.setCell ⟨gd, 257, none⟩ ve') base gd cl qv vn ve' vf r R (E ++ [b]) ∧ Off (fun k => k = gd ∨ ve.ownBlock = some k) w (w''.setCell ⟨gd, 257, none⟩ ve') := by
 have ln : ∀ k, vn.ownBlock = some k → k < w.heap.size := fun k hk => (own6_lt x.ownn k hk).1
 have st : ∀ k, k < w.heap.size → k ≠ gd → ve.ownBlock ≠ some k → (w''.setCell ⟨gd, 257, none⟩ ve').heap[k]? = w.heap[k]? := fun k hk h1 h2 => by
  rw [Below.heap_setCell w'' ⟨gd, 257, none⟩ ve' k h1]
  exact (hg.block k (Nat.lt_of_lt_of_le hk hb.size) (fun e => h2 e.symm)).trans (hb.block k hk)
 have hgd : Blk w'' gd 31 (dcl cl vn ve) := ((hg.block gd (Nat.lt_of_lt_of_le x.blk.lt hb.size) (fun e => x.ed e.symm)).trans (hb.block gd x.blk.lt)).trans x.blk
 have ne' : ∀ k, k < w.heap.size → ve.ownBlock ≠ some k → ve'.ownBlock ≠ some k := fun k hk h1 e => by
  rcases hw k e with e | e
  ·exact h1 e
  ·have := hb.size; omega
 refine ⟨hgd, ⟨by have := hgd.set 257 ve'; rw [dcl_sete x.cl] at this; exact this, x.cl, x.gB, own6_stay x.ownn fun j hj => st j (ln j hj) (fun e => x.nd (by rw [← e]; exact hj)) (x.ne j hj), ?_, fun i l hl => ?_, fun k hk => ?_, x.nd, ne' gd x.blk.lt x.ed, fun k hk => ne' k (ln k hk) (x.ne k hk), x.len⟩, ?_⟩
 ·refine own6_stay ho fun j hj => Below.heap_setCell w'' ⟨gd, 257, none⟩ ve' j (fun e => ne' gd x.blk.lt x.ed (by rw [← show j = gd from e]; exact hj))
 ·obtain ⟨h, h1, h2, h3, h4, h5, h6, h7⟩ := x.rows i l hl
  exact ⟨h, h1, (st h h2.lt h4 h6).trans h2, h3, h4, h5, ne' h h2.lt h6, h7⟩
 ·obtain ⟨h1, h2, h3⟩ := x.qn k hk
  exact ⟨h1, h2, ne' k (hq k hk) h3⟩
 ·refine ⟨hg.os.trans hb.os, hg.tape.trans hb.tape, hg.output.trans hb.output, ?_, fun k hk hn => st k hk (fun e => hn (.inl e)) (fun e => hn (.inr e))⟩
  have h1 := hg.size
  have h2 := hb.size
  simp
  omega
theorem DV.next (x : DV w base gd cl qv vn ve vf r R E) {h : Nat} {l : List Int} (hh : Blk w h 3 (nums .i64 l)) (hb2 : base ≤ h) (hgd2 : h ≠ gd) (hvn : vn.ownBlock ≠ some h) (hve : ve.ownBlock ≠ some h) (hqh : qv.ownBlock ≠ some h) (hlen : l.length ≤ 256) (hb : Below w.heap.size w w')
  (ho : w''.ownsRow base 53 1 vn' (r + 1) ((List.range r).map vf ++ [.slice (some ⟨h, 0, none⟩) l.length l.length])) (hg : w'.grownBy w'' vn.ownBlock) (hw : ∀ k, vn'.ownBlock = some k → vn.ownBlock = some k ∨ w'.heap.size ≤ k) (hq : ∀ k, qv.ownBlock = some k → k < w.heap.size) :
  Blk w'' gd 31 (dcl cl vn ve) ∧ DV (w''.setCell ⟨gd, 256, none⟩ vn') base gd cl qv vn' ve (fun i => if i = r then .slice (some ⟨h, 0, none⟩) l.length l.length else vf i) (r + 1) (R ++ [l]) E ∧ Off (fun k => k = gd ∨ vn.ownBlock = some k) w (w''.setCell ⟨gd, 256, none⟩ vn') := by
 have le : ∀ k, ve.ownBlock = some k → k < w.heap.size := fun k hk => (own6_lt x.owne k hk).1
 have st : ∀ k, k < w.heap.size → k ≠ gd → vn.ownBlock ≠ some k → (w''.setCell ⟨gd, 256, none⟩ vn').heap[k]? = w.heap[k]? := fun k hk h1 h2 => by
  rw [Below.heap_setCell w'' ⟨gd, 256, none⟩ vn' k h1]
  exact (hg.block k (Nat.lt_of_lt_of_le hk hb.size) (fun e => h2 e.symm)).trans (hb.block k hk)
 have hgd : Blk w'' gd 31 (dcl cl vn ve) := ((hg.block gd (Nat.lt_of_lt_of_le x.blk.lt hb.size) (fun e => x.nd e.symm)).trans (hb.block gd x.blk.lt)).trans x.blk
 have ne' : ∀ k, k < w.heap.size → vn.ownBlock ≠ some k → vn'.ownBlock ≠ some k := fun k hk h1 e => by
  rcases hw k e with e | e
  ·exact h1 e
  ·have := hb.size; omega
 refine ⟨hgd, ⟨by have := hgd.set 256 vn'; rw [dcl_setn x.cl] at this; exact this, x.cl, x.gB, ?_, own6_stay x.owne fun j hj => st j (le j hj) (fun e => x.ed (by rw [← e]; exact hj)) (fun e => x.ne j e hj), fun i m hm => ?_, fun k hk => ?_, ne' gd x.blk.lt x.nd, x.ed, fun k hk e => ?_, by rw [List.length_append, x.len]; rfl⟩, ?_⟩
 ·rw [range_snoc]
  exact own6_stay ho fun j hj => Below.heap_setCell w'' ⟨gd, 256, none⟩ vn' j (fun e => ne' gd x.blk.lt x.nd (by rw [← show j = gd from e]; exact hj))
 ·show IntR _ base gd vn' ve qv (if i = r then _ else vf i) m
  by_cases hir : i = r
  ·rw [if_pos hir]
   have hml : m = l := by
    subst hir
    rw [← x.len, List.getElem?_append_right (Nat.le_refl _), Nat.sub_self] at hm
    simpa using hm.symm
   subst hml
   exact ⟨h, rfl, (st h hh.lt hgd2 hvn).trans hh, hb2, hgd2, ne' h hh.lt hvn, hve, hqh, hlen⟩
  ·rw [if_neg hir]
   have hi : i < R.length := by
    have := (List.getElem?_eq_some_iff.1 hm).1
    rw [List.length_append, List.length_singleton] at this
    have := x.len
    omega
   rw [List.getElem?_append_left hi] at hm
   obtain ⟨h', h1, h2, h3, h4, h5, h6, h7⟩ := x.rows i m hm
   exact ⟨h', h1, (st h' h2.lt h4 h5).trans h2, h3, h4, ne' h' h2.lt h5, h6, h7⟩
 ·obtain ⟨h1, h2, h3⟩ := x.qn k hk
  exact ⟨h1, ne' k (hq k hk) h2, h3⟩
 ·rcases hw k hk with e' | e'
  ·exact x.ne k e' e
  ·have h1 := le k e
   have h2 := hb.size
   omega
 ·refine ⟨hg.os.trans hb.os, hg.tape.trans hb.tape, hg.output.trans hb.output, ?_, fun k hk hn => st k hk (fun e => hn (.inl e)) (fun e => hn (.inr e))⟩
  have h1 := hg.size
  have h2 := hb.size
  simp
  omega
theorem DV.dfa (x : DV w base gd cl qv vn ve vf r R E) : DfaV w (dcl cl vn ve) ⟨cl, R, E⟩ :=
 ⟨x.cl, vn, ve, vf, rfl, by
  show Row w vn ((List.range R.length).map vf)
  rw [x.len]
  exact Row.of_own x.ownn, fun i l hl => by
  obtain ⟨h, h1, h2, _, _, _, _, _, h8⟩ := x.rows i l hl
  rw [h1]
  exact rowB (n := l.length) h2 (nums_length .i64 l) (by omega), Row.of_own x.owne⟩
end
end Go.Proofs.YteadghoojeehlaaGreatDoor
