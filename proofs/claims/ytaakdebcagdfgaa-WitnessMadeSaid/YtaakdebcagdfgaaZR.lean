/-
  Texts of this proof, put together: WjB. No statement is proved here.
-/
import Derived.Test.YtaakdebcagdfgaaZM
namespace Go.Proofs.Ytaakdebcagdfgaa
open Go.RowKit
set_option linter.unusedSimpArgs false
set_option linter.unusedVariables false
theorem wj_len {M : List SW} {n : Nat} (h : M.length ≤ n) (hn : n ≤ 2000) (v : Value) : M.length + [v].length ≤ 2097152 := by
 show M.length + 1 ≤ _
 omega
theorem wj_bs {l : List UInt8} {k n m : Nat} (h : l.length ≤ k) (hk : k < n) (hn : n ≤ 2000) (hm : m ≤ 2) : m + (bvs l).length ≤ 2097152 := by
 rw [bvs_length]
 omega
theorem wj_by {l : List UInt8} {k n : Nat} (h : l.length ≤ k) (hk : k < n) (hn : n ≤ 2000) (v : Value) : (bvs l).length + [v].length ≤ 2097152 := by
 rw [bvs_length]
 show l.length + 1 ≤ _
 omega
theorem wj_256 {b : Nat} (h : b < 256) : b ≤ 4611686018427387904 := by omega
theorem wj_m {m n i : Nat} (h : m ≤ n) (hn : n ≤ 2000) (hi : i < m) : i ≤ 4611686018427387904 := by omega
set_option maxHeartbeats 16000000 in
set_option maxRecDepth 1000000 in
theorem refShortest_any (D : Dm) (ps : List (Nat → Bool)) (cs : List Value) (w : World) (hv : DfaV w cs D) (hm : MayD D) (hc : D.cl = ctab ps 256) :
  Calls Try.prog 12 #[.agg cs.toArray] w fun e w' => ShoE D w e w' := by
 have V0 := qH hv
 have HM := qH hm
 have HDS := qH hv.size
 have HCP := qH hc
 obtain ⟨n, hn⟩ : ∃ n, n = D.next.length := ⟨_, rfl⟩
 obtain ⟨kd, hkd⟩ : ∃ k, k = clsA D.cl := ⟨_, rfl⟩
 obtain ⟨bn, on, cn, be, oe, ce, hdr⟩ := dr_of hv hm hn hkd
 have HR := qH hdr
 have HN := qH hn
 have HKD := qH hkd
 have HL := qH hdr.hl
 have HCS := qH hdr.cs
 have HNP := qH (show 1 ≤ n by rw [hn]; exact hm.pos)
 have HNF := qH (show n ≤ 2000 by rw [hn]; exact hm.few)
 have HKF := qH (show kd = (firstJ ps 256).length by rw [hkd, hc]; exact clsA_ctabN ps 256 rfl)
 have HKP := qH (show 0 < kd by rw [hkd]; exact cls_pos hdr.hl)
 obtain ⟨i1, hi1, hy0, hy1, hy2⟩ := infoP inf_int
 obtain ⟨i2, hi2, hb0, hb1, hb2⟩ := infoP inf_bool
 obtain ⟨iu, hiu, hu0, hu1, hu2⟩ := infoP inf_u8
 obtain ⟨ir, hir, hr0, hr1, hr2⟩ := infoP inf_rowW
 have HYB := qH (show i2.bytes * n ≤ 281474976710656 by rw [hb2]; have := HNF.out; omega)
 have HN3 := qH (show n ≤ 9223372036854775807 by have := HNF.out; omega)
 have HSC := qH (show (Try.prog.info? 24).map (·.size) = some (bvs D.cl).length from size_ctab HL.out)
 clear hv hm hc hn hkd hdr
 go_enter Try.func12, Try.ntmps12
 go_wp2_with (first
  | ((with_reducible refine atDst 1 ?_); refine wpList_box rfl 28 _ rfl cs rfl (Below.refl w.heap.size w) (Nat.le_refl _) ?_; intro w1 hk1 hb1 hs1 _; have K1 := qH hk1; have B1 := qH hb1; clear hk1 hb1 hs1; (try simp only [Act.put, qA, qB, qC]))
  | ((with_reducible refine atDst 15 ?_); refine wpList_ldArr rfl 28 _ rfl w.heap.size rfl 28 _ _ K1.out Try.underlying28 rfl HDS.out ?_; (try simp only [Act.put, qA, qB, qC])))
 refine (refMay11_any D cs w1 (V0.out.below B1.out) HM.out).mono ?_
 rintro e w2 ⟨rfl, hb⟩
 have K2 := qH (K1.out.below hb K1.out.lt)
 have B2 := qH (B1.out.trans (hb.mono B1.out.size))
 have R19 := qH (show w2.rangeAt w.heap.size 0 (bvs D.cl) from fun j v hv => by
  have hj := (List.getElem?_eq_some_iff.1 hv).1
  rw [bvs_length, HL.out] at hj
  rw [Nat.zero_add, K2.out.cell j, HCS.out, dcl_cl HL.out hj]
  exact hv)
 clear hb
 go_wp2_with fail
 refine mc_start (fun V => Below w2.heap.size w2 V) (fun _ => True) 6 (by kernel_rfl) (fun wd hwd => ?_)
 have hX : Below w2.heap.size w2 wd := by rw [hwd]; exact (Below.refl _ _).drew
 have hY : True := trivial
 clear hwd
 refine mc_take (i := 0) (oi := ⟨some 18, _, _, _, _, _⟩) (v := ?_) rfl (by kernel_rfl) (by kernel_rfl) (by kernel_rfl) (fun _ _ _ h => h) rfl hX ?_ ?_; rotate_left; (intro W hW; go_simp; try with_reducible rfl); simp only [Act.put, qA, qB, qC]
 refine mc_take (i := 1) (oi := ⟨some 19, _, _, _, _, _⟩) (v := .agg (bvs D.cl).toArray) rfl (by kernel_rfl) (by kernel_rfl) (by kernel_rfl) (fun _ _ _ h => h) rfl hX (fun V hT => ld_mid 24 (.tmp 18) rfl w.heap.size 0 rfl (bvs D.cl) _ R19.out K2.out.lt Try.underlying24 rfl HSC.out V hT) ?_; simp only [Act.put, qA, qB, qC]
 refine mc_take (i := 2) (oi := ⟨some 20, _, _, _, _, _⟩) (v := .agg cs.toArray) rfl (by kernel_rfl) (by kernel_rfl) (by kernel_rfl) (fun _ _ _ h => h) rfl hX (fun V hT => ld_blk 28 (.tmp 1) rfl w.heap.size rfl 28 cs _ K2.out K2.out.lt Try.underlying28 rfl HDS.out V hT) ?_; simp only [Act.put, qA, qB, qC]
 refine mc_actB (i := 3) (o := ⟨some 21, _, _, _, _, _⟩) rfl (by kernel_rfl) rfl (fun K hK => ?_)
 have BD := qH hX
 go_wp2_with fail
 refine (refClasses11_any D cs wd (V0.out.below (B2.out.trans (BD.out.mono B2.out.size)))).mono ?_
 rintro e w3 ⟨rfl, hb⟩
 have B3 := qH (BD.out.trans (hb.mono BD.out.size))
 rw [← HKD.out]
 clear hb
 go_wp2_with fail
 refine hK _ _ B3.out trivial ?_
 clear hK K hX
 have hX := B3.out
 (try simp only [Act.put, qA, qB, qC])
 refine mc_actB (i := 4) (o := ⟨some 22, _, _, _, _, _⟩) rfl (by kernel_rfl) rfl (fun K hK => ?_)
 go_wp2_with fail
 refine (refFirst9_any ps D.cl HCP.out kd HKF.out w3).mono ?_
 rintro e w4 ⟨fv, rfl, hf, hb⟩
 have B4 := qH (B3.out.trans (hb.mono B3.out.size))
 obtain ⟨Af, cf, hfv⟩ : ∃ A c, fv = .slice A kd c := by
  obtain ⟨A, c, h, _⟩ := hf
  exact ⟨A, c, by rw [h, bvs_length, fbB_len, ← HKF.out]⟩
 subst hfv
 obtain ⟨bf, of, rfl, hbf, hcf⟩ := hf.at_ (by rw [bvs_length, fbB_len, ← HKF.out]; exact HKP.out)
 have HBF := qH hbf
 have CF := qH hcf
 clear hf hb hbf hcf
 go_wp2_with fail
 refine hK _ _ B4.out trivial ?_
 clear hK K hX
 have hX := B4.out
 (try simp only [Act.put, qA, qB, qC])
 refine mc_take (i := 5) (oi := ⟨some 4, _, _, _, _, _⟩) (v := ?_) rfl (by kernel_rfl) (by kernel_rfl) (by kernel_rfl) (fun _ _ _ h => h) rfl hX ?_ ?_; rotate_left; (intro W hW; go_simp; try with_reducible rfl); simp only [Act.put, qA, qB, qC]
 refine wpAnyC_done (by kernel_rfl) ?_ _
 clear hX hY
 have BW4 := qH (B2.out.trans (B4.out.mono B2.out.size))
 have K4 := qH (K2.out.below B4.out K2.out.lt)
 have R4 := qH (HR.out.below BW4.out)
 obtain ⟨H, hH⟩ : ∃ g, g = w4.heap.size := ⟨_, rfl⟩
 have HH := qH hH
 have HWH := qH (show w.heap.size < H by rw [hH]; exact K4.out.lt)
 clear hH
 have p0 : (0 : Int) < (n : Int) := Int.ofNat_lt.2 HNP.out
 go_wp2_with (first
  | ((with_reducible refine atDst 23 ?_); refine wpList_plain rfl fun K hK => wp_bldVk 47 3 (.const (.int .i64 0)) rfl i1 (.int .i64 0) Try.underlying47 hi1 hy0 hy1 rfl (.int .i64 0) rfl rfl ?_; intro w5 hk hb; have S5 := qH hk; have B5 := qH hb; clear hk hb; refine hK _ _ ?_; clear hK K; (try simp only [Act.put, qA, qB, qC]))
  | ((with_reducible refine atDst 24 ?_); refine wpList_plain rfl fun K hK => wp_bldVk 35 22 (.const (.slice none 0 0)) rfl ir (.slice none 0 0) Try.underlying35 hir hr0 hr1 rfl (.slice none 0 0) rfl rfl ?_; intro w6 hk hb; have S6 := qH hk; have T6 := qH (S5.out.below hb S5.out.lt); have B6 := qH (B5.out.trans (hb.mono B5.out.size)); have c256 : w6.cell? ⟨w.heap.size, 256, none⟩ = some (.slice (some ⟨bn, on, none⟩) n cn) := (by rw [(K4.out.below B6.out K4.out.lt).cell 256, HCS.out]; exact dcl_n HL.out); clear hk hb; refine hK _ _ ?_; clear hK K; (try simp only [Act.put, qA, qB, qC]))
  | ((with_reducible refine atDst 28 ?_); refine wpList_mk _ rfl _ _ 26 rfl 4 i2 (.bool false) Try.underlying26 hi2 hb0 hb1 rfl n _ _ _ _ rfl rfl rfl rfl HYB.out HN3.out ?_; intro w7 hk hb hs; clear c256; obtain ⟨g, hg⟩ : ∃ g, g = w6.heap.size := ⟨_, rfl⟩; rw [← hg] at hk; rw [← hg]; have HG := qH hg; have O7 := qH (show w7.ownsRow H 4 1 (.slice (some ⟨g, 0, none⟩) n n) n (bcs n fun _ => false) from (by have h1 := hk.own (base := H) (by rw [hg, HH.out]; exact B6.out.size) (by rw [List.length_replicate]; have := HNF.out; unfold maxLen; omega); rw [List.length_replicate, bcs_no] at h1; exact h1)); have S7 := qH (T6.out.below hb T6.out.lt); have Z7 := qH (S6.out.below hb S6.out.lt); have B7 := qH (B6.out.trans (hb.mono B6.out.size)); have HG4 := qH (show w4.heap.size < g from (by rw [hg]; exact T6.out.lt)); have HG5 := qH (show w5.heap.size < g from (by rw [hg]; exact S6.out.lt)); have L7 := qH (show g < w7.heap.size from (by rw [hg]; exact hs)); have c0 := (own_cell O7.out (bcs_get (fun _ => false) HNP.out)).1; have f0 := (own_cell O7.out (bcs_get (fun _ => false) HNP.out)).2; clear hk hb hs hg; (try simp only [Act.put, qA, qB, qC])))
 have HGH := qH (show H ≤ g from (own6_lt O7.out g rfl).2)
 have OW := qH (Off.set (D := fun k => k = g) w7 0 (Value.bool true) rfl)
 have SH := qH (show ShS (w7.setCell ⟨g, 0, none⟩ (.bool true)) H n (fun s => s == 0) _ _ (.slice (some ⟨w4.heap.size, 0, none⟩) 1 1) (.slice (some ⟨w5.heap.size, 0, none⟩) 1 1) [.slice none 0 0] [] [0] [] [[]] [] from shS_start (by
   have h1 := own_set O7.out (j := 0) (by rw [bcs_len]; exact HNP.out) (.bool true)
   rw [bcs_set] at h1
   rw [show (fun s => s == 0) = updB (fun _ => false) 0 true from funext fun s => by rw [upd_or, Bool.false_or]]
   exact h1)
  ((Row.of_own (S7.out.own (Nat.zero_le _) one_maxW)).off OW.out fun k hk => by rw [← Option.some.inj hk]; exact Nat.ne_of_lt HG4.out)
  (fun k hk => by rw [← Option.some.inj hk]; exact ⟨by simpa using Nat.lt_trans HG4.out L7.out, Nat.ne_of_lt HG4.out⟩)
  ((Row.of_own (Z7.out.own (Nat.zero_le _) one_maxW)).off OW.out fun k hk => by rw [← Option.some.inj hk]; exact Nat.ne_of_lt HG5.out)
  (fun k hk => by rw [← Option.some.inj hk]; exact ⟨by simpa using Nat.lt_trans HG5.out L7.out, Nat.ne_of_lt HG5.out⟩)
  (by simpa using Nat.le_trans HGH.out (Nat.le_of_lt L7.out)))
 have B8 := qH (show Below H w4 (w7.setCell ⟨g, 0, none⟩ (.bool true)) from (by rw [HH.out]; exact B7.out : Below H w4 w7).setCell (p := ⟨g, 0, none⟩) HGH.out _)
 clear S5 S6 T6 S7 Z7 O7 B5 B6 B7 OW c0 f0 L7 HG
 obtain ⟨w8, hw8⟩ : ∃ v, v = w7.setCell ⟨g, 0, none⟩ (.bool true) := ⟨_, rfl⟩
 rw [← hw8] at SH B8
 rw [← hw8]
 clear hw8
 go_wp2_with fail
 go_loopw [5, 6] (fun sv wv wl => ∃ (k : Nat) (L : List SW) (sn : Nat → Bool) (U : Nat → Value) (X : Nat → List Value) (vs : List Value), ShL D k L sn ∧ (∀ v : List UInt8, v.length < k → accD D 0 v = false) ∧ U 0 = .slice (some ⟨g, 0, none⟩) n n ∧ U 1 = .slice none 0 0 ∧ U 2 = .slice none 0 0 ∧ ShS wl H n sn U X sv wv vs [] (L.map Prod.fst) [] (L.map Prod.snd) [] ∧ L.length ≤ n ∧ (∀ p ∈ L, p.1 < n) ∧ Below H w4 wl) (fun sv _ wl => farSw g n sv wl)
 case atStart => exact ⟨0, [(0, [])], _, _, _, _, shL_zero D, fun v hv => absurd hv (Nat.not_lt_zero _), rfl, rfl, rfl, SH.out, HNP.out, fun p hp => by rw [List.mem_singleton.1 hp]; exact HNP.out, B8.out⟩
 clear SH B8
 obtain ⟨k, L, sn, U, X, vs, hsh, hno, hu0, hu1, hu2, hs, hln, hlr, hb⟩ := hrel
 have SL := qH hsh
 have HNO := qH hno
 have HU0 := qH hu0
 have HU1 := qH hu1
 have HU2 := qH hu2
 have SO := qH hs
 have HLN := qH hln
 have HLR := qH hlr
 have BO := qH hb
 obtain ⟨m, hm⟩ : ∃ m, m = L.length := ⟨_, rfl⟩
 have HML := qH hm
 obtain ⟨As, cs2, hsv⟩ : ∃ A c, u5 = .slice A m c := by
  obtain ⟨A, c, h, _⟩ := hs.st.1
  exact ⟨A, c, by rw [h, nums_length, List.length_map, List.length_map, hm]⟩
 subst hsv
 obtain ⟨wo, hwo⟩ : ∃ v : World, v = wr := ⟨_, rfl⟩
 subst hwo
 clear hsh hno hu0 hu1 hu2 hs hln hlr hb
 by_cases hL : m = 0
 ·clear hm
  subst hL
  have HLE := qH (show L = [] from List.length_eq_zero_iff.1 HML.out.symm)
  have x1 : ¬ ((0 : Int) < 0) := Int.lt_irrefl _
  go_wp2_with fail
  go_ret2
  refine ⟨_, false, rfl, fun h => (by cases h), fun _ => ⟨rfl, ?_⟩, BW4.out.trans (BO.out.mono (Nat.le_of_lt HWH.out))⟩
  have h1 := SL.out
  rw [HLE.out] at h1
  exact sh_nil h1 HNO.out
 have HMP := qH (Nat.pos_of_ne_zero hL)
 have x1 : (0 : Int) < (m : Int) := Int.ofNat_lt.2 HMP.out
 have HMN := qH (show m ≤ n by rw [hm]; exact HLN.out)
 have HKN := qH (show k < n by
  rw [HN.out]
  exact sh_few HM.out HL.out (by rw [← HN.out]; exact HNP.out) SL.out fun e => by rw [HML.out, e] at hL; exact hL rfl)
 obtain ⟨bs0, os, rfl, hsl, hsc⟩ := SO.out.st.1.at_ (by rw [nums_length, List.length_map, List.length_map, ← HML.out]; exact HMP.out)
 have HSL := qH hsl
 have HSX := qH (SO.out.st.2 bs0 rfl).2
 have CS := qH (show ∀ (i : Nat) (p : SW), L[i]? = some p → wo.cell? ⟨bs0, os + i, none⟩ = some (.int .i64 (p.1 : Int)) from fun i p hp => hsc i _ (by simp [nums, hp]))
 have RO4 := qH (R4.out.below (show Below w4.heap.size w4 wo by rw [← HH.out]; exact BO.out))
 have KO := qH (show Blk wo w.heap.size 28 cs from K4.out.below (by rw [← HH.out]; exact BO.out) K4.out.lt)
 clear hm hL hsl hsc
 go_wp2_with fail
 go_loopw [8] (fun iv wl => ∃ i : Nat, i ≤ m ∧ iv = .int .i64 (i : Int) ∧ (∀ (j : Nat) (p : SW), j < i → L[j]? = some p → D.ends.getD p.1 false = false) ∧ Below wo.heap.size wo wl) (fun iv _ => m - (intOf iv).toNat)
 case atStart => exact ⟨0, Nat.zero_le _, rfl, fun j p hj => absurd hj (Nat.not_lt_zero _), Below.refl _ _⟩
 obtain ⟨i, hi, rfl, hall, hb⟩ := hrel
 have HI := qH hi
 have HALL := qH hall
 have BI := qH hb
 clear hi hall hb
 by_cases him : i < m
 ·have y1 : (i : Int) < (m : Int) := Int.ofNat_lt.2 him
  have HIM := qH him
  have HMX := qH (sub_next him)
  obtain ⟨p, hp⟩ : ∃ p, L[i]? = some p := ⟨_, List.getElem?_eq_getElem (by rw [← HML.out]; exact him)⟩
  have HP := qH hp
  have HPN := qH (HLR.out p (List.mem_of_getElem? hp))
  obtain ⟨en, hen⟩ : ∃ b, D.ends.getD p.1 false = b := ⟨_, rfl⟩
  have HEN := qH hen
  have C41 := qH (show ∀ V, Below wr.heap.size wr V → V.cell? ⟨w.heap.size, 257, none⟩ = some (.slice (some ⟨be, oe, none⟩) n ce) from fun V hV => by
   rw [(KO.out.below (BI.out.trans (hV.mono BI.out.size)) KO.out.lt).cell 257, HCS.out]
   exact dcl_e HL.out)
  have C45 := qH (show ∀ V, Below wr.heap.size wr V → V.cell? ⟨bs0, os + i, none⟩ = some (.int .i64 (p.1 : Int)) from fun V hV => ((BI.out.trans (hV.mono BI.out.size)).cell (p := ⟨bs0, os + i, none⟩) HSL.out).trans (CS.out i p HP.out))
  have C47 := qH (show ∀ V, Below wr.heap.size wr V → V.cell? ⟨be, oe + p.1, none⟩ = some (.bool en) from fun V hV => ((BI.out.trans (hV.mono BI.out.size)).cell (p := ⟨be, oe + p.1, none⟩) RO4.out.hbe).trans (by rw [RO4.out.ends p.1 HPN.out, HEN.out]))
  clear him hp hen
  go_wp2_with fail
  refine mc_start (fun V => Below wr.heap.size wr V) (fun _ => True) 8 (by kernel_rfl) (fun wd hwd => ?_)
  have hX : Below wr.heap.size wr wd := by rw [hwd]; exact (Below.refl _ _).drew
  clear hwd
  refine mc_take (i := 0) (oi := ⟨some 40, _, _, _, _, _⟩) (v := ?_) rfl (by kernel_rfl) (by kernel_rfl) (by kernel_rfl) (fun _ _ _ h => h) rfl hX ?_ ?_; rotate_left; (intro W hW; go_simp; try with_reducible rfl); simp only [Act.put, qA, qB, qC]
  refine mc_take (i := 1) (oi := ⟨some 41, _, _, _, _, _⟩) (v := .slice (some ⟨be, oe, none⟩) n ce) rfl (by kernel_rfl) (by kernel_rfl) (by kernel_rfl) (fun _ _ _ h => h) rfl hX (fun V hV => lk_ldBs (.tmp 40) rfl rfl (C41.out V hV)) ?_; simp only [Act.put, qA, qB, qC]
  refine mc_take (i := 2) (oi := ⟨some 42, _, _, _, _, _⟩) (v := ?_) rfl (by kernel_rfl) (by kernel_rfl) (by kernel_rfl) (fun _ _ _ h => h) rfl hX ?_ ?_; rotate_left; (intro W hW; go_simp; try with_reducible rfl); simp only [Act.put, qA, qB, qC]
  refine mc_take (i := 3) (oi := ⟨some 43, _, _, _, _, _⟩) (v := ?_) rfl (by kernel_rfl) (by kernel_rfl) (by kernel_rfl) (fun _ _ _ h => h) rfl hX ?_ ?_; rotate_left; (intro W hW; go_simp; try with_reducible rfl); simp only [Act.put, qA, qB, qC]
  refine mc_take (i := 4) (oi := ⟨some 44, _, _, _, _, _⟩) (v := .pointer (some ⟨bs0, os + i, none⟩)) rfl (by kernel_rfl) (by kernel_rfl) (by kernel_rfl) (fun _ _ _ h => h) rfl hX (fun V _ => lk_ixI (.tmp 42) (.tmp 43) rfl rfl rfl HIM.out V) ?_; simp only [Act.put, qA, qB, qC]
  refine mc_take (i := 5) (oi := ⟨some 45, _, _, _, _, _⟩) (v := .int .i64 (p.1 : Int)) rfl (by kernel_rfl) (by kernel_rfl) (by kernel_rfl) (fun _ _ _ h => h) rfl hX (fun V hV => lk_ldI (.tmp 44) rfl rfl (C45.out V hV)) ?_; simp only [Act.put, qA, qB, qC]
  refine mc_take (i := 6) (oi := ⟨some 46, _, _, _, _, _⟩) (v := .pointer (some ⟨be, oe + p.1, none⟩)) rfl (by kernel_rfl) (by kernel_rfl) (by kernel_rfl) (fun _ _ _ h => h) rfl hX (fun V _ => lk_ixB (.tmp 41) (.tmp 45) rfl rfl rfl HPN.out V) ?_; simp only [Act.put, qA, qB, qC]
  refine mc_take (i := 7) (oi := ⟨some 47, _, _, _, _, _⟩) (v := .bool en) rfl (by kernel_rfl) (by kernel_rfl) (by kernel_rfl) (fun _ _ _ h => h) rfl hX (fun V hV => lk_ldB (.tmp 46) rfl rfl (C47.out V hV)) ?_; simp only [Act.put, qA, qB, qC]
  refine wpAnyC_done (by kernel_rfl) ?_ _
  have BD2 := qH (BI.out.trans (hX.mono BI.out.size))
  clear hX
  cases en with
  | true =>
   obtain ⟨bw, hbp⟩ : ∃ u, u = p.2 := ⟨_, rfl⟩
   have HBP := qH hbp
   obtain ⟨vw, hvw, hrw⟩ := SO.out.rw.2 i bw (by rw [List.getElem?_map, HP.out, hbp]; rfl)
   have hbw : bw.length ≤ k := by rw [hbp, (SL.out.is p (List.mem_of_getElem? HP.out)).1]; exact Nat.le_refl _
   clear hbp
   obtain ⟨Aw, cw, hwv⟩ : ∃ A c, u6 = .slice A m c := by
    obtain ⟨A, c, h, _⟩ := SO.out.wd.1
    exact ⟨A, c, by rw [h, SO.out.lw, List.length_map, ← HML.out]⟩
   have RWD := qH SO.out.wd.1
   subst hwv
   obtain ⟨b6, o6, rfl, hb6, hc6⟩ := RWD.out.at_ (by rw [SO.out.lw, List.length_map, ← HML.out]; exact HMP.out)
   obtain ⟨Av, cv, hvv⟩ : ∃ A c, vw = .slice A (bvs bw).length c := by
    obtain ⟨A, c, h, _⟩ := hrw.1
    exact ⟨A, c, h⟩
   have C52 := qH (show wd.cell? ⟨b6, o6 + i, none⟩ = some (.slice Av (bvs bw).length cv) from (BD2.out.cell (p := ⟨b6, o6 + i, none⟩) hb6).trans (by rw [← hvv]; exact hc6 i vw hvw))
   have RV := qH (show Row wd (.slice Av (bvs bw).length cv) (bvs bw) from by rw [← hvv]; exact hrw.1.below BD2.out)
   have HBW := qH (show 0 + (bvs bw).length ≤ 2097152 from wj_bs hbw HKN.out HNF.out (Nat.zero_le _))
   obtain ⟨nb, hnb⟩ : ∃ k, k = (bvs bw).length := ⟨_, rfl⟩
   rw [← hnb] at C52 RV HBW
   have HNB := qH hnb
   have c52 := C52.out
   have hbb := Below.refl wd.heap.size wd
   clear hvw hbw hrw hb6 hc6 hvv hnb
   go_wp2_with (first
    | ((with_reducible refine atDst 48 ?_); refine wpList_plain rfl fun K hK => wp_bld0L 22 5 rfl iu Try.underlying22 hiu _ hu0 hu1 ?_; intro wx ho hb; have OX := qH ho; have BX := qH hb; have c52b := (hb.cell (p := ⟨b6, o6 + i, none⟩) (by have h1 := C52.out; exact cell_ltW h1)).trans C52.out; clear ho hb c52; refine hK _ _ ?_; clear hK K; (try simp only [Act.put, qA, qB, qC]))
    | ((with_reducible refine atDst 53 ?_); refine wpList_plain rfl fun K hK => wp_appW (base := wd.heap.size) (.tmp 48) (.tmp 52) 22 rfl 5 iu (.int .u8 0) 1 Try.underlying22 hiu hu0 hu1 hu2 rfl _ 0 [] rfl OX.out _ (bvs bw) rfl (RV.out.below BX.out) (bvs_oneW bw) (by rw [← HNB.out]; exact HBW.out) (by decide) BX.out.size ?_; intro vy wy ho hg hw; have BY := qH (BX.out.trans (grown_belowO OX.out hg BX.out.size)); have RY := qH (show Row wy vy (bvs bw) from Row.of_own ho); clear ho hg hw c52b; refine hK _ _ ?_; clear hK K; (try simp only [Act.put, qA, qB, qC])))
   go_ret2
   refine ⟨_, true, rfl, fun _ => ⟨bw, RY.out, ?_⟩, fun h => (by cases h), BW4.out.trans ((BO.out.trans ((BD2.out.trans (BY.out.mono BD2.out.size)).mono SO.out.hs)).mono (Nat.le_of_lt HWH.out))⟩
   rw [HBP.out]
   exact sh_hit SL.out HNO.out HP.out HEN.out fun j q hj hq => HALL.out j q hj hq
  | false =>
   have e3 := wrap_one i (wj_m HMN.out HNF.out HIM.out)
   have e4 := wrap_one' i (wj_m HMN.out HNF.out HIM.out)
   go_wp2_with fail
   refine ⟨⟨i + 1, HIM.out, by congr 1, fun j q hj hq => ?_, BD2.out⟩, by simpa [intOf] using HMX.out⟩
   rcases Nat.lt_succ_iff_lt_or_eq.1 hj with hj | rfl
   ·exact HALL.out j q hj hq
   ·rw [HP.out] at hq
    rw [← Option.some.inj hq]
    exact HEN.out
 ·obtain rfl : i = m := Nat.le_antisymm HI.out (Nat.not_lt.1 him)
  have y1 : ¬ ((i : Int) < (i : Int)) := Int.lt_irrefl _
  have HNO2 := qH (sh_miss SL.out HNO.out fun p hp => by
   obtain ⟨j, hj⟩ := List.getElem?_of_mem hp
   exact HALL.out j p (by rw [HML.out]; exact (List.getElem?_eq_some_iff.1 hj).1) hj)
  obtain ⟨wq, hwq⟩ : ∃ v : World, v = wr := ⟨_, rfl⟩
  subst hwq
  have SQ := qH (SO.out.new BI.out)
  have BQ := qH (show Below H w4 wq from BO.out.trans (BI.out.mono SO.out.hs))
  clear him HALL
  go_wp2_with fail
  go_loopw [9, 10, 11] (fun a b iv wl => ∃ (i' : Nat) (U' : Nat → Value) (X' : Nat → List Value) (xs : List Value) (M : List SW) (t : Nat → Bool), i' ≤ i ∧ iv = .int .i64 (i' : Int) ∧ a = U' 1 ∧ b = U' 2 ∧ U' 0 = .slice (some ⟨g, 0, none⟩) n n ∧ ShS wl H n t U' X' (.slice (some ⟨bs0, os, none⟩) i cs2) u6 vs xs (L.map Prod.fst) (M.map Prod.fst) (L.map Prod.snd) (M.map Prod.snd) ∧ ddS sn (cndS D (fsB ps) (L.take i')) = (M, t) ∧ FndS n sn t M ∧ Below H w4 wl) (fun _ _ iv _ => i - (intOf iv).toNat)
  case atStart => exact ⟨0, U, X, [], [], sn, Nat.zero_le _, rfl, HU1.out.symm, HU2.out.symm, HU0.out, SQ.out, rfl, FndS.start n sn, BQ.out⟩
  clear SQ BQ
  obtain ⟨i', U', X', xs, M, t, hi', rfl, rfl, rfl, hu0', hs', hd', hf', hb'⟩ := hrel
  have HI' := qH hi'
  have HU0' := qH hu0'
  have S' := qH hs'
  have DD' := qH hd'
  have FF' := qH hf'
  have B' := qH hb'
  obtain ⟨w', hw'⟩ : ∃ v : World, v = wr := ⟨_, rfl⟩
  subst hw'
  clear hi' hu0' hs' hd' hf' hb'
  by_cases him' : i' < i
  ·have z1 : (i' : Int) < (i : Int) := Int.ofNat_lt.2 him'
   have HIM' := qH him'
   have HMX' := qH (sub_next him')
   obtain ⟨p, hp⟩ : ∃ p, L[i']? = some p := ⟨_, List.getElem?_eq_getElem (by rw [← HML.out]; exact him')⟩
   have HP := qH hp
   have HPN := qH (HLR.out p (List.mem_of_getElem? hp))
   clear him' hp
   go_wp2_with fail
   go_loopw [9, 10, 12] (fun a c bv wl => ∃ (b : Nat) (U' : Nat → Value) (X' : Nat → List Value) (xs : List Value) (M : List SW) (t : Nat → Bool), b ≤ 256 ∧ bv = .int .i64 (b : Int) ∧ a = U' 1 ∧ c = U' 2 ∧ U' 0 = .slice (some ⟨g, 0, none⟩) n n ∧ ShS wl H n t U' X' (.slice (some ⟨bs0, os, none⟩) i cs2) u6 vs xs (L.map Prod.fst) (M.map Prod.fst) (L.map Prod.snd) (M.map Prod.snd) ∧ ddS sn (cpre D (fsB ps) L i' b p) = (M, t) ∧ FndS n sn t M ∧ Below H w4 wl) (fun _ _ bv _ => 256 - (intOf bv).toNat)
   case atStart => exact ⟨0, U', X', xs, M, t, Nat.zero_le _, rfl, rfl, rfl, HU0'.out, S'.out, by rw [cpre_zero]; exact DD'.out, FF'.out, B'.out⟩
   clear S' DD' FF' B' HU0'
   obtain ⟨b, U', X', xs, M, t, hb, rfl, rfl, rfl, hu0', hs', hd', hf', hb'⟩ := hrel
   have HB := qH hb
   have HU0' := qH hu0'
   have S' := qH hs'
   have DD' := qH hd'
   have FF' := qH hf'
   have B' := qH hb'
   obtain ⟨wb, hwb⟩ : ∃ v : World, v = wr := ⟨_, rfl⟩
   subst hwb
   clear hb hu0' hs' hd' hf' hb'
   by_cases hb2 : b < 256
   ·have b1 : (b : Int) < 256 := Int.ofNat_lt.2 hb2
    have HB2 := qH hb2
    have HMB := qH (sub_next hb2)
    have KB := qH (show Blk wb w.heap.size 28 cs from K4.out.below (by rw [← HH.out]; exact B'.out) K4.out.lt)
    have RB := qH (R4.out.below (show Below w4.heap.size w4 wb by rw [← HH.out]; exact B'.out))
    obtain ⟨c, hc⟩ : ∃ c, c = clB D b := ⟨_, rfl⟩
    have HC := qH hc
    have HCK := qH (show c < kd by rw [hc, HKD.out]; exact clB_lt HL.out hb2)
    have ccl : wb.cell? ⟨w.heap.size, b, none⟩ = some (.int .u8 (c : Int)) := by rw [KB.out.cell b, HCS.out, dcl_cl HL.out hb2, clB_cell HL.out hb2, hc]
    clear hb2 hc
    go_wp2_with fail
    clear ccl
    obtain ⟨q, hq⟩ : ∃ q, q = stC D p.1 c := ⟨_, rfl⟩
    have HQ := qH hq
    have HQN := qH (show q < n by
     have h1 := stC_lt HM.out (show p.1 < D.next.length by rw [← HN.out]; exact HPN.out) c (by rw [← HKD.out]; exact HCK.out)
     rw [hq, HN.out]
     exact h1)
    obtain ⟨br, or, cr, hcr, hbr, hrr⟩ := RB.out.row p.1 HPN.out
    have C75 := qH hcr
    have HBR := qH hbr
    have C78 := qH (show wb.cell? ⟨br, or + c, none⟩ = some (.int .i64 (q : Int)) from by
     obtain ⟨b', o', he, _, hc'⟩ := hrr.at_ (by rw [ncs_len]; exact HKP.out)
     injection he with he
     injection he with h1 h2
     subst h1 h2
     have h3 := hc' c _ (ncs_get (fun c => stC D p.1 c) HCK.out)
     rw [h3, hq])
    have C73 := qH (show wb.cell? ⟨bs0, os + i', none⟩ = some (.int .i64 (p.1 : Int)) from by
     obtain ⟨b', o', he, _, hc'⟩ := S'.out.st.1.at_ (by rw [nums_length, List.length_map, List.length_map, ← HML.out]; exact HMP.out)
     injection he with he
     injection he with h1 h2
     subst h1 h2
     exact hc' i' _ (by simp [nums, HP.out]))
    have HBS := qH (cell_ltW C73.out)
    have HBN := qH RB.out.hbn
    clear hq hcr hbr hrr
    refine mc_start (fun V => Below wb.heap.size wb V) (fun _ => True) 12 (by kernel_rfl) (fun wd hwd => ?_)
    have hX : Below wb.heap.size wb wd := by rw [hwd]; exact (Below.refl _ _).drew
    clear hwd
    refine mc_take (i := 0) (oi := ⟨some 68, _, _, _, _, _⟩) (v := ?_) rfl (by kernel_rfl) (by kernel_rfl) (by kernel_rfl) (fun _ _ _ h => h) rfl hX ?_ ?_; rotate_left; (intro W hW; go_simp; try with_reducible rfl); simp only [Act.put, qA, qB, qC]
    refine mc_take (i := 1) (oi := ⟨some 69, _, _, _, _, _⟩) (v := .slice (some ⟨bn, on, none⟩) n cn) rfl (by kernel_rfl) (by kernel_rfl) (by kernel_rfl) (fun _ _ _ h => h) rfl hX (fun V hV => lk_ldIss (.tmp 68) rfl rfl (by rw [(KB.out.below hV KB.out.lt).cell 256, HCS.out]; exact dcl_n HL.out)) ?_; simp only [Act.put, qA, qB, qC]
    refine mc_take (i := 2) (oi := ⟨some 70, _, _, _, _, _⟩) (v := ?_) rfl (by kernel_rfl) (by kernel_rfl) (by kernel_rfl) (fun _ _ _ h => h) rfl hX ?_ ?_; rotate_left; (intro W hW; go_simp; try with_reducible rfl); simp only [Act.put, qA, qB, qC]
    refine mc_take (i := 3) (oi := ⟨some 71, _, _, _, _, _⟩) (v := ?_) rfl (by kernel_rfl) (by kernel_rfl) (by kernel_rfl) (fun _ _ _ h => h) rfl hX ?_ ?_; rotate_left; (intro W hW; go_simp; try with_reducible rfl); simp only [Act.put, qA, qB, qC]
    refine mc_take (i := 4) (oi := ⟨some 72, _, _, _, _, _⟩) (v := .pointer (some ⟨bs0, os + i', none⟩)) rfl (by kernel_rfl) (by kernel_rfl) (by kernel_rfl) (fun _ _ _ h => h) rfl hX (fun V _ => lk_ixI (.tmp 70) (.tmp 71) rfl rfl rfl HIM'.out V) ?_; simp only [Act.put, qA, qB, qC]
    refine mc_take (i := 5) (oi := ⟨some 73, _, _, _, _, _⟩) (v := .int .i64 (p.1 : Int)) rfl (by kernel_rfl) (by kernel_rfl) (by kernel_rfl) (fun _ _ _ h => h) rfl hX (fun V hV => lk_ldI (.tmp 72) rfl rfl ((hV.cell (p := ⟨bs0, os + i', none⟩) HBS.out).trans C73.out)) ?_; simp only [Act.put, qA, qB, qC]
    refine mc_take (i := 6) (oi := ⟨some 74, _, _, _, _, _⟩) (v := .pointer (some ⟨bn, on + p.1, none⟩)) rfl (by kernel_rfl) (by kernel_rfl) (by kernel_rfl) (fun _ _ _ h => h) rfl hX (fun V _ => lk_ixIs (.tmp 69) (.tmp 73) rfl rfl rfl HPN.out V) ?_; simp only [Act.put, qA, qB, qC]
    refine mc_take (i := 7) (oi := ⟨some 75, _, _, _, _, _⟩) (v := .slice (some ⟨br, or, none⟩) kd cr) rfl (by kernel_rfl) (by kernel_rfl) (by kernel_rfl) (fun _ _ _ h => h) rfl hX (fun V hV => lk_ldIs (.tmp 74) rfl rfl ((hV.cell (p := ⟨bn, on + p.1, none⟩) HBN.out).trans C75.out)) ?_; simp only [Act.put, qA, qB, qC]
    refine mc_take (i := 8) (oi := ⟨some 76, _, _, _, _, _⟩) (v := ?_) rfl (by kernel_rfl) (by kernel_rfl) (by kernel_rfl) (fun _ _ _ h => h) rfl hX ?_ ?_; rotate_left; (intro W hW; go_simp; try with_reducible rfl); simp only [Act.put, qA, qB, qC]
    refine mc_take (i := 9) (oi := ⟨some 77, _, _, _, _, _⟩) (v := .pointer (some ⟨br, or + c, none⟩)) rfl (by kernel_rfl) (by kernel_rfl) (by kernel_rfl) (fun _ _ _ h => h) rfl hX (fun V _ => lk_ixIu (.tmp 75) (.tmp 76) rfl rfl rfl HCK.out V) ?_; simp only [Act.put, qA, qB, qC]
    refine mc_take (i := 10) (oi := ⟨some 78, _, _, _, _, _⟩) (v := .int .i64 (q : Int)) rfl (by kernel_rfl) (by kernel_rfl) (by kernel_rfl) (fun _ _ _ h => h) rfl hX (fun V hV => lk_ldI (.tmp 77) rfl rfl ((hV.cell (p := ⟨br, or + c, none⟩) HBR.out).trans C78.out)) ?_; simp only [Act.put, qA, qB, qC]
    refine mc_take (i := 11) (oi := ⟨some 14, _, _, _, _, _⟩) (v := ?_) rfl (by kernel_rfl) (by kernel_rfl) (by kernel_rfl) (fun _ _ _ h => h) rfl hX ?_ ?_; rotate_left; (intro W hW; go_simp; try with_reducible rfl); simp only [Act.put, qA, qB, qC]
    refine wpAnyC_done (by kernel_rfl) ?_ _
    have S2 := qH (S'.out.new hX)
    have BD3 := qH (show Below H w4 wd from B'.out.trans (hX.mono S'.out.hs))
    clear hX
    obtain ⟨f, hf, hff, hfs⟩ := fsB_is ps HB2.out
    have HCC := qH (show c = clsOf ps b by rw [HC.out]; unfold clB; rw [HCP.out, List.getD_eq_getElem?_getD, ctab_at ps HB2.out]; exact toNat_ofNatQ (clsOf_256 ps HB2.out))
    have cf : wd.cell? ⟨bf, of + c, none⟩ = some (.int .u8 (f : Int)) := (BD3.out.cell (p := ⟨bf, of + c, none⟩) (by rw [HH.out]; exact HBF.out)).trans (CF.out c _ (by rw [HCC.out, bvs_get _ _ _ hff]; exact congrArg some (bv_ofNat hf)))
    have HFS := qH hfs
    have hck : (c : Int) < (kd : Int) := Int.ofNat_lt.2 HCK.out
    have e3 := wrap_one b (wj_256 HB2.out)
    have e4 := wrap_one' b (wj_256 HB2.out)
    have g4 := wrap_256'' f hf
    have g5 := wrap_256' f hf
    clear hff hfs hf
    by_cases hfb : b = f
    ·subst hfb
     have HFT := qH (show fsB ps (UInt8.ofNat b) = true by rw [HFS.out]; exact decide_eq_true rfl)
     have hqn : (q : Int) < (n : Int) := Int.ofNat_lt.2 HQN.out
     have O2 := qH (show wd.ownsRow H 4 1 (.slice (some ⟨g, 0, none⟩) n n) n (bcs n t) from by have h1 := S2.out.seen; rw [HU0'.out] at h1; exact h1)
     have ct := (own_cell O2.out (bcs_get t HQN.out)).1
     have HYQ := qH (show (stD D p.1 (UInt8.ofNat b), p.2 ++ [UInt8.ofNat b]).1 = q by
      show stD D p.1 (UInt8.ofNat b) = q
      rw [stD_clB D p.1 HB2.out, HQ.out, HC.out])
     obtain ⟨tq, htq⟩ : ∃ x, t q = x := ⟨_, rfl⟩
     rw [htq] at ct
     have HTQ := qH htq
     clear htq
     cases tq with
     | true =>
      go_wp2_with fail
      refine ⟨⟨b + 1, U', X', xs, M, t, HB2.out, by congr 1, rfl, rfl, HU0'.out, S2.out, ?_, FF'.out, BD3.out⟩, by simpa [intOf] using HMB.out⟩
      rw [cpre_yes HB2.out HFT.out, ddS_snoc_old (by rw [DD'.out, HYQ.out]; exact HTQ.out), DD'.out]
     | false =>
      have fq := (own_cell O2.out (bcs_get t HQN.out)).2
      have S3 := qH (S2.out.mark HU0'.out HQN.out)
      have BD4 := qH (BD3.out.setCell (p := ⟨g, q, none⟩) HGH.out (Value.bool true))
      have DE := qH (show ddS sn (cpre D (fsB ps) L i' (b + 1) p) = (M ++ [(q, p.2 ++ [UInt8.ofNat b])], updB t q true) from by
       rw [cpre_yes HB2.out HFT.out, ddS_snoc_new (by rw [DD'.out, HYQ.out]; exact HTQ.out), DD'.out, HYQ.out]
       refine Prod.ext ?_ (funext fun s => (upd_or s).symm)
       show M ++ [_] = M ++ [_]
       rw [show (stD D p.1 (UInt8.ofNat b), p.2 ++ [UInt8.ofNat b]) = (q, p.2 ++ [UInt8.ofNat b]) from Prod.ext HYQ.out rfl])
      have FE := qH (FF'.out.add (x := (q, p.2 ++ [UInt8.ofNat b])) HQN.out HTQ.out upd_or)
      go_wp2_with fail
      clear ct fq cf g4 g5 e3 e4
      obtain ⟨ws, hws⟩ : ∃ v, v = wd.setCell ⟨g, q, none⟩ (.bool true) := ⟨_, rfl⟩
      rw [← hws] at S3 BD4
      rw [← hws]
      clear hws
      obtain ⟨bw, hbp⟩ : ∃ u, u = p.2 := ⟨_, rfl⟩
      have HBP := qH hbp
      obtain ⟨vw, hvw, hrw⟩ := S3.out.rw.2 i' bw (by rw [List.getElem?_map, HP.out, hbp]; rfl)
      have hbw : bw.length ≤ k := by rw [hbp, (SL.out.is p (List.mem_of_getElem? HP.out)).1]; exact Nat.le_refl _
      clear hbp
      obtain ⟨Aw, cw, hwv⟩ : ∃ A c, u6 = .slice A i c := by
       obtain ⟨A, c, h, _⟩ := S3.out.wd.1
       exact ⟨A, c, by rw [h, S3.out.lw, List.length_map, ← HML.out]⟩
      subst hwv
      obtain ⟨b6, o6, rfl, hb6, hc6⟩ := S3.out.wd.1.at_ (by rw [S3.out.lw, List.length_map, ← HML.out]; exact HMP.out)
      obtain ⟨Av, cv, hvv⟩ : ∃ A c, vw = .slice A (bvs bw).length c := by
       obtain ⟨A, c, h, _⟩ := hrw.1
       exact ⟨A, c, h⟩
      obtain ⟨nb, hnb⟩ : ∃ k, k = (bvs bw).length := ⟨_, rfl⟩
      have N6 := qH (S3.out.wd.2 b6 rfl).2
      have HXU := qH (show ∀ j, ((U' 0).ownBlock = some j ∨ (U' 1).ownBlock = some j ∨ (U' 2).ownBlock = some j) → XU U' j from fun j hj => by
       rcases hj with e | e | e
       ·exact ⟨0, by decide, e⟩
       ·exact ⟨1, by decide, e⟩
       ·exact ⟨2, by decide, e⟩)
      have HDH := qH (show ∀ j, ((U' 0).ownBlock = some j ∨ (U' 1).ownBlock = some j ∨ (U' 2).ownBlock = some j) → H ≤ j from fun j hj => by
       rcases hj with e | e | e
       ·exact (own6_lt S3.out.seen j e).2
       ·exact (own6_lt S3.out.own1 j e).2
       ·exact (own6_lt S3.out.own2 j e).2)
      have C105 := qH (show ∀ V, Off (fun j => (U' 0).ownBlock = some j ∨ (U' 1).ownBlock = some j ∨ (U' 2).ownBlock = some j) ws V → V.cell? ⟨b6, o6 + i', none⟩ = some (.slice Av nb cv) from fun V hV => hV.cell hb6 (fun h => N6.out (HXU.out _ h)) (by rw [hnb, ← hvv]; exact hc6 i' vw hvw))
      have HRB := qH (show ∀ V, Off (fun j => (U' 0).ownBlock = some j ∨ (U' 1).ownBlock = some j ∨ (U' 2).ownBlock = some j) ws V → Row V (.slice Av nb cv) (bvs bw) from fun V hV => by
       rw [hnb, ← hvv]
       exact hrw.1.off hV fun j hj h => (hrw.2 j hj).2 (HXU.out _ h))
      have HBW := qH (show ([] : List Value).length + (bvs bw).length ≤ 2097152 from wj_bs hbw HKN.out HNF.out (Nat.zero_le _))
      have HBY := qH (show ([] ++ bvs bw).length + [Value.int .u8 (b : Int)].length ≤ 2097152 from wj_by hbw HKN.out HNF.out _)
      have HBA := qH (show (nums .i64 ((M.map Prod.fst).map fun (q : Nat) => (q : Int))).length + [Value.int .i64 (q : Int)].length ≤ 2097152 by
       rw [nums_length, List.length_map, List.length_map]
       exact wj_len FF'.out.few HNF.out (.int .i64 (q : Int)))
      have HBH := qH (show ∀ v : Value, xs.length + [v].length ≤ 2097152 from fun v => by
       rw [S3.out.lx, List.length_map]
       exact wj_len FF'.out.few HNF.out v)
      have HE1 := qH (show nums .i64 ((M.map Prod.fst).map fun (q : Nat) => (q : Int)) ++ [Value.int .i64 (q : Int)] = nums .i64 ((M.map Prod.fst ++ [q]).map fun (q : Nat) => (q : Int)) by simp [nums])
      have HE3 := qH (show ([] ++ bvs bw) ++ [Value.int .u8 (b : Int)] = bvs (bw ++ [UInt8.ofNat b]) by
       rw [List.nil_append, bvs_appendW, ← bv_ofNat HB2.out])
      have g6 := wrap8N b HB2.out
      clear hvw hbw hrw hb6 hc6 hvv hnb hqn hck
      refine mc_start (fun V => Off (fun j => (U' 0).ownBlock = some j ∨ (U' 1).ownBlock = some j ∨ (U' 2).ownBlock = some j) ws V) (fun _ => True) 19 (by kernel_rfl) (fun wc hwd => ?_)
      have KW := qH (S3.out.wk (show Below ws.heap.size ws wc by rw [hwd]; exact (Below.refl _ _).drew))
      have hX := KW.out.off
      have hY : True := trivial
      clear hwd
      refine mc_take (i := 0) (oi := ⟨some 96, _, _, _, _, _⟩) (v := ?_) rfl (by kernel_rfl) (by kernel_rfl) (by kernel_rfl) (fun _ _ _ h => h) rfl hX ?_ ?_; rotate_left; (intro W hW; go_simp; try with_reducible rfl); simp only [Act.put, qA, qB, qC]
      refine mc_take (i := 1) (oi := ⟨some 97, _, _, _, _, _⟩) (v := ?_) rfl (by kernel_rfl) (by kernel_rfl) (by kernel_rfl) (fun _ _ _ h => h) rfl hX ?_ ?_; rotate_left; (intro W hW; go_simp; try with_reducible rfl); simp only [Act.put, qA, qB, qC]
      refine mc_take (i := 4) (oi := ⟨some 100, _, _, _, _, _⟩) (v := ?_) rfl (by kernel_rfl) (by kernel_rfl) (by kernel_rfl) (fun _ _ _ h => h) rfl hX ?_ ?_; rotate_left; (intro W hW; go_simp; try with_reducible rfl); simp only [Act.put, qA, qB, qC]
      refine mc_take (i := 6) (oi := ⟨some 102, _, _, _, _, _⟩) (v := ?_) rfl (by kernel_rfl) (by kernel_rfl) (by kernel_rfl) (fun _ _ _ h => h) rfl hX ?_ ?_; rotate_left; (intro W hW; go_simp; try with_reducible rfl); simp only [Act.put, qA, qB, qC]
      refine mc_take (i := 7) (oi := ⟨some 103, _, _, _, _, _⟩) (v := ?_) rfl (by kernel_rfl) (by kernel_rfl) (by kernel_rfl) (fun _ _ _ h => h) rfl hX ?_ ?_; rotate_left; (intro W hW; go_simp; try with_reducible rfl); simp only [Act.put, qA, qB, qC]
      refine mc_take (i := 8) (oi := ⟨some 104, _, _, _, _, _⟩) (v := .pointer (some ⟨b6, o6 + i', none⟩)) rfl (by kernel_rfl) (by kernel_rfl) (by kernel_rfl) (fun _ _ _ h => h) rfl hX (fun V _ => wj_ixR (.tmp 102) (.tmp 103) rfl rfl rfl HIM'.out V) ?_; simp only [Act.put, qA, qB, qC]
      refine mc_take (i := 9) (oi := ⟨some 105, _, _, _, _, _⟩) (v := .slice Av nb cv) rfl (by kernel_rfl) (by kernel_rfl) (by kernel_rfl) (fun _ _ _ h => h) rfl hX (fun V hV => wj_ldR (.tmp 104) rfl rfl (C105.out V hV)) ?_; simp only [Act.put, qA, qB, qC]
      refine mc_take (i := 11) (oi := ⟨some 107, _, _, _, _, _⟩) (v := ?_) rfl (by kernel_rfl) (by kernel_rfl) (by kernel_rfl) (fun _ _ _ h => h) rfl hX ?_ ?_; rotate_left; (intro W hW; go_simp; try with_reducible rfl); simp only [Act.put, qA, qB, qC]
      refine mc_take (i := 12) (oi := ⟨some 108, _, _, _, _, _⟩) (v := ?_) rfl (by kernel_rfl) (by kernel_rfl) (by kernel_rfl) (fun _ _ _ h => h) rfl hX ?_ ?_; rotate_left; (intro W hW; go_simp; try with_reducible rfl); simp only [Act.put, qA, qB, qC]
      refine mc_threeW (i := 2) (j := 5) (k := 13) (oi := ⟨some 98, _, _, _, _, _⟩) (oj := ⟨some 101, _, _, _, _, _⟩) (ok := ⟨some 109, _, _, _, _, _⟩) rfl rfl rfl (by kernel_rfl) rfl rfl rfl (fun K hK => ?g1a) (fun K hK => ?g1c) (fun K hK => ?g1e)
      case' g1a =>
       refine wp_bldVk 47 3 (.tmp 97) rfl i1 (.int .i64 0) Try.underlying47 hi1 hy0 hy1 rfl (.int .i64 (q : Int)) rfl rfl ?_
       intro wn hk hb
       replace KW := qH (KW.out.fresh4 (hk.own (Nat.le_refl _) one_maxW) hb)
       obtain ⟨v4, hv4⟩ : ∃ v, v = Value.slice (some ⟨wc.heap.size, 0, none⟩) 1 1 := ⟨_, rfl⟩
       rw [show Value.slice (some ⟨wc.heap.size, 0, none⟩) [Value.int .i64 (q : Int)].length [Value.int .i64 (q : Int)].length = v4 from hv4.symm] at KW
       rw [← hv4]
       clear hk hb hv4
       refine hK _ _ KW.out.off trivial ?_
       clear hK K hX
       (try simp only [Act.put, qA, qB, qC])
       have hX := KW.out.off
       obtain ⟨wc, hwc⟩ : ∃ v : World, v = wn := ⟨_, rfl⟩
       subst hwc
       refine mc_threeW (i := 3) (j := 5) (k := 13) (oi := ⟨some 99, _, _, _, _, _⟩) (oj := ⟨some 101, _, _, _, _, _⟩) (ok := ⟨some 109, _, _, _, _, _⟩) rfl rfl rfl (by kernel_rfl) rfl rfl rfl (fun K hK => ?g2b) (fun K hK => ?g2c) (fun K hK => ?g2e)
       case' g2b =>
        refine wp_appW (base := H) (.tmp 96) (.tmp 98) 47 rfl 3 i1 (.int .i64 0) 8 Try.underlying47 hi1 hy0 hy1 hy2 rfl _ _ _ rfl KW.out.at1 _ [.int .i64 (q : Int)] rfl KW.out.at4 (one_iW q) HBA.out (by decide) KW.out.hs ?_
        intro vn wn ho hg hw
        replace KW := qH (KW.out.grow1 ho hg hw)
        clear ho hg hw
        refine hK _ _ KW.out.off trivial ?_
        clear hK K hX
        (try simp only [Act.put, qA, qB, qC])
        have hX := KW.out.off
        obtain ⟨wc, hwc⟩ : ∃ v : World, v = wn := ⟨_, rfl⟩
        subst hwc
        refine mc_two (i := 5) (j := 13) (oi := ⟨some 101, _, _, _, _, _⟩) (oj := ⟨some 109, _, _, _, _, _⟩) rfl rfl (by kernel_rfl) rfl rfl (fun K hK => ?g3c) (fun K hK => ?g3e)
        case' g3c =>
         refine wp_bld0L 22 5 rfl iu Try.underlying22 hiu _ hu0 hu1 ?_
         intro wn ho hb
         replace KW := qH (KW.out.fresh3 ho hb)
         obtain ⟨v3, hv3⟩ : ∃ v, v = Value.slice (some ⟨wc.heap.size, 0, none⟩) 0 0 := ⟨_, rfl⟩
         rw [← hv3] at KW
         rw [← hv3]
         clear ho hb hv3
         refine hK _ _ KW.out.off trivial ?_
         clear hK K hX
         (try simp only [Act.put, qA, qB, qC])
         have hX := KW.out.off
         obtain ⟨wc, hwc⟩ : ∃ v : World, v = wn := ⟨_, rfl⟩
         subst hwc
         refine mc_two (i := 10) (j := 13) (oi := ⟨some 106, _, _, _, _, _⟩) (oj := ⟨some 109, _, _, _, _, _⟩) rfl rfl (by kernel_rfl) rfl rfl (fun K hK => ?g4d) (fun K hK => ?g4e)
         case' g4d =>
          refine wp_appW (base := H) (.tmp 101) (.tmp 105) 22 rfl 5 iu (.int .u8 0) 1 Try.underlying22 hiu hu0 hu1 hu2 rfl _ _ _ rfl KW.out.at3 _ (bvs bw) rfl (HRB.out wc hX) (bvs_oneW bw) HBW.out (by decide) KW.out.hs ?_
          intro vd wn ho hg hw
          replace KW := qH (KW.out.grow3 ho hg hw)
          clear ho hg hw
          refine hK _ _ KW.out.off trivial ?_
          clear hK K hX
          (try simp only [Act.put, qA, qB, qC])
          have hX := KW.out.off
          obtain ⟨wc, hwc⟩ : ∃ v : World, v = wn := ⟨_, rfl⟩
          subst hwc
          refine mc_actB (i := 13) (o := ⟨some 109, _, _, _, _, _⟩) rfl (by kernel_rfl) rfl (fun K hK => ?_)
          refine wp_bldVk 22 5 (.tmp 108) rfl iu (.int .u8 0) Try.underlying22 hiu hu0 hu1 rfl (.int .u8 (b : Int)) rfl rfl ?_
          intro wn hk hb
          replace KW := qH (KW.out.fresh5 (hk.own (Nat.le_refl _) one_maxW) hb)
          obtain ⟨v5, hv5⟩ : ∃ v, v = Value.slice (some ⟨wc.heap.size, 0, none⟩) 1 1 := ⟨_, rfl⟩
          rw [show Value.slice (some ⟨wc.heap.size, 0, none⟩) [Value.int .u8 (b : Int)].length [Value.int .u8 (b : Int)].length = v5 from hv5.symm] at KW
          rw [← hv5]
          clear hk hb hv5
          refine hK _ _ KW.out.off trivial ?_
          clear hK K hX
          (try simp only [Act.put, qA, qB, qC])
          have hX := KW.out.off
          obtain ⟨wc, hwc⟩ : ∃ v : World, v = wn := ⟨_, rfl⟩
          subst hwc
         case' g4e =>
          refine wp_bldVk 22 5 (.tmp 108) rfl iu (.int .u8 0) Try.underlying22 hiu hu0 hu1 rfl (.int .u8 (b : Int)) rfl rfl ?_
          intro wn hk hb
          replace KW := qH (KW.out.fresh5 (hk.own (Nat.le_refl _) one_maxW) hb)
          obtain ⟨v5, hv5⟩ : ∃ v, v = Value.slice (some ⟨wc.heap.size, 0, none⟩) 1 1 := ⟨_, rfl⟩
          rw [show Value.slice (some ⟨wc.heap.size, 0, none⟩) [Value.int .u8 (b : Int)].length [Value.int .u8 (b : Int)].length = v5 from hv5.symm] at KW
          rw [← hv5]
          clear hk hb hv5
          refine hK _ _ KW.out.off trivial ?_
          clear hK K hX
          (try simp only [Act.put, qA, qB, qC])
          have hX := KW.out.off
          obtain ⟨wc, hwc⟩ : ∃ v : World, v = wn := ⟨_, rfl⟩
          subst hwc
          refine mc_actB (i := 10) (o := ⟨some 106, _, _, _, _, _⟩) rfl (by kernel_rfl) rfl (fun K hK => ?_)
          refine wp_appW (base := H) (.tmp 101) (.tmp 105) 22 rfl 5 iu (.int .u8 0) 1 Try.underlying22 hiu hu0 hu1 hu2 rfl _ _ _ rfl KW.out.at3 _ (bvs bw) rfl (HRB.out wc hX) (bvs_oneW bw) HBW.out (by decide) KW.out.hs ?_
          intro vd wn ho hg hw
          replace KW := qH (KW.out.grow3 ho hg hw)
          clear ho hg hw
          refine hK _ _ KW.out.off trivial ?_
          clear hK K hX
          (try simp only [Act.put, qA, qB, qC])
          have hX := KW.out.off
          obtain ⟨wc, hwc⟩ : ∃ v : World, v = wn := ⟨_, rfl⟩
          subst hwc
        case' g3e =>
         refine wp_bldVk 22 5 (.tmp 108) rfl iu (.int .u8 0) Try.underlying22 hiu hu0 hu1 rfl (.int .u8 (b : Int)) rfl rfl ?_
         intro wn hk hb
         replace KW := qH (KW.out.fresh5 (hk.own (Nat.le_refl _) one_maxW) hb)
         obtain ⟨v5, hv5⟩ : ∃ v, v = Value.slice (some ⟨wc.heap.size, 0, none⟩) 1 1 := ⟨_, rfl⟩
         rw [show Value.slice (some ⟨wc.heap.size, 0, none⟩) [Value.int .u8 (b : Int)].length [Value.int .u8 (b : Int)].length = v5 from hv5.symm] at KW
         rw [← hv5]
         clear hk hb hv5
         refine hK _ _ KW.out.off trivial ?_
         clear hK K hX
         (try simp only [Act.put, qA, qB, qC])
         have hX := KW.out.off
         obtain ⟨wc, hwc⟩ : ∃ v : World, v = wn := ⟨_, rfl⟩
         subst hwc
         refine mc_actB (i := 5) (o := ⟨some 101, _, _, _, _, _⟩) rfl (by kernel_rfl) rfl (fun K hK => ?_)
         refine wp_bld0L 22 5 rfl iu Try.underlying22 hiu _ hu0 hu1 ?_
         intro wn ho hb
         replace KW := qH (KW.out.fresh3 ho hb)
         obtain ⟨v3, hv3⟩ : ∃ v, v = Value.slice (some ⟨wc.heap.size, 0, none⟩) 0 0 := ⟨_, rfl⟩
         rw [← hv3] at KW
         rw [← hv3]
         clear ho hb hv3
         refine hK _ _ KW.out.off trivial ?_
         clear hK K hX
         (try simp only [Act.put, qA, qB, qC])
         have hX := KW.out.off
         obtain ⟨wc, hwc⟩ : ∃ v : World, v = wn := ⟨_, rfl⟩
         subst hwc
         refine mc_actB (i := 10) (o := ⟨some 106, _, _, _, _, _⟩) rfl (by kernel_rfl) rfl (fun K hK => ?_)
         refine wp_appW (base := H) (.tmp 101) (.tmp 105) 22 rfl 5 iu (.int .u8 0) 1 Try.underlying22 hiu hu0 hu1 hu2 rfl _ _ _ rfl KW.out.at3 _ (bvs bw) rfl (HRB.out wc hX) (bvs_oneW bw) HBW.out (by decide) KW.out.hs ?_
         intro vd wn ho hg hw
         replace KW := qH (KW.out.grow3 ho hg hw)
         clear ho hg hw
         refine hK _ _ KW.out.off trivial ?_
         clear hK K hX
         (try simp only [Act.put, qA, qB, qC])
         have hX := KW.out.off
         obtain ⟨wc, hwc⟩ : ∃ v : World, v = wn := ⟨_, rfl⟩
         subst hwc
       case' g2c =>
        refine wp_bld0L 22 5 rfl iu Try.underlying22 hiu _ hu0 hu1 ?_
        intro wn ho hb
        replace KW := qH (KW.out.fresh3 ho hb)
        obtain ⟨v3, hv3⟩ : ∃ v, v = Value.slice (some ⟨wc.heap.size, 0, none⟩) 0 0 := ⟨_, rfl⟩
        rw [← hv3] at KW
        rw [← hv3]
        clear ho hb hv3
        refine hK _ _ KW.out.off trivial ?_
        clear hK K hX
        (try simp only [Act.put, qA, qB, qC])
        have hX := KW.out.off
        obtain ⟨wc, hwc⟩ : ∃ v : World, v = wn := ⟨_, rfl⟩
        subst hwc
        refine mc_two (i := 3) (j := 13) (oi := ⟨some 99, _, _, _, _, _⟩) (oj := ⟨some 109, _, _, _, _, _⟩) rfl rfl (by kernel_rfl) rfl rfl (fun K hK => ?g5b) (fun K hK => ?g5e)
        case' g5b =>
         refine wp_appW (base := H) (.tmp 96) (.tmp 98) 47 rfl 3 i1 (.int .i64 0) 8 Try.underlying47 hi1 hy0 hy1 hy2 rfl _ _ _ rfl KW.out.at1 _ [.int .i64 (q : Int)] rfl KW.out.at4 (one_iW q) HBA.out (by decide) KW.out.hs ?_
         intro vn wn ho hg hw
         replace KW := qH (KW.out.grow1 ho hg hw)
         clear ho hg hw
         refine hK _ _ KW.out.off trivial ?_
         clear hK K hX
         (try simp only [Act.put, qA, qB, qC])
         have hX := KW.out.off
         obtain ⟨wc, hwc⟩ : ∃ v : World, v = wn := ⟨_, rfl⟩
         subst hwc
         refine mc_two (i := 10) (j := 13) (oi := ⟨some 106, _, _, _, _, _⟩) (oj := ⟨some 109, _, _, _, _, _⟩) rfl rfl (by kernel_rfl) rfl rfl (fun K hK => ?g6d) (fun K hK => ?g6e)
         case' g6d =>
          refine wp_appW (base := H) (.tmp 101) (.tmp 105) 22 rfl 5 iu (.int .u8 0) 1 Try.underlying22 hiu hu0 hu1 hu2 rfl _ _ _ rfl KW.out.at3 _ (bvs bw) rfl (HRB.out wc hX) (bvs_oneW bw) HBW.out (by decide) KW.out.hs ?_
          intro vd wn ho hg hw
          replace KW := qH (KW.out.grow3 ho hg hw)
          clear ho hg hw
          refine hK _ _ KW.out.off trivial ?_
          clear hK K hX
          (try simp only [Act.put, qA, qB, qC])
          have hX := KW.out.off
          obtain ⟨wc, hwc⟩ : ∃ v : World, v = wn := ⟨_, rfl⟩
          subst hwc
          refine mc_actB (i := 13) (o := ⟨some 109, _, _, _, _, _⟩) rfl (by kernel_rfl) rfl (fun K hK => ?_)
          refine wp_bldVk 22 5 (.tmp 108) rfl iu (.int .u8 0) Try.underlying22 hiu hu0 hu1 rfl (.int .u8 (b : Int)) rfl rfl ?_
          intro wn hk hb
          replace KW := qH (KW.out.fresh5 (hk.own (Nat.le_refl _) one_maxW) hb)
          obtain ⟨v5, hv5⟩ : ∃ v, v = Value.slice (some ⟨wc.heap.size, 0, none⟩) 1 1 := ⟨_, rfl⟩
          rw [show Value.slice (some ⟨wc.heap.size, 0, none⟩) [Value.int .u8 (b : Int)].length [Value.int .u8 (b : Int)].length = v5 from hv5.symm] at KW
          rw [← hv5]
          clear hk hb hv5
          refine hK _ _ KW.out.off trivial ?_
          clear hK K hX
          (try simp only [Act.put, qA, qB, qC])
          have hX := KW.out.off
          obtain ⟨wc, hwc⟩ : ∃ v : World, v = wn := ⟨_, rfl⟩
          subst hwc
         case' g6e =>
          refine wp_bldVk 22 5 (.tmp 108) rfl iu (.int .u8 0) Try.underlying22 hiu hu0 hu1 rfl (.int .u8 (b : Int)) rfl rfl ?_
          intro wn hk hb
          replace KW := qH (KW.out.fresh5 (hk.own (Nat.le_refl _) one_maxW) hb)
          obtain ⟨v5, hv5⟩ : ∃ v, v = Value.slice (some ⟨wc.heap.size, 0, none⟩) 1 1 := ⟨_, rfl⟩
          rw [show Value.slice (some ⟨wc.heap.size, 0, none⟩) [Value.int .u8 (b : Int)].length [Value.int .u8 (b : Int)].length = v5 from hv5.symm] at KW
          rw [← hv5]
          clear hk hb hv5
          refine hK _ _ KW.out.off trivial ?_
          clear hK K hX
          (try simp only [Act.put, qA, qB, qC])
          have hX := KW.out.off
          obtain ⟨wc, hwc⟩ : ∃ v : World, v = wn := ⟨_, rfl⟩
          subst hwc
          refine mc_actB (i := 10) (o := ⟨some 106, _, _, _, _, _⟩) rfl (by kernel_rfl) rfl (fun K hK => ?_)
          refine wp_appW (base := H) (.tmp 101) (.tmp 105) 22 rfl 5 iu (.int .u8 0) 1 Try.underlying22 hiu hu0 hu1 hu2 rfl _ _ _ rfl KW.out.at3 _ (bvs bw) rfl (HRB.out wc hX) (bvs_oneW bw) HBW.out (by decide) KW.out.hs ?_
          intro vd wn ho hg hw
          replace KW := qH (KW.out.grow3 ho hg hw)
          clear ho hg hw
          refine hK _ _ KW.out.off trivial ?_
          clear hK K hX
          (try simp only [Act.put, qA, qB, qC])
          have hX := KW.out.off
          obtain ⟨wc, hwc⟩ : ∃ v : World, v = wn := ⟨_, rfl⟩
          subst hwc
        case' g5e =>
         refine wp_bldVk 22 5 (.tmp 108) rfl iu (.int .u8 0) Try.underlying22 hiu hu0 hu1 rfl (.int .u8 (b : Int)) rfl rfl ?_
         intro wn hk hb
         replace KW := qH (KW.out.fresh5 (hk.own (Nat.le_refl _) one_maxW) hb)
         obtain ⟨v5, hv5⟩ : ∃ v, v = Value.slice (some ⟨wc.heap.size, 0, none⟩) 1 1 := ⟨_, rfl⟩
         rw [show Value.slice (some ⟨wc.heap.size, 0, none⟩) [Value.int .u8 (b : Int)].length [Value.int .u8 (b : Int)].length = v5 from hv5.symm] at KW
         rw [← hv5]
         clear hk hb hv5
         refine hK _ _ KW.out.off trivial ?_
         clear hK K hX
         (try simp only [Act.put, qA, qB, qC])
         have hX := KW.out.off
         obtain ⟨wc, hwc⟩ : ∃ v : World, v = wn := ⟨_, rfl⟩
         subst hwc
         refine mc_actB (i := 3) (o := ⟨some 99, _, _, _, _, _⟩) rfl (by kernel_rfl) rfl (fun K hK => ?_)
         refine wp_appW (base := H) (.tmp 96) (.tmp 98) 47 rfl 3 i1 (.int .i64 0) 8 Try.underlying47 hi1 hy0 hy1 hy2 rfl _ _ _ rfl KW.out.at1 _ [.int .i64 (q : Int)] rfl KW.out.at4 (one_iW q) HBA.out (by decide) KW.out.hs ?_
         intro vn wn ho hg hw
         replace KW := qH (KW.out.grow1 ho hg hw)
         clear ho hg hw
         refine hK _ _ KW.out.off trivial ?_
         clear hK K hX
         (try simp only [Act.put, qA, qB, qC])
         have hX := KW.out.off
         obtain ⟨wc, hwc⟩ : ∃ v : World, v = wn := ⟨_, rfl⟩
         subst hwc
         refine mc_actB (i := 10) (o := ⟨some 106, _, _, _, _, _⟩) rfl (by kernel_rfl) rfl (fun K hK => ?_)
         refine wp_appW (base := H) (.tmp 101) (.tmp 105) 22 rfl 5 iu (.int .u8 0) 1 Try.underlying22 hiu hu0 hu1 hu2 rfl _ _ _ rfl KW.out.at3 _ (bvs bw) rfl (HRB.out wc hX) (bvs_oneW bw) HBW.out (by decide) KW.out.hs ?_
         intro vd wn ho hg hw
         replace KW := qH (KW.out.grow3 ho hg hw)
         clear ho hg hw
         refine hK _ _ KW.out.off trivial ?_
         clear hK K hX
         (try simp only [Act.put, qA, qB, qC])
         have hX := KW.out.off
         obtain ⟨wc, hwc⟩ : ∃ v : World, v = wn := ⟨_, rfl⟩
         subst hwc
       case' g2e =>
        refine wp_bldVk 22 5 (.tmp 108) rfl iu (.int .u8 0) Try.underlying22 hiu hu0 hu1 rfl (.int .u8 (b : Int)) rfl rfl ?_
        intro wn hk hb
        replace KW := qH (KW.out.fresh5 (hk.own (Nat.le_refl _) one_maxW) hb)
        obtain ⟨v5, hv5⟩ : ∃ v, v = Value.slice (some ⟨wc.heap.size, 0, none⟩) 1 1 := ⟨_, rfl⟩
        rw [show Value.slice (some ⟨wc.heap.size, 0, none⟩) [Value.int .u8 (b : Int)].length [Value.int .u8 (b : Int)].length = v5 from hv5.symm] at KW
        rw [← hv5]
        clear hk hb hv5
        refine hK _ _ KW.out.off trivial ?_
        clear hK K hX
        (try simp only [Act.put, qA, qB, qC])
        have hX := KW.out.off
        obtain ⟨wc, hwc⟩ : ∃ v : World, v = wn := ⟨_, rfl⟩
        subst hwc
        refine mc_two (i := 3) (j := 5) (oi := ⟨some 99, _, _, _, _, _⟩) (oj := ⟨some 101, _, _, _, _, _⟩) rfl rfl (by kernel_rfl) rfl rfl (fun K hK => ?g7b) (fun K hK => ?g7c)
        case' g7b =>
         refine wp_appW (base := H) (.tmp 96) (.tmp 98) 47 rfl 3 i1 (.int .i64 0) 8 Try.underlying47 hi1 hy0 hy1 hy2 rfl _ _ _ rfl KW.out.at1 _ [.int .i64 (q : Int)] rfl KW.out.at4 (one_iW q) HBA.out (by decide) KW.out.hs ?_
         intro vn wn ho hg hw
         replace KW := qH (KW.out.grow1 ho hg hw)
         clear ho hg hw
         refine hK _ _ KW.out.off trivial ?_
         clear hK K hX
         (try simp only [Act.put, qA, qB, qC])
         have hX := KW.out.off
         obtain ⟨wc, hwc⟩ : ∃ v : World, v = wn := ⟨_, rfl⟩
         subst hwc
         refine mc_actB (i := 5) (o := ⟨some 101, _, _, _, _, _⟩) rfl (by kernel_rfl) rfl (fun K hK => ?_)
         refine wp_bld0L 22 5 rfl iu Try.underlying22 hiu _ hu0 hu1 ?_
         intro wn ho hb
         replace KW := qH (KW.out.fresh3 ho hb)
         obtain ⟨v3, hv3⟩ : ∃ v, v = Value.slice (some ⟨wc.heap.size, 0, none⟩) 0 0 := ⟨_, rfl⟩
         rw [← hv3] at KW
         rw [← hv3]
         clear ho hb hv3
         refine hK _ _ KW.out.off trivial ?_
         clear hK K hX
         (try simp only [Act.put, qA, qB, qC])
         have hX := KW.out.off
         obtain ⟨wc, hwc⟩ : ∃ v : World, v = wn := ⟨_, rfl⟩
         subst hwc
         refine mc_actB (i := 10) (o := ⟨some 106, _, _, _, _, _⟩) rfl (by kernel_rfl) rfl (fun K hK => ?_)
         refine wp_appW (base := H) (.tmp 101) (.tmp 105) 22 rfl 5 iu (.int .u8 0) 1 Try.underlying22 hiu hu0 hu1 hu2 rfl _ _ _ rfl KW.out.at3 _ (bvs bw) rfl (HRB.out wc hX) (bvs_oneW bw) HBW.out (by decide) KW.out.hs ?_
         intro vd wn ho hg hw
         replace KW := qH (KW.out.grow3 ho hg hw)
         clear ho hg hw
         refine hK _ _ KW.out.off trivial ?_
         clear hK K hX
         (try simp only [Act.put, qA, qB, qC])
         have hX := KW.out.off
         obtain ⟨wc, hwc⟩ : ∃ v : World, v = wn := ⟨_, rfl⟩
         subst hwc
        case' g7c =>
         refine wp_bld0L 22 5 rfl iu Try.underlying22 hiu _ hu0 hu1 ?_
         intro wn ho hb
         replace KW := qH (KW.out.fresh3 ho hb)
         obtain ⟨v3, hv3⟩ : ∃ v, v = Value.slice (some ⟨wc.heap.size, 0, none⟩) 0 0 := ⟨_, rfl⟩
         rw [← hv3] at KW
         rw [← hv3]
         clear ho hb hv3
         refine hK _ _ KW.out.off trivial ?_
         clear hK K hX
         (try simp only [Act.put, qA, qB, qC])
         have hX := KW.out.off
         obtain ⟨wc, hwc⟩ : ∃ v : World, v = wn := ⟨_, rfl⟩
         subst hwc
         refine mc_actB (i := 3) (o := ⟨some 99, _, _, _, _, _⟩) rfl (by kernel_rfl) rfl (fun K hK => ?_)
         refine wp_appW (base := H) (.tmp 96) (.tmp 98) 47 rfl 3 i1 (.int .i64 0) 8 Try.underlying47 hi1 hy0 hy1 hy2 rfl _ _ _ rfl KW.out.at1 _ [.int .i64 (q : Int)] rfl KW.out.at4 (one_iW q) HBA.out (by decide) KW.out.hs ?_
         intro vn wn ho hg hw
         replace KW := qH (KW.out.grow1 ho hg hw)
         clear ho hg hw
         refine hK _ _ KW.out.off trivial ?_
         clear hK K hX
         (try simp only [Act.put, qA, qB, qC])
         have hX := KW.out.off
         obtain ⟨wc, hwc⟩ : ∃ v : World, v = wn := ⟨_, rfl⟩
         subst hwc
         refine mc_actB (i := 10) (o := ⟨some 106, _, _, _, _, _⟩) rfl (by kernel_rfl) rfl (fun K hK => ?_)
         refine wp_appW (base := H) (.tmp 101) (.tmp 105) 22 rfl 5 iu (.int .u8 0) 1 Try.underlying22 hiu hu0 hu1 hu2 rfl _ _ _ rfl KW.out.at3 _ (bvs bw) rfl (HRB.out wc hX) (bvs_oneW bw) HBW.out (by decide) KW.out.hs ?_
         intro vd wn ho hg hw
         replace KW := qH (KW.out.grow3 ho hg hw)
         clear ho hg hw
         refine hK _ _ KW.out.off trivial ?_
         clear hK K hX
         (try simp only [Act.put, qA, qB, qC])
         have hX := KW.out.off
         obtain ⟨wc, hwc⟩ : ∃ v : World, v = wn := ⟨_, rfl⟩
         subst hwc
      case' g1c =>
       refine wp_bld0L 22 5 rfl iu Try.underlying22 hiu _ hu0 hu1 ?_
       intro wn ho hb
       replace KW := qH (KW.out.fresh3 ho hb)
       obtain ⟨v3, hv3⟩ : ∃ v, v = Value.slice (some ⟨wc.heap.size, 0, none⟩) 0 0 := ⟨_, rfl⟩
       rw [← hv3] at KW
       rw [← hv3]
       clear ho hb hv3
       refine hK _ _ KW.out.off trivial ?_
       clear hK K hX
       (try simp only [Act.put, qA, qB, qC])
       have hX := KW.out.off
       obtain ⟨wc, hwc⟩ : ∃ v : World, v = wn := ⟨_, rfl⟩
       subst hwc
       refine mc_two (i := 2) (j := 13) (oi := ⟨some 98, _, _, _, _, _⟩) (oj := ⟨some 109, _, _, _, _, _⟩) rfl rfl (by kernel_rfl) rfl rfl (fun K hK => ?g8a) (fun K hK => ?g8e)
       case' g8a =>
        refine wp_bldVk 47 3 (.tmp 97) rfl i1 (.int .i64 0) Try.underlying47 hi1 hy0 hy1 rfl (.int .i64 (q : Int)) rfl rfl ?_
        intro wn hk hb
        replace KW := qH (KW.out.fresh4 (hk.own (Nat.le_refl _) one_maxW) hb)
        obtain ⟨v4, hv4⟩ : ∃ v, v = Value.slice (some ⟨wc.heap.size, 0, none⟩) 1 1 := ⟨_, rfl⟩
        rw [show Value.slice (some ⟨wc.heap.size, 0, none⟩) [Value.int .i64 (q : Int)].length [Value.int .i64 (q : Int)].length = v4 from hv4.symm] at KW
        rw [← hv4]
        clear hk hb hv4
        refine hK _ _ KW.out.off trivial ?_
        clear hK K hX
        (try simp only [Act.put, qA, qB, qC])
        have hX := KW.out.off
        obtain ⟨wc, hwc⟩ : ∃ v : World, v = wn := ⟨_, rfl⟩
        subst hwc
        refine mc_two (i := 3) (j := 13) (oi := ⟨some 99, _, _, _, _, _⟩) (oj := ⟨some 109, _, _, _, _, _⟩) rfl rfl (by kernel_rfl) rfl rfl (fun K hK => ?g9b) (fun K hK => ?g9e)
        case' g9b =>
         refine wp_appW (base := H) (.tmp 96) (.tmp 98) 47 rfl 3 i1 (.int .i64 0) 8 Try.underlying47 hi1 hy0 hy1 hy2 rfl _ _ _ rfl KW.out.at1 _ [.int .i64 (q : Int)] rfl KW.out.at4 (one_iW q) HBA.out (by decide) KW.out.hs ?_
         intro vn wn ho hg hw
         replace KW := qH (KW.out.grow1 ho hg hw)
         clear ho hg hw
         refine hK _ _ KW.out.off trivial ?_
         clear hK K hX
         (try simp only [Act.put, qA, qB, qC])
         have hX := KW.out.off
         obtain ⟨wc, hwc⟩ : ∃ v : World, v = wn := ⟨_, rfl⟩
         subst hwc
         refine mc_two (i := 10) (j := 13) (oi := ⟨some 106, _, _, _, _, _⟩) (oj := ⟨some 109, _, _, _, _, _⟩) rfl rfl (by kernel_rfl) rfl rfl (fun K hK => ?g10d) (fun K hK => ?g10e)
         case' g10d =>
          refine wp_appW (base := H) (.tmp 101) (.tmp 105) 22 rfl 5 iu (.int .u8 0) 1 Try.underlying22 hiu hu0 hu1 hu2 rfl _ _ _ rfl KW.out.at3 _ (bvs bw) rfl (HRB.out wc hX) (bvs_oneW bw) HBW.out (by decide) KW.out.hs ?_
          intro vd wn ho hg hw
          replace KW := qH (KW.out.grow3 ho hg hw)
          clear ho hg hw
          refine hK _ _ KW.out.off trivial ?_
          clear hK K hX
          (try simp only [Act.put, qA, qB, qC])
          have hX := KW.out.off
          obtain ⟨wc, hwc⟩ : ∃ v : World, v = wn := ⟨_, rfl⟩
          subst hwc
          refine mc_actB (i := 13) (o := ⟨some 109, _, _, _, _, _⟩) rfl (by kernel_rfl) rfl (fun K hK => ?_)
          refine wp_bldVk 22 5 (.tmp 108) rfl iu (.int .u8 0) Try.underlying22 hiu hu0 hu1 rfl (.int .u8 (b : Int)) rfl rfl ?_
          intro wn hk hb
          replace KW := qH (KW.out.fresh5 (hk.own (Nat.le_refl _) one_maxW) hb)
          obtain ⟨v5, hv5⟩ : ∃ v, v = Value.slice (some ⟨wc.heap.size, 0, none⟩) 1 1 := ⟨_, rfl⟩
          rw [show Value.slice (some ⟨wc.heap.size, 0, none⟩) [Value.int .u8 (b : Int)].length [Value.int .u8 (b : Int)].length = v5 from hv5.symm] at KW
          rw [← hv5]
          clear hk hb hv5
          refine hK _ _ KW.out.off trivial ?_
          clear hK K hX
          (try simp only [Act.put, qA, qB, qC])
          have hX := KW.out.off
          obtain ⟨wc, hwc⟩ : ∃ v : World, v = wn := ⟨_, rfl⟩
          subst hwc
         case' g10e =>
          refine wp_bldVk 22 5 (.tmp 108) rfl iu (.int .u8 0) Try.underlying22 hiu hu0 hu1 rfl (.int .u8 (b : Int)) rfl rfl ?_
          intro wn hk hb
          replace KW := qH (KW.out.fresh5 (hk.own (Nat.le_refl _) one_maxW) hb)
          obtain ⟨v5, hv5⟩ : ∃ v, v = Value.slice (some ⟨wc.heap.size, 0, none⟩) 1 1 := ⟨_, rfl⟩
          rw [show Value.slice (some ⟨wc.heap.size, 0, none⟩) [Value.int .u8 (b : Int)].length [Value.int .u8 (b : Int)].length = v5 from hv5.symm] at KW
          rw [← hv5]
          clear hk hb hv5
          refine hK _ _ KW.out.off trivial ?_
          clear hK K hX
          (try simp only [Act.put, qA, qB, qC])
          have hX := KW.out.off
          obtain ⟨wc, hwc⟩ : ∃ v : World, v = wn := ⟨_, rfl⟩
          subst hwc
          refine mc_actB (i := 10) (o := ⟨some 106, _, _, _, _, _⟩) rfl (by kernel_rfl) rfl (fun K hK => ?_)
          refine wp_appW (base := H) (.tmp 101) (.tmp 105) 22 rfl 5 iu (.int .u8 0) 1 Try.underlying22 hiu hu0 hu1 hu2 rfl _ _ _ rfl KW.out.at3 _ (bvs bw) rfl (HRB.out wc hX) (bvs_oneW bw) HBW.out (by decide) KW.out.hs ?_
          intro vd wn ho hg hw
          replace KW := qH (KW.out.grow3 ho hg hw)
          clear ho hg hw
          refine hK _ _ KW.out.off trivial ?_
          clear hK K hX
          (try simp only [Act.put, qA, qB, qC])
          have hX := KW.out.off
          obtain ⟨wc, hwc⟩ : ∃ v : World, v = wn := ⟨_, rfl⟩
          subst hwc
        case' g9e =>
         refine wp_bldVk 22 5 (.tmp 108) rfl iu (.int .u8 0) Try.underlying22 hiu hu0 hu1 rfl (.int .u8 (b : Int)) rfl rfl ?_
         intro wn hk hb
         replace KW := qH (KW.out.fresh5 (hk.own (Nat.le_refl _) one_maxW) hb)
         obtain ⟨v5, hv5⟩ : ∃ v, v = Value.slice (some ⟨wc.heap.size, 0, none⟩) 1 1 := ⟨_, rfl⟩
         rw [show Value.slice (some ⟨wc.heap.size, 0, none⟩) [Value.int .u8 (b : Int)].length [Value.int .u8 (b : Int)].length = v5 from hv5.symm] at KW
         rw [← hv5]
         clear hk hb hv5
         refine hK _ _ KW.out.off trivial ?_
         clear hK K hX
         (try simp only [Act.put, qA, qB, qC])
         have hX := KW.out.off
         obtain ⟨wc, hwc⟩ : ∃ v : World, v = wn := ⟨_, rfl⟩
         subst hwc
         refine mc_actB (i := 3) (o := ⟨some 99, _, _, _, _, _⟩) rfl (by kernel_rfl) rfl (fun K hK => ?_)
         refine wp_appW (base := H) (.tmp 96) (.tmp 98) 47 rfl 3 i1 (.int .i64 0) 8 Try.underlying47 hi1 hy0 hy1 hy2 rfl _ _ _ rfl KW.out.at1 _ [.int .i64 (q : Int)] rfl KW.out.at4 (one_iW q) HBA.out (by decide) KW.out.hs ?_
         intro vn wn ho hg hw
         replace KW := qH (KW.out.grow1 ho hg hw)
         clear ho hg hw
         refine hK _ _ KW.out.off trivial ?_
         clear hK K hX
         (try simp only [Act.put, qA, qB, qC])
         have hX := KW.out.off
         obtain ⟨wc, hwc⟩ : ∃ v : World, v = wn := ⟨_, rfl⟩
         subst hwc
         refine mc_actB (i := 10) (o := ⟨some 106, _, _, _, _, _⟩) rfl (by kernel_rfl) rfl (fun K hK => ?_)
         refine wp_appW (base := H) (.tmp 101) (.tmp 105) 22 rfl 5 iu (.int .u8 0) 1 Try.underlying22 hiu hu0 hu1 hu2 rfl _ _ _ rfl KW.out.at3 _ (bvs bw) rfl (HRB.out wc hX) (bvs_oneW bw) HBW.out (by decide) KW.out.hs ?_
         intro vd wn ho hg hw
         replace KW := qH (KW.out.grow3 ho hg hw)
         clear ho hg hw
         refine hK _ _ KW.out.off trivial ?_
         clear hK K hX
         (try simp only [Act.put, qA, qB, qC])
         have hX := KW.out.off
         obtain ⟨wc, hwc⟩ : ∃ v : World, v = wn := ⟨_, rfl⟩
         subst hwc
       case' g8e =>
        refine wp_bldVk 22 5 (.tmp 108) rfl iu (.int .u8 0) Try.underlying22 hiu hu0 hu1 rfl (.int .u8 (b : Int)) rfl rfl ?_
        intro wn hk hb
        replace KW := qH (KW.out.fresh5 (hk.own (Nat.le_refl _) one_maxW) hb)
        obtain ⟨v5, hv5⟩ : ∃ v, v = Value.slice (some ⟨wc.heap.size, 0, none⟩) 1 1 := ⟨_, rfl⟩
        rw [show Value.slice (some ⟨wc.heap.size, 0, none⟩) [Value.int .u8 (b : Int)].length [Value.int .u8 (b : Int)].length = v5 from hv5.symm] at KW
        rw [← hv5]
        clear hk hb hv5
        refine hK _ _ KW.out.off trivial ?_
        clear hK K hX
        (try simp only [Act.put, qA, qB, qC])
        have hX := KW.out.off
        obtain ⟨wc, hwc⟩ : ∃ v : World, v = wn := ⟨_, rfl⟩
        subst hwc
        refine mc_actB (i := 2) (o := ⟨some 98, _, _, _, _, _⟩) rfl (by kernel_rfl) rfl (fun K hK => ?_)
        refine wp_bldVk 47 3 (.tmp 97) rfl i1 (.int .i64 0) Try.underlying47 hi1 hy0 hy1 rfl (.int .i64 (q : Int)) rfl rfl ?_
        intro wn hk hb
        replace KW := qH (KW.out.fresh4 (hk.own (Nat.le_refl _) one_maxW) hb)
        obtain ⟨v4, hv4⟩ : ∃ v, v = Value.slice (some ⟨wc.heap.size, 0, none⟩) 1 1 := ⟨_, rfl⟩
        rw [show Value.slice (some ⟨wc.heap.size, 0, none⟩) [Value.int .i64 (q : Int)].length [Value.int .i64 (q : Int)].length = v4 from hv4.symm] at KW
        rw [← hv4]
        clear hk hb hv4
        refine hK _ _ KW.out.off trivial ?_
        clear hK K hX
        (try simp only [Act.put, qA, qB, qC])
        have hX := KW.out.off
        obtain ⟨wc, hwc⟩ : ∃ v : World, v = wn := ⟨_, rfl⟩
        subst hwc
        refine mc_actB (i := 3) (o := ⟨some 99, _, _, _, _, _⟩) rfl (by kernel_rfl) rfl (fun K hK => ?_)
        refine wp_appW (base := H) (.tmp 96) (.tmp 98) 47 rfl 3 i1 (.int .i64 0) 8 Try.underlying47 hi1 hy0 hy1 hy2 rfl _ _ _ rfl KW.out.at1 _ [.int .i64 (q : Int)] rfl KW.out.at4 (one_iW q) HBA.out (by decide) KW.out.hs ?_
        intro vn wn ho hg hw
        replace KW := qH (KW.out.grow1 ho hg hw)
        clear ho hg hw
        refine hK _ _ KW.out.off trivial ?_
        clear hK K hX
        (try simp only [Act.put, qA, qB, qC])
        have hX := KW.out.off
        obtain ⟨wc, hwc⟩ : ∃ v : World, v = wn := ⟨_, rfl⟩
        subst hwc
        refine mc_actB (i := 10) (o := ⟨some 106, _, _, _, _, _⟩) rfl (by kernel_rfl) rfl (fun K hK => ?_)
        refine wp_appW (base := H) (.tmp 101) (.tmp 105) 22 rfl 5 iu (.int .u8 0) 1 Try.underlying22 hiu hu0 hu1 hu2 rfl _ _ _ rfl KW.out.at3 _ (bvs bw) rfl (HRB.out wc hX) (bvs_oneW bw) HBW.out (by decide) KW.out.hs ?_
        intro vd wn ho hg hw
        replace KW := qH (KW.out.grow3 ho hg hw)
        clear ho hg hw
        refine hK _ _ KW.out.off trivial ?_
        clear hK K hX
        (try simp only [Act.put, qA, qB, qC])
        have hX := KW.out.off
        obtain ⟨wc, hwc⟩ : ∃ v : World, v = wn := ⟨_, rfl⟩
        subst hwc
      case' g1e =>
       refine wp_bldVk 22 5 (.tmp 108) rfl iu (.int .u8 0) Try.underlying22 hiu hu0 hu1 rfl (.int .u8 (b : Int)) rfl rfl ?_
       intro wn hk hb
       replace KW := qH (KW.out.fresh5 (hk.own (Nat.le_refl _) one_maxW) hb)
       obtain ⟨v5, hv5⟩ : ∃ v, v = Value.slice (some ⟨wc.heap.size, 0, none⟩) 1 1 := ⟨_, rfl⟩
       rw [show Value.slice (some ⟨wc.heap.size, 0, none⟩) [Value.int .u8 (b : Int)].length [Value.int .u8 (b : Int)].length = v5 from hv5.symm] at KW
       rw [← hv5]
       clear hk hb hv5
       refine hK _ _ KW.out.off trivial ?_
       clear hK K hX
       (try simp only [Act.put, qA, qB, qC])
       have hX := KW.out.off
       obtain ⟨wc, hwc⟩ : ∃ v : World, v = wn := ⟨_, rfl⟩
       subst hwc
       refine mc_two (i := 2) (j := 5) (oi := ⟨some 98, _, _, _, _, _⟩) (oj := ⟨some 101, _, _, _, _, _⟩) rfl rfl (by kernel_rfl) rfl rfl (fun K hK => ?g11a) (fun K hK => ?g11c)
       case' g11a =>
        refine wp_bldVk 47 3 (.tmp 97) rfl i1 (.int .i64 0) Try.underlying47 hi1 hy0 hy1 rfl (.int .i64 (q : Int)) rfl rfl ?_
        intro wn hk hb
        replace KW := qH (KW.out.fresh4 (hk.own (Nat.le_refl _) one_maxW) hb)
        obtain ⟨v4, hv4⟩ : ∃ v, v = Value.slice (some ⟨wc.heap.size, 0, none⟩) 1 1 := ⟨_, rfl⟩
        rw [show Value.slice (some ⟨wc.heap.size, 0, none⟩) [Value.int .i64 (q : Int)].length [Value.int .i64 (q : Int)].length = v4 from hv4.symm] at KW
        rw [← hv4]
        clear hk hb hv4
        refine hK _ _ KW.out.off trivial ?_
        clear hK K hX
        (try simp only [Act.put, qA, qB, qC])
        have hX := KW.out.off
        obtain ⟨wc, hwc⟩ : ∃ v : World, v = wn := ⟨_, rfl⟩
        subst hwc
        refine mc_two (i := 3) (j := 5) (oi := ⟨some 99, _, _, _, _, _⟩) (oj := ⟨some 101, _, _, _, _, _⟩) rfl rfl (by kernel_rfl) rfl rfl (fun K hK => ?g12b) (fun K hK => ?g12c)
        case' g12b =>
         refine wp_appW (base := H) (.tmp 96) (.tmp 98) 47 rfl 3 i1 (.int .i64 0) 8 Try.underlying47 hi1 hy0 hy1 hy2 rfl _ _ _ rfl KW.out.at1 _ [.int .i64 (q : Int)] rfl KW.out.at4 (one_iW q) HBA.out (by decide) KW.out.hs ?_
         intro vn wn ho hg hw
         replace KW := qH (KW.out.grow1 ho hg hw)
         clear ho hg hw
         refine hK _ _ KW.out.off trivial ?_
         clear hK K hX
         (try simp only [Act.put, qA, qB, qC])
         have hX := KW.out.off
         obtain ⟨wc, hwc⟩ : ∃ v : World, v = wn := ⟨_, rfl⟩
         subst hwc
         refine mc_actB (i := 5) (o := ⟨some 101, _, _, _, _, _⟩) rfl (by kernel_rfl) rfl (fun K hK => ?_)
         refine wp_bld0L 22 5 rfl iu Try.underlying22 hiu _ hu0 hu1 ?_
         intro wn ho hb
         replace KW := qH (KW.out.fresh3 ho hb)
         obtain ⟨v3, hv3⟩ : ∃ v, v = Value.slice (some ⟨wc.heap.size, 0, none⟩) 0 0 := ⟨_, rfl⟩
         rw [← hv3] at KW
         rw [← hv3]
         clear ho hb hv3
         refine hK _ _ KW.out.off trivial ?_
         clear hK K hX
         (try simp only [Act.put, qA, qB, qC])
         have hX := KW.out.off
         obtain ⟨wc, hwc⟩ : ∃ v : World, v = wn := ⟨_, rfl⟩
         subst hwc
         refine mc_actB (i := 10) (o := ⟨some 106, _, _, _, _, _⟩) rfl (by kernel_rfl) rfl (fun K hK => ?_)
         refine wp_appW (base := H) (.tmp 101) (.tmp 105) 22 rfl 5 iu (.int .u8 0) 1 Try.underlying22 hiu hu0 hu1 hu2 rfl _ _ _ rfl KW.out.at3 _ (bvs bw) rfl (HRB.out wc hX) (bvs_oneW bw) HBW.out (by decide) KW.out.hs ?_
         intro vd wn ho hg hw
         replace KW := qH (KW.out.grow3 ho hg hw)
         clear ho hg hw
         refine hK _ _ KW.out.off trivial ?_
         clear hK K hX
         (try simp only [Act.put, qA, qB, qC])
         have hX := KW.out.off
         obtain ⟨wc, hwc⟩ : ∃ v : World, v = wn := ⟨_, rfl⟩
         subst hwc
        case' g12c =>
         refine wp_bld0L 22 5 rfl iu Try.underlying22 hiu _ hu0 hu1 ?_
         intro wn ho hb
         replace KW := qH (KW.out.fresh3 ho hb)
         obtain ⟨v3, hv3⟩ : ∃ v, v = Value.slice (some ⟨wc.heap.size, 0, none⟩) 0 0 := ⟨_, rfl⟩
         rw [← hv3] at KW
         rw [← hv3]
         clear ho hb hv3
         refine hK _ _ KW.out.off trivial ?_
         clear hK K hX
         (try simp only [Act.put, qA, qB, qC])
         have hX := KW.out.off
         obtain ⟨wc, hwc⟩ : ∃ v : World, v = wn := ⟨_, rfl⟩
         subst hwc
         refine mc_actB (i := 3) (o := ⟨some 99, _, _, _, _, _⟩) rfl (by kernel_rfl) rfl (fun K hK => ?_)
         refine wp_appW (base := H) (.tmp 96) (.tmp 98) 47 rfl 3 i1 (.int .i64 0) 8 Try.underlying47 hi1 hy0 hy1 hy2 rfl _ _ _ rfl KW.out.at1 _ [.int .i64 (q : Int)] rfl KW.out.at4 (one_iW q) HBA.out (by decide) KW.out.hs ?_
         intro vn wn ho hg hw
         replace KW := qH (KW.out.grow1 ho hg hw)
         clear ho hg hw
         refine hK _ _ KW.out.off trivial ?_
         clear hK K hX
         (try simp only [Act.put, qA, qB, qC])
         have hX := KW.out.off
         obtain ⟨wc, hwc⟩ : ∃ v : World, v = wn := ⟨_, rfl⟩
         subst hwc
         refine mc_actB (i := 10) (o := ⟨some 106, _, _, _, _, _⟩) rfl (by kernel_rfl) rfl (fun K hK => ?_)
         refine wp_appW (base := H) (.tmp 101) (.tmp 105) 22 rfl 5 iu (.int .u8 0) 1 Try.underlying22 hiu hu0 hu1 hu2 rfl _ _ _ rfl KW.out.at3 _ (bvs bw) rfl (HRB.out wc hX) (bvs_oneW bw) HBW.out (by decide) KW.out.hs ?_
         intro vd wn ho hg hw
         replace KW := qH (KW.out.grow3 ho hg hw)
         clear ho hg hw
         refine hK _ _ KW.out.off trivial ?_
         clear hK K hX
         (try simp only [Act.put, qA, qB, qC])
         have hX := KW.out.off
         obtain ⟨wc, hwc⟩ : ∃ v : World, v = wn := ⟨_, rfl⟩
         subst hwc
       case' g11c =>
        refine wp_bld0L 22 5 rfl iu Try.underlying22 hiu _ hu0 hu1 ?_
        intro wn ho hb
        replace KW := qH (KW.out.fresh3 ho hb)
        obtain ⟨v3, hv3⟩ : ∃ v, v = Value.slice (some ⟨wc.heap.size, 0, none⟩) 0 0 := ⟨_, rfl⟩
        rw [← hv3] at KW
        rw [← hv3]
        clear ho hb hv3
        refine hK _ _ KW.out.off trivial ?_
        clear hK K hX
        (try simp only [Act.put, qA, qB, qC])
        have hX := KW.out.off
        obtain ⟨wc, hwc⟩ : ∃ v : World, v = wn := ⟨_, rfl⟩
        subst hwc
        refine mc_actB (i := 2) (o := ⟨some 98, _, _, _, _, _⟩) rfl (by kernel_rfl) rfl (fun K hK => ?_)
        refine wp_bldVk 47 3 (.tmp 97) rfl i1 (.int .i64 0) Try.underlying47 hi1 hy0 hy1 rfl (.int .i64 (q : Int)) rfl rfl ?_
        intro wn hk hb
        replace KW := qH (KW.out.fresh4 (hk.own (Nat.le_refl _) one_maxW) hb)
        obtain ⟨v4, hv4⟩ : ∃ v, v = Value.slice (some ⟨wc.heap.size, 0, none⟩) 1 1 := ⟨_, rfl⟩
        rw [show Value.slice (some ⟨wc.heap.size, 0, none⟩) [Value.int .i64 (q : Int)].length [Value.int .i64 (q : Int)].length = v4 from hv4.symm] at KW
        rw [← hv4]
        clear hk hb hv4
        refine hK _ _ KW.out.off trivial ?_
        clear hK K hX
        (try simp only [Act.put, qA, qB, qC])
        have hX := KW.out.off
        obtain ⟨wc, hwc⟩ : ∃ v : World, v = wn := ⟨_, rfl⟩
        subst hwc
        refine mc_actB (i := 3) (o := ⟨some 99, _, _, _, _, _⟩) rfl (by kernel_rfl) rfl (fun K hK => ?_)
        refine wp_appW (base := H) (.tmp 96) (.tmp 98) 47 rfl 3 i1 (.int .i64 0) 8 Try.underlying47 hi1 hy0 hy1 hy2 rfl _ _ _ rfl KW.out.at1 _ [.int .i64 (q : Int)] rfl KW.out.at4 (one_iW q) HBA.out (by decide) KW.out.hs ?_
        intro vn wn ho hg hw
        replace KW := qH (KW.out.grow1 ho hg hw)
        clear ho hg hw
        refine hK _ _ KW.out.off trivial ?_
        clear hK K hX
        (try simp only [Act.put, qA, qB, qC])
        have hX := KW.out.off
        obtain ⟨wc, hwc⟩ : ∃ v : World, v = wn := ⟨_, rfl⟩
        subst hwc
        refine mc_actB (i := 10) (o := ⟨some 106, _, _, _, _, _⟩) rfl (by kernel_rfl) rfl (fun K hK => ?_)
        refine wp_appW (base := H) (.tmp 101) (.tmp 105) 22 rfl 5 iu (.int .u8 0) 1 Try.underlying22 hiu hu0 hu1 hu2 rfl _ _ _ rfl KW.out.at3 _ (bvs bw) rfl (HRB.out wc hX) (bvs_oneW bw) HBW.out (by decide) KW.out.hs ?_
        intro vd wn ho hg hw
        replace KW := qH (KW.out.grow3 ho hg hw)
        clear ho hg hw
        refine hK _ _ KW.out.off trivial ?_
        clear hK K hX
        (try simp only [Act.put, qA, qB, qC])
        have hX := KW.out.off
        obtain ⟨wc, hwc⟩ : ∃ v : World, v = wn := ⟨_, rfl⟩
        subst hwc
      all_goals
       refine mc_actB (i := 14) (o := ⟨some 110, _, _, _, _, _⟩) rfl (by kernel_rfl) rfl (fun K hK => ?_)
       refine wp_appW (base := H) (.tmp 106) (.tmp 109) 22 rfl 5 iu (.int .u8 0) 1 Try.underlying22 hiu hu0 hu1 hu2 rfl _ _ _ rfl KW.out.at3 _ [.int .u8 (b : Int)] rfl KW.out.at5 (one_uW b) HBY.out (by decide) KW.out.hs ?_
       intro ve wn ho hg hw
       replace KW := qH (KW.out.grow3 ho hg hw)
       clear ho hg hw
       refine hK _ _ KW.out.off trivial ?_
       clear hK K hX
       (try simp only [Act.put, qA, qB, qC])
       have hX := KW.out.off
       obtain ⟨wc, hwc⟩ : ∃ v : World, v = wn := ⟨_, rfl⟩
       subst hwc
       refine mc_actB (i := 15) (o := ⟨some 111, _, _, _, _, _⟩) rfl (by kernel_rfl) rfl (fun K hK => ?_)
       refine wp_bldVk 35 22 (.tmp 110) rfl ir (.slice none 0 0) Try.underlying35 hir hr0 hr1 rfl ve rfl (own_cellsW KW.out.at3).1 ?_
       intro wn hk hb
       obtain ⟨gg, hgg⟩ : ∃ g, g = wc.heap.size := ⟨_, rfl⟩
       rw [← hgg] at hk
       rw [← hgg]
       have GG := qH hk
       replace KW := qH (KW.out.bel hb)
       clear hk hb hgg
       refine hK _ _ KW.out.off trivial ?_
       clear hK K hX
       (try simp only [Act.put, qA, qB, qC])
       have hX := KW.out.off
       obtain ⟨wc, hwc⟩ : ∃ v : World, v = wn := ⟨_, rfl⟩
       subst hwc
       refine mc_actB (i := 16) (o := ⟨some 112, _, _, _, _, _⟩) rfl (by kernel_rfl) rfl (fun K hK => ?_)
       refine wp_appW (base := H) (.tmp 100) (.tmp 111) 35 rfl 22 ir (.slice none 0 0) 24 Try.underlying35 hir hr0 hr1 hr2 rfl _ _ _ rfl KW.out.at2 _ [ve] rfl (rowB GG.out rfl (by decide)) (fun u hu => by rw [List.mem_singleton.1 hu]; exact (own_cellsW KW.out.at3).2) (HBH.out ve) (by decide) KW.out.hs ?_
       intro vx wn ho hg hw
       replace KW := qH (KW.out.grow2 ho hg hw)
       clear ho hg hw GG
       refine hK _ _ KW.out.off trivial ?_
       clear hK K hX
       (try simp only [Act.put, qA, qB, qC])
       have hX := KW.out.off
       obtain ⟨wc, hwc⟩ : ∃ v : World, v = wn := ⟨_, rfl⟩
       subst hwc
       refine mc_take (i := 17) (oi := ⟨some 9, _, _, _, _, _⟩) (v := ?_) rfl (by kernel_rfl) (by kernel_rfl) (by kernel_rfl) (fun _ _ _ h => h) rfl hX ?_ ?_; rotate_left; (intro W hW; go_simp; try with_reducible rfl); simp only [Act.put, qA, qB, qC]
       refine mc_take (i := 18) (oi := ⟨some 10, _, _, _, _, _⟩) (v := ?_) rfl (by kernel_rfl) (by kernel_rfl) (by kernel_rfl) (fun _ _ _ h => h) rfl hX ?_ ?_; rotate_left; (intro W hW; go_simp; try with_reducible rfl); simp only [Act.put, qA, qB, qC]
       refine wpAnyC_done (by kernel_rfl) ?_ _
       rw [HE1.out, HE3.out] at KW
       have S4 := qH (S3.out.push (bs := bw ++ [UInt8.ofNat b]) KW.out)
       have BD5 := qH (show Below H w4 wc from BD4.out.trans ((KW.out.off.below HDH.out S3.out.hs)))
       have e3 := wrap_one b (wj_256 HB2.out)
       have e4 := wrap_one' b (wj_256 HB2.out)
       clear hX hY g6
       go_wp2_with fail
       have HLM := qH (show (M ++ [(q, p.2 ++ [UInt8.ofNat b])]).map Prod.fst = M.map Prod.fst ++ [q] from by rw [List.map_append]; rfl)
       have HLS := qH (show (M ++ [(q, p.2 ++ [UInt8.ofNat b])]).map Prod.snd = M.map Prod.snd ++ [bw ++ [UInt8.ofNat b]] from by rw [List.map_append, HBP.out]; rfl)
       rw [← HLM.out, ← HLS.out] at S4
       exact ⟨⟨b + 1, tb6 (U' 0) vn vx ve v4 v5, _, _, M ++ [(q, p.2 ++ [UInt8.ofNat b])], updB t q true, HB2.out, by congr 1, rfl, rfl, HU0'.out, S4.out, DE.out, FE.out, BD5.out⟩, by simpa [intOf] using HMB.out⟩
    ·have hkf : ((f : Int) == (b : Int)) = false := by rw [beq_eq_false_iff_ne]; exact fun e => hfb (Int.ofNat_inj.1 e).symm
     have HFT := qH (show fsB ps (UInt8.ofNat b) = false by rw [HFS.out]; exact decide_eq_false fun e => hfb e.symm)
     clear hfb
     go_wp2_with fail
     exact ⟨⟨b + 1, U', X', xs, M, t, HB2.out, by congr 1, rfl, rfl, HU0'.out, S2.out, by rw [cpre_no HB2.out HFT.out]; exact DD'.out, FF'.out, BD3.out⟩, by simpa [intOf] using HMB.out⟩
   ·obtain rfl : 256 = b := Nat.le_antisymm (Nat.le_of_not_lt hb2) HB.out
    have b1 : ¬ ((256 : Int) < 256) := Int.lt_irrefl _
    have e3 := wrap_one i' (wj_m HMN.out HNF.out HIM'.out)
    have e4 := wrap_one' i' (wj_m HMN.out HNF.out HIM'.out)
    clear hb2
    go_wp2_with fail
    exact ⟨⟨i' + 1, U', X', xs, M, t, HIM'.out, by congr 1, rfl, rfl, HU0'.out, S'.out, by rw [← cpre_all HP.out]; exact DD'.out, FF'.out, B'.out⟩, by simpa [intOf] using HMX'.out⟩
  ·obtain rfl : i' = i := Nat.le_antisymm HI'.out (Nat.not_lt.1 him')
   have z1 : ¬ ((i' : Int) < (i' : Int)) := Int.lt_irrefl _
   have HDA := qH (show ddS sn (cndS D (fsB ps) L) = (M, t) by rw [← cnd_all (f := fsB ps) (Nat.le_of_eq HML.out.symm)]; exact DD'.out)
   have SN := qH (show ShL D (k + 1) M t from by
    have h1 := shL_next (f := fsB ps) (fsB_ok HCP.out) SL.out
    rw [HDA.out] at h1
    exact h1)
   have ST := qH S'.out.turn
   have HFA := qH (show farSw g n (U' 1) w' < farSw g n (.slice (some ⟨bs0, os, none⟩) i' cs2) wo from by
    have h1 := S'.out.seen
    have h2 := SO.out.seen
    rw [HU0'.out] at h1
    rw [HU0.out] at h2
    obtain ⟨A, c, h3⟩ := ownC_slice S'.out.own1
    unfold farSw
    rw [unm_own h1, unm_own h2, h3, List.length_map]
    have h4 := FF'.out.cnt
    have h5 := HMP.out
    show 2 * unm n t + (if M.length = 0 then 0 else 1) < 2 * unm n sn + (if i' = 0 then 0 else 1)
    rw [if_neg (by omega : ¬ i' = 0)]
    by_cases h6 : M.length = 0
    ·rw [if_pos h6]
     omega
    ·rw [if_neg h6]
     omega)
   have HMF := qH FF'.out.few
   have HMR := qH FF'.out.rng
   clear him'
   go_wp2_with fail
   exact ⟨⟨k + 1, M, t, putV (putV U' 1 (.slice none 0 0)) 2 (.slice none 0 0), _, xs, SN.out, HNO2.out, HU0'.out, rfl, rfl, ST.out, HMF.out, HMR.out, B'.out⟩, HFA.out⟩
end Go.Proofs.Ytaakdebcagdfgaa
