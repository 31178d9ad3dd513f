/-
  Texts of this proof, put together: LqT. No statement is proved here.
-/
import Derived.Test.YtlohehcfplkjbaaZBG
import Derived.Test.YtlohehcfplkjbaaZN
import Derived.Test.YtlohehcfplkjbaaZJ
import Derived.Test.YtlohehcfplkjbaaZM
namespace Go.Proofs.Ytlohehcfplkjbaa
open Go.RowKit
set_option linter.unusedSimpArgs false
set_option linter.unusedVariables false
set_option maxHeartbeats 8000000 in
set_option maxRecDepth 1000000 in
theorem least_apart_walk (C : LstC) (n c : Nat) (V : Value) (ps : List UInt8) (w : World) (hn : n < 256) (hc : c < 256) (hr : Row w V (bvs ps)) :
  Calls Try.prog 6 #[.int .u8 (n : Int), .int .u8 (c : Int), V] w fun e w' => e = .returned (.bool true) ∧ Below w.heap.size w w' := by
 have HCC := qH C
 clear C
 have R := qH hr
 obtain ⟨A, cap, rfl, _⟩ := hr
 rw [bvs_length] at R
 rw [bvs_length]
 have HN := qH hn
 have HC := qH hc
 obtain ⟨d0, hd0⟩ : ∃ d0, d0 = dcl (ctab [] 0) (.slice none 0 0) (.slice none 0 0) := ⟨_, rfl⟩
 have HDL := qH (show d0.length = 258 by rw [hd0]; exact dcl_len (ctab_length _ _))
 obtain ⟨id, hid, hdz⟩ := Option.map_eq_some_iff.1 inf_dfa
 rw [← hd0] at hdz
 have HDZ := qH hdz
 clear hd0 hdz hn hc
 go_enter Try.func6, Try.ntmps6
 go_wp2_with fail
 refine (begun12_any HCC.out w).mono ?_
 rintro e w1 ⟨rfl, hb⟩
 have B1 := qH hb
 clear hb
 by_cases hl : 60 < ps.length
 ·have x1 : (60 : Int) < (ps.length : Int) := Int.ofNat_lt.2 hl
  clear hl
  go_wp2_with fail
  go_ret
  exact ⟨rfl, B1.out⟩
 have x1 : ¬ (60 : Int) < (ps.length : Int) := fun h => hl (Int.ofNat_lt.1 h)
 have HL := qH (Nat.le_of_not_lt hl)
 clear hl
 go_wp2_with fail
 refine (playDfa_any n c ps _ w1 HN.out HC.out (R.out.below B1.out) HL.out).mono ?_
 rintro e w2 ⟨cs, rfl, hd, hb⟩
 obtain ⟨D, hD⟩ : ∃ D, D = dfaQ n c ps := ⟨_, rfl⟩
 rw [← hD] at hd
 have HM := qH (show MayD D by rw [hD]; exact dfaQ_may n c ps)
 have HK8 := qH (show D.next.length ≤ 8 by rw [hD, dfaQ_len]; exact k8L n)
 have HAC := qH (show AllC D by rw [hD]; exact dfaQ_allC n c ps)
 clear hD
 have VA := qH hd.dfa
 obtain ⟨An, Ae, cn, ce, vf, hcl, hcs, _⟩ := VA.out.form
 have HCS := qH hcs
 have HCLN := qH hcl
 have HLA := qH (show cs.length = 258 by rw [hcs]; exact dcl_len hcl)
 have HOA := qH (show cs.all (·.oneCell') = true by rw [hcs]; exact dcl_one)
 have HSA := qH (show (Try.prog.info? 28).map (·.size) = some cs.length from VA.out.size)
 have B2 := qH (B1.out.trans (hb.mono B1.out.size))
 clear hd hb hcl hcs
 have HCL2 := qH (show D.cl.length = 256 from HCLN.out)
 go_wp2_with fail
 refine (HCC.out.least D cs w2 VA.out HM.out HAC.out).mono ?_
 rintro e w3 ⟨xs, rfl, hx, hb⟩
 obtain ⟨E, hE⟩ : ∃ E, E = lstD D := ⟨_, rfl⟩
 rw [← hE] at hx
 have ME := qH (show MayD E by rw [hE]; exact lst_may HM.out HCL2.out)
 have AE := qH (show AllC E by rw [hE]; exact lst_allC HM.out HCL2.out)
 have HAP := qH (show ∀ a b, a < E.next.length → b < E.next.length → accD E a = accD E b → a = b from fun a b ha hb he => by
  rw [hE] at ha hb he
  exact lst_apart HM.out HCL2.out ha hb he)
 have X3 := qH hx
 have HEL := qH hx.form.choose_spec.choose_spec.choose_spec.choose_spec.choose_spec.1
 obtain ⟨k, hk⟩ : ∃ k, k = E.next.length := ⟨_, rfl⟩
 have HK := qH hk
 have HKP := qH (show 0 < k by rw [hk]; exact ME.out.pos)
 have HKF := qH (show k ≤ 2000 by rw [hk]; exact ME.out.few)
 obtain ⟨Bn, Be, dn, de, uf, hl2, hes, hxn, hxr, hxe⟩ := hx.form
 rw [ME.out.ends, ← hk] at hes hxe
 rw [← hk] at hxn
 have HXL := qH (show xs.length = 258 by rw [hes]; exact dcl_len hl2)
 have HXO := qH (show xs.all (·.oneCell') = true by rw [hes]; exact dcl_one)
 have HXS := qH (show (Try.prog.info? 28).map (·.size) = some xs.length from X3.out.size)
 have HES := qH hes
 have HLE2 := qH hl2
 obtain ⟨bn, on, rfl, hbn, hcn⟩ := hxn.at_ (by rw [List.length_map, List.length_range]; exact HKP.out)
 obtain ⟨be, oe, rfl, hbe, hce⟩ := hxe.at_ (by rw [bools_length, ME.out.ends, ← hk]; exact HKP.out)
 have HBN := qH hbn
 have HBE := qH hbe
 have CE := qH (show ∀ q, q < k → w3.cell? ⟨be, oe + q, none⟩ = some (.bool (E.ends.getD q false)) from fun q hq => hce q _ (by
  rw [bools, List.getElem?_map, List.getElem?_eq_getElem (by rw [ME.out.ends, ← hk]; exact hq), List.getD_eq_getElem?_getD, List.getElem?_eq_getElem (by rw [ME.out.ends, ← hk]; exact hq)]; rfl))
 obtain ⟨kd, hkd⟩ : ∃ k, k = clsA E.cl := ⟨_, rfl⟩
 have HKD := qH hkd
 have HKD2 := qH (show kd ≤ 256 by rw [hkd]; exact clsA_le _)
 have ROW := qH (show ∀ s, s < k → ∃ r Ar cr, E.next[s]? = some r ∧ r.length = kd ∧ w3.cell? ⟨bn, on + s, none⟩ = some (.slice Ar kd cr) ∧ Row w3 (.slice Ar kd cr) (nums .i64 r) from fun s hs => by
  obtain ⟨r, h1⟩ : ∃ r, E.next[s]? = some r := ⟨_, List.getElem?_eq_getElem (by rw [← hk]; exact hs)⟩
  have h2 : r.length = kd := by rw [hkd]; exact ME.out.rows r (List.mem_of_getElem? h1)
  have h3 := hxr s r h1
  have h3c := h3
  obtain ⟨Ar, cr, hvr, _⟩ := h3c
  rw [nums_length, h2] at hvr
  rw [hvr] at h3
  exact ⟨r, Ar, cr, h1, h2, hcn s _ (by simp [hs, hvr]), h3⟩)
 have B3 := qH (B2.out.trans (hb.mono B2.out.size))
 clear hx hb hE hes hl2 hxn hxr hxe hbn hcn hbe hce hk hkd
 obtain ⟨i2, hi2, hz2, hs2, hy2⟩ := infoP inf_bool
 obtain ⟨i3, hi3, hz3, hs3, hy3⟩ := infoP inf_bools
 have HY2 := qH (show i2.bytes * k ≤ 281474976710656 by have := HKF.out; rw [hy2]; omega)
 have HY3 := qH (show i3.bytes * k ≤ 281474976710656 by have := HKF.out; rw [hy3]; omega)
 have HN3 := qH (show k ≤ 9223372036854775807 by have := HKF.out; omega)
 clear hy2 hy3
 go_wp2_with (first
  | ((with_reducible refine atDst 7 ?_); refine wpList_new rfl 28 rfl id _ d0 hid HDZ.out rfl (Below.refl w3.heap.size w3) (Nat.le_refl _) ?_; intro w4 hk hb hs _; have K4 := qH hk; have B34 := qH hb; clear hk hb hs; (try simp only [Act.put, qA, qB, qC]))
  | ((with_reducible refine atStore 28 7 27 ?_); refine wpList_stBlk rfl 28 _ _ rfl w3.heap.size xs rfl rfl 28 _ K4.out HXS.out (by rw [HDL.out, HXL.out]) HXO.out B34.out (Nat.le_refl _) ?_; intro w5 hk hb hs ho; have K5 := qH hk; have B35 := qH hb; clear hk hb hs ho; (try simp only [Act.put, qA, qB, qC]))
  | ((with_reducible refine atDst 28 ?_); refine wpList_ldArr rfl 28 _ rfl w3.heap.size rfl 28 _ _ K5.out Try.underlying28 rfl HXS.out ?_; (try simp only [Act.put, qA, qB, qC])))
 refine (refMay11_any E xs w5 (X3.out.below B35.out) ME.out).mono ?_
 rintro e w6 ⟨rfl, hb⟩
 have K6 := qH (K5.out.below hb K5.out.lt)
 have B36 := qH (B35.out.trans (hb.mono B35.out.size))
 have B6 := qH (B3.out.trans (B36.out.mono B3.out.size))
 obtain ⟨gx, hgx⟩ : ∃ g, g = w3.heap.size := ⟨_, rfl⟩
 rw [← hgx] at K6
 rw [← hgx]
 have HBN6 := qH (Nat.lt_of_lt_of_le HBN.out B36.out.size)
 have HBE6 := qH (Nat.lt_of_lt_of_le HBE.out B36.out.size)
 have CE6 := qH (show ∀ V, Below w6.heap.size w6 V → ∀ q, q < k → V.cell? ⟨be, oe + q, none⟩ = some (.bool (E.ends.getD q false)) from fun V hV q hq => (hV.cell (p := ⟨be, oe + q, none⟩) HBE6.out).trans ((B36.out.cell (p := ⟨be, oe + q, none⟩) HBE.out).trans (CE.out q hq)))
 have C256 := qH (show ∀ V, Below w6.heap.size w6 V → V.cell? ⟨gx, 256, none⟩ = some (.slice (some ⟨bn, on, none⟩) k dn) from fun V hV => ((K6.out.below hV K6.out.lt).cell 256).trans (by rw [HES.out]; exact dcl_n HLE2.out))
 have C257 := qH (show ∀ V, Below w6.heap.size w6 V → V.cell? ⟨gx, 257, none⟩ = some (.slice (some ⟨be, oe, none⟩) k de) from fun V hV => ((K6.out.below hV K6.out.lt).cell 257).trans (by rw [HES.out]; exact dcl_e HLE2.out))
 have c256 := C256.out w6 (Below.refl _ _)
 clear hb hgx
 obtain ⟨g, hg⟩ : ∃ g, g = w6.heap.size := ⟨_, rfl⟩
 go_wp2_with ((with_reducible refine atDst 35 ?_); refine wpList_mk _ rfl _ _ 42 rfl 26 i3 (.slice none 0 0) Try.underlying42 hi3 hz3 hs3 rfl k _ _ _ _ rfl rfl rfl rfl HY3.out HN3.out ?_; intro w7 hk hb hs; rw [← hg] at hk; have T7 := qH (Tbl.new (B := g) hk (Nat.le_refl _) (fun _ => 0) (fun _ _ => false)); have B7 := qH hb; clear hk hb hs; rw [← hg]; (try simp only [Act.put, qA, qB, qC]))
 have HG := qH hg
 clear c256 hg
 go_loopw [10] (fun v wl => ∃ (i : Nat) (bs : Nat → Nat) (f : Nat → Nat → Bool), i ≤ k ∧ v = .int .i64 (i : Int) ∧ Tbl wl g g bs k i f ∧ (∀ a b, a < i → b < k → f a b = (E.ends.getD a false != E.ends.getD b false)) ∧ (∀ a, i ≤ a → ∀ b, f a b = false) ∧ Below w6.heap.size w6 wl) (fun v _ => k - (intOf v).toNat)
 case atStart => exact ⟨0, _, _, Nat.zero_le _, rfl, T7.out, fun a b ha => absurd ha (Nat.not_lt_zero a), fun _ _ _ => rfl, B7.out⟩
 clear T7 B7
 obtain ⟨i, bs, f, hi, rfl, ht, hf, hz, hb⟩ := hrel
 have HI := qH hi
 have TI := qH ht
 have FI := qH hf
 have ZI := qH hz
 have BI := qH hb
 obtain ⟨wi, hwi⟩ : ∃ v : World, v = wr := ⟨_, rfl⟩
 subst hwi
 clear hi ht hf hz hb
 by_cases hik : i < k
 ·have y1 : (i : Int) < (k : Int) := Int.ofNat_lt.2 hik
  have HIK := qH hik
  have HMI := qH (sub_next hik)
  have e3 := wrap_one i (lt_bigN hik HKF.out)
  have e4 := wrap_one' i (lt_bigN hik HKF.out)
  clear hik
  go_wp2_with ((with_reducible refine atDst 44 ?_); refine wpList_mk _ rfl _ _ 26 rfl 4 i2 (.bool false) Try.underlying26 hi2 hz2 hs2 rfl k _ _ _ _ rfl rfl rfl rfl HY2.out HN3.out ?_; intro w8 hk hb hs; have hfz := (TI.out.below hb).tfrozen i; have hcr := (TI.out.below hb).nil_ HIK.out (Nat.lt_irrefl i); have TM := qH (TI.out.more hb hk (fun q => ZI.out i (Nat.le_refl i) q)); have BM := qH (BI.out.trans (hb.mono BI.out.size)); clear hk hb hs; (try simp only [Act.put, qA, qB, qC]))
  have BM2 := qH (BM.out.setCell (p := ⟨g, i, none⟩) (Nat.le_of_eq HG.out.symm) (Value.slice (some ⟨wi.heap.size, 0, none⟩) k k))
  clear hfz hcr BM
  go_loopw [11] (fun v wl => ∃ (j : Nat) (bs : Nat → Nat) (f : Nat → Nat → Bool), j ≤ k ∧ v = .int .i64 (j : Int) ∧ Tbl wl g g bs k (i + 1) f ∧ (∀ a b, a < i → b < k → f a b = (E.ends.getD a false != E.ends.getD b false)) ∧ (∀ b, b < j → f i b = (E.ends.getD i false != E.ends.getD b false)) ∧ (∀ a, i + 1 ≤ a → ∀ b, f a b = false) ∧ Below w6.heap.size w6 wl) (fun v _ => k - (intOf v).toNat)
  case atStart => exact ⟨0, _, _, Nat.zero_le _, rfl, TM.out, FI.out, fun b hb => absurd hb (Nat.not_lt_zero b), fun a ha b => ZI.out a (Nat.le_of_succ_le ha) b, BM2.out⟩
  clear TM BM2 TI BI FI ZI
  obtain ⟨j, bs, f, hj, rfl, ht, hf, hfi, hz, hb⟩ := hrel
  have HJ := qH hj
  have TJ := qH ht
  have FJ := qH hf
  have FIJ := qH hfi
  have ZJ := qH hz
  have BJ := qH hb
  obtain ⟨wj, hwj⟩ : ∃ v : World, v = wr := ⟨_, rfl⟩
  subst hwj
  clear hj ht hf hfi hz hb
  by_cases hjk : j < k
  ·have z1 : (j : Int) < (k : Int) := Int.ofNat_lt.2 hjk
   have HJK := qH hjk
   have HMJ := qH (sub_next hjk)
   have f3 := wrap_one j (lt_bigN hjk HKF.out)
   have f4 := wrap_one' j (lt_bigN hjk HKF.out)
   obtain ⟨x, hx⟩ : ∃ x, E.ends.getD i false = x := ⟨_, rfl⟩
   obtain ⟨y, hy⟩ : ∃ x, E.ends.getD j false = x := ⟨_, rfl⟩
   obtain ⟨z, hz⟩ : ∃ z, (x != y) = z := ⟨_, rfl⟩
   have HX := qH hx
   have HYE := qH hy
   have HZ := qH hz
   have TO := qH (show ∀ V, Below wj.heap.size wj V → Below w6.heap.size w6 V from fun V hV => BJ.out.trans (hV.mono BJ.out.size))
   clear hjk hx hy hz
   go_wp2_with fail
   refine mc_start (fun _ => True) (fun V => Below wj.heap.size wj V) 17 (by kernel_rfl) (fun wd hwd => ?_)
   have hX : True := trivial
   have hY : Below wj.heap.size wj wd := by rw [hwd]; exact (Below.refl _ _).drew
   clear hwd
   refine mc_take (i := 0) (oi := ⟨some 51, _, _, _, _, _⟩) (v := ?_) rfl (by kernel_rfl) (by kernel_rfl) (by kernel_rfl) (fun _ _ _ h => h) rfl hX ?_ ?_; rotate_left; (intro W hW; go_simp; try with_reducible rfl); simp only [Act.put, qA, qB, qC]
   refine mc_take (i := 1) (oi := ⟨some 52, _, _, _, _, _⟩) (v := ?_) rfl (by kernel_rfl) (by kernel_rfl) (by kernel_rfl) (fun _ _ _ h => h) rfl hX ?_ ?_; rotate_left; (intro W hW; go_simp; try with_reducible rfl); simp only [Act.put, qA, qB, qC]
   refine mc_take (i := 2) (oi := ⟨some 53, _, _, _, _, _⟩) (v := ?_) rfl (by kernel_rfl) (by kernel_rfl) (by kernel_rfl) (fun _ _ _ h => h) rfl hX ?_ ?_; rotate_left; (intro W hW; go_simp; try with_reducible rfl); simp only [Act.put, qA, qB, qC]
   refine mc_takeS (i := 3) (oi := ⟨some 54, _, _, _, _, _⟩) (v := .slice (some ⟨bs i, 0, none⟩) k k) rfl (by kernel_rfl) (by kernel_rfl) (by kernel_rfl) (fun _ _ _ h => h) rfl hX hY (fun V _ hV => ld_bls (.tmp 53) rfl rfl ((TJ.out.below hV).at_ HIK.out (Nat.lt_succ_self i))) ?_; simp only [Act.put, qA, qB, qC]
   refine mc_take (i := 4) (oi := ⟨some 55, _, _, _, _, _⟩) (v := ?_) rfl (by kernel_rfl) (by kernel_rfl) (by kernel_rfl) (fun _ _ _ h => h) rfl hX ?_ ?_; rotate_left; (intro W hW; go_simp; try with_reducible rfl); simp only [Act.put, qA, qB, qC]
   refine mc_take (i := 5) (oi := ⟨some 56, _, _, _, _, _⟩) (v := ?_) rfl (by kernel_rfl) (by kernel_rfl) (by kernel_rfl) (fun _ _ _ h => h) rfl hX ?_ ?_; rotate_left; (intro W hW; go_simp; try with_reducible rfl); simp only [Act.put, qA, qB, qC]
   refine mc_takeS (i := 6) (oi := ⟨some 57, _, _, _, _, _⟩) (v := .slice (some ⟨be, oe, none⟩) k de) rfl (by kernel_rfl) (by kernel_rfl) (by kernel_rfl) (fun _ _ _ h => h) rfl hX hY (fun V _ hV => ld_bls (.tmp 56) rfl rfl (C257.out V (TO.out V hV))) ?_; simp only [Act.put, qA, qB, qC]
   refine mc_take (i := 7) (oi := ⟨some 58, _, _, _, _, _⟩) (v := ?_) rfl (by kernel_rfl) (by kernel_rfl) (by kernel_rfl) (fun _ _ _ h => h) rfl hX ?_ ?_; rotate_left; (intro W hW; go_simp; try with_reducible rfl); simp only [Act.put, qA, qB, qC]
   refine mc_take (i := 8) (oi := ⟨some 59, _, _, _, _, _⟩) (v := ?_) rfl (by kernel_rfl) (by kernel_rfl) (by kernel_rfl) (fun _ _ _ h => h) rfl hX ?_ ?_; rotate_left; (intro W hW; go_simp; try with_reducible rfl); simp only [Act.put, qA, qB, qC]
   refine mc_takeS (i := 9) (oi := ⟨some 60, _, _, _, _, _⟩) (v := .bool x) rfl (by kernel_rfl) (by kernel_rfl) (by kernel_rfl) (fun _ _ _ h => h) rfl hX hY (fun V _ hV => ld_b (.tmp 59) rfl rfl ((CE6.out V (TO.out V hV) i HIK.out).trans (by rw [HX.out]))) ?_; simp only [Act.put, qA, qB, qC]
   refine mc_take (i := 10) (oi := ⟨some 61, _, _, _, _, _⟩) (v := ?_) rfl (by kernel_rfl) (by kernel_rfl) (by kernel_rfl) (fun _ _ _ h => h) rfl hX ?_ ?_; rotate_left; (intro W hW; go_simp; try with_reducible rfl); simp only [Act.put, qA, qB, qC]
   refine mc_takeS (i := 11) (oi := ⟨some 62, _, _, _, _, _⟩) (v := .slice (some ⟨be, oe, none⟩) k de) rfl (by kernel_rfl) (by kernel_rfl) (by kernel_rfl) (fun _ _ _ h => h) rfl hX hY (fun V _ hV => ld_bls (.tmp 61) rfl rfl (C257.out V (TO.out V hV))) ?_; simp only [Act.put, qA, qB, qC]
   refine mc_take (i := 12) (oi := ⟨some 63, _, _, _, _, _⟩) (v := ?_) rfl (by kernel_rfl) (by kernel_rfl) (by kernel_rfl) (fun _ _ _ h => h) rfl hX ?_ ?_; rotate_left; (intro W hW; go_simp; try with_reducible rfl); simp only [Act.put, qA, qB, qC]
   refine mc_take (i := 13) (oi := ⟨some 64, _, _, _, _, _⟩) (v := ?_) rfl (by kernel_rfl) (by kernel_rfl) (by kernel_rfl) (fun _ _ _ h => h) rfl hX ?_ ?_; rotate_left; (intro W hW; go_simp; try with_reducible rfl); simp only [Act.put, qA, qB, qC]
   refine mc_takeS (i := 14) (oi := ⟨some 65, _, _, _, _, _⟩) (v := .bool y) rfl (by kernel_rfl) (by kernel_rfl) (by kernel_rfl) (fun _ _ _ h => h) rfl hX hY (fun V _ hV => ld_b (.tmp 64) rfl rfl ((CE6.out V (TO.out V hV) j HJK.out).trans (by rw [HYE.out]))) ?_; simp only [Act.put, qA, qB, qC]
   refine mc_take (i := 15) (oi := ⟨some 66, _, _, _, _, _⟩) (v := .bool z) rfl (by kernel_rfl) (by kernel_rfl) (by kernel_rfl) (fun _ _ _ h => h) rfl hX (fun V _ => ex_neP (.tmp 60) (.tmp 65) rfl rfl rfl HZ.out V) ?_; simp only [Act.put, qA, qB, qC]
   refine mc_take (i := 16) (oi := ⟨some 67, _, _, _, _, _⟩) (v := ?_) rfl (by kernel_rfl) (by kernel_rfl) (by kernel_rfl) (fun _ _ _ h => h) rfl hX ?_ ?_; rotate_left; (intro W hW; go_simp; try with_reducible rfl); simp only [Act.put, qA, qB, qC]
   refine mc_last (i := 17) (o := ⟨none, _, _, _, _, _⟩) rfl (by kernel_rfl) rfl (fun K hK => ?_)
   have TD := qH (TJ.out.below hY)
   have BD := qH (TO.out wd hY)
   clear hY
   refine wp_stB (.tmp 67) (.tmp 66) rfl (bs i) j rfl z rfl _ (TD.out.cell (Nat.lt_succ_self i) HJK.out) (TD.out.frozen (Nat.lt_succ_self i) j) ?_
   refine hK _ _ trivial ?_
   clear hK K hX
   (try simp only [Act.put, qA, qB, qC])
   refine wpAnyC_done (by kernel_rfl) ?_ _
   have TP := qH (TD.out.put (Nat.lt_succ_self i) j z)
   have BP := qH (BD.out.setCell (p := ⟨bs i, j, none⟩) (by rw [← HG.out]; exact TD.out.bbase i (Nat.lt_succ_self i)) (Value.bool z))
   have FP := qH (show ∀ a b, a < i → b < k → upd2 f i j z a b = (E.ends.getD a false != E.ends.getD b false) from fun a b ha hb => by
    unfold upd2
    rw [if_neg (Nat.ne_of_lt ha)]
    exact FJ.out a b ha hb)
   have FIP := qH (show ∀ b, b < j + 1 → upd2 f i j z i b = (E.ends.getD i false != E.ends.getD b false) from fun b hb => by
    unfold upd2 updB
    rw [if_pos rfl]
    by_cases e : b = j
    ·rw [if_pos e, e, HX.out, HYE.out, HZ.out]
    ·rw [if_neg e]
     exact FIJ.out b (Nat.lt_of_le_of_ne (Nat.le_of_lt_succ hb) e))
   have ZP := qH (show ∀ a, i + 1 ≤ a → ∀ b, upd2 f i j z a b = false from fun a ha b => by
    unfold upd2
    rw [if_neg (Nat.ne_of_gt ha)]
    exact ZJ.out a ha b)
   go_wp2_with fail
   exact ⟨⟨j + 1, _, _, HJK.out, by congr 1, TP.out, FP.out, FIP.out, ZP.out, BP.out⟩, by simpa [intOf] using HMJ.out⟩
  ·obtain rfl : k = j := Nat.le_antisymm (Nat.le_of_not_lt hjk) HJ.out
   have z1 : ¬ ((k : Int) < (k : Int)) := Int.lt_irrefl _
   have FA := qH (show ∀ a b, a < i + 1 → b < k → f a b = (E.ends.getD a false != E.ends.getD b false) from fun a b ha hb => by
    rcases Nat.lt_succ_iff_lt_or_eq.1 ha with h | h
    ·exact FJ.out a b h hb
    ·rw [h]; exact FIJ.out b hb)
   clear hjk
   go_wp2_with fail
   exact ⟨⟨i + 1, _, _, HIK.out, by congr 1, TJ.out, FA.out, ZJ.out, BJ.out⟩, by simpa [intOf] using HMI.out⟩
 ·obtain rfl : k = i := Nat.le_antisymm (Nat.le_of_not_lt hik) HI.out
  have y1 : ¬ ((k : Int) < (k : Int)) := Int.lt_irrefl _
  have RZ := qH (Rdx.zero (k := k) (f := f) ME.out HLE2.out AE.out FI.out)
  have TZ := qH TI.out
  have BZ := qH BI.out
  clear hik TI BI FI ZI HI
  go_wp2_with fail
  go_loopw [12] (fun v wl => ∃ (r : Nat) (f : Nat → Nat → Bool), r ≤ k ∧ v = .int .i64 (r : Int) ∧ Tbl wl g g bs k k f ∧ Rdx E k r 0 0 0 f ∧ Below w6.heap.size w6 wl) (fun v _ => k - (intOf v).toNat)
  case atStart => exact ⟨0, _, Nat.zero_le _, rfl, TZ.out, RZ.out, BZ.out⟩
  clear TZ RZ BZ
  obtain ⟨r, f, hr, rfl, ht, hx, hb⟩ := hrel
  have HR := qH hr
  have TR := qH ht
  have XR := qH hx
  have BR := qH hb
  clear hr ht hx hb
  by_cases hrk : r < k
  ·have y1 : (r : Int) < (k : Int) := Int.ofNat_lt.2 hrk
   have HRK := qH hrk
   have HMR := qH (sub_next hrk)
   have r3 := wrap_one r (lt_bigN hrk HKF.out)
   have r4 := wrap_one' r (lt_bigN hrk HKF.out)
   clear hrk
   go_wp2_with fail
   go_loopw [13] (fun v wl => ∃ (i : Nat) (f : Nat → Nat → Bool), i ≤ k ∧ v = .int .i64 (i : Int) ∧ Tbl wl g g bs k k f ∧ Rdx E k r i 0 0 f ∧ Below w6.heap.size w6 wl) (fun v _ => k - (intOf v).toNat)
   case atStart => exact ⟨0, _, Nat.zero_le _, rfl, TR.out, XR.out, BR.out⟩
   clear TR XR BR
   obtain ⟨i, f, hi, rfl, ht, hx, hb⟩ := hrel
   have HI := qH hi
   have TI := qH ht
   have XI := qH hx
   have BI := qH hb
   clear hi ht hx hb
   by_cases hik : i < k
   ·have y2 : (i : Int) < (k : Int) := Int.ofNat_lt.2 hik
    have HIK := qH hik
    have HMI := qH (sub_next hik)
    have e3 := wrap_one i (lt_bigN hik HKF.out)
    have e4 := wrap_one' i (lt_bigN hik HKF.out)
    clear hik
    go_wp2_with fail
    go_loopw [14] (fun v wl => ∃ (j : Nat) (f : Nat → Nat → Bool), j ≤ k ∧ v = .int .i64 (j : Int) ∧ Tbl wl g g bs k k f ∧ Rdx E k r i j 0 f ∧ Below w6.heap.size w6 wl) (fun v _ => k - (intOf v).toNat)
    case atStart => exact ⟨0, _, Nat.zero_le _, rfl, TI.out, XI.out, BI.out⟩
    clear TI XI BI
    obtain ⟨j, f, hj, rfl, ht, hx, hb⟩ := hrel
    have HJ := qH hj
    have TJ := qH ht
    have XJ := qH hx
    have BJ := qH hb
    clear hj ht hx hb
    by_cases hjk : j < k
    ·have y3 : (j : Int) < (k : Int) := Int.ofNat_lt.2 hjk
     have HJK := qH hjk
     have HMJ := qH (sub_next hjk)
     have f3 := wrap_one j (lt_bigN hjk HKF.out)
     have f4 := wrap_one' j (lt_bigN hjk HKF.out)
     obtain ⟨ri, Ai, ci, hi1, hi2', hi3', hi4⟩ := ROW.out i HIK.out
     obtain ⟨rk, Ak, ck, hk1, hk2, hk3, hk4⟩ := ROW.out j HJK.out
     have I1 := qH hi1
     have I2 := qH hi2'
     have I3 := qH hi3'
     have I4 := qH hi4
     have J1 := qH hk1
     have J2 := qH hk2
     have J3 := qH hk3
     have J4 := qH hk4
     clear hi1 hi2' hi3' hi4 hk1 hk2 hk3 hk4 hjk
     go_wp2_with fail
     go_loopw [15] (fun v wl => ∃ (x : Nat) (f : Nat → Nat → Bool), x ≤ kd ∧ v = .int .i64 (x : Int) ∧ Tbl wl g g bs k k f ∧ Rdx E k r i j x f ∧ Below w6.heap.size w6 wl) (fun v _ => kd - (intOf v).toNat)
     case atStart => exact ⟨0, _, Nat.zero_le _, rfl, TJ.out, XJ.out, BJ.out⟩
     clear TJ XJ BJ
     obtain ⟨x, f, hx0, rfl, ht, hx, hb⟩ := hrel
     have HX := qH hx0
     have TX := qH ht
     have XX := qH hx
     have BX := qH hb
     obtain ⟨wx, hwx⟩ : ∃ v : World, v = wr := ⟨_, rfl⟩
     subst hwx
     clear hx0 ht hx hb
     have c256 := C256.out wx BX.out
     have cri : wx.cell? ⟨bn, on + i, none⟩ = some (.slice Ai kd ci) := (BX.out.cell (p := ⟨bn, on + i, none⟩) HBN6.out).trans ((B36.out.cell (p := ⟨bn, on + i, none⟩) HBN.out).trans I3.out)
     by_cases hxk : x < kd
     ·have z1 : (x : Int) < (kd : Int) := Int.ofNat_lt.2 hxk
      have HXK := qH hxk
      have HMX := qH (sub_next hxk)
      have g3 := wrap_one x (lt_k256 hxk HKD2.out)
      have g4 := wrap_one' x (lt_k256 hxk HKD2.out)
      have cell : ∀ (s u : Nat) (r : List Int) (Ar : Option Addr) (cr : Nat), s < k → stC E s x = u → E.next[s]? = some r → r.length = kd → Row w3 (.slice Ar kd cr) (nums .i64 r) → u < k ∧ ∃ b o, Ar = some ⟨b, o, none⟩ ∧ b < w3.heap.size ∧ w3.cell? ⟨b, o + x, none⟩ = some (.int .i64 (u : Int)) := fun s u r Ar cr hs hu h1 h2 h3 => by
       obtain ⟨r', e1, _, e3, e4⟩ := may_cell ME.out (s := s) (k := x) (by rw [← HK.out]; exact hs) (by rw [← HKD.out]; exact hxk)
       obtain rfl : r' = r := Option.some.inj (e1.symm.trans h1)
       obtain ⟨b, o, rfl, h4, h5⟩ := h3.at_ (by rw [nums_length, h2]; exact Nat.lt_of_le_of_lt (Nat.zero_le _) hxk)
       rw [hu] at e3 e4
       exact ⟨by rw [HK.out]; exact e4, b, o, rfl, h4, h5 x _ (by simp [nums, e3])⟩
      obtain ⟨u, hu⟩ : ∃ u, stC E i x = u := ⟨_, rfl⟩
      obtain ⟨v, hv⟩ : ∃ v, stC E j x = v := ⟨_, rfl⟩
      obtain ⟨hun, b1, o1, rfl, l1, c1⟩ := cell i u ri Ai ci HIK.out hu I1.out I2.out I4.out
      obtain ⟨hvn, b2, o2, hak, l2, c2⟩ := cell j v rk Ak ck HJK.out hv J1.out J2.out J4.out
      have HAK := qH hak
      have HU := qH hu
      have HV := qH hv
      have HUN := qH hun
      have HVN := qH hvn
      have TOX := qH (show ∀ V, Below wx.heap.size wx V → Below w3.heap.size w3 V from fun V hV => B36.out.trans ((BX.out.trans (hV.mono BX.out.size)).mono B36.out.size))
      have TO6 := qH (show ∀ V, Below wx.heap.size wx V → Below w6.heap.size w6 V from fun V hV => BX.out.trans (hV.mono BX.out.size))
      have L1 := qH l1
      have L2 := qH l2
      have C1 := qH c1
      have C2 := qH c2
      have J3b := qH (show w3.cell? ⟨bn, on + j, none⟩ = some (.slice (some ⟨b2, o2, none⟩) kd ck) by rw [← hak]; exact J3.out)
      have yu : (u : Int) < (k : Int) := Int.ofNat_lt.2 hun
      have yv : (v : Int) < (k : Int) := Int.ofNat_lt.2 hvn
      obtain ⟨p, hp⟩ : ∃ p, f i j = p := ⟨_, rfl⟩
      obtain ⟨q, hq⟩ : ∃ p, f u v = p := ⟨_, rfl⟩
      have HP := qH hp
      have HQ := qH hq
      have XN := qH (show Rdx E k r i j (x + 1) (upd2 f i j (p || q)) by
       rw [← hp, ← hq]
       exact XX.out.step ME.out HLE2.out AE.out HK.out HIK.out HJK.out (by rw [← HKD.out]; exact hxk) hu hv hun hvn)
      clear hu hv cell l1 l2 c1 c2 hun hvn hxk hp hq hak
      go_wp2_with fail
      clear c256 cri
      refine mc_start (fun _ => True) (fun V => Below wx.heap.size wx V) 36 (by kernel_rfl) (fun wd hwd => ?_)
      have hX : True := trivial
      have hY : Below wx.heap.size wx wd := by rw [hwd]; exact (Below.refl _ _).drew
      clear hwd
      cases p with
      | false =>
       refine mc_take (i := 0) (oi := ⟨some 93, _, _, _, _, _⟩) (v := ?_) rfl (by kernel_rfl) (by kernel_rfl) (by kernel_rfl) (fun _ _ _ h => h) rfl hX ?_ ?_; rotate_left; (intro W hW; go_simp; try with_reducible rfl); simp only [Act.put, qA, qB, qC]
       refine mc_take (i := 1) (oi := ⟨some 94, _, _, _, _, _⟩) (v := ?_) rfl (by kernel_rfl) (by kernel_rfl) (by kernel_rfl) (fun _ _ _ h => h) rfl hX ?_ ?_; rotate_left; (intro W hW; go_simp; try with_reducible rfl); simp only [Act.put, qA, qB, qC]
       refine mc_take (i := 2) (oi := ⟨some 95, _, _, _, _, _⟩) (v := ?_) rfl (by kernel_rfl) (by kernel_rfl) (by kernel_rfl) (fun _ _ _ h => h) rfl hX ?_ ?_; rotate_left; (intro W hW; go_simp; try with_reducible rfl); simp only [Act.put, qA, qB, qC]
       refine mc_takeS (i := 3) (oi := ⟨some 96, _, _, _, _, _⟩) (v := .slice (some ⟨bs i, 0, none⟩) k k) rfl (by kernel_rfl) (by kernel_rfl) (by kernel_rfl) (fun _ _ _ h => h) rfl hX hY (fun V _ hV => ld_bls (.tmp 95) rfl rfl ((TX.out.below hV).at_ HIK.out HIK.out)) ?_; simp only [Act.put, qA, qB, qC]
       refine mc_take (i := 4) (oi := ⟨some 97, _, _, _, _, _⟩) (v := ?_) rfl (by kernel_rfl) (by kernel_rfl) (by kernel_rfl) (fun _ _ _ h => h) rfl hX ?_ ?_; rotate_left; (intro W hW; go_simp; try with_reducible rfl); simp only [Act.put, qA, qB, qC]
       refine mc_take (i := 5) (oi := ⟨some 98, _, _, _, _, _⟩) (v := ?_) rfl (by kernel_rfl) (by kernel_rfl) (by kernel_rfl) (fun _ _ _ h => h) rfl hX ?_ ?_; rotate_left; (intro W hW; go_simp; try with_reducible rfl); simp only [Act.put, qA, qB, qC]
       refine mc_take (i := 6) (oi := ⟨some 99, _, _, _, _, _⟩) (v := ?_) rfl (by kernel_rfl) (by kernel_rfl) (by kernel_rfl) (fun _ _ _ h => h) rfl hX ?_ ?_; rotate_left; (intro W hW; go_simp; try with_reducible rfl); simp only [Act.put, qA, qB, qC]
       refine mc_take (i := 7) (oi := ⟨some 100, _, _, _, _, _⟩) (v := ?_) rfl (by kernel_rfl) (by kernel_rfl) (by kernel_rfl) (fun _ _ _ h => h) rfl hX ?_ ?_; rotate_left; (intro W hW; go_simp; try with_reducible rfl); simp only [Act.put, qA, qB, qC]
       refine mc_takeS (i := 8) (oi := ⟨some 101, _, _, _, _, _⟩) (v := .slice (some ⟨bs i, 0, none⟩) k k) rfl (by kernel_rfl) (by kernel_rfl) (by kernel_rfl) (fun _ _ _ h => h) rfl hX hY (fun V _ hV => ld_bls (.tmp 100) rfl rfl ((TX.out.below hV).at_ HIK.out HIK.out)) ?_; simp only [Act.put, qA, qB, qC]
       refine mc_take (i := 9) (oi := ⟨some 102, _, _, _, _, _⟩) (v := ?_) rfl (by kernel_rfl) (by kernel_rfl) (by kernel_rfl) (fun _ _ _ h => h) rfl hX ?_ ?_; rotate_left; (intro W hW; go_simp; try with_reducible rfl); simp only [Act.put, qA, qB, qC]
       refine mc_take (i := 10) (oi := ⟨some 103, _, _, _, _, _⟩) (v := ?_) rfl (by kernel_rfl) (by kernel_rfl) (by kernel_rfl) (fun _ _ _ h => h) rfl hX ?_ ?_; rotate_left; (intro W hW; go_simp; try with_reducible rfl); simp only [Act.put, qA, qB, qC]
       refine mc_takeS (i := 11) (oi := ⟨some 104, _, _, _, _, _⟩) (v := .bool false) rfl (by kernel_rfl) (by kernel_rfl) (by kernel_rfl) (fun _ _ _ h => h) rfl hX hY (fun V _ hV => ld_b (.tmp 103) rfl rfl (((TX.out.below hV).cell HIK.out HJK.out).trans (by rw [HP.out]))) ?_; simp only [Act.put, qA, qB, qC]
       refine mc_take (i := 12) (oi := ⟨some 105, _, _, _, _, _⟩) (v := ?_) rfl (by kernel_rfl) (by kernel_rfl) (by kernel_rfl) (fun _ _ _ h => h) rfl hX ?_ ?_; rotate_left; (intro W hW; go_simp; try with_reducible rfl); simp only [Act.put, qA, qB, qC]
       refine mc_take (i := 13) (oi := ⟨some 106, _, _, _, _, _⟩) (v := ?_) rfl (by kernel_rfl) (by kernel_rfl) (by kernel_rfl) (fun _ _ _ h => h) rfl hX ?_ ?_; rotate_left; (intro W hW; go_simp; try with_reducible rfl); simp only [Act.put, qA, qB, qC]
       refine mc_take (i := 14) (oi := ⟨some 107, _, _, _, _, _⟩) (v := ?_) rfl (by kernel_rfl) (by kernel_rfl) (by kernel_rfl) (fun _ _ _ h => h) rfl hX ?_ ?_; rotate_left; (intro W hW; go_simp; try with_reducible rfl); simp only [Act.put, qA, qB, qC]
       refine mc_takeS (i := 15) (oi := ⟨some 108, _, _, _, _, _⟩) (v := .slice (some ⟨bn, on, none⟩) k dn) rfl (by kernel_rfl) (by kernel_rfl) (by kernel_rfl) (fun _ _ _ h => h) rfl hX hY (fun V _ hV => ld_inss (.tmp 107) rfl rfl (C256.out V (TO6.out V hV))) ?_; simp only [Act.put, qA, qB, qC]
       refine mc_take (i := 16) (oi := ⟨some 109, _, _, _, _, _⟩) (v := ?_) rfl (by kernel_rfl) (by kernel_rfl) (by kernel_rfl) (fun _ _ _ h => h) rfl hX ?_ ?_; rotate_left; (intro W hW; go_simp; try with_reducible rfl); simp only [Act.put, qA, qB, qC]
       refine mc_take (i := 17) (oi := ⟨some 110, _, _, _, _, _⟩) (v := ?_) rfl (by kernel_rfl) (by kernel_rfl) (by kernel_rfl) (fun _ _ _ h => h) rfl hX ?_ ?_; rotate_left; (intro W hW; go_simp; try with_reducible rfl); simp only [Act.put, qA, qB, qC]
       refine mc_takeS (i := 18) (oi := ⟨some 111, _, _, _, _, _⟩) (v := .slice (some ⟨b1, o1, none⟩) kd ci) rfl (by kernel_rfl) (by kernel_rfl) (by kernel_rfl) (fun _ _ _ h => h) rfl hX hY (fun V _ hV => ld_ints9 (.tmp 110) rfl rfl (((TOX.out V hV).cell (p := ⟨bn, on + i, none⟩) HBN.out).trans I3.out)) ?_; simp only [Act.put, qA, qB, qC]
       refine mc_take (i := 19) (oi := ⟨some 112, _, _, _, _, _⟩) (v := ?_) rfl (by kernel_rfl) (by kernel_rfl) (by kernel_rfl) (fun _ _ _ h => h) rfl hX ?_ ?_; rotate_left; (intro W hW; go_simp; try with_reducible rfl); simp only [Act.put, qA, qB, qC]
       refine mc_take (i := 20) (oi := ⟨some 113, _, _, _, _, _⟩) (v := ?_) rfl (by kernel_rfl) (by kernel_rfl) (by kernel_rfl) (fun _ _ _ h => h) rfl hX ?_ ?_; rotate_left; (intro W hW; go_simp; try with_reducible rfl); simp only [Act.put, qA, qB, qC]
       refine mc_takeS (i := 21) (oi := ⟨some 114, _, _, _, _, _⟩) (v := .int .i64 (u : Int)) rfl (by kernel_rfl) (by kernel_rfl) (by kernel_rfl) (fun _ _ _ h => h) rfl hX hY (fun V _ hV => ld_int9 (.tmp 113) rfl rfl (((TOX.out V hV).cell (p := ⟨b1, o1 + x, none⟩) L1.out).trans C1.out)) ?_; simp only [Act.put, qA, qB, qC]
       refine mc_take (i := 22) (oi := ⟨some 115, _, _, _, _, _⟩) (v := ?_) rfl (by kernel_rfl) (by kernel_rfl) (by kernel_rfl) (fun _ _ _ h => h) rfl hX ?_ ?_; rotate_left; (intro W hW; go_simp; try with_reducible rfl); simp only [Act.put, qA, qB, qC]
       refine mc_takeS (i := 23) (oi := ⟨some 116, _, _, _, _, _⟩) (v := .slice (some ⟨bs u, 0, none⟩) k k) rfl (by kernel_rfl) (by kernel_rfl) (by kernel_rfl) (fun _ _ _ h => h) rfl hX hY (fun V _ hV => ld_bls (.tmp 115) rfl rfl ((TX.out.below hV).at_ HUN.out HUN.out)) ?_; simp only [Act.put, qA, qB, qC]
       refine mc_take (i := 24) (oi := ⟨some 117, _, _, _, _, _⟩) (v := ?_) rfl (by kernel_rfl) (by kernel_rfl) (by kernel_rfl) (fun _ _ _ h => h) rfl hX ?_ ?_; rotate_left; (intro W hW; go_simp; try with_reducible rfl); simp only [Act.put, qA, qB, qC]
       refine mc_takeS (i := 25) (oi := ⟨some 118, _, _, _, _, _⟩) (v := .slice (some ⟨bn, on, none⟩) k dn) rfl (by kernel_rfl) (by kernel_rfl) (by kernel_rfl) (fun _ _ _ h => h) rfl hX hY (fun V _ hV => ld_inss (.tmp 117) rfl rfl (C256.out V (TO6.out V hV))) ?_; simp only [Act.put, qA, qB, qC]
       refine mc_take (i := 26) (oi := ⟨some 119, _, _, _, _, _⟩) (v := ?_) rfl (by kernel_rfl) (by kernel_rfl) (by kernel_rfl) (fun _ _ _ h => h) rfl hX ?_ ?_; rotate_left; (intro W hW; go_simp; try with_reducible rfl); simp only [Act.put, qA, qB, qC]
       refine mc_take (i := 27) (oi := ⟨some 120, _, _, _, _, _⟩) (v := ?_) rfl (by kernel_rfl) (by kernel_rfl) (by kernel_rfl) (fun _ _ _ h => h) rfl hX ?_ ?_; rotate_left; (intro W hW; go_simp; try with_reducible rfl); simp only [Act.put, qA, qB, qC]
       refine mc_takeS (i := 28) (oi := ⟨some 121, _, _, _, _, _⟩) (v := .slice (some ⟨b2, o2, none⟩) kd ck) rfl (by kernel_rfl) (by kernel_rfl) (by kernel_rfl) (fun _ _ _ h => h) rfl hX hY (fun V _ hV => ld_ints9 (.tmp 120) rfl rfl (((TOX.out V hV).cell (p := ⟨bn, on + j, none⟩) HBN.out).trans J3b.out)) ?_; simp only [Act.put, qA, qB, qC]
       refine mc_take (i := 29) (oi := ⟨some 122, _, _, _, _, _⟩) (v := ?_) rfl (by kernel_rfl) (by kernel_rfl) (by kernel_rfl) (fun _ _ _ h => h) rfl hX ?_ ?_; rotate_left; (intro W hW; go_simp; try with_reducible rfl); simp only [Act.put, qA, qB, qC]
       refine mc_take (i := 30) (oi := ⟨some 123, _, _, _, _, _⟩) (v := ?_) rfl (by kernel_rfl) (by kernel_rfl) (by kernel_rfl) (fun _ _ _ h => h) rfl hX ?_ ?_; rotate_left; (intro W hW; go_simp; try with_reducible rfl); simp only [Act.put, qA, qB, qC]
       refine mc_takeS (i := 31) (oi := ⟨some 124, _, _, _, _, _⟩) (v := .int .i64 (v : Int)) rfl (by kernel_rfl) (by kernel_rfl) (by kernel_rfl) (fun _ _ _ h => h) rfl hX hY (fun V _ hV => ld_int9 (.tmp 123) rfl rfl (((TOX.out V hV).cell (p := ⟨b2, o2 + x, none⟩) L2.out).trans C2.out)) ?_; simp only [Act.put, qA, qB, qC]
       refine mc_take (i := 32) (oi := ⟨some 125, _, _, _, _, _⟩) (v := ?_) rfl (by kernel_rfl) (by kernel_rfl) (by kernel_rfl) (fun _ _ _ h => h) rfl hX ?_ ?_; rotate_left; (intro W hW; go_simp; try with_reducible rfl); simp only [Act.put, qA, qB, qC]
       refine mc_takeS (i := 33) (oi := ⟨some 126, _, _, _, _, _⟩) (v := .bool q) rfl (by kernel_rfl) (by kernel_rfl) (by kernel_rfl) (fun _ _ _ h => h) rfl hX hY (fun V _ hV => ld_b (.tmp 125) rfl rfl (((TX.out.below hV).cell HUN.out HVN.out).trans (by rw [HQ.out]))) ?_; simp only [Act.put, qA, qB, qC]
       refine mc_take (i := 34) (oi := ⟨some 127, _, _, _, _, _⟩) (v := ?_) rfl (by kernel_rfl) (by kernel_rfl) (by kernel_rfl) (fun _ _ _ h => h) rfl hX ?_ ?_; rotate_left; (intro W hW; go_simp; try with_reducible rfl); simp only [Act.put, qA, qB, qC]
       refine mc_take (i := 35) (oi := ⟨some 128, _, _, _, _, _⟩) (v := ?_) rfl (by kernel_rfl) (by kernel_rfl) (by kernel_rfl) (fun _ _ _ h => h) rfl hX ?_ ?_; rotate_left; (intro W hW; go_simp; try with_reducible rfl); simp only [Act.put, qA, qB, qC]
       refine mc_last (i := 36) (o := ⟨none, _, _, _, _, _⟩) rfl (by kernel_rfl) rfl (fun K hK => ?_)
       have TD := qH (TX.out.below hY)
       have BD := qH (TO6.out wd hY)
       clear hY
       refine wp_stB (.tmp 128) (.tmp 127) rfl (bs i) j rfl q rfl _ (TD.out.cell HIK.out HJK.out) (TD.out.frozen HIK.out j) ?_
       refine hK _ _ trivial ?_
       clear hK K hX
       (try simp only [Act.put, qA, qB, qC])
       refine wpAnyC_done (by kernel_rfl) ?_ _
       have TP := qH (TD.out.put HIK.out j q)
       have BP := qH (BD.out.setCell (p := ⟨bs i, j, none⟩) (by rw [← HG.out]; exact TD.out.bbase i HIK.out) (Value.bool q))
       go_wp2_with fail
       exact ⟨⟨x + 1, _, HXK.out, by congr 1, TP.out, XN.out, BP.out⟩, by simpa [intOf] using HMX.out⟩
      | true =>
       refine mc_take (i := 0) (oi := ⟨some 93, _, _, _, _, _⟩) (v := ?_) rfl (by kernel_rfl) (by kernel_rfl) (by kernel_rfl) (fun _ _ _ h => h) rfl hX ?_ ?_; rotate_left; (intro W hW; go_simp; try with_reducible rfl); simp only [Act.put, qA, qB, qC]
       refine mc_take (i := 1) (oi := ⟨some 94, _, _, _, _, _⟩) (v := ?_) rfl (by kernel_rfl) (by kernel_rfl) (by kernel_rfl) (fun _ _ _ h => h) rfl hX ?_ ?_; rotate_left; (intro W hW; go_simp; try with_reducible rfl); simp only [Act.put, qA, qB, qC]
       refine mc_take (i := 2) (oi := ⟨some 95, _, _, _, _, _⟩) (v := ?_) rfl (by kernel_rfl) (by kernel_rfl) (by kernel_rfl) (fun _ _ _ h => h) rfl hX ?_ ?_; rotate_left; (intro W hW; go_simp; try with_reducible rfl); simp only [Act.put, qA, qB, qC]
       refine mc_takeS (i := 3) (oi := ⟨some 96, _, _, _, _, _⟩) (v := .slice (some ⟨bs i, 0, none⟩) k k) rfl (by kernel_rfl) (by kernel_rfl) (by kernel_rfl) (fun _ _ _ h => h) rfl hX hY (fun V _ hV => ld_bls (.tmp 95) rfl rfl ((TX.out.below hV).at_ HIK.out HIK.out)) ?_; simp only [Act.put, qA, qB, qC]
       refine mc_take (i := 4) (oi := ⟨some 97, _, _, _, _, _⟩) (v := ?_) rfl (by kernel_rfl) (by kernel_rfl) (by kernel_rfl) (fun _ _ _ h => h) rfl hX ?_ ?_; rotate_left; (intro W hW; go_simp; try with_reducible rfl); simp only [Act.put, qA, qB, qC]
       refine mc_take (i := 5) (oi := ⟨some 98, _, _, _, _, _⟩) (v := ?_) rfl (by kernel_rfl) (by kernel_rfl) (by kernel_rfl) (fun _ _ _ h => h) rfl hX ?_ ?_; rotate_left; (intro W hW; go_simp; try with_reducible rfl); simp only [Act.put, qA, qB, qC]
       refine mc_take (i := 6) (oi := ⟨some 99, _, _, _, _, _⟩) (v := ?_) rfl (by kernel_rfl) (by kernel_rfl) (by kernel_rfl) (fun _ _ _ h => h) rfl hX ?_ ?_; rotate_left; (intro W hW; go_simp; try with_reducible rfl); simp only [Act.put, qA, qB, qC]
       refine mc_take (i := 7) (oi := ⟨some 100, _, _, _, _, _⟩) (v := ?_) rfl (by kernel_rfl) (by kernel_rfl) (by kernel_rfl) (fun _ _ _ h => h) rfl hX ?_ ?_; rotate_left; (intro W hW; go_simp; try with_reducible rfl); simp only [Act.put, qA, qB, qC]
       refine mc_takeS (i := 8) (oi := ⟨some 101, _, _, _, _, _⟩) (v := .slice (some ⟨bs i, 0, none⟩) k k) rfl (by kernel_rfl) (by kernel_rfl) (by kernel_rfl) (fun _ _ _ h => h) rfl hX hY (fun V _ hV => ld_bls (.tmp 100) rfl rfl ((TX.out.below hV).at_ HIK.out HIK.out)) ?_; simp only [Act.put, qA, qB, qC]
       refine mc_take (i := 9) (oi := ⟨some 102, _, _, _, _, _⟩) (v := ?_) rfl (by kernel_rfl) (by kernel_rfl) (by kernel_rfl) (fun _ _ _ h => h) rfl hX ?_ ?_; rotate_left; (intro W hW; go_simp; try with_reducible rfl); simp only [Act.put, qA, qB, qC]
       refine mc_take (i := 10) (oi := ⟨some 103, _, _, _, _, _⟩) (v := ?_) rfl (by kernel_rfl) (by kernel_rfl) (by kernel_rfl) (fun _ _ _ h => h) rfl hX ?_ ?_; rotate_left; (intro W hW; go_simp; try with_reducible rfl); simp only [Act.put, qA, qB, qC]
       refine mc_takeS (i := 11) (oi := ⟨some 104, _, _, _, _, _⟩) (v := .bool true) rfl (by kernel_rfl) (by kernel_rfl) (by kernel_rfl) (fun _ _ _ h => h) rfl hX hY (fun V _ hV => ld_b (.tmp 103) rfl rfl (((TX.out.below hV).cell HIK.out HJK.out).trans (by rw [HP.out]))) ?_; simp only [Act.put, qA, qB, qC]
       refine mc_take (i := 12) (oi := ⟨some 105, _, _, _, _, _⟩) (v := ?_) rfl (by kernel_rfl) (by kernel_rfl) (by kernel_rfl) (fun _ _ _ h => h) rfl hX ?_ ?_; rotate_left; (intro W hW; go_simp; try with_reducible rfl); simp only [Act.put, qA, qB, qC]
       refine mc_skip (i := 13) (oi := ⟨some 106, _, _, _, _, _⟩) rfl (by kernel_rfl) (by kernel_rfl) (by kernel_rfl) (fun _ _ _ h => h) rfl hX ?_; simp only [Act.put, qA, qB, qC]
       refine mc_skip (i := 14) (oi := ⟨some 107, _, _, _, _, _⟩) rfl (by kernel_rfl) (by kernel_rfl) (by kernel_rfl) (fun _ _ _ h => h) rfl hX ?_; simp only [Act.put, qA, qB, qC]
       refine mc_skip (i := 15) (oi := ⟨some 108, _, _, _, _, _⟩) rfl (by kernel_rfl) (by kernel_rfl) (by kernel_rfl) (fun _ _ _ h => h) rfl hX ?_; simp only [Act.put, qA, qB, qC]
       refine mc_skip (i := 16) (oi := ⟨some 109, _, _, _, _, _⟩) rfl (by kernel_rfl) (by kernel_rfl) (by kernel_rfl) (fun _ _ _ h => h) rfl hX ?_; simp only [Act.put, qA, qB, qC]
       refine mc_skip (i := 17) (oi := ⟨some 110, _, _, _, _, _⟩) rfl (by kernel_rfl) (by kernel_rfl) (by kernel_rfl) (fun _ _ _ h => h) rfl hX ?_; simp only [Act.put, qA, qB, qC]
       refine mc_skip (i := 18) (oi := ⟨some 111, _, _, _, _, _⟩) rfl (by kernel_rfl) (by kernel_rfl) (by kernel_rfl) (fun _ _ _ h => h) rfl hX ?_; simp only [Act.put, qA, qB, qC]
       refine mc_skip (i := 19) (oi := ⟨some 112, _, _, _, _, _⟩) rfl (by kernel_rfl) (by kernel_rfl) (by kernel_rfl) (fun _ _ _ h => h) rfl hX ?_; simp only [Act.put, qA, qB, qC]
       refine mc_skip (i := 20) (oi := ⟨some 113, _, _, _, _, _⟩) rfl (by kernel_rfl) (by kernel_rfl) (by kernel_rfl) (fun _ _ _ h => h) rfl hX ?_; simp only [Act.put, qA, qB, qC]
       refine mc_skip (i := 21) (oi := ⟨some 114, _, _, _, _, _⟩) rfl (by kernel_rfl) (by kernel_rfl) (by kernel_rfl) (fun _ _ _ h => h) rfl hX ?_; simp only [Act.put, qA, qB, qC]
       refine mc_skip (i := 22) (oi := ⟨some 115, _, _, _, _, _⟩) rfl (by kernel_rfl) (by kernel_rfl) (by kernel_rfl) (fun _ _ _ h => h) rfl hX ?_; simp only [Act.put, qA, qB, qC]
       refine mc_skip (i := 23) (oi := ⟨some 116, _, _, _, _, _⟩) rfl (by kernel_rfl) (by kernel_rfl) (by kernel_rfl) (fun _ _ _ h => h) rfl hX ?_; simp only [Act.put, qA, qB, qC]
       refine mc_skip (i := 24) (oi := ⟨some 117, _, _, _, _, _⟩) rfl (by kernel_rfl) (by kernel_rfl) (by kernel_rfl) (fun _ _ _ h => h) rfl hX ?_; simp only [Act.put, qA, qB, qC]
       refine mc_skip (i := 25) (oi := ⟨some 118, _, _, _, _, _⟩) rfl (by kernel_rfl) (by kernel_rfl) (by kernel_rfl) (fun _ _ _ h => h) rfl hX ?_; simp only [Act.put, qA, qB, qC]
       refine mc_skip (i := 26) (oi := ⟨some 119, _, _, _, _, _⟩) rfl (by kernel_rfl) (by kernel_rfl) (by kernel_rfl) (fun _ _ _ h => h) rfl hX ?_; simp only [Act.put, qA, qB, qC]
       refine mc_skip (i := 27) (oi := ⟨some 120, _, _, _, _, _⟩) rfl (by kernel_rfl) (by kernel_rfl) (by kernel_rfl) (fun _ _ _ h => h) rfl hX ?_; simp only [Act.put, qA, qB, qC]
       refine mc_skip (i := 28) (oi := ⟨some 121, _, _, _, _, _⟩) rfl (by kernel_rfl) (by kernel_rfl) (by kernel_rfl) (fun _ _ _ h => h) rfl hX ?_; simp only [Act.put, qA, qB, qC]
       refine mc_skip (i := 29) (oi := ⟨some 122, _, _, _, _, _⟩) rfl (by kernel_rfl) (by kernel_rfl) (by kernel_rfl) (fun _ _ _ h => h) rfl hX ?_; simp only [Act.put, qA, qB, qC]
       refine mc_skip (i := 30) (oi := ⟨some 123, _, _, _, _, _⟩) rfl (by kernel_rfl) (by kernel_rfl) (by kernel_rfl) (fun _ _ _ h => h) rfl hX ?_; simp only [Act.put, qA, qB, qC]
       refine mc_skip (i := 31) (oi := ⟨some 124, _, _, _, _, _⟩) rfl (by kernel_rfl) (by kernel_rfl) (by kernel_rfl) (fun _ _ _ h => h) rfl hX ?_; simp only [Act.put, qA, qB, qC]
       refine mc_skip (i := 32) (oi := ⟨some 125, _, _, _, _, _⟩) rfl (by kernel_rfl) (by kernel_rfl) (by kernel_rfl) (fun _ _ _ h => h) rfl hX ?_; simp only [Act.put, qA, qB, qC]
       refine mc_skip (i := 33) (oi := ⟨some 126, _, _, _, _, _⟩) rfl (by kernel_rfl) (by kernel_rfl) (by kernel_rfl) (fun _ _ _ h => h) rfl hX ?_; simp only [Act.put, qA, qB, qC]
       refine mc_take (i := 34) (oi := ⟨some 127, _, _, _, _, _⟩) (v := ?_) rfl (by kernel_rfl) (by kernel_rfl) (by kernel_rfl) (fun _ _ _ h => h) rfl hX ?_ ?_; rotate_left; (intro W hW; go_simp; try with_reducible rfl); simp only [Act.put, qA, qB, qC]
       refine mc_take (i := 35) (oi := ⟨some 128, _, _, _, _, _⟩) (v := ?_) rfl (by kernel_rfl) (by kernel_rfl) (by kernel_rfl) (fun _ _ _ h => h) rfl hX ?_ ?_; rotate_left; (intro W hW; go_simp; try with_reducible rfl); simp only [Act.put, qA, qB, qC]
       refine mc_last (i := 36) (o := ⟨none, _, _, _, _, _⟩) rfl (by kernel_rfl) rfl (fun K hK => ?_)
       have TD := qH (TX.out.below hY)
       have BD := qH (TO6.out wd hY)
       clear hY
       refine wp_stB (.tmp 128) (.tmp 127) rfl (bs i) j rfl true rfl _ (TD.out.cell HIK.out HJK.out) (TD.out.frozen HIK.out j) ?_
       refine hK _ _ trivial ?_
       clear hK K hX
       (try simp only [Act.put, qA, qB, qC])
       refine wpAnyC_done (by kernel_rfl) ?_ _
       have TP := qH (TD.out.put HIK.out j true)
       have BP := qH (BD.out.setCell (p := ⟨bs i, j, none⟩) (by rw [← HG.out]; exact TD.out.bbase i HIK.out) (Value.bool true))
       go_wp2_with fail
       exact ⟨⟨x + 1, _, HXK.out, by congr 1, TP.out, XN.out, BP.out⟩, by simpa [intOf] using HMX.out⟩
     ·obtain rfl : kd = x := Nat.le_antisymm (Nat.le_of_not_lt hxk) HX.out
      have z1 : ¬ ((kd : Int) < (kd : Int)) := Int.lt_irrefl _
      have XN := qH (XX.out.nextj (by rw [← HKD.out]; exact Nat.lt_irrefl kd) HIK.out HJK.out)
      clear hxk
      go_wp2_with fail
      exact ⟨⟨j + 1, _, HJK.out, by congr 1, TX.out, XN.out, BX.out⟩, by simpa [intOf] using HMJ.out⟩
    ·obtain rfl : k = j := Nat.le_antisymm (Nat.le_of_not_lt hjk) HJ.out
     have y3 : ¬ ((k : Int) < (k : Int)) := Int.lt_irrefl _
     have XN := qH (XJ.out.nexti (Nat.lt_irrefl k))
     clear hjk
     go_wp2_with fail
     exact ⟨⟨i + 1, _, HIK.out, by congr 1, TJ.out, XN.out, BJ.out⟩, by simpa [intOf] using HMI.out⟩
   ·obtain rfl : k = i := Nat.le_antisymm (Nat.le_of_not_lt hik) HI.out
    have y2 : ¬ ((k : Int) < (k : Int)) := Int.lt_irrefl _
    have XN := qH (XI.out.nextr (Nat.lt_irrefl k))
    clear hik
    go_wp2_with fail
    exact ⟨⟨r + 1, _, HRK.out, by congr 1, TI.out, XN.out, BI.out⟩, by simpa [intOf] using HMR.out⟩
  ·obtain rfl : k = r := Nat.le_antisymm (Nat.le_of_not_lt hrk) HR.out
   have y1 : ¬ ((k : Int) < (k : Int)) := Int.lt_irrefl _
   have FA := qH (show ∀ a b, a < k → b < k → f a b = decide (a ≠ b) from fun a b ha hb => XR.out.all ME.out HLE2.out AE.out HK.out (fun a b ha hb => HAP.out a b (by rw [← HK.out]; exact ha) (by rw [← HK.out]; exact hb)) ha hb)
   clear hrk
   go_wp2_with fail
   go_loopw [16] (fun v wl => ∃ i : Nat, i ≤ k ∧ v = .int .i64 (i : Int) ∧ Tbl wl g g bs k k f ∧ Below w6.heap.size w6 wl) (fun v _ => k - (intOf v).toNat)
   case atStart => exact ⟨0, Nat.zero_le _, rfl, TR.out, BR.out⟩
   clear TR XR BR
   obtain ⟨i, hi, rfl, ht, hb⟩ := hrel
   have HI := qH hi
   have TI := qH ht
   have BI := qH hb
   clear hi ht hb
   by_cases hik : i < k
   ·have y2 : (i : Int) < (k : Int) := Int.ofNat_lt.2 hik
    have HIK := qH hik
    have HMI := qH (sub_next hik)
    have e3 := wrap_one i (lt_bigN hik HKF.out)
    have e4 := wrap_one' i (lt_bigN hik HKF.out)
    clear hik
    go_wp2_with fail
    go_loopw [17] (fun v wl => ∃ j : Nat, j ≤ k ∧ v = .int .i64 (j : Int) ∧ Tbl wl g g bs k k f ∧ Below w6.heap.size w6 wl) (fun v _ => k - (intOf v).toNat)
    case atStart => exact ⟨0, Nat.zero_le _, rfl, TI.out, BI.out⟩
    clear TI BI
    obtain ⟨j, hj, rfl, ht, hb⟩ := hrel
    have HJ := qH hj
    have TJ := qH ht
    have BJ := qH hb
    clear hj ht hb
    by_cases hjk : j < k
    ·have y3 : (j : Int) < (k : Int) := Int.ofNat_lt.2 hjk
     have HJK := qH hjk
     have HMJ := qH (sub_next hjk)
     have f3 := wrap_one j (lt_bigN hjk HKF.out)
     have f4 := wrap_one' j (lt_bigN hjk HKF.out)
     have hti : wr.cell? ⟨g, i, none⟩ = some (.slice (some ⟨bs i, 0, none⟩) k k) := TJ.out.at_ HIK.out HIK.out
     obtain ⟨z, hz⟩ : ∃ z, f i j = z := ⟨_, rfl⟩
     have hcj : wr.cell? ⟨bs i, j, none⟩ = some (.bool z) := (TJ.out.cell HIK.out HJK.out).trans (by rw [hz])
     have HZ := qH (show z = decide (i ≠ j) by rw [← hz]; exact FA.out i j HIK.out HJK.out)
     clear hjk hz
     by_cases hij : i = j
     ·have x1 : ((i : Int) != (j : Int)) = false := by rw [hij]; simp
      have hzf : z = false := by rw [HZ.out]; exact decide_eq_false fun h => h hij
      subst hzf
      clear hij
      go_wp2_with fail
      exact ⟨⟨j + 1, HJK.out, by congr 1, TJ.out, BJ.out⟩, by simpa [intOf] using HMJ.out⟩
     ·have x1 : ((i : Int) != (j : Int)) = true := by rw [bne_iff_ne]; exact fun e => hij (Int.ofNat_inj.1 e)
      have hzt : z = true := by rw [HZ.out]; exact decide_eq_true hij
      subst hzt
      clear hij
      go_wp2_with fail
      exact ⟨⟨j + 1, HJK.out, by congr 1, TJ.out, BJ.out⟩, by simpa [intOf] using HMJ.out⟩
    ·obtain rfl : k = j := Nat.le_antisymm (Nat.le_of_not_lt hjk) HJ.out
     have y3 : ¬ ((k : Int) < (k : Int)) := Int.lt_irrefl _
     clear hjk
     go_wp2_with fail
     exact ⟨⟨i + 1, HIK.out, by congr 1, TJ.out, BJ.out⟩, by simpa [intOf] using HMI.out⟩
   ·obtain rfl : k = i := Nat.le_antisymm (Nat.le_of_not_lt hik) HI.out
    have y2 : ¬ ((k : Int) < (k : Int)) := Int.lt_irrefl _
    have y4 : (0 : Int) < (k : Int) := Int.ofNat_lt.2 HKP.out
    have BE := qH (B6.out.trans (BI.out.mono B6.out.size))
    clear hik
    go_wp2_with fail
    go_ret
    exact ⟨by simp [HKP.out], BE.out⟩
end Go.Proofs.Ytlohehcfplkjbaa
