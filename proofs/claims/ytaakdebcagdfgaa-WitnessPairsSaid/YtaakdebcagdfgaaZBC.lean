/-
  Texts of this proof, put together: WnC, WnF. No statement is proved here.
-/
import Derived.Test.YtaakdebcagdfgaaZP
import Derived.Test.YtaakdebcagdfgaaZBB
import Derived.Test.YtaakdebcagdfgaaZT
import Derived.Test.YtaakdebcagdfgaaZL
namespace Go.Proofs.Ytaakdebcagdfgaa
open Go.RowKit
set_option linter.unusedSimpArgs false
set_option linter.unusedVariables false
theorem prd_allC (D E : Dm) (how : Int) (n : Nat) : AllC (prdN D E how n) := fun k hk => by
 unfold prdN at hk
 rw [genN_cls] at hk
 obtain ⟨b, hb⟩ : ∃ b, (firstJ (psP D E) 256)[k]? = some b := ⟨_, List.getElem?_eq_getElem hk⟩
 have hbl := firstJ_lt _ 256 b (List.mem_of_getElem? hb)
 refine ⟨UInt8.ofNat b, ?_⟩
 rw [toNat_ofNatQ hbl]
 show ((ctab (psP D E) 256).getD b 0).toNat = k
 rw [List.getD_eq_getElem?_getD, ctab_at _ hbl, clsOf_first hb]
 exact toNat_ofNatQ (Nat.lt_of_lt_of_le hk (firstJ_len _ 256))
theorem product64 (D E : Dm) (cs es : List Value) (how : Int) (w : World) (hv : DfaV w cs D) (he : DfaV w es E) (hm : MayD D) (hme : MayD E) (h1 : 1 ≤ how) (h4 : how ≤ 4) (h64 : D.next.length * E.next.length ≤ 64) :
  Calls Try.prog 21 #[.agg cs.toArray, .agg es.toArray, .int .i64 how, .int .i64 64] w fun e w' => ∃ (xs : List Value) (P : Dm), e = .returned (.tuple #[.agg xs.toArray, .int .i64 0]) ∧ DfaV w' xs P ∧ MayD P ∧ AllC P ∧ (∀ u, accD P 0 u = opP how (accD D 0 u) (accD E 0 u)) ∧ Below w.heap.size w w' := by
 refine (refProduct_any D E cs es how 64 w hv he hm hme h1 h4 (by decide)).mono ?_
 rintro e w' (⟨n, xs, hn, hf, rfl, hx, hb⟩ | ⟨hno, _, _⟩)
 ·exact ⟨xs, prdN D E how n, rfl, hx, genN_may hf (Nat.le_trans hn (by decide)), prd_allC D E how n, fun u => acc_prd hf u, hb⟩
 ·obtain ⟨n, hn, hf⟩ := prd_fit hm hv.1 hme he.1
  exact absurd (hno n hf) (Nat.not_lt.2 (Nat.le_trans hn h64))
theorem pairs_sum {D E P Q : Dm} (hP : ∀ u, accD P 0 u = opP 1 (accD D 0 u) (accD E 0 u)) (hQ : ∀ u, accD Q 0 u = opP 2 (accD D 0 u) (accD E 0 u)) (m : Nat) (hm : m ≤ 1000) : (cntW P m + cntW Q m) % N64 = (cntW D m + cntW E m) % N64 := by
 unfold cntW
 rw [if_neg (by omega), if_neg (by omega), if_neg (by omega), if_neg (by omega), Int.toNat_natCast, Nat.min_eq_left hm, ← Nat.add_mod, ← Nat.add_mod,
  show accD P 0 = fun u => accD D 0 u && accD E 0 u from funext hP, show accD Q 0 = fun u => accD D 0 u || accD E 0 u from funext hQ, ← cntL_two]
theorem k64W {a b : Nat} (h : a ≤ 8) (h2 : b ≤ 8) : a * b ≤ 64 := Nat.le_trans (Nat.mul_le_mul h h2) (by decide)
theorem k8W (n : Nat) : 1 + n % 8 ≤ 8 := by omega
theorem mod_10 (k : Nat) : k % 10 ≤ 1000 := by have := Nat.mod_lt k (show 0 < 10 by decide); omega
set_option maxHeartbeats 8000000 in
set_option maxRecDepth 1000000 in
theorem witness_pairs_walk (C : WitC) (n c : Nat) (V : Value) (ps : List UInt8) (n2 c2 : Nat) (V2 : Value) (ps2 : List UInt8) (k : Nat) (w : World) (hn : n < 256) (hc : c < 256) (hr : Row w V (bvs ps)) (hn2 : n2 < 256) (hc2 : c2 < 256) (hr2 : Row w V2 (bvs ps2)) (hk : k < 256) :
  Calls Try.prog 7 #[.int .u8 (n : Int), .int .u8 (c : Int), V, .int .u8 (n2 : Int), .int .u8 (c2 : Int), V2, .int .u8 (k : Int)] w fun e w' => e = .returned (.bool true) ∧ Below w.heap.size w w' := by
 have HCC := qH C
 clear C
 have R := qH hr
 have R2 := qH hr2
 obtain ⟨A, cap, rfl, _⟩ := hr
 obtain ⟨A2, cap2, rfl, _⟩ := hr2
 rw [bvs_length] at R R2
 rw [bvs_length, bvs_length]
 have HN := qH hn
 have HC := qH hc
 have HN2 := qH hn2
 have HC2 := qH hc2
 obtain ⟨d0, hd0⟩ : ∃ d0, d0 = dcl (ctab [] 0) (.slice none 0 0) (.slice none 0 0) := ⟨_, rfl⟩
 have HDL := qH (show d0.length = 258 by rw [hd0]; exact dcl_len (ctab_length _ _))
 obtain ⟨id, hid, hdz⟩ := Option.map_eq_some_iff.1 inf_dfa
 rw [← hd0] at hdz
 have HDZ := qH hdz
 obtain ⟨r1, r2, r3, r4⟩ := rem_by k 10 (by decide) (by decide)
 obtain ⟨m, hm⟩ : ∃ m, m = k % 10 := ⟨_, rfl⟩
 have HM12 := qH (show m ≤ 1000 by rw [hm]; exact mod_10 k)
 rw [← hm] at r1 r2 r3 r4
 have r1' : (k : Int).tmod 10 = (m : Int) := r1
 have RR := qH (And.intro r1' (And.intro r2 (And.intro r3 r4)))
 clear hd0 hdz hn hc hn2 hc2 hk hm r1 r1' r2 r3 r4
 go_enter Try.func7, Try.ntmps7
 go_wp2_with fail
 refine (begun14_any HCC.out w).mono ?_
 rintro e w1 ⟨rfl, hb⟩
 have B1 := qH hb
 clear hb
 by_cases hl : 60 < ps.length
 ·have x1 : (60 : Int) < (ps.length : Int) := Int.ofNat_lt.2 hl
  clear hl
  go_wp2_with fail
  go_ret
  exact ⟨rfl, B1.out⟩
 have x1 : ¬ (60 : Int) < (ps.length : Int) := fun h => hl (Int.ofNat_lt.1 h)
 have HL := qH (Nat.le_of_not_lt hl)
 clear hl
 by_cases hl2 : 60 < ps2.length
 ·have x2 : (60 : Int) < (ps2.length : Int) := Int.ofNat_lt.2 hl2
  clear hl2
  go_wp2_with fail
  go_ret
  exact ⟨rfl, B1.out⟩
 have x2 : ¬ (60 : Int) < (ps2.length : Int) := fun h => hl2 (Int.ofNat_lt.1 h)
 have HL2 := qH (Nat.le_of_not_lt hl2)
 clear hl2
 go_wp2_with fail
 refine (playDfa_any n c ps _ w1 HN.out HC.out (R.out.below B1.out) HL.out).mono ?_
 rintro e w2 ⟨cs, rfl, hd, hb⟩
 have B2 := qH (B1.out.trans (hb.mono B1.out.size))
 have VA := qH hd.dfa
 clear hb hd
 go_wp2_with fail
 refine (playDfa_any n2 c2 ps2 _ w2 HN2.out HC2.out (R2.out.below B2.out) HL2.out).mono ?_
 rintro e w3 ⟨es, rfl, hd, hb⟩
 obtain ⟨D, hD⟩ : ∃ D, D = dfaQ n c ps := ⟨_, rfl⟩
 obtain ⟨E, hE⟩ : ∃ D, D = dfaQ n2 c2 ps2 := ⟨_, rfl⟩
 rw [← hD] at VA
 rw [← hE] at hd
 have HM := qH (show MayD D by rw [hD]; exact dfaQ_may n c ps)
 have HM2 := qH (show MayD E by rw [hE]; exact dfaQ_may n2 c2 ps2)
 have H64 := qH (show D.next.length * E.next.length ≤ 64 by rw [hD, hE, dfaQ_len, dfaQ_len]; exact k64W (k8W n) (k8W n2))
 have HAC := qH (show AllC D by rw [hD]; exact dfaQ_allC n c ps)
 have HAC2 := qH (show AllC E by rw [hE]; exact dfaQ_allC n2 c2 ps2)
 clear hD hE
 have VD := qH (VA.out.below hb)
 have VE := qH hd.dfa
 have B3 := qH (B2.out.trans (hb.mono B2.out.size))
 have HCL2 := qH VD.out.1
 have HCE2 := qH VE.out.1
 obtain ⟨An, Ae, cn, ce, vf, hcl, hcs, _⟩ := VD.out.form
 have HLA := qH (show cs.length = 258 by rw [hcs]; exact dcl_len hcl)
 have HOA := qH (show cs.all (·.oneCell') = true by rw [hcs]; exact dcl_one)
 have HSA := qH (show (Try.prog.info? 28).map (·.size) = some cs.length from VD.out.size)
 clear hcl hcs
 obtain ⟨Bn, Be, dn, de, uf, hcl, hcs, _⟩ := VE.out.form
 have HLE := qH (show es.length = 258 by rw [hcs]; exact dcl_len hcl)
 have HOE := qH (show es.all (·.oneCell') = true by rw [hcs]; exact dcl_one)
 have HSE := qH (show (Try.prog.info? 28).map (·.size) = some es.length from VE.out.size)
 clear hcl hcs hd hb VA
 go_wp2_with (first
  | ((with_reducible refine atDst 15 ?_); refine wpList_new rfl 28 rfl id _ d0 hid HDZ.out rfl (Below.refl w3.heap.size w3) (Nat.le_refl _) ?_; intro w4 hk hb hs _; have K4 := qH hk; have B4 := qH hb; clear hk hb hs; (try simp only [Act.put, qA, qB, qC]))
  | ((with_reducible refine atDst 16 ?_); refine wpList_new rfl 28 rfl id _ d0 hid HDZ.out rfl (Below.refl w4.heap.size w4) (Nat.le_refl _) ?_; intro w5 hk hb hs _; have L5 := qH hk; have K5 := qH (K4.out.below hb K4.out.lt); have B5 := qH (B4.out.trans (hb.mono B4.out.size)); have HKL := qH (Nat.ne_of_lt K4.out.lt); have HKG := qH (show w3.heap.size ≤ w4.heap.size from B4.out.size); clear hk hb hs; (try simp only [Act.put, qA, qB, qC]))
  | ((with_reducible refine atStore 28 15 35 ?_); refine wpList_stBlk rfl 28 _ _ rfl w3.heap.size cs rfl rfl 28 _ K5.out HSA.out (by rw [HDL.out, HLA.out]) HOA.out B5.out (Nat.le_refl _) ?_; intro w6 hk hb hs ho; have K6 := qH hk; have L6 := qH (show Blk w6 w4.heap.size 28 d0 from (ho w4.heap.size (fun e => HKL.out e.symm)).trans L5.out); have B6 := qH hb; clear hk hb hs ho; (try simp only [Act.put, qA, qB, qC]))
  | ((with_reducible refine atStore 28 16 39 ?_); refine wpList_stBlk rfl 28 _ _ rfl w4.heap.size es rfl rfl 28 _ L6.out HSE.out (by rw [HDL.out, HLE.out]) HOE.out B6.out HKG.out ?_; intro w7 hk hb hs ho; have L7 := qH hk; have K7 := qH (show Blk w7 w3.heap.size 28 cs from (ho w3.heap.size HKL.out).trans K6.out); have B7 := qH hb; clear hk hb hs ho; (try simp only [Act.put, qA, qB, qC]))
  | ((with_reducible refine atDst 41 ?_); refine wpList_ldArr rfl 28 _ rfl w3.heap.size rfl 28 _ _ K7.out Try.underlying28 rfl HSA.out ?_; (try simp only [Act.put, qA, qB, qC]))
  | ((with_reducible refine atDst 42 ?_); refine wpList_ldArr rfl 28 _ rfl w4.heap.size rfl 28 _ _ L7.out Try.underlying28 rfl HSE.out ?_; (try simp only [Act.put, qA, qB, qC])))
 refine (product64 D E cs es 1 w7 (VD.out.below B7.out) (VE.out.below B7.out) HM.out HM2.out (by decide) (by decide) H64.out).mono ?_
 rintro e w8 ⟨xs, P, rfl, hx, hm, hal, hacc, hb⟩
 obtain ⟨gd, hgd⟩ : ∃ g, g = w3.heap.size := ⟨_, rfl⟩
 obtain ⟨gy, hgy⟩ : ∃ g, g = w4.heap.size := ⟨_, rfl⟩
 have K8 := qH (show Blk w8 gd 28 cs by rw [hgd]; exact K7.out.below hb K7.out.lt)
 have L8 := qH (show Blk w8 gy 28 es by rw [hgy]; exact L7.out.below hb L7.out.lt)
 have B8 := qH (B7.out.trans (hb.mono B7.out.size))
 have BW8 := qH (B3.out.trans (B8.out.mono B3.out.size))
 have VP := qH hx
 have HMP := qH hm
 have HAP := qH hal
 have HACC := qH hacc
 have HSX := qH (show (Try.prog.info? 28).map (·.size) = some xs.length from hx.size)
 obtain ⟨Cn, Ce, fn, fe, xf, hcl, hcs, _⟩ := hx.form
 have HLX := qH (show xs.length = 258 by rw [hcs]; exact dcl_len hcl)
 have HOX := qH (show xs.all (·.oneCell') = true by rw [hcs]; exact dcl_one)
 rw [← hgd, ← hgy]
 clear hcl hcs hx hm hal hacc hb hgd hgy K4 B4 L5 K5 B5 HKL HKG K6 L6 B6 L7 K7
 go_wp2_with (first
  | ((with_reducible refine atDst 17 ?_); refine wpList_new rfl 28 rfl id _ d0 hid HDZ.out rfl (Below.refl w8.heap.size w8) (Nat.le_refl _) ?_; intro w9 hk hb hs _; have G9 := qH hk; have B9 := qH hb; clear hk hb hs; (try simp only [Act.put, qA, qB, qC]))
  | ((with_reducible refine atStore 28 17 44 ?_); refine wpList_stBlk rfl 28 _ _ rfl w8.heap.size xs rfl rfl 28 _ G9.out HSX.out (by rw [HDL.out, HLX.out]) HOX.out B9.out (Nat.le_refl _) ?_; intro w10 hk hb hs ho; have G10 := qH hk; have B10 := qH hb; have K10 := qH (K8.out.below hb K8.out.lt); have L10 := qH (L8.out.below hb L8.out.lt); clear hk hb hs ho; (try simp only [Act.put, qA, qB, qC]))
  | ((with_reducible refine atDst 47 ?_); refine wpList_ldArr rfl 28 _ rfl gd rfl 28 _ _ K10.out Try.underlying28 rfl HSA.out ?_; (try simp only [Act.put, qA, qB, qC]))
  | ((with_reducible refine atDst 48 ?_); refine wpList_ldArr rfl 28 _ rfl gy rfl 28 _ _ L10.out Try.underlying28 rfl HSE.out ?_; (try simp only [Act.put, qA, qB, qC])))
 have VD10 := qH ((VD.out.below B8.out).below B10.out)
 have VE10 := qH ((VE.out.below B8.out).below B10.out)
 have VP10 := qH (VP.out.below B10.out)
 refine (product64 D E cs es 2 w10 VD10.out VE10.out HM.out HM2.out (by decide) (by decide) H64.out).mono ?_
 rintro e w11 ⟨ys, Q, rfl, hx, hm, hal, hacc, hb⟩
 obtain ⟨gx, hgx⟩ : ∃ g, g = w8.heap.size := ⟨_, rfl⟩
 have K11 := qH (K10.out.below hb K10.out.lt)
 have L11 := qH (L10.out.below hb L10.out.lt)
 have G11 := qH (show Blk w11 gx 28 xs by rw [hgx]; exact G10.out.below hb G10.out.lt)
 have B11 := qH (BW8.out.trans ((B10.out.trans (hb.mono B10.out.size)).mono BW8.out.size))
 have VD11 := qH (VD10.out.below hb)
 have VE11 := qH (VE10.out.below hb)
 have VP11 := qH (VP10.out.below hb)
 have VQ := qH hx
 have HMQ := qH hm
 have HAQ := qH hal
 have HACQ := qH hacc
 have HSY := qH (show (Try.prog.info? 28).map (·.size) = some ys.length from hx.size)
 obtain ⟨Cn, Ce, fn, fe, xf, hcl, hcs, _⟩ := hx.form
 have HLY := qH (show ys.length = 258 by rw [hcs]; exact dcl_len hcl)
 have HOY := qH (show ys.all (·.oneCell') = true by rw [hcs]; exact dcl_one)
 rw [← hgx]
 clear hcl hcs hx hm hal hacc hb hgx G9 B9 G10 K10 L10 B10
 obtain ⟨t1, t2, t3, t4⟩ := RR.out
 go_wp2_with (first
  | ((with_reducible refine atDst 19 ?_); refine wpList_new rfl 28 rfl id _ d0 hid HDZ.out rfl (Below.refl w11.heap.size w11) (Nat.le_refl _) ?_; intro w12 hk hb hs _; have H12 := qH hk; have B12 := qH hb; clear hk hb hs; (try simp only [Act.put, qA, qB, qC]))
  | ((with_reducible refine atStore 28 19 50 ?_); refine wpList_stBlk rfl 28 _ _ rfl w11.heap.size ys rfl rfl 28 _ H12.out HSY.out (by rw [HDL.out, HLY.out]) HOY.out B12.out (Nat.le_refl _) ?_; intro w13 hk hb hs ho; have H13 := qH hk; have B13 := qH hb; have K13 := qH (K11.out.below hb K11.out.lt); have L13 := qH (L11.out.below hb L11.out.lt); have G13 := qH (G11.out.below hb G11.out.lt); clear hk hb hs ho; (try simp only [Act.put, qA, qB, qC])))
 have VD13 := qH (VD11.out.below B13.out)
 have VE13 := qH (VE11.out.below B13.out)
 have VP13 := qH (VP11.out.below B13.out)
 have VQ13 := qH (VQ.out.below B13.out)
 have BW13 := qH (B11.out.trans (B13.out.mono B11.out.size))
 clear t1 t2 t3 t4
 obtain ⟨a, ha⟩ : ∃ p, p = cntW D m := ⟨_, rfl⟩
 obtain ⟨b, hb⟩ : ∃ p, p = cntW E m := ⟨_, rfl⟩
 obtain ⟨p, hp⟩ : ∃ p, p = cntW P m := ⟨_, rfl⟩
 obtain ⟨q, hq⟩ : ∃ p, p = cntW Q m := ⟨_, rfl⟩
 have HA := qH ha
 have HBB := qH hb
 have HP := qH hp
 have HQ := qH hq
 obtain ⟨x, hx⟩ : ∃ x, x = (a + b) % N64 := ⟨_, rfl⟩
 have G1 := qH (show IntKind.u64.wrap ((a : Int) + (b : Int)) = (x : Int) by rw [wrapU_add, hx])
 have G2 := qH (show IntKind.u64.wrap ((p : Int) + (q : Int)) = (x : Int) by
  rw [wrapU_add, hx, ha, hb, hp, hq, pairs_sum HACC.out HACQ.out m HM12.out])
 clear ha hb hp hq hx
 refine mc_start (fun V => Below w13.heap.size w13 V) (fun _ => True) 16 (by kernel_rfl) (fun wd hwd => ?_)
 have hX : Below w13.heap.size w13 wd := by rw [hwd]; exact (Below.refl _ _).drew
 have hY : True := trivial
 clear hwd
 refine mc_take (i := 0) (oi := ⟨some 55, _, _, _, _, _⟩) (v := .agg cs.toArray) rfl (by kernel_rfl) (by kernel_rfl) (by kernel_rfl) (fun _ _ _ h => h) rfl hX (fun V hT => ld_blk 28 (.tmp 15) rfl gd rfl 28 cs _ K13.out K13.out.lt Try.underlying28 rfl HSA.out V hT) ?_; simp only [Act.put, qA, qB, qC]
 refine mc_take (i := 1) (oi := ⟨some 56, _, _, _, _, _⟩) (v := ?_) rfl (by kernel_rfl) (by kernel_rfl) (by kernel_rfl) (fun _ _ _ h => h) rfl hX ?_ ?_; rotate_left; (intro W hW; go_simp; try with_reducible rfl); simp only [Act.put, qA, qB, qC]
 refine mc_take (i := 3) (oi := ⟨some 58, _, _, _, _, _⟩) (v := .agg es.toArray) rfl (by kernel_rfl) (by kernel_rfl) (by kernel_rfl) (fun _ _ _ h => h) rfl hX (fun V hT => ld_blk 28 (.tmp 16) rfl gy rfl 28 es _ L13.out L13.out.lt Try.underlying28 rfl HSE.out V hT) ?_; simp only [Act.put, qA, qB, qC]
 refine mc_take (i := 4) (oi := ⟨some 59, _, _, _, _, _⟩) (v := ?_) rfl (by kernel_rfl) (by kernel_rfl) (by kernel_rfl) (fun _ _ _ h => h) rfl hX ?_ ?_; rotate_left; (intro W hW; go_simp; try with_reducible rfl); simp only [Act.put, qA, qB, qC]
 refine mc_take (i := 7) (oi := ⟨some 62, _, _, _, _, _⟩) (v := .agg xs.toArray) rfl (by kernel_rfl) (by kernel_rfl) (by kernel_rfl) (fun _ _ _ h => h) rfl hX (fun V hT => ld_blk 28 (.tmp 17) rfl gx rfl 28 xs _ G13.out G13.out.lt Try.underlying28 rfl HSX.out V hT) ?_; simp only [Act.put, qA, qB, qC]
 refine mc_take (i := 8) (oi := ⟨some 63, _, _, _, _, _⟩) (v := ?_) rfl (by kernel_rfl) (by kernel_rfl) (by kernel_rfl) (fun _ _ _ h => h) rfl hX ?_ ?_; rotate_left; (intro W hW; go_simp; try with_reducible rfl); simp only [Act.put, qA, qB, qC]
 refine mc_take (i := 10) (oi := ⟨some 65, _, _, _, _, _⟩) (v := .agg ys.toArray) rfl (by kernel_rfl) (by kernel_rfl) (by kernel_rfl) (fun _ _ _ h => h) rfl hX (fun V hT => ld_blk 28 (.tmp 19) rfl w11.heap.size rfl 28 ys _ H13.out H13.out.lt Try.underlying28 rfl HSY.out V hT) ?_; simp only [Act.put, qA, qB, qC]
 refine mc_take (i := 11) (oi := ⟨some 66, _, _, _, _, _⟩) (v := ?_) rfl (by kernel_rfl) (by kernel_rfl) (by kernel_rfl) (fun _ _ _ h => h) rfl hX ?_ ?_; rotate_left; (intro W hW; go_simp; try with_reducible rfl); simp only [Act.put, qA, qB, qC]
 refine mc_actB (i := 2) (o := ⟨some 57, _, _, _, _, _⟩) rfl (by kernel_rfl) rfl (fun K hK => ?_)
 have X1 := qH hX
 go_wp2_with fail
 refine (HCC.out.count D cs m wd (int_m1 m) (int_1k HM12.out) (VD13.out.below hX) HM.out HAC.out).mono ?_
 rintro e v1 ⟨rfl, hb⟩
 rw [← HA.out]
 have hX2 := X1.out.trans (hb.mono X1.out.size)
 clear hb
 go_wp2_with fail
 refine hK _ _ hX2 trivial ?_
 clear hK K hX
 have hX := hX2
 clear hX2
 (try simp only [Act.put, qA, qB, qC])
 refine mc_actB (i := 5) (o := ⟨some 60, _, _, _, _, _⟩) rfl (by kernel_rfl) rfl (fun K hK => ?_)
 have X2 := qH hX
 go_wp2_with fail
 refine (HCC.out.count E es m v1 (int_m1 m) (int_1k HM12.out) (VE13.out.below hX) HM2.out HAC2.out).mono ?_
 rintro e v2 ⟨rfl, hb⟩
 rw [← HBB.out]
 have hX2 := X2.out.trans (hb.mono X2.out.size)
 clear hb
 go_wp2_with fail
 refine hK _ _ hX2 trivial ?_
 clear hK K hX
 have hX := hX2
 clear hX2
 (try simp only [Act.put, qA, qB, qC])
 have g1 := G1.out
 refine mc_take (i := 6) (oi := ⟨some 61, _, _, _, _, _⟩) (v := ?_) rfl (by kernel_rfl) (by kernel_rfl) (by kernel_rfl) (fun _ _ _ h => h) rfl hX ?_ ?_; rotate_left; (intro W hW; go_simp; try with_reducible rfl); simp only [Act.put, qA, qB, qC]
 refine mc_actB (i := 9) (o := ⟨some 64, _, _, _, _, _⟩) rfl (by kernel_rfl) rfl (fun K hK => ?_)
 have X3 := qH hX
 go_wp2_with fail
 refine (HCC.out.count P xs m v2 (int_m1 m) (int_1k HM12.out) (VP13.out.below hX) HMP.out HAP.out).mono ?_
 rintro e v3 ⟨rfl, hb⟩
 rw [← HP.out]
 have hX2 := X3.out.trans (hb.mono X3.out.size)
 clear hb
 go_wp2_with fail
 refine hK _ _ hX2 trivial ?_
 clear hK K hX
 have hX := hX2
 clear hX2
 (try simp only [Act.put, qA, qB, qC])
 refine mc_actB (i := 12) (o := ⟨some 67, _, _, _, _, _⟩) rfl (by kernel_rfl) rfl (fun K hK => ?_)
 have X4 := qH hX
 go_wp2_with fail
 refine (HCC.out.count Q ys m v3 (int_m1 m) (int_1k HM12.out) (VQ13.out.below hX) HMQ.out HAQ.out).mono ?_
 rintro e v4 ⟨rfl, hb⟩
 rw [← HQ.out]
 have hX2 := X4.out.trans (hb.mono X4.out.size)
 clear hb
 go_wp2_with fail
 refine hK _ _ hX2 trivial ?_
 clear hK K hX
 have hX := hX2
 clear hX2
 (try simp only [Act.put, qA, qB, qC])
 have g2 := G2.out
 refine mc_take (i := 13) (oi := ⟨some 68, _, _, _, _, _⟩) (v := ?_) rfl (by kernel_rfl) (by kernel_rfl) (by kernel_rfl) (fun _ _ _ h => h) rfl hX ?_ ?_; rotate_left; (intro W hW; go_simp; try with_reducible rfl); simp only [Act.put, qA, qB, qC]
 refine mc_take (i := 14) (oi := ⟨some 69, _, _, _, _, _⟩) (v := ?_) rfl (by kernel_rfl) (by kernel_rfl) (by kernel_rfl) (fun _ _ _ h => h) rfl hX ?_ ?_; rotate_left; (intro W hW; go_simp; try with_reducible rfl); simp only [Act.put, qA, qB, qC]
 refine mc_take (i := 15) (oi := ⟨some 14, _, _, _, _, _⟩) (v := ?_) rfl (by kernel_rfl) (by kernel_rfl) (by kernel_rfl) (fun _ _ _ h => h) rfl hX ?_ ?_; rotate_left; (intro W hW; go_simp; try with_reducible rfl); simp only [Act.put, qA, qB, qC]
 refine wpAnyC_done (by kernel_rfl) ?_ _
 have BF := qH (BW13.out.trans (hX.mono BW13.out.size))
 clear hX hY g1 g2
 go_wp2_with fail
 go_ret
 exact ⟨rfl, BF.out⟩
theorem lv_acc {D : Dm} (h : MayD D) (hl : D.cl.length = 256) (hac : AllC D) {q : Nat} (hv : LvD D q) : ∃ u, accD D q u = true := by
 induction hv with
 | @base i he =>
  refine ⟨[], ?_⟩
  show D.ends.getD i false = true
  rw [List.getD_eq_getElem?_getD, he]
  rfl
 | @go i j r hr hj _ ih =>
  obtain ⟨u, hu⟩ := ih
  obtain ⟨k, hk⟩ := List.getElem?_of_mem hj
  have hkl := (List.getElem?_eq_some_iff.1 hk).1
  rw [h.rows r (List.mem_of_getElem? hr)] at hkl
  obtain ⟨b, hb⟩ := hac k hkl
  refine ⟨b :: u, ?_⟩
  have hs : stD D i b = j := by
   unfold stD
   rw [hb, hr, Option.getD_some, List.getD_eq_getElem?_getD, hk]
   exact Int.toNat_natCast j
  show accD D (stD D i b) u = true
  rw [hs]
  exact hu
theorem no_live {D : Dm} (h : MayD D) (hl : D.cl.length = 256) (hac : AllC D) (hn : ∀ u, accD D 0 u = false) : livB D 0 = false := by
 cases hb : livB D 0 with
 | false => rfl
 | true =>
  obtain ⟨u, hu⟩ := lv_acc h hl hac (livB_iff.1 hb)
  rw [hn] at hu
  cases hu
theorem sho_none {L : Lang} {u : List UInt8} (h : Sho L u) {i : Nat} (hi : i < u.length) : wrds L i = [] := by
 refine Classical.byContradiction fun hc => ?_
 obtain ⟨w, hw, hacc⟩ := wrds_ne.1 hc
 rcases h.low w hacc with h1 | ⟨h1, _⟩ <;> omega
theorem sho_first {L : Lang} {u : List UInt8} (h : Sho L u) : (wrds L u.length).take 1 = [u] := by
 have hu : u ∈ wrds L u.length := wrds_mem.2 ⟨rfl, h.is⟩
 have hr := wrds_rise L u.length
 cases hw : wrds L u.length with
 | nil => rw [hw] at hu; cases hu
 | cons v r =>
  have hv : v ∈ wrds L u.length := by rw [hw]; simp
  rw [hw] at hu hr
  have hvm := wrds_mem.1 hv
  have e : u = v := by
   rcases List.mem_cons.1 hu with e | e
   ·exact e
   ·have h1 := (List.pairwise_cons.1 hr).1 u e
    rcases h.low v hvm.2 with h2 | ⟨_, h2 | h2⟩
    ·omega
    ·exact h2
    ·exact absurd (ltW_trans h1 h2) (ltW_no v)
  rw [e]
  rfl
theorem sho_short {D : Dm} (h : MayD D) (hl : D.cl.length = 256) {u : List UInt8} (hs : Sho (accD D 0) u) : u.length < D.next.length :=
 short_few h hl h.pos (wrds_ne.2 ⟨u, rfl, hs.is⟩) fun m hm => sho_none hs hm
theorem wrdW_one (D : Dm) {i : Nat} (hi : i ≤ 200) : wrdW D (i : Int) 1 = (wrds (accD D 0) i).take 1 := wrdW_nat D 1 hi
theorem le_9 {i n : Nat} (h : i ≤ n) (hn : n ≤ 8) : i ≤ 1000 := by omega
theorem le_9w {i n : Nat} (h : i ≤ n) (hn : n ≤ 8) : i ≤ 4611686018427387904 := by omega
theorem le_9t {i n : Nat} (h : i ≤ n) (hn : n ≤ 8) : i ≤ 200 := by omega
theorem sub_n1 {i n : Nat} (h : i ≤ n) : n + 1 - (i + 1) < n + 1 - i := by omega
theorem wj_ixR0 {ev : Operand → Value} {o : Oper} {c : Nat} (x : Operand) (ho : o.op = .indexAddr 35 x (.const (.int .i64 0))) {b off : Nat} (hx : ev x = .slice (some ⟨b, off, none⟩) 1 c) (hc : ev (.const (.int .i64 0)) = .int .i64 0) (W : World) : (execOp ev o).run Try.prog W = .ok (.value (.pointer (some ⟨b, off, none⟩))) W := by
 simp only [execOp, ho, hx, hc]
 go_simp
set_option maxHeartbeats 8000000 in
set_option maxRecDepth 1000000 in
theorem witness_least_walk (C : WitC) (n c : Nat) (V : Value) (ps : List UInt8) (w : World) (hn : n < 256) (hc : c < 256) (hr : Row w V (bvs ps)) :
  Calls Try.prog 4 #[.int .u8 (n : Int), .int .u8 (c : Int), V] w fun e w' => e = .returned (.bool true) ∧ Below w.heap.size w w' := by
 have HCC := qH C
 clear C
 have R := qH hr
 obtain ⟨A, cap, rfl, _⟩ := hr
 rw [bvs_length] at R
 rw [bvs_length]
 have HN := qH hn
 have HC := qH hc
 obtain ⟨d0, hd0⟩ : ∃ d0, d0 = dcl (ctab [] 0) (.slice none 0 0) (.slice none 0 0) := ⟨_, rfl⟩
 have HDL := qH (show d0.length = 258 by rw [hd0]; exact dcl_len (ctab_length _ _))
 obtain ⟨id, hid, hdz⟩ := Option.map_eq_some_iff.1 inf_dfa
 rw [← hd0] at hdz
 have HDZ := qH hdz
 clear hd0 hdz hn hc
 go_enter Try.func4, Try.ntmps4
 go_wp2_with fail
 refine (begun14_any HCC.out w).mono ?_
 rintro e w1 ⟨rfl, hb⟩
 have B1 := qH hb
 clear hb
 by_cases hl : 60 < ps.length
 ·have x1 : (60 : Int) < (ps.length : Int) := Int.ofNat_lt.2 hl
  clear hl
  go_wp2_with fail
  go_ret
  exact ⟨rfl, B1.out⟩
 have x1 : ¬ (60 : Int) < (ps.length : Int) := fun h => hl (Int.ofNat_lt.1 h)
 have HL := qH (Nat.le_of_not_lt hl)
 clear hl
 go_wp2_with fail
 refine (playDfa_any n c ps _ w1 HN.out HC.out (R.out.below B1.out) HL.out).mono ?_
 rintro e w2 ⟨cs, rfl, hd, hb⟩
 obtain ⟨D, hD⟩ : ∃ D, D = dfaQ n c ps := ⟨_, rfl⟩
 rw [← hD] at hd
 have HM := qH (show MayD D by rw [hD]; exact dfaQ_may n c ps)
 have HAC := qH (show AllC D by rw [hD]; exact dfaQ_allC n c ps)
 have HK8 := qH (show D.next.length ≤ 8 by rw [hD, dfaQ_len]; exact k8W n)
 clear hD
 have VA := qH hd.dfa
 obtain ⟨An, Ae, cn, ce, vf, hcl, hcs, _⟩ := VA.out.form
 have HCL2 := qH hcl
 have HLA := qH (show cs.length = 258 by rw [hcs]; exact dcl_len hcl)
 have HOA := qH (show cs.all (·.oneCell') = true by rw [hcs]; exact dcl_one)
 have HSA := qH (show (Try.prog.info? 28).map (·.size) = some cs.length from VA.out.size)
 have B2 := qH (B1.out.trans (hb.mono B1.out.size))
 obtain ⟨nn, hnn⟩ : ∃ m, m = D.next.length := ⟨_, rfl⟩
 have HNN := qH hnn
 rw [← hnn] at hcs HK8
 have C0 := qH (show cs[256]? = some (.slice An nn cn) by rw [hcs]; exact dcl_n hcl)
 clear hnn
 clear hd hb hcl hcs
 go_wp2_with (first
  | ((with_reducible refine atDst 7 ?_); refine wpList_new rfl 28 rfl id _ d0 hid HDZ.out rfl (Below.refl w2.heap.size w2) (Nat.le_refl _) ?_; intro w3 hk hb hs _; have K3 := qH hk; have B23 := qH hb; clear hk hb hs; (try simp only [Act.put, qA, qB, qC]))
  | ((with_reducible refine atStore 28 7 21 ?_); refine wpList_stBlk rfl 28 _ _ rfl w2.heap.size cs rfl rfl 28 _ K3.out HSA.out (by rw [HDL.out, HLA.out]) HOA.out B23.out (Nat.le_refl _) ?_; intro w4 hk hb hs ho; have K4 := qH hk; have V4 := qH (VA.out.below hb); have B4 := qH (B2.out.trans (hb.mono B2.out.size)); clear hk hb hs ho; (try simp only [Act.put, qA, qB, qC]))
  | ((with_reducible refine atDst 23 ?_); refine wpList_ldArr rfl 28 _ rfl w2.heap.size rfl 28 _ _ K4.out Try.underlying28 rfl HSA.out ?_; (try simp only [Act.put, qA, qB, qC])))
 obtain ⟨gd, hgd⟩ : ∃ g, g = w2.heap.size := ⟨_, rfl⟩
 rw [← hgd] at K4
 rw [← hgd]
 clear hgd K3 B23 VA
 refine (HCC.out.shortest D cs w4 V4.out HM.out HAC.out).mono ?_
 rintro e w5 ⟨v, b, rfl, ht, hf, hb⟩
 have K5 := qH (K4.out.below hb K4.out.lt)
 have V5 := qH (V4.out.below hb)
 have B5 := qH (B4.out.trans (hb.mono B4.out.size))
 clear hb
 cases b with
 | false =>
  obtain ⟨hr, hno⟩ := hf rfl
  have HNO := qH hno
  obtain ⟨Av, cv, rfl, _⟩ := hr
  clear ht hf hno
  go_wp2_with fail
  go_loopw [10] (fun iv wl => ∃ i : Nat, i ≤ nn + 1 ∧ iv = .int .i64 (i : Int) ∧ Below w5.heap.size w5 wl) (fun iv _ => nn + 1 - (intOf iv).toNat)
  case atStart => exact ⟨0, Nat.zero_le _, rfl, Below.refl _ _⟩
  obtain ⟨i, hi, rfl, hb⟩ := hrel
  have HI := qH hi
  have BI := qH hb
  obtain ⟨wi, hwi⟩ : ∃ v : World, v = wr := ⟨_, rfl⟩
  subst hwi
  clear hi hb
  have KI := qH (K5.out.below BI.out K5.out.lt)
  have VI := qH (V5.out.below BI.out)
  have c256 : wi.cell? ⟨gd, 256, none⟩ = some (.slice An nn cn) := (KI.out.cell 256).trans C0.out
  by_cases hil : i ≤ nn
  ·have y1 : (i : Int) ≤ (nn : Int) := Int.ofNat_le.2 hil
   have HIL := qH hil
   have HMX := qH (sub_n1 hil)
   have HC0 := qH (show cntW D i = 0 by rw [cntW_nat, cntL_none HNO.out]; rfl)
   have e3 := wrap_one i (le_9w hil HK8.out)
   have e4 := wrap_one' i (le_9w hil HK8.out)
   clear hil
   go_wp2_with ((with_reducible refine atDst 36 ?_); refine wpList_ldArr rfl 28 _ rfl gd rfl 28 _ _ KI.out Try.underlying28 rfl HSA.out ?_; (try simp only [Act.put, qA, qB, qC]))
   refine (HCC.out.count D cs i wi (int_m1 i) (int_1k (le_9 HIL.out HK8.out)) VI.out HM.out HAC.out).mono ?_
   rintro e w6 ⟨rfl, hb⟩
   rw [HC0.out]
   have BD := qH (BI.out.trans (hb.mono BI.out.size))
   clear hb c256
   go_wp2_with fail
   exact ⟨⟨i + 1, Nat.succ_le_succ HIL.out, by congr 1, BD.out⟩, by simpa [intOf] using HMX.out⟩
  ·have y1 : ¬ ((i : Int) ≤ (nn : Int)) := fun h => hil (Int.ofNat_le.1 h)
   have BWI := qH (B5.out.trans (BI.out.mono B5.out.size))
   clear hil
   go_wp2_with ((with_reducible refine atDst 44 ?_); refine wpList_ldArr rfl 28 _ rfl gd rfl 28 _ _ KI.out Try.underlying28 rfl HSA.out ?_; (try simp only [Act.put, qA, qB, qC]))
   refine (refLive11_any D cs wi VI.out HM.out).mono ?_
   rintro e w6 ⟨vl, rfl, hr, hb⟩
   rw [← HNN.out] at hr
   have hnp : 0 < nn := by rw [HNN.out]; exact HM.out.pos
   obtain ⟨Al, cl, hvl⟩ : ∃ A c, vl = .slice A nn c := by
    obtain ⟨A, c, h, _⟩ := hr
    exact ⟨A, c, by rw [h, bcs_len]⟩
   subst hvl
   obtain ⟨bl, ol, rfl, _, hcl⟩ := hr.at_ (by rw [bcs_len]; exact hnp)
   have cl0 : w6.cell? ⟨bl, ol, none⟩ = some (.bool false) := by
    have h1 := hcl 0 _ (bcs_get (livB D) hnp)
    rw [no_live HM.out HCL2.out HAC.out HNO.out] at h1
    exact h1
   have p0 : (0 : Int) < (nn : Int) := Int.ofNat_lt.2 hnp
   have BF := qH (BWI.out.trans (hb.mono BWI.out.size))
   clear hr hb hcl hnp c256
   go_wp2_with fail
   go_ret
   exact ⟨rfl, BF.out⟩
 | true =>
  obtain ⟨u, hr, hs⟩ := ht rfl
  have SH := qH hs
  have RU := qH hr
  obtain ⟨lu, hlu⟩ : ∃ l, l = u.length := ⟨_, rfl⟩
  obtain ⟨Av, cv, hvv⟩ : ∃ A c, v = .slice A lu c := by
   obtain ⟨A, c, h, _⟩ := hr
   exact ⟨A, c, by rw [h, bvs_length, hlu]⟩
  have HLU := qH hlu
  have HLN := qH (show lu < nn by rw [hlu, HNN.out]; exact sho_short HM.out HCL2.out hs)
  subst hvv
  clear ht hf hr hs hlu
  go_wp2_with fail
  go_loopw [11] (fun iv wl => ∃ i : Nat, i ≤ lu ∧ iv = .int .i64 (i : Int) ∧ Below w5.heap.size w5 wl) (fun iv _ => lu - (intOf iv).toNat)
  case atStart => exact ⟨0, Nat.zero_le _, rfl, Below.refl _ _⟩
  obtain ⟨i, hi, rfl, hb⟩ := hrel
  have HI := qH hi
  have BI := qH hb
  obtain ⟨wi, hwi⟩ : ∃ v : World, v = wr := ⟨_, rfl⟩
  subst hwi
  clear hi hb
  have KI := qH (K5.out.below BI.out K5.out.lt)
  have VI := qH (V5.out.below BI.out)
  have HI8 := qH (Nat.le_trans HI.out (Nat.le_of_lt HLN.out))
  have HIT := qH (le_9t HI8.out HK8.out)
  by_cases hil : i < lu
  ·have y1 : (i : Int) < (lu : Int) := Int.ofNat_lt.2 hil
   have HIL := qH hil
   have HMX := qH (sub_next hil)
   have HW0 := qH (show wrdW D i 1 = [] by rw [wrdW_one D HIT.out, sho_none SH.out (by rw [← HLU.out]; exact hil)]; rfl)
   have e3 := wrap_one i (le_9w HI8.out HK8.out)
   have e4 := wrap_one' i (le_9w HI8.out HK8.out)
   clear hil
   go_wp2_with ((with_reducible refine atDst 56 ?_); refine wpList_ldArr rfl 28 _ rfl gd rfl 28 _ _ KI.out Try.underlying28 rfl HSA.out ?_; (try simp only [Act.put, qA, qB, qC]))
   refine (HCC.out.words D cs i 1 wi (int_m1 i) (int_1k (le_9 HI8.out HK8.out)) (by decide) (by decide) VI.out HM.out HAC.out).mono ?_
   rintro e w6 ⟨va, rfl, ⟨asv, hra, hla, _⟩, hb⟩
   obtain ⟨Aa, ca, rfl, _⟩ := hra
   rw [hla, HW0.out]
   have BD := qH (BI.out.trans (hb.mono BI.out.size))
   clear hb hla
   go_wp2_with fail
   exact ⟨⟨i + 1, HIL.out, by congr 1, BD.out⟩, by simpa [intOf] using HMX.out⟩
  ·obtain rfl : i = lu := Nat.le_antisymm HI.out (Nat.not_lt.1 hil)
   have y1 : ¬ ((i : Int) < (i : Int)) := Int.lt_irrefl _
   have HW1 := qH (show wrdW D i 1 = [u] by rw [wrdW_one D HIT.out, HLU.out]; exact sho_first SH.out)
   have RUI := qH (RU.out.below BI.out)
   clear hil
   go_wp2_with ((with_reducible refine atDst 61 ?_); refine wpList_ldArr rfl 28 _ rfl gd rfl 28 _ _ KI.out Try.underlying28 rfl HSA.out ?_; (try simp only [Act.put, qA, qB, qC]))
   refine (HCC.out.words D cs i 1 wi (int_m1 i) (int_1k (le_9 HI8.out HK8.out)) (by decide) (by decide) VI.out HM.out HAC.out).mono ?_
   rintro e w6 ⟨va, rfl, ⟨asv, hra, hla, hwa⟩, hb⟩
   rw [HW1.out] at hla hwa
   obtain ⟨x, hx, hxr⟩ := hwa 0 u rfl
   obtain ⟨Aa, ca, hva⟩ : ∃ A c, va = .slice A 1 c := by
    obtain ⟨A, c, h, _⟩ := hra
    exact ⟨A, c, by rw [h, hla]; rfl⟩
   subst hva
   obtain ⟨ba, oa, rfl, hba, hca⟩ := hra.at_ (by rw [hla]; exact Nat.zero_lt_one)
   obtain ⟨Ax, cx, hxv⟩ : ∃ A c, x = .slice A i c := by
    obtain ⟨A, c, h, _⟩ := hxr
    exact ⟨A, c, by rw [h, bvs_length, HLU.out]⟩
   subst hxv
   have C84 := qH (hca 0 _ hx)
   have HBA := qH hba
   have XR := qH hxr
   have RU6 := qH (RUI.out.below hb)
   have K6 := qH (KI.out.below hb KI.out.lt)
   have V6 := qH (VI.out.below hb)
   have B6 := qH (B5.out.trans ((BI.out.trans (hb.mono BI.out.size)).mono B5.out.size))
   obtain ⟨Z, hZ⟩ : ∃ Z : ByteArray, Z = ⟨u.toArray⟩ := ⟨_, rfl⟩
   have HZ := qH hZ
   have n1 : (i : Int) < (nn : Int) := Int.ofNat_lt.2 HLN.out
   clear hra hla hwa hx hxr hba hca hb hZ
   go_wp2_with fail
   refine mc_start (fun V => Below w6.heap.size w6 V) (fun _ => True) 26 (by kernel_rfl) (fun wd hwd => ?_)
   have hX : Below w6.heap.size w6 wd := by rw [hwd]; exact (Below.refl _ _).drew
   have hY : True := trivial
   clear hwd
   refine mc_take (i := 0) (oi := ⟨some 65, _, _, _, _, _⟩) (v := .agg cs.toArray) rfl (by kernel_rfl) (by kernel_rfl) (by kernel_rfl) (fun _ _ _ h => h) rfl hX (fun V hT => ld_blk 28 (.tmp 7) rfl gd rfl 28 cs _ K6.out K6.out.lt Try.underlying28 rfl HSA.out V hT) ?_; simp only [Act.put, qA, qB, qC]
   refine mc_take (i := 1) (oi := ⟨some 66, _, _, _, _, _⟩) (v := ?_) rfl (by kernel_rfl) (by kernel_rfl) (by kernel_rfl) (fun _ _ _ h => h) rfl hX ?_ ?_; rotate_left; (intro W hW; go_simp; try with_reducible rfl); simp only [Act.put, qA, qB, qC]
   refine mc_actB (i := 2) (o := ⟨some 67, _, _, _, _, _⟩) rfl (by kernel_rfl) rfl (fun K hK => ?_)
   have X1 := qH hX
   go_wp2_with fail
   refine (refRun11_any D u cs _ wd (V6.out.below hX) HM.out (RU6.out.below hX)).mono ?_
   rintro e w7 ⟨rfl, hb⟩
   rw [show runD D u = true from SH.out.is]
   have hX2 := X1.out.trans (hb.mono X1.out.size)
   clear hb
   go_wp2_with fail
   refine hK _ _ hX2 trivial ?_
   clear hK K hX
   have hX := hX2
   clear hX2
   (try simp only [Act.put, qA, qB, qC])
   refine mc_take (i := 3) (oi := ⟨some 68, _, _, _, _, _⟩) (v := ?_) rfl (by kernel_rfl) (by kernel_rfl) (by kernel_rfl) (fun _ _ _ h => h) rfl hX ?_ ?_; rotate_left; (intro W hW; go_simp; try with_reducible rfl); simp only [Act.put, qA, qB, qC]
   refine mc_take (i := 4) (oi := ⟨some 69, _, _, _, _, _⟩) (v := ?_) rfl (by kernel_rfl) (by kernel_rfl) (by kernel_rfl) (fun _ _ _ h => h) rfl hX ?_ ?_; rotate_left; (intro W hW; go_simp; try with_reducible rfl); simp only [Act.put, qA, qB, qC]
   refine mc_take (i := 5) (oi := ⟨some 70, _, _, _, _, _⟩) (v := ?_) rfl (by kernel_rfl) (by kernel_rfl) (by kernel_rfl) (fun _ _ _ h => h) rfl hX ?_ ?_; rotate_left; (intro W hW; go_simp; try with_reducible rfl); simp only [Act.put, qA, qB, qC]
   refine mc_take (i := 6) (oi := ⟨some 71, _, _, _, _, _⟩) (v := ?_) rfl (by kernel_rfl) (by kernel_rfl) (by kernel_rfl) (fun _ _ _ h => h) rfl hX ?_ ?_; rotate_left; (intro W hW; go_simp; try with_reducible rfl); simp only [Act.put, qA, qB, qC]
   refine mc_take (i := 7) (oi := ⟨some 72, _, _, _, _, _⟩) (v := .slice An nn cn) rfl (by kernel_rfl) (by kernel_rfl) (by kernel_rfl) (fun _ _ _ h => h) rfl hX (fun V hT => lk_ldIss (.tmp 71) rfl rfl (((K6.out.below hT K6.out.lt).cell 256).trans C0.out)) ?_; simp only [Act.put, qA, qB, qC]
   refine mc_take (i := 8) (oi := ⟨some 73, _, _, _, _, _⟩) (v := ?_) rfl (by kernel_rfl) (by kernel_rfl) (by kernel_rfl) (fun _ _ _ h => h) rfl hX ?_ ?_; rotate_left; (intro W hW; go_simp; try with_reducible rfl); simp only [Act.put, qA, qB, qC]
   refine mc_take (i := 9) (oi := ⟨some 74, _, _, _, _, _⟩) (v := ?_) rfl (by kernel_rfl) (by kernel_rfl) (by kernel_rfl) (fun _ _ _ h => h) rfl hX ?_ ?_; rotate_left; (intro W hW; go_simp; try with_reducible rfl); simp only [Act.put, qA, qB, qC]
   refine mc_take (i := 10) (oi := ⟨some 75, _, _, _, _, _⟩) (v := ?_) rfl (by kernel_rfl) (by kernel_rfl) (by kernel_rfl) (fun _ _ _ h => h) rfl hX ?_ ?_; rotate_left; (intro W hW; go_simp; try with_reducible rfl); simp only [Act.put, qA, qB, qC]
   refine mc_take (i := 11) (oi := ⟨some 76, _, _, _, _, _⟩) (v := ?_) rfl (by kernel_rfl) (by kernel_rfl) (by kernel_rfl) (fun _ _ _ h => h) rfl hX ?_ ?_; rotate_left; (intro W hW; go_simp; try with_reducible rfl); simp only [Act.put, qA, qB, qC]
   refine mc_take (i := 12) (oi := ⟨some 77, _, _, _, _, _⟩) (v := ?_) rfl (by kernel_rfl) (by kernel_rfl) (by kernel_rfl) (fun _ _ _ h => h) rfl hX ?_ ?_; rotate_left; (intro W hW; go_simp; try with_reducible rfl); simp only [Act.put, qA, qB, qC]
   refine mc_take (i := 13) (oi := ⟨some 78, _, _, _, _, _⟩) (v := ?_) rfl (by kernel_rfl) (by kernel_rfl) (by kernel_rfl) (fun _ _ _ h => h) rfl hX ?_ ?_; rotate_left; (intro W hW; go_simp; try with_reducible rfl); simp only [Act.put, qA, qB, qC]
   refine mc_take (i := 14) (oi := ⟨some 79, _, _, _, _, _⟩) (v := ?_) rfl (by kernel_rfl) (by kernel_rfl) (by kernel_rfl) (fun _ _ _ h => h) rfl hX ?_ ?_; rotate_left; (intro W hW; go_simp; try with_reducible rfl); simp only [Act.put, qA, qB, qC]
   refine mc_take (i := 15) (oi := ⟨some 80, _, _, _, _, _⟩) (v := ?_) rfl (by kernel_rfl) (by kernel_rfl) (by kernel_rfl) (fun _ _ _ h => h) rfl hX ?_ ?_; rotate_left; (intro W hW; go_simp; try with_reducible rfl); simp only [Act.put, qA, qB, qC]
   refine mc_take (i := 16) (oi := ⟨some 81, _, _, _, _, _⟩) (v := ?_) rfl (by kernel_rfl) (by kernel_rfl) (by kernel_rfl) (fun _ _ _ h => h) rfl hX ?_ ?_; rotate_left; (intro W hW; go_simp; try with_reducible rfl); simp only [Act.put, qA, qB, qC]
   refine mc_take (i := 17) (oi := ⟨some 82, _, _, _, _, _⟩) (v := ?_) rfl (by kernel_rfl) (by kernel_rfl) (by kernel_rfl) (fun _ _ _ h => h) rfl hX ?_ ?_; rotate_left; (intro W hW; go_simp; try with_reducible rfl); simp only [Act.put, qA, qB, qC]
   refine mc_take (i := 18) (oi := ⟨some 83, _, _, _, _, _⟩) (v := .pointer (some ⟨ba, oa, none⟩)) rfl (by kernel_rfl) (by kernel_rfl) (by kernel_rfl) (fun _ _ _ h => h) rfl hX (fun V _ => wj_ixR0 (.tmp 82) rfl rfl rfl V) ?_; simp only [Act.put, qA, qB, qC]
   refine mc_take (i := 19) (oi := ⟨some 84, _, _, _, _, _⟩) (v := .slice Ax i cx) rfl (by kernel_rfl) (by kernel_rfl) (by kernel_rfl) (fun _ _ _ h => h) rfl hX (fun V hT => wj_ldR (.tmp 83) rfl rfl ((hT.cell (p := ⟨ba, oa, none⟩) HBA.out).trans C84.out)) ?_; simp only [Act.put, qA, qB, qC]
   refine mc_take (i := 20) (oi := ⟨some 85, _, _, _, _, _⟩) (v := .string Z) rfl (by kernel_rfl) (by kernel_rfl) (by kernel_rfl) (fun _ _ _ h => h) rfl hX (fun V hT => by rw [HZ.out]; exact ex_toStr (x := .tmp 84) (v := .slice Ax i cx) rfl rfl (XR.out.below hT)) ?_; simp only [Act.put, qA, qB, qC]
   refine mc_take (i := 21) (oi := ⟨some 86, _, _, _, _, _⟩) (v := ?_) rfl (by kernel_rfl) (by kernel_rfl) (by kernel_rfl) (fun _ _ _ h => h) rfl hX ?_ ?_; rotate_left; (intro W hW; go_simp; try with_reducible rfl); simp only [Act.put, qA, qB, qC]
   refine mc_take (i := 22) (oi := ⟨some 87, _, _, _, _, _⟩) (v := .string Z) rfl (by kernel_rfl) (by kernel_rfl) (by kernel_rfl) (fun _ _ _ h => h) rfl hX (fun V hT => by rw [HZ.out]; exact ex_toStr (x := .tmp 86) (v := .slice Av i cv) rfl rfl (RU6.out.below hT)) ?_; simp only [Act.put, qA, qB, qC]
   refine mc_take (i := 23) (oi := ⟨some 88, _, _, _, _, _⟩) (v := .bool true) rfl (by kernel_rfl) (by kernel_rfl) (by kernel_rfl) (fun _ _ _ h => h) rfl hX (fun V _ => ex_eqW 9 (.tmp 85) (.tmp 87) _ Try.underlying9 rfl rfl rfl HZ.out HZ.out (by simp) V) ?_; simp only [Act.put, qA, qB, qC]
   refine mc_take (i := 24) (oi := ⟨some 89, _, _, _, _, _⟩) (v := ?_) rfl (by kernel_rfl) (by kernel_rfl) (by kernel_rfl) (fun _ _ _ h => h) rfl hX ?_ ?_; rotate_left; (intro W hW; go_simp; try with_reducible rfl); simp only [Act.put, qA, qB, qC]
   refine mc_take (i := 25) (oi := ⟨some 6, _, _, _, _, _⟩) (v := ?_) rfl (by kernel_rfl) (by kernel_rfl) (by kernel_rfl) (fun _ _ _ h => h) rfl hX ?_ ?_; rotate_left; (intro W hW; go_simp; try with_reducible rfl); simp only [Act.put, qA, qB, qC]
   refine wpAnyC_done (by kernel_rfl) ?_ _
   have BF := qH (B6.out.trans (hX.mono B6.out.size))
   clear hX hY
   go_wp2_with fail
   go_ret
   exact ⟨rfl, BF.out⟩
end Go.Proofs.Ytaakdebcagdfgaa
