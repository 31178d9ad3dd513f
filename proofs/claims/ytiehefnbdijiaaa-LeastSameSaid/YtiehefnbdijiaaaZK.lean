/-
  Texts of this proof, put together: LqB, LqX, LkA. No statement is proved here.
-/
import Derived.Test.YtiehefnbdijiaaaZJ
import Derived.Test.YtiehefnbdijiaaaZF
import Derived.Test.YtiehefnbdijiaaaZH
namespace Go.Proofs.Ytiehefnbdijiaaa
open Go.RowKit
set_option linter.unusedSimpArgs false
set_option linter.unusedVariables false
theorem k8L (n : Nat) : 1 + n % 8 ≤ 8 := by omega
theorem ex_eqBL {ev : Operand → Value} {o : Oper} (x y : Operand) {r : TypeId} (ho : o.op = .binOp .eql 4 x y r) {p q : Bool} (hx : ev x = .bool p) (hy : ev y = .bool q) {b : Bool} (hb : (p == q) = b) (W : World) : (execOp ev o).run Try.prog W = .ok (.value (.bool b)) W := by
 simp only [execOp, ho, hx, hy]
 subst hb
 cases p <;> cases q <;> go_simp
theorem two_maxL {u v : Value} : [u, v].length ≤ maxLen := by
 show 2 ≤ maxLen
 decide
theorem one_maxL {v : Value} : [v].length ≤ maxLen := by
 show 1 ≤ maxLen
 decide
set_option maxHeartbeats 8000000 in
set_option maxRecDepth 1000000 in
theorem begun12_any (C : LstC) (w : World) : Calls Try.prog 4 #[] w fun e w' => e = .returned (.bool true) ∧ Below w.heap.size w w' := by
 have HCC := qH C
 clear C
 obtain ⟨D, hD⟩ : ∃ D, D = yesM [[1], [0]] [true, true] := ⟨_, rfl⟩
 have HM := qH (show MayD D by rw [hD]; exact two_may)
 have HAC := qH (show AllC D by rw [hD]; exact yes_allC _ _)
 have HLL := qH (show D.cl.length = 256 by rw [hD]; exact ctab_length _ _)
 have HNX := qH (show D.next = [[1], [0]] by rw [hD]; rfl)
 have HEN := qH (show D.ends = [true, true] by rw [hD]; rfl)
 have HCL := qH (show D.cl = ctab [] 0 by rw [hD]; rfl)
 have HLN := qH (show (lstD D).next.length = 1 by rw [hD]; exact two_len)
 have HNT := qH (show ¬ D = lstD D by rw [hD]; exact two_not)
 have HPT := qH (show parD D 1 = 0 by rw [hD]; exact two_part)
 obtain ⟨d0, hd0⟩ : ∃ d0, d0 = dcl (ctab [] 0) (.slice none 0 0) (.slice none 0 0) := ⟨_, rfl⟩
 have HDL := qH (show d0.length = 258 by rw [hd0]; exact dcl_len (ctab_length _ _))
 obtain ⟨id, hid, hdz⟩ := Option.map_eq_some_iff.1 inf_dfa
 rw [← hd0] at hdz
 have HDZ := qH hdz
 obtain ⟨i1, hi1, hy0, hy1, hy2⟩ := infoP inf_int
 obtain ⟨i2, hi2, hb0, hb1, hb2⟩ := infoP inf_bool
 obtain ⟨il, hil, hl0, hl1, hl2⟩ := infoP inf_sl
 clear hD hd0 hdz
 go_enter Try.func4, Try.ntmps4
 go_wp2_with (first
  | ((with_reducible refine atDst 4 ?_); refine wpList_plain rfl fun K hK => wp_bldVk 38 3 (.const (.int .i64 1)) rfl i1 (.int .i64 0) Try.underlying38 hi1 hy0 hy1 rfl (.int .i64 1) rfl rfl ?_; intro w1 hk hb; have K1 := qH hk; have B1 := qH hb; clear hk hb; refine hK _ _ ?_; clear hK K; (try simp only [Act.put, qA, qB, qC]))
  | ((with_reducible refine atDst 5 ?_); refine wpList_plain rfl fun K hK => wp_bldVk 38 3 (.const (.int .i64 0)) rfl i1 (.int .i64 0) Try.underlying38 hi1 hy0 hy1 rfl (.int .i64 0) rfl rfl ?_; intro w2 hk hb; have K2 := qH hk; have J1 := qH (K1.out.below hb K1.out.lt); have B2 := qH (B1.out.trans (hb.mono B1.out.size)); clear hk hb; refine hK _ _ ?_; clear hK K; (try simp only [Act.put, qA, qB, qC]))
  | ((with_reducible refine atDst 6 ?_); refine wpList_plain rfl fun K hK => wp_bldV2 25 38 (.tmp 4) (.tmp 5) rfl il (.slice none 0 0) Try.underlying25 hil hl0 hl1 rfl (.slice (some ⟨w.heap.size, 0, none⟩) 1 1) (.slice (some ⟨w1.heap.size, 0, none⟩) 1 1) rfl rfl rfl rfl ?_; intro w3 hk hb; have K3 := qH hk; have I1 := qH (J1.out.below hb J1.out.lt); have I2 := qH (K2.out.below hb K2.out.lt); have B3 := qH (B2.out.trans (hb.mono B2.out.size)); clear hk hb; refine hK _ _ ?_; clear hK K; (try simp only [Act.put, qA, qB, qC]))
  | ((with_reducible refine atDst 7 ?_); refine wpList_plain rfl fun K hK => wp_bldV2 26 4 (.const (.bool true)) (.const (.bool true)) rfl i2 (.bool false) Try.underlying26 hi2 hb0 hb1 rfl (.bool true) (.bool true) rfl rfl rfl rfl ?_; intro w4 hk hb; have K4 := qH hk; have H1 := qH (I1.out.below hb I1.out.lt); have H2 := qH (I2.out.below hb I2.out.lt); have H3 := qH (K3.out.below hb K3.out.lt); have B4 := qH (B3.out.trans (hb.mono B3.out.size)); clear hk hb; refine hK _ _ ?_; clear hK K; obtain ⟨d1, hd1⟩ : ∃ d1, d1 = dcl (ctab [] 0) (.slice (some ⟨w2.heap.size, 0, none⟩) 2 2) (.slice (some ⟨w3.heap.size, 0, none⟩) 2 2) := ⟨_, rfl⟩; have HD1 := qH hd1; have HBL := qH (show Try.prog.built 28 [(1, .slice (some ⟨w2.heap.size, 0, none⟩) 2 2), (2, .slice (some ⟨w3.heap.size, 0, none⟩) 2 2)] = some d1.toArray by (rw [hd1]; exact built_nxL _ _ _ _ _ _)); have HDLa := qH (show d1.length = 258 by (rw [hd1]; exact dcl_len (ctab_length _ _))); have HDOa := qH (show d1.all (·.oneCell') = true by (rw [hd1]; exact dcl_one)); have HDSa := qH (show (Try.prog.info? 28).map (·.size) = some d1.length by (rw [hd1]; exact size_dfa (ctab_length _ _))); clear hd1; (try simp only [Act.put, qA, qB, qC]))
  | ((with_reducible refine atDst 8 ?_); refine wpList_bld rfl 28 _ rfl d1 HBL.out ?_; (try simp only [Act.put, qA, qB, qC]))
  | ((with_reducible refine atDst 1 ?_); refine wpList_new rfl 28 rfl id _ d0 hid HDZ.out rfl (Below.refl w4.heap.size w4) (Nat.le_refl _) ?_; intro w5 hk hb hs _; have K5 := qH hk; have B45 := qH hb; clear hk hb hs; (try simp only [Act.put, qA, qB, qC]))
  | ((with_reducible refine atStore 28 1 8 ?_); refine wpList_stBlk rfl 28 _ _ rfl w4.heap.size d1 rfl rfl 28 _ K5.out HDSa.out (by rw [HDL.out, HDLa.out]) HDOa.out B45.out (Nat.le_refl _) ?_; intro w6 hk hb hs ho; have K6 := qH hk; have B46 := qH hb; clear hk hb hs ho; (try simp only [Act.put, qA, qB, qC]))
  | ((with_reducible refine atDst 9 ?_); refine wpList_ldArr rfl 28 _ rfl w4.heap.size rfl 28 _ _ K6.out Try.underlying28 rfl HDSa.out ?_; (try simp only [Act.put, qA, qB, qC])))
 have V6 := qH (show DfaV w6 d1 D from ⟨HLL.out, .slice (some ⟨w2.heap.size, 0, none⟩) 2 2, .slice (some ⟨w3.heap.size, 0, none⟩) 2 2, fun q => if q = 0 then .slice (some ⟨w.heap.size, 0, none⟩) 1 1 else .slice (some ⟨w1.heap.size, 0, none⟩) 1 1, by rw [HCL.out]; exact HD1.out, by
  rw [HNX.out]
  exact Row.of_own ((H3.out.below B46.out H3.out.lt).own (Nat.zero_le _) two_maxL), fun i r hr => by
  rw [HNX.out] at hr
  have hi := (List.getElem?_eq_some_iff.1 hr).1
  have hi : i < 2 := hi
  rcases (show i = 0 ∨ i = 1 by omega) with rfl | rfl
  ·obtain rfl : [1] = r := Option.some.inj hr
   exact Row.of_own ((H1.out.below B46.out H1.out.lt).own (Nat.zero_le _) one_maxL)
  ·obtain rfl : [0] = r := Option.some.inj hr
   exact Row.of_own ((H2.out.below B46.out H2.out.lt).own (Nat.zero_le _) one_maxL), by
  rw [HEN.out]
  exact Row.of_own ((K4.out.below B46.out K4.out.lt).own (Nat.zero_le _) two_maxL)⟩)
 have B6 := qH (B4.out.trans (B46.out.mono B4.out.size))
 refine (HCC.out.least D d1 w6 V6.out HM.out HAC.out).mono ?_
 rintro e w7 ⟨xs, rfl, hx, hb⟩
 obtain ⟨E, hE⟩ : ∃ E, E = lstD D := ⟨_, rfl⟩
 rw [← hE] at hx
 have HEE := qH hE
 have ME := qH (show MayD E by rw [hE]; exact lst_may HM.out HLL.out)
 have AE := qH (show AllC E by rw [hE]; exact lst_allC HM.out HLL.out)
 have HTE := qH (show E = lstD E by rw [hE]; exact (lst_twice HM.out HLL.out).symm)
 have HEL := qH (show E.next.length = 1 by rw [hE]; exact HLN.out)
 have X7 := qH hx
 obtain ⟨Bn, Be, dn, de, uf, hl2, hes, _⟩ := hx.form
 have HXL := qH (show xs.length = 258 by rw [hes]; exact dcl_len hl2)
 have HXO := qH (show xs.all (·.oneCell') = true by rw [hes]; exact dcl_one)
 have HXS := qH (show (Try.prog.info? 28).map (·.size) = some xs.length from X7.out.size)
 rw [HEL.out] at hes
 have HES := qH hes
 have HL2 := qH hl2
 have K7 := qH (K6.out.below hb K6.out.lt)
 have V7 := qH (V6.out.below hb)
 have B7 := qH (B6.out.trans (hb.mono B6.out.size))
 clear hx hb hE hes hl2
 go_wp2_with (first
  | ((with_reducible refine atDst 2 ?_); refine wpList_new rfl 28 rfl id _ d0 hid HDZ.out rfl (Below.refl w7.heap.size w7) (Nat.le_refl _) ?_; intro w8 hk hb hs _; have L8 := qH hk; have B78 := qH hb; clear hk hb hs; (try simp only [Act.put, qA, qB, qC]))
  | ((with_reducible refine atStore 28 2 10 ?_); refine wpList_stBlk rfl 28 _ _ rfl w7.heap.size xs rfl rfl 28 _ L8.out HXS.out (by rw [HDL.out, HXL.out]) HXO.out B78.out (Nat.le_refl _) ?_; intro w9 hk hb hs ho; have L9 := qH hk; have K9 := qH (K7.out.below hb K7.out.lt); have V9 := qH (V7.out.below hb); have X9 := qH (X7.out.below hb); have B9 := qH (B7.out.trans (hb.mono B7.out.size)); clear hk hb hs ho; (try simp only [Act.put, qA, qB, qC]))
  | ((with_reducible refine atDst 11 ?_); refine wpList_ldArr rfl 28 _ rfl w4.heap.size rfl 28 _ _ K9.out Try.underlying28 rfl HDSa.out ?_; (try simp only [Act.put, qA, qB, qC])))
 refine (HCC.out.parts D d1 w9 V9.out HM.out HAC.out).mono ?_
 rintro e wa ⟨pv, rfl, hr, hb⟩
 have hn2 : D.next.length = 2 := by rw [HNX.out]; rfl
 rw [hn2] at hr
 obtain ⟨bp, op, cp, rfl, hbp, hcp⟩ := row_ncs hr (by decide)
 have HBP := qH hbp
 have CP := qH (show wa.cell? ⟨bp, op + 1, none⟩ = some (.int .i64 0) by have h1 := hcp 1 (by decide); rw [HPT.out] at h1; exact h1)
 have LA := qH (L9.out.below hb L9.out.lt)
 have KA := qH (K9.out.below hb K9.out.lt)
 have VA := qH (V9.out.below hb)
 have XA := qH (X9.out.below hb)
 have BA := qH (B9.out.trans (hb.mono B9.out.size))
 have c256 : wa.cell? ⟨w7.heap.size, 256, none⟩ = some (.slice Bn 1 dn) := by rw [LA.out.cell 256, HES.out]; exact dcl_n HL2.out
 clear hr hbp hcp hb hn2
 go_wp2_with ((with_reducible refine atDst 18 ?_); refine wpList_ldArr (by rfl) 28 _ rfl w7.heap.size rfl 28 _ _ LA.out Try.underlying28 rfl HXS.out ?_; (try simp only [Act.put, qA, qB, qC]))
 refine (HCC.out.is_ E xs wa XA.out ME.out AE.out).mono ?_
 rintro e wb ⟨rfl, hb⟩
 rw [@decide_eq_true _ (Classical.propDecidable _) HTE.out]
 have KB := qH (KA.out.below hb KA.out.lt)
 have VB := qH (VA.out.below hb)
 have CPB := qH ((hb.cell (p := ⟨bp, op + 1, none⟩) HBP.out).trans CP.out)
 have HBPB := qH (Nat.lt_of_lt_of_le HBP.out hb.size)
 have BB := qH (BA.out.trans (hb.mono BA.out.size))
 clear hb c256
 go_wp2_with ((with_reducible refine atDst 22 ?_); refine wpList_ldArr (by rfl) 28 _ rfl w4.heap.size rfl 28 _ _ KB.out Try.underlying28 rfl HDSa.out ?_; (try simp only [Act.put, qA, qB, qC]))
 refine (HCC.out.is_ D d1 wb VB.out HM.out HAC.out).mono ?_
 rintro e wc ⟨rfl, hb⟩
 rw [@decide_eq_false _ (Classical.propDecidable _) HNT.out]
 have cp1 : wc.cell? ⟨bp, op + 1, none⟩ = some (.int .i64 0) := (hb.cell (p := ⟨bp, op + 1, none⟩) HBPB.out).trans CPB.out
 have BC := qH (BB.out.trans (hb.mono BB.out.size))
 clear hb
 go_wp2_with fail
 go_ret
 exact ⟨rfl, BC.out⟩
structure PsC : Prop where
 product : ∀ (D E : Dm) (cs es : List Value) (w : World), DfaV w cs D → DfaV w es E → MayD D → MayD E → D.next.length * E.next.length ≤ 64 → Calls Try.prog 6 #[.agg cs.toArray, .agg es.toArray, .int .i64 4, .int .i64 64] w fun e w' => ∃ (xs : List Value) (P : Dm), e = .returned (.tuple #[.agg xs.toArray, .int .i64 0]) ∧ DfaV w' xs P ∧ MayD P ∧ (∃ ps, P.cl = ctab ps 256) ∧ (∀ u, accD P 0 u = (accD D 0 u != accD E 0 u)) ∧ Below w.heap.size w w'
 shortest : ∀ (P : Dm) (xs : List Value) (w : World), DfaV w xs P → MayD P → (∃ ps, P.cl = ctab ps 256) → Calls Try.prog 7 #[.agg xs.toArray] w fun e w' => ∃ (v : Value) (b : Bool), e = .returned (.tuple #[v, .bool b]) ∧ (b = true ↔ ∃ u, accD P 0 u = true) ∧ Below w.heap.size w w'
theorem k64 {a b : Nat} (h : a ≤ 8) (h2 : b ≤ 8) : a * b ≤ 64 := Nat.le_trans (Nat.mul_le_mul h h2) (by decide)
theorem same_iff {D E P : Dm} (hD : MayD D) (hl : D.cl.length = 256) (hE : MayD E) (hl' : E.cl.length = 256) (hP : ∀ u, accD P 0 u = (accD D 0 u != accD E 0 u)) {b : Bool} (hb : b = true ↔ ∃ u, accD P 0 u = true) : decide (lstD D = lstD E) = !b := by
 have h1 := lst_same hD hl hE hl'
 cases b with
 | true =>
  obtain ⟨u, hu⟩ := hb.1 rfl
  rw [hP] at hu
  exact decide_eq_false fun e => by
   rw [h1.1 e] at hu
   simp at hu
 | false =>
  refine decide_eq_true (h1.2 ?_)
  funext u
  by_cases h : accD D 0 u = accD E 0 u
  ·exact h
  ·exact absurd (hb.2 ⟨u, by rw [hP]; simpa using h⟩) (by decide)
set_option maxHeartbeats 8000000 in
set_option maxRecDepth 1000000 in
theorem least_same_walk (C : LstC) (Z : PsC) (n c : Nat) (V : Value) (ps : List UInt8) (n2 c2 : Nat) (V2 : Value) (ps2 : List UInt8) (w : World) (hn : n < 256) (hc : c < 256) (hr : Row w V (bvs ps)) (hn2 : n2 < 256) (hc2 : c2 < 256) (hr2 : Row w V2 (bvs ps2)) :
  Calls Try.prog 3 #[.int .u8 (n : Int), .int .u8 (c : Int), V, .int .u8 (n2 : Int), .int .u8 (c2 : Int), V2] w fun e w' => e = .returned (.bool true) ∧ Below w.heap.size w w' := by
 have HCC := qH C
 have HZZ := qH Z
 clear C Z
 have R := qH hr
 have R2 := qH hr2
 obtain ⟨A, cap, rfl, _⟩ := hr
 obtain ⟨A2, cap2, rfl, _⟩ := hr2
 rw [bvs_length] at R R2
 rw [bvs_length, bvs_length]
 have HN := qH hn
 have HC := qH hc
 have HN2 := qH hn2
 have HC2 := qH hc2
 obtain ⟨d0, hd0⟩ : ∃ d0, d0 = dcl (ctab [] 0) (.slice none 0 0) (.slice none 0 0) := ⟨_, rfl⟩
 have HDL := qH (show d0.length = 258 by rw [hd0]; exact dcl_len (ctab_length _ _))
 obtain ⟨id, hid, hdz⟩ := Option.map_eq_some_iff.1 inf_dfa
 rw [← hd0] at hdz
 have HDZ := qH hdz
 clear hd0 hdz hn hc hn2 hc2
 go_enter Try.func3, Try.ntmps3
 go_wp2_with fail
 refine (begun12_any HCC.out w).mono ?_
 rintro e w1 ⟨rfl, hb⟩
 have B1 := qH hb
 clear hb
 by_cases hl : 60 < ps.length
 ·have x1 : (60 : Int) < (ps.length : Int) := Int.ofNat_lt.2 hl
  clear hl
  go_wp2_with fail
  go_ret
  exact ⟨rfl, B1.out⟩
 have x1 : ¬ (60 : Int) < (ps.length : Int) := fun h => hl (Int.ofNat_lt.1 h)
 have HL := qH (Nat.le_of_not_lt hl)
 clear hl
 by_cases hl2 : 60 < ps2.length
 ·have x2 : (60 : Int) < (ps2.length : Int) := Int.ofNat_lt.2 hl2
  clear hl2
  go_wp2_with fail
  go_ret
  exact ⟨rfl, B1.out⟩
 have x2 : ¬ (60 : Int) < (ps2.length : Int) := fun h => hl2 (Int.ofNat_lt.1 h)
 have HL2 := qH (Nat.le_of_not_lt hl2)
 clear hl2
 go_wp2_with fail
 refine (playDfa_any n c ps _ w1 HN.out HC.out (R.out.below B1.out) HL.out).mono ?_
 rintro e w2 ⟨cs, rfl, hd, hb⟩
 have B2 := qH (B1.out.trans (hb.mono B1.out.size))
 have VA := qH hd.dfa
 clear hb hd
 go_wp2_with fail
 refine (playDfa_any n2 c2 ps2 _ w2 HN2.out HC2.out (R2.out.below B2.out) HL2.out).mono ?_
 rintro e w3 ⟨es, rfl, hd, hb⟩
 obtain ⟨D, hD⟩ : ∃ D, D = dfaQ n c ps := ⟨_, rfl⟩
 obtain ⟨E, hE⟩ : ∃ D, D = dfaQ n2 c2 ps2 := ⟨_, rfl⟩
 rw [← hD] at VA
 rw [← hE] at hd
 have HM := qH (show MayD D by rw [hD]; exact dfaQ_may n c ps)
 have HM2 := qH (show MayD E by rw [hE]; exact dfaQ_may n2 c2 ps2)
 have H64 := qH (show D.next.length * E.next.length ≤ 64 by rw [hD, hE, dfaQ_len, dfaQ_len]; exact k64 (k8L n) (k8L n2))
 have HAC := qH (show AllC D by rw [hD]; exact dfaQ_allC n c ps)
 have HAC2 := qH (show AllC E by rw [hE]; exact dfaQ_allC n2 c2 ps2)
 clear hD hE
 have VD := qH (VA.out.below hb)
 have VE := qH hd.dfa
 have B3 := qH (B2.out.trans (hb.mono B2.out.size))
 have HCL2 := qH VD.out.1
 have HCE2 := qH VE.out.1
 obtain ⟨An, Ae, cn, ce, vf, hcl, hcs, _⟩ := VD.out.form
 have HLA := qH (show cs.length = 258 by rw [hcs]; exact dcl_len hcl)
 have HOA := qH (show cs.all (·.oneCell') = true by rw [hcs]; exact dcl_one)
 have HSA := qH (show (Try.prog.info? 28).map (·.size) = some cs.length from VD.out.size)
 clear hcl hcs
 obtain ⟨Bn, Be, dn, de, uf, hcl, hcs, _⟩ := VE.out.form
 have HLE := qH (show es.length = 258 by rw [hcs]; exact dcl_len hcl)
 have HOE := qH (show es.all (·.oneCell') = true by rw [hcs]; exact dcl_one)
 have HSE := qH (show (Try.prog.info? 28).map (·.size) = some es.length from VE.out.size)
 clear hcl hcs hd hb VA
 go_wp2_with (first
  | ((with_reducible refine atDst 13 ?_); refine wpList_new rfl 28 rfl id _ d0 hid HDZ.out rfl (Below.refl w3.heap.size w3) (Nat.le_refl _) ?_; intro w4 hk hb hs _; have K4 := qH hk; have B4 := qH hb; clear hk hb hs; (try simp only [Act.put, qA, qB, qC]))
  | ((with_reducible refine atDst 14 ?_); refine wpList_new rfl 28 rfl id _ d0 hid HDZ.out rfl (Below.refl w4.heap.size w4) (Nat.le_refl _) ?_; intro w5 hk hb hs _; have L5 := qH hk; have K5 := qH (K4.out.below hb K4.out.lt); have B5 := qH (B4.out.trans (hb.mono B4.out.size)); have HKL := qH (Nat.ne_of_lt K4.out.lt); have HKG := qH (show w3.heap.size ≤ w4.heap.size from B4.out.size); clear hk hb hs; (try simp only [Act.put, qA, qB, qC]))
  | ((with_reducible refine atStore 28 13 32 ?_); refine wpList_stBlk rfl 28 _ _ rfl w3.heap.size cs rfl rfl 28 _ K5.out HSA.out (by rw [HDL.out, HLA.out]) HOA.out B5.out (Nat.le_refl _) ?_; intro w6 hk hb hs ho; have K6 := qH hk; have L6 := qH (show Blk w6 w4.heap.size 28 d0 from (ho w4.heap.size (fun e => HKL.out e.symm)).trans L5.out); have B6 := qH hb; clear hk hb hs ho; (try simp only [Act.put, qA, qB, qC]))
  | ((with_reducible refine atStore 28 14 36 ?_); refine wpList_stBlk rfl 28 _ _ rfl w4.heap.size es rfl rfl 28 _ L6.out HSE.out (by rw [HDL.out, HLE.out]) HOE.out B6.out HKG.out ?_; intro w7 hk hb hs ho; have L7 := qH hk; have K7 := qH (show Blk w7 w3.heap.size 28 cs from (ho w3.heap.size HKL.out).trans K6.out); have B7 := qH hb; clear hk hb hs ho; (try simp only [Act.put, qA, qB, qC]))
  | ((with_reducible refine atDst 38 ?_); refine wpList_ldArr rfl 28 _ rfl w3.heap.size rfl 28 _ _ K7.out Try.underlying28 rfl HSA.out ?_; (try simp only [Act.put, qA, qB, qC]))
  | ((with_reducible refine atDst 39 ?_); refine wpList_ldArr rfl 28 _ rfl w4.heap.size rfl 28 _ _ L7.out Try.underlying28 rfl HSE.out ?_; (try simp only [Act.put, qA, qB, qC])))
 refine (HZZ.out.product D E cs es w7 (VD.out.below B7.out) (VE.out.below B7.out) HM.out HM2.out H64.out).mono ?_
 rintro e w8 ⟨xs, P, rfl, hx, hm, hcl, hacc, hb⟩
 have HCLP := qH hcl
 clear hcl
 obtain ⟨gd, hgd⟩ : ∃ g, g = w3.heap.size := ⟨_, rfl⟩
 obtain ⟨gy, hgy⟩ : ∃ g, g = w4.heap.size := ⟨_, rfl⟩
 have K8 := qH (show Blk w8 gd 28 cs by rw [hgd]; exact K7.out.below hb K7.out.lt)
 have L8 := qH (show Blk w8 gy 28 es by rw [hgy]; exact L7.out.below hb L7.out.lt)
 have B8 := qH (B7.out.trans (hb.mono B7.out.size))
 have BW8 := qH (B3.out.trans (B8.out.mono B3.out.size))
 have VP := qH hx
 have HMP := qH hm
 have HACC := qH hacc
 have HSX := qH (show (Try.prog.info? 28).map (·.size) = some xs.length from hx.size)
 obtain ⟨Cn, Ce, fn, fe, xf, hcl, hcs, _⟩ := hx.form
 have HLX := qH (show xs.length = 258 by rw [hcs]; exact dcl_len hcl)
 have HOX := qH (show xs.all (·.oneCell') = true by rw [hcs]; exact dcl_one)
 rw [← hgd, ← hgy]
 clear hcl hcs hx hm hacc hb hgd hgy K4 B4 L5 K5 B5 HKL HKG K6 L6 B6 L7 K7
 go_wp2_with (first
  | ((with_reducible refine atDst 15 ?_); refine wpList_new rfl 28 rfl id _ d0 hid HDZ.out rfl (Below.refl w8.heap.size w8) (Nat.le_refl _) ?_; intro w9 hk hb hs _; have G9 := qH hk; have B9 := qH hb; clear hk hb hs; (try simp only [Act.put, qA, qB, qC]))
  | ((with_reducible refine atStore 28 15 41 ?_); refine wpList_stBlk rfl 28 _ _ rfl w8.heap.size xs rfl rfl 28 _ G9.out HSX.out (by rw [HDL.out, HLX.out]) HOX.out B9.out (Nat.le_refl _) ?_; intro w10 hk hb hs ho; have G10 := qH hk; have B10 := qH hb; clear hk hb hs ho; (try simp only [Act.put, qA, qB, qC]))
  | ((with_reducible refine atDst 44 ?_); refine wpList_ldArr rfl 28 _ rfl w8.heap.size rfl 28 _ _ G10.out Try.underlying28 rfl HSX.out ?_; (try simp only [Act.put, qA, qB, qC])))
 refine (HZZ.out.shortest P xs w10 (VP.out.below B10.out) HMP.out HCLP.out).mono ?_
 rintro e w11 ⟨v, b, rfl, hiff, hb⟩
 have B811 := qH (B10.out.trans (hb.mono B10.out.size))
 have B311 := qH (B8.out.trans (B811.out.mono B8.out.size))
 have VD11 := qH (VD.out.below B311.out)
 have VE11 := qH (VE.out.below B311.out)
 have K11 := qH (K8.out.below B811.out K8.out.lt)
 have L11 := qH (L8.out.below B811.out L8.out.lt)
 have BW11 := qH (BW8.out.trans (B811.out.mono BW8.out.size))
 have HDEC := qH (same_iff HM.out HCL2.out HM2.out HCE2.out HACC.out hiff)
 have HLM := qH (show MayD (lstD D) from lst_may HM.out HCL2.out)
 have HBB := qH (show ((!b) == (!b)) = true by cases b <;> rfl)
 obtain ⟨gp, hgp⟩ : ∃ g, g = w8.heap.size := ⟨_, rfl⟩
 rw [← hgp]
 clear hiff hb hgp G9 B9 G10
 go_wp2_with fail
 refine mc_start (fun V => Below w11.heap.size w11 V) (fun _ => True) 13 (by kernel_rfl) (fun wd hwd => ?_)
 have hX : Below w11.heap.size w11 wd := by rw [hwd]; exact (Below.refl _ _).drew
 have hY : True := trivial
 clear hwd
 refine mc_take (i := 0) (oi := ⟨some 48, _, _, _, _, _⟩) (v := ?_) rfl (by kernel_rfl) (by kernel_rfl) (by kernel_rfl) (fun _ _ _ h => h) rfl hX ?_ ?_; rotate_left; (intro W hW; go_simp; try with_reducible rfl); simp only [Act.put, qA, qB, qC]
 refine mc_take (i := 1) (oi := ⟨some 49, _, _, _, _, _⟩) (v := ?_) rfl (by kernel_rfl) (by kernel_rfl) (by kernel_rfl) (fun _ _ _ h => h) rfl hX ?_ ?_; rotate_left; (intro W hW; go_simp; try with_reducible rfl); simp only [Act.put, qA, qB, qC]
 refine mc_take (i := 2) (oi := ⟨some 50, _, _, _, _, _⟩) (v := ?_) rfl (by kernel_rfl) (by kernel_rfl) (by kernel_rfl) (fun _ _ _ h => h) rfl hX ?_ ?_; rotate_left; (intro W hW; go_simp; try with_reducible rfl); simp only [Act.put, qA, qB, qC]
 refine mc_take (i := 3) (oi := ⟨some 51, _, _, _, _, _⟩) (v := .agg cs.toArray) rfl (by kernel_rfl) (by kernel_rfl) (by kernel_rfl) (fun _ _ _ h => h) rfl hX (fun V hT => ld_blk 28 (.tmp 13) rfl gd rfl 28 cs _ K11.out K11.out.lt Try.underlying28 rfl HSA.out V hT) ?_; simp only [Act.put, qA, qB, qC]
 refine mc_take (i := 5) (oi := ⟨some 53, _, _, _, _, _⟩) (v := .agg es.toArray) rfl (by kernel_rfl) (by kernel_rfl) (by kernel_rfl) (fun _ _ _ h => h) rfl hX (fun V hT => ld_blk 28 (.tmp 14) rfl gy rfl 28 es _ L11.out L11.out.lt Try.underlying28 rfl HSE.out V hT) ?_; simp only [Act.put, qA, qB, qC]
 refine mc_take (i := 8) (oi := ⟨some 56, _, _, _, _, _⟩) (v := ?_) rfl (by kernel_rfl) (by kernel_rfl) (by kernel_rfl) (fun _ _ _ h => h) rfl hX ?_ ?_; rotate_left; (intro W hW; go_simp; try with_reducible rfl); simp only [Act.put, qA, qB, qC]
 refine mc_take (i := 9) (oi := ⟨some 57, _, _, _, _, _⟩) (v := ?_) rfl (by kernel_rfl) (by kernel_rfl) (by kernel_rfl) (fun _ _ _ h => h) rfl hX ?_ ?_; rotate_left; (intro W hW; go_simp; try with_reducible rfl); simp only [Act.put, qA, qB, qC]
 refine mc_actB (i := 4) (o := ⟨some 52, _, _, _, _, _⟩) rfl (by kernel_rfl) rfl (fun K hK => ?_)
 have Y1 := qH hX
 go_wp2_with fail
 refine (HCC.out.least D cs wd (VD11.out.below hX) HM.out HAC.out).mono ?_
 rintro e v1 ⟨ys, rfl, hd, hb⟩
 have VY := qH hd
 clear hd
 have hX2 := Y1.out.trans (hb.mono Y1.out.size)
 clear hb
 go_wp2_with fail
 refine hK _ _ hX2 trivial ?_
 clear hK K hX
 have hX := hX2
 clear hX2
 (try simp only [Act.put, qA, qB, qC])
 refine mc_actB (i := 6) (o := ⟨some 54, _, _, _, _, _⟩) rfl (by kernel_rfl) rfl (fun K hK => ?_)
 have Y2 := qH hX
 go_wp2_with fail
 refine (HCC.out.least E es v1 (VE11.out.below hX) HM2.out HAC2.out).mono ?_
 rintro e v2 ⟨zs, rfl, hd, hb⟩
 have VZ := qH hd
 have VY2 := qH (VY.out.below hb)
 clear hd
 have hX2 := Y2.out.trans (hb.mono Y2.out.size)
 clear hb
 go_wp2_with fail
 refine hK _ _ hX2 trivial ?_
 clear hK K hX
 have hX := hX2
 clear hX2
 (try simp only [Act.put, qA, qB, qC])
 refine mc_actB (i := 7) (o := ⟨some 55, _, _, _, _, _⟩) rfl (by kernel_rfl) rfl (fun K hK => ?_)
 have Y3 := qH hX
 go_wp2_with fail
 refine (refSame11G_any (lstD D) (lstD E) ys zs v2 VY2.out VZ.out HLM.out.few (by rw [HLM.out.ends]; exact HLM.out.few) (fun r hr => by rw [HLM.out.rows r hr]; exact Nat.le_trans (clsA_le _) (by decide))).mono ?_
 rintro e v3 ⟨rfl, hb⟩
 rw [HDEC.out]
 have hX2 := Y3.out.trans (hb.mono Y3.out.size)
 clear hb
 go_wp2_with fail
 refine hK _ _ hX2 trivial ?_
 clear hK K hX
 have hX := hX2
 clear hX2
 (try simp only [Act.put, qA, qB, qC])
 refine mc_take (i := 10) (oi := ⟨some 58, _, _, _, _, _⟩) (v := .bool true) rfl (by kernel_rfl) (by kernel_rfl) (by kernel_rfl) (fun _ _ _ h => h) rfl hX (fun V _ => ex_eqBL (.tmp 55) (.tmp 57) rfl rfl rfl HBB.out V) ?_; simp only [Act.put, qA, qB, qC]
 refine mc_take (i := 11) (oi := ⟨some 59, _, _, _, _, _⟩) (v := ?_) rfl (by kernel_rfl) (by kernel_rfl) (by kernel_rfl) (fun _ _ _ h => h) rfl hX ?_ ?_; rotate_left; (intro W hW; go_simp; try with_reducible rfl); simp only [Act.put, qA, qB, qC]
 refine mc_take (i := 12) (oi := ⟨some 12, _, _, _, _, _⟩) (v := ?_) rfl (by kernel_rfl) (by kernel_rfl) (by kernel_rfl) (fun _ _ _ h => h) rfl hX ?_ ?_; rotate_left; (intro W hW; go_simp; try with_reducible rfl); simp only [Act.put, qA, qB, qC]
 refine wpAnyC_done (by kernel_rfl) ?_ _
 have BE := qH (BW11.out.trans (hX.mono BW11.out.size))
 clear hX hY
 go_wp2_with fail
 go_ret
 exact ⟨rfl, BE.out⟩
def prt (n : Nat) (a : Nat → Nat) (k : Nat) : List Nat := (List.range n).filter fun s => a s == k
theorem prt_mem {n k s : Nat} {a : Nat → Nat} : s ∈ prt n a k ↔ s < n ∧ a s = k := by
 unfold prt
 rw [List.mem_filter, List.mem_range, beq_iff_eq]
theorem prt_nodup (n : Nat) (a : Nat → Nat) (k : Nat) : (prt n a k).Nodup := List.nodup_range.filter _
theorem prt_le (n : Nat) (a : Nat → Nat) (k : Nat) : (prt n a k).length ≤ n := by
 have := List.length_filter_le (fun s => a s == k) (List.range n)
 rwa [List.length_range] at this
theorem prt_congr {n k : Nat} {a b : Nat → Nat} (h : ∀ s, s < n → (a s = k ↔ b s = k)) : prt n a k = prt n b k := by
 unfold prt
 apply List.filter_congr
 intro s hs
 have := h s (List.mem_range.1 hs)
 rw [Bool.eq_iff_iff, beq_iff_eq, beq_iff_eq]
 exact this
theorem prt_sorted (n : Nat) (a : Nat → Nat) (k : Nat) : (prt n a k).Pairwise (· < ·) := List.pairwise_lt_range.filter _
theorem prt_first {n k f s : Nat} {a : Nat → Nat} (h : (prt n a k)[0]? = some f) (hs : s < n) (hk : a s = k) : f ≤ s := by
 have h1 := prt_sorted n a k
 have h2 : s ∈ prt n a k := prt_mem.2 ⟨hs, hk⟩
 cases hp : prt n a k with
 | nil => rw [hp] at h2; cases h2
 | cons x r =>
  rw [hp] at h h1 h2
  have h : some x = some f := h
  obtain rfl := Option.some.inj h
  rcases List.mem_cons.1 h2 with rfl | h2
  ·exact Nat.le_refl _
  ·exact Nat.le_of_lt ((List.pairwise_cons.1 h1).1 s h2)
structure Pn (n m : Nat) (a : Nat → Nat) : Prop where
 lt : ∀ s, s < n → a s < m
 onto : ∀ k, k < m → ∃ s, s < n ∧ a s = k
theorem Pn.le {n m : Nat} {a : Nat → Nat} (h : Pn n m a) : m ≤ n := by
 have h1 := nodup_sub (List.range m) ((List.range n).map a) List.nodup_range fun k hk => by
  obtain ⟨s, h1, h2⟩ := h.onto k (List.mem_range.1 hk)
  exact List.mem_map.2 ⟨s, List.mem_range.2 h1, h2⟩
 rwa [List.length_range, List.length_map, List.length_range] at h1
def inP (n : Nat) (a : Nat → Nat) (I : Nat → Bool) (k : Nat) (b : Bool) : List Nat := (prt n a k).filter fun s => I s == b
theorem inP_mem {n k s : Nat} {a : Nat → Nat} {I : Nat → Bool} {b : Bool} : s ∈ inP n a I k b ↔ s < n ∧ a s = k ∧ I s = b := by
 unfold inP
 rw [List.mem_filter, prt_mem, beq_iff_eq, and_assoc]
theorem inP_le (n : Nat) (a : Nat → Nat) (I : Nat → Bool) (k : Nat) (b : Bool) : (inP n a I k b).length ≤ n :=
 Nat.le_trans (List.length_filter_le _ _) (prt_le n a k)
def lsB (n : Nat) (a : Nat → Nat) (I : Nat → Bool) (k : Nat) : Bool := !decide ((inP n a I k false).length < (inP n a I k true).length)
def spl (a : Nat → Nat) (I : Nat → Bool) (k m : Nat) (b : Bool) : Nat → Nat := fun s => if a s = k ∧ I s = b then m else a s
section
variable {n m k : Nat} {a : Nat → Nat} {I : Nat → Bool} {b : Bool}
theorem spl_yes {s : Nat} (h : a s = k) (hi : I s = b) : spl a I k m b s = m := if_pos ⟨h, hi⟩
theorem spl_no {s : Nat} (h : ¬ (a s = k ∧ I s = b)) : spl a I k m b s = a s := if_neg h
theorem prt_new (h : Pn n m a) : prt n (spl a I k m b) m = inP n a I k b := by
 unfold inP prt
 rw [List.filter_filter]
 apply List.filter_congr
 intro s hs
 have h1 := h.lt s (List.mem_range.1 hs)
 rw [Bool.eq_iff_iff, beq_iff_eq, Bool.and_eq_true, beq_iff_eq, beq_iff_eq]
 unfold spl
 by_cases hc : a s = k ∧ I s = b
 ·rw [if_pos hc]
  exact ⟨fun _ => ⟨hc.2, hc.1⟩, fun _ => rfl⟩
 ·rw [if_neg hc]
  exact ⟨fun e => by omega, fun e => absurd ⟨e.2, e.1⟩ hc⟩
theorem prt_old (hk : k < m) : prt n (spl a I k m b) k = inP n a I k (!b) := by
 unfold inP prt
 rw [List.filter_filter]
 apply List.filter_congr
 intro s hs
 rw [Bool.eq_iff_iff, beq_iff_eq, Bool.and_eq_true, beq_iff_eq, beq_iff_eq]
 unfold spl
 by_cases hc : a s = k ∧ I s = b
 ·rw [if_pos hc]
  exact ⟨fun e => by omega, fun e => by rw [hc.2] at e; cases b <;> simp at e⟩
 ·rw [if_neg hc]
  refine ⟨fun e => ⟨?_, e⟩, fun e => e.2⟩
  have h2 : ¬ I s = b := fun h => hc ⟨e, h⟩
  cases hI : I s <;> cases b <;> simp_all
theorem prt_else {j : Nat} (hj : j < m) (hne : j ≠ k) : prt n (spl a I k m b) j = prt n a j := prt_congr fun s _ => by
 unfold spl
 by_cases hc : a s = k ∧ I s = b
 ·rw [if_pos hc, hc.1]
  exact ⟨fun e => by omega, fun e => absurd e.symm hne⟩
 ·rw [if_neg hc]
theorem spl_pn (h : Pn n m a) (hk : k < m) (hy : ∃ s, s < n ∧ a s = k ∧ I s = b) (hn : ∃ s, s < n ∧ a s = k ∧ I s = !b) : Pn n (m + 1) (spl a I k m b) := by
 refine ⟨fun s hs => ?_, fun j hj => ?_⟩
 ·have := h.lt s hs
  unfold spl
  split <;> omega
 ·by_cases e : j = m
  ·obtain ⟨s, h1, h2, h3⟩ := hy
   exact ⟨s, h1, by rw [spl_yes h2 h3, e]⟩
  ·by_cases e2 : j = k
   ·obtain ⟨s, h1, h2, h3⟩ := hn
    exact ⟨s, h1, by rw [spl_no (fun hc => by rw [hc.2] at h3; cases b <;> simp at h3), h2, e2]⟩
   ·obtain ⟨s, h1, h2⟩ := h.onto j (by omega)
    exact ⟨s, h1, by rw [spl_no (fun hc => e2 (by rw [← h2, hc.1])), h2]⟩
theorem spl_iff (h : Pn n m a) {s t : Nat} (hs : s < n) (ht : t < n) : spl a I k m b s = spl a I k m b t ↔ a s = a t ∧ (a s = k → I s = I t) := by
 have h1 := h.lt s hs
 have h2 := h.lt t ht
 unfold spl
 by_cases hc : a s = k ∧ I s = b
 ·rw [if_pos hc]
  by_cases hd : a t = k ∧ I t = b
  ·rw [if_pos hd]
   exact ⟨fun _ => ⟨by rw [hc.1, hd.1], fun _ => by rw [hc.2, hd.2]⟩, fun _ => rfl⟩
  ·rw [if_neg hd]
   exact ⟨fun e => by omega, fun e => absurd ⟨by rw [← e.1, hc.1], by rw [← e.2 hc.1, hc.2]⟩ hd⟩
 ·rw [if_neg hc]
  by_cases hd : a t = k ∧ I t = b
  ·rw [if_pos hd]
   exact ⟨fun e => by omega, fun e => absurd ⟨by rw [e.1, hd.1], by rw [e.2 (by rw [e.1, hd.1]), hd.2]⟩ hc⟩
  ·rw [if_neg hd]
   refine ⟨fun e => ⟨e, fun ek => ?_⟩, fun e => e.1⟩
   have x1 : I s ≠ b := fun x => hc ⟨ek, x⟩
   have x2 : I t ≠ b := fun x => hd ⟨by rw [← e, ek], x⟩
   cases hI : I s <;> cases hJ : I t <;> cases b <;> simp_all
end
/-! ### a cut: the parts that are touched, one by one -/
def tchL (a : Nat → Nat) (l : List Nat) : List Nat := extL [] (l.map a)
theorem tchL_nodup (a : Nat → Nat) (l : List Nat) : (tchL a l).Nodup := extL_nodup _ _ List.nodup_nil
theorem tchL_mem {a : Nat → Nat} {l : List Nat} {k : Nat} : k ∈ tchL a l ↔ ∃ s ∈ l, a s = k := by
 unfold tchL
 rw [extL_mem, List.mem_map]
 simp
theorem tchL_le {n m : Nat} {a : Nat → Nat} {l : List Nat} (h : Pn n m a) (hl : ∀ s ∈ l, s < n) : (tchL a l).length ≤ m := by
 have h1 := nodup_sub (tchL a l) (List.range m) (tchL_nodup a l) fun k hk => by
  obtain ⟨s, h1, h2⟩ := tchL_mem.1 hk
  exact List.mem_range.2 (by rw [← h2]; exact h.lt s (hl s h1))
 rwa [List.length_range] at h1
theorem tchL_take {a : Nat → Nat} {l : List Nat} {i s : Nat} (h : l[i]? = some s) : tchL a (l.take (i + 1)) = extL (tchL a (l.take i)) [a s] := by
 unfold tchL
 rw [List.map_take, List.map_take]
 exact extL_take (by rw [List.getElem?_map, h]; rfl)
def cntK (a : Nat → Nat) (l : List Nat) (k : Nat) : Nat := (l.map a).count k
theorem cntK_take {a : Nat → Nat} {l : List Nat} {i s : Nat} (h : l[i]? = some s) (k : Nat) : cntK a (l.take (i + 1)) k = if k = a s then cntK a (l.take i) k + 1 else cntK a (l.take i) k := by
 obtain ⟨hi, he⟩ := List.getElem?_eq_some_iff.1 h
 unfold cntK
 rw [List.take_succ_eq_append_getElem hi, he, List.map_append, List.count_append]
 by_cases hk : k = a s
 ·rw [if_pos hk, hk]; simp
 ·rw [if_neg hk]
  have : List.count k (List.map a [s]) = 0 := List.count_eq_zero.2 fun hm => hk (by simpa using hm)
  rw [this, Nat.add_zero]
theorem cntK_zero {a : Nat → Nat} {l : List Nat} {k : Nat} : cntK a l k = 0 ↔ k ∉ tchL a l := by
 unfold cntK
 rw [List.count_eq_zero, tchL_mem, List.mem_map]
theorem cntK_le (a : Nat → Nat) (l : List Nat) (k : Nat) : cntK a l k ≤ l.length := by
 have := List.count_le_length (a := k) (l := l.map a)
 rwa [List.length_map] at this
theorem cntK_len {a : Nat → Nat} {l : List Nat} {k : Nat} : cntK a l k = (l.filter fun s => a s == k).length := by
 unfold cntK
 rw [List.count_eq_countP, List.countP_map, List.countP_eq_length_filter]
 rfl
theorem cntK_few {n k : Nat} {a : Nat → Nat} {l : List Nat} (hl : ∀ s ∈ l, s < n) (hd : l.Nodup) (h : cntK a l k < (prt n a k).length) : ∃ s, s < n ∧ a s = k ∧ s ∉ l :=
 Classical.byContradiction fun hno => by
  have h1 := nodup_sub (prt n a k) (l.filter fun s => a s == k) (prt_nodup n a k) fun s hs => by
   obtain ⟨h1, h2⟩ := prt_mem.1 hs
   refine List.mem_filter.2 ⟨Classical.byContradiction fun hm => hno ⟨s, h1, h2, hm⟩, ?_⟩
   rw [h2]
   exact beq_self_eq_true k
  rw [← cntK_len] at h1
  omega
theorem cntK_all {n k : Nat} {a : Nat → Nat} {l : List Nat} (hl : ∀ s ∈ l, s < n) (hd : l.Nodup) (h : ¬ cntK a l k < (prt n a k).length) {s : Nat} (hs : s < n) (hk : a s = k) : s ∈ l :=
 Classical.byContradiction fun hm => by
  have h1 := nodup_sub (s :: l.filter fun s => a s == k) (prt n a k) (List.nodup_cons.2 ⟨fun h => hm (List.mem_filter.1 h).1, hd.filter _⟩) fun t ht => by
   rcases List.mem_cons.1 ht with rfl | ht
   ·exact prt_mem.2 ⟨hs, hk⟩
   ·obtain ⟨h1, h2⟩ := List.mem_filter.1 ht
    exact prt_mem.2 ⟨hl t h1, by simpa using h2⟩
  rw [List.length_cons, ← cntK_len] at h1
  omega
structure CutJ (n : Nat) (l : List Nat) (m : Nat) (a : Nat → Nat) (T : List Nat) (j m' : Nat) (a' : Nat → Nat) : Prop where
 pn : Pn n m' a'
 le : m ≤ m'
 keep : ∀ s, s < n → a' s < m → a' s = a s
 new : ∀ s, s < n → m ≤ a' s → a s ∈ T.take j
 iff : ∀ s t, s < n → t < n → (a' s = a' t ↔ a s = a t ∧ (a s ∈ T.take j → (s ∈ l ↔ t ∈ l)))
structure CutP (n : Nat) (l : List Nat) (m : Nat) (a : Nat → Nat) (m' : Nat) (a' : Nat → Nat) : Prop where
 pn : Pn n m' a'
 le : m ≤ m'
 keep : ∀ s, s < n → a' s < m → a' s = a s
 iff : ∀ s t, s < n → t < n → (a' s = a' t ↔ a s = a t ∧ (s ∈ l ↔ t ∈ l))
section
variable {n m m' j k : Nat} {l T : List Nat} {a a' : Nat → Nat}
theorem CutJ.zero (h : Pn n m a) : CutJ n l m a T 0 m a :=
 ⟨h, Nat.le_refl _, fun _ _ _ => rfl, fun s hs he => absurd (h.lt s hs) (Nat.not_lt.2 he), fun s t _ _ => by simp⟩
theorem mem_take_succ {T : List Nat} {j k x : Nat} (h : T[j]? = some k) : x ∈ T.take (j + 1) ↔ x ∈ T.take j ∨ x = k := by
 obtain ⟨hj, he⟩ := List.getElem?_eq_some_iff.1 h
 rw [List.take_succ_eq_append_getElem hj, he, List.mem_append, List.mem_singleton]
theorem not_mem_take {T : List Nat} {j k : Nat} (hd : T.Nodup) (h : T[j]? = some k) : k ∉ T.take j := fun hm => by
 obtain ⟨i, hi, he⟩ := List.getElem_of_mem hm
 rw [List.length_take] at hi
 rw [List.getElem_take] at he
 obtain ⟨hj, hk⟩ := List.getElem?_eq_some_iff.1 h
 have h1 := idx_is hd h
 have h2 := idx_is (i := i) hd (by rw [List.getElem?_eq_getElem (by omega), he])
 omega
theorem CutJ.same (h : CutJ n l m a T j m' a') (hk : k < m) (hn : k ∉ T.take j) {s : Nat} (hs : s < n) : a' s = k ↔ a s = k := by
 constructor
 ·intro e
  rw [← h.keep s hs (by omega), e]
 ·intro e
  have h1 : ¬ m ≤ a' s := fun hle => hn (by rw [← e]; exact h.new s hs hle)
  rw [h.keep s hs (by omega), e]
theorem CutJ.prt (h : CutJ n l m a T j m' a') (hk : k < m) (hn : k ∉ T.take j) : prt n a' k = prt n a k := prt_congr fun s hs => h.same hk hn hs
theorem CutJ.skip (h : CutJ n l m a T j m' a') (hj : T[j]? = some k) (hall : ∀ s, s < n → a s = k → s ∈ l) : CutJ n l m a T (j + 1) m' a' := by
 refine ⟨h.pn, h.le, h.keep, fun s hs he => (mem_take_succ hj).2 (.inl (h.new s hs he)), fun s t hs ht => ?_⟩
 rw [h.iff s t hs ht]
 constructor
 ·rintro ⟨h1, h2⟩
  refine ⟨h1, fun hm => ?_⟩
  rcases (mem_take_succ hj).1 hm with hm | hm
  ·exact h2 hm
  ·exact ⟨fun _ => hall t ht (by rw [← h1, hm]), fun _ => hall s hs hm⟩
 ·rintro ⟨h1, h2⟩
  exact ⟨h1, fun hm => h2 ((mem_take_succ hj).2 (.inl hm))⟩
theorem CutJ.next (h : CutJ n l m a T j m' a') (hd : T.Nodup) (hj : T[j]? = some k) (hk : k < m) {I : Nat → Bool} (hI : ∀ s, s < n → (I s = true ↔ s ∈ l)) (b : Bool) (hy : ∃ s, s < n ∧ a s = k ∧ I s = b) (hn : ∃ s, s < n ∧ a s = k ∧ I s = !b) :
  CutJ n l m a T (j + 1) (m' + 1) (spl a' I k m' b) := by
 have hnt := not_mem_take hd hj
 have hkm : k < m' := Nat.lt_of_lt_of_le hk h.le
 have hy2 : ∃ s, s < n ∧ a' s = k ∧ I s = b := by
  obtain ⟨s, h1, h2, h3⟩ := hy
  exact ⟨s, h1, (h.same hk hnt h1).2 h2, h3⟩
 have hn2 : ∃ s, s < n ∧ a' s = k ∧ I s = !b := by
  obtain ⟨s, h1, h2, h3⟩ := hn
  exact ⟨s, h1, (h.same hk hnt h1).2 h2, h3⟩
 have hle := h.le
 refine ⟨spl_pn h.pn hkm hy2 hn2, by omega, fun s hs he => ?_, fun s hs he => ?_, fun s t hs ht => ?_⟩
 ·by_cases hc : a' s = k ∧ I s = b
  ·rw [spl_yes hc.1 hc.2] at he
   omega
  ·rw [spl_no hc] at he ⊢
   exact h.keep s hs he
 ·by_cases hc : a' s = k ∧ I s = b
  ·exact (mem_take_succ hj).2 (.inr ((h.same hk hnt hs).1 hc.1))
  ·rw [spl_no hc] at he
   exact (mem_take_succ hj).2 (.inl (h.new s hs he))
 ·rw [spl_iff h.pn hs ht, h.iff s t hs ht]
  have e1 : (a' s = k → I s = I t) ↔ (a s = k → I s = I t) := by rw [h.same hk hnt hs]
  have e2 : I s = I t ↔ (s ∈ l ↔ t ∈ l) := by rw [Bool.eq_iff_iff, hI s hs, hI t ht]
  rw [e1, e2]
  constructor
  ·rintro ⟨⟨h1, h2⟩, h3⟩
   refine ⟨h1, fun hm => ?_⟩
   rcases (mem_take_succ hj).1 hm with hm | hm
   ·exact h2 hm
   ·exact h3 hm
  ·rintro ⟨h1, h2⟩
   exact ⟨⟨h1, fun hm => h2 ((mem_take_succ hj).2 (.inl hm))⟩, fun e => h2 ((mem_take_succ hj).2 (.inr e))⟩
theorem CutJ.done (h : CutJ n l m a (tchL a l) j m' a') (hj : (tchL a l).length ≤ j) : CutP n l m a m' a' := by
 refine ⟨h.pn, h.le, h.keep, fun s t hs ht => ?_⟩
 rw [h.iff s t hs ht, List.take_of_length_le hj]
 constructor
 ·rintro ⟨h1, h2⟩
  refine ⟨h1, ?_⟩
  by_cases hm : a s ∈ tchL a l
  ·exact h2 hm
  ·exact ⟨fun x => absurd (tchL_mem.2 ⟨s, x, rfl⟩) hm, fun x => absurd (tchL_mem.2 ⟨t, x, h1.symm⟩) hm⟩
 ·rintro ⟨h1, h2⟩
  exact ⟨h1, fun _ => h2⟩
end
/-! ### cut by cut, until no cut tells more apart -/
def turnY (t ci x i : Nat) : Prop := t < x ∨ (x = t ∧ ci ≤ i)
structure HopI (D : Dm) (cs : List Nat) (t ci m : Nat) (a : Nat → Nat) : Prop where
 pn : Pn D.next.length m a
 ends : ∀ s q, s < D.next.length → q < D.next.length → a s = a q → D.ends.getD s false = D.ends.getD q false
 co : ∀ s q, s < D.next.length → q < D.next.length → accD D s = accD D q → a s = a q
 inv : ∀ i c s q, cs[i]? = some c → s < D.next.length → q < D.next.length → a s = a q → a (stC D s c) ≠ a (stC D q c) → turnY t ci (a (stC D s c)) i ∨ turnY t ci (a (stC D q c)) i
structure ClsC (D : Dm) (cs : List Nat) : Prop where
 byte : ∀ c ∈ cs, ∃ b : UInt8, c = (D.cl.getD b.toNat 0).toNat
 all : ∀ b : UInt8, (D.cl.getD b.toNat 0).toNat ∈ cs
theorem ClsC.lt {D : Dm} {cs : List Nat} (h : ClsC D cs) (hl : D.cl.length = 256) {c : Nat} (hc : c ∈ cs) : c < clsA D.cl := by
 obtain ⟨b, rfl⟩ := h.byte c hc
 exact clsW_lt hl [b] _ (by simp [clsW])
theorem ClsC.acc {D : Dm} {cs : List Nat} (h : ClsC D cs) {c : Nat} (hc : c ∈ cs) {s q : Nat} (he : accD D s = accD D q) : accD D (stC D s c) = accD D (stC D q c) := by
 obtain ⟨b, rfl⟩ := h.byte c hc
 rw [← stD_stC, ← stD_stC]
 funext w
 exact congrFun he (b :: w)
section
variable {D : Dm} {cs : List Nat} {t ci m m' : Nat} {a a' : Nat → Nat} {l : List Nat}
theorem HopI.zero (hm : MayD D) (h : CutP D.next.length l 1 (fun _ => 0) m' a') (hl : ∀ s, s ∈ l ↔ s < D.next.length ∧ D.ends.getD s false = true) : HopI D cs 0 0 m' a' := by
 have key : ∀ s q, s < D.next.length → q < D.next.length → (a' s = a' q ↔ D.ends.getD s false = D.ends.getD q false) := fun s q hs hq => by
  rw [h.iff s q hs hq, Bool.eq_iff_iff, hl, hl]
  exact ⟨fun k => ⟨fun e => (k.2.1 ⟨hs, e⟩).2, fun e => (k.2.2 ⟨hq, e⟩).2⟩, fun k => ⟨rfl, fun e => ⟨hq, k.1 e.2⟩, fun e => ⟨hs, k.2 e.2⟩⟩⟩
 refine ⟨h.pn, fun s q hs hq => (key s q hs hq).1, fun s q hs hq he => (key s q hs hq).2 (congrFun he []), fun i c s q _ _ _ _ hne => ?_⟩
 unfold turnY
 omega
theorem HopI.step (h : HopI D cs t ci m a) (hm : MayD D) (hl : D.cl.length = 256) (hc : ClsC D cs) {c : Nat} (hci : cs[ci]? = some c) (ht : t < m) (k : CutP D.next.length l m a m' a') (hx : ∀ s, s < D.next.length → (s ∈ l ↔ a (stC D s c) = t)) : HopI D cs t (ci + 1) m' a' := by
 have hmc := List.mem_of_getElem? hci
 have up : ∀ s q, s < D.next.length → q < D.next.length → a' s = a' q → a s = a q := fun s q hs hq e => ((k.iff s q hs hq).1 e).1
 refine ⟨k.pn, fun s q hs hq e => h.ends s q hs hq (up s q hs hq e), fun s q hs hq e => ?_, fun i d s q hi hs hq e hne => ?_⟩
 ·rw [k.iff s q hs hq]
  refine ⟨h.co s q hs hq e, ?_⟩
  rw [hx s hs, hx q hq, h.co _ _ (stC_lt hm hs c (hc.lt hl hmc)) (stC_lt hm hq c (hc.lt hl hmc)) (hc.acc hmc e)]
 ·have hmd := List.mem_of_getElem? hi
  have hs2 := stC_lt hm hs d (hc.lt hl hmd)
  have hq2 := stC_lt hm hq d (hc.lt hl hmd)
  obtain ⟨e1, e2⟩ := (k.iff s q hs hq).1 e
  by_cases hxy : a (stC D s d) = a (stC D q d)
  ·-- split by this cut
   have : m ≤ a' (stC D s d) ∨ m ≤ a' (stC D q d) := Classical.byContradiction fun hno => by
    rw [not_or] at hno
    exact hne (by rw [k.keep _ hs2 (by omega), k.keep _ hq2 (by omega), hxy])
   unfold turnY
   omega
  ·have hold := h.inv i d s q hi hs hq e1 hxy
   have mv : ∀ u, u < D.next.length → turnY t ci (a u) i → (i = ci → a u ≠ t) → turnY t (ci + 1) (a' u) i := fun u hu hy hno => by
    by_cases hlt : a' u < m
    ·rw [k.keep u hu hlt]
     unfold turnY at hy ⊢
     rcases hy with hy | ⟨hy, hz⟩
     ·exact .inl hy
     ·by_cases hic : i = ci
      ·exact absurd hy (hno hic)
      ·exact .inr ⟨hy, by omega⟩
    ·unfold turnY
     omega
   have dc : i = ci → d = c := fun e3 => by
    rw [e3, hci] at hi
    exact (Option.some.inj hi).symm
   rcases hold with hold | hold
   ·refine .inl (mv _ hs2 hold fun e3 e4 => ?_)
    have e5 := dc e3
    subst e5
    rw [hx s hs, hx q hq] at e2
    exact hxy (by rw [e4, e2.1 e4])
   ·refine .inr (mv _ hq2 hold fun e3 e4 => ?_)
    have e5 := dc e3
    subst e5
    rw [hx s hs, hx q hq] at e2
    exact hxy (by rw [e4, e2.2 e4])
theorem HopI.next (h : HopI D cs t ci m a) (hci : cs.length ≤ ci) : HopI D cs (t + 1) 0 m a :=
 ⟨h.pn, h.ends, h.co, fun i c s q hi hs hq e hne => by
  have h1 := h.inv i c s q hi hs hq e hne
  have h2 := (List.getElem?_eq_some_iff.1 hi).1
  unfold turnY at h1 ⊢
  omega⟩
theorem HopI.done (h : HopI D cs t ci m a) (hm : MayD D) (hl : D.cl.length = 256) (hc : ClsC D cs) (ht : m ≤ t) {s q : Nat} (hs : s < D.next.length) (hq : q < D.next.length) : a s = a q ↔ accD D s = accD D q := by
 refine ⟨fun e => ?_, h.co s q hs hq⟩
 have st : ∀ s q, s < D.next.length → q < D.next.length → a s = a q → ∀ b : UInt8, a (stD D s b) = a (stD D q b) := fun s q hs hq e b => by
  rw [stD_stC, stD_stC]
  obtain ⟨i, hi, he⟩ := List.getElem_of_mem (hc.all b)
  refine Classical.byContradiction fun hne => ?_
  have h1 := h.inv i _ s q (by rw [List.getElem?_eq_getElem hi, he]) hs hq e hne
  have h2 := h.pn.lt _ (stC_lt hm hs _ (hc.lt hl (hc.all b)))
  have h3 := h.pn.lt _ (stC_lt hm hq _ (hc.lt hl (hc.all b)))
  unfold turnY at h1
  omega
 have key : ∀ (w : List UInt8) (s q : Nat), s < D.next.length → q < D.next.length → a s = a q → accD D s w = accD D q w := by
  intro w
  induction w with
  | nil => exact fun s q hs hq e => h.ends s q hs hq e
  | cons b w ih =>
   intro s q hs hq e
   exact ih _ _ (toD_ltA hm hl [b] s hs) (toD_ltA hm hl [b] q hq) (st s q hs hq e b)
 funext w
 exact key w s q hs hq e
theorem HopI.par (h : HopI D cs t ci m a) (hm : MayD D) (hl : D.cl.length = 256) (hc : ClsC D cs) (ht : m ≤ t) {s f : Nat} (hs : s < D.next.length) (hf : (prt D.next.length a (a s))[0]? = some f) : parD D s = f := by
 obtain ⟨h1, h2⟩ := prt_mem.1 (List.mem_of_getElem? hf)
 obtain ⟨p1, p2, p3⟩ := parD_spec D s
 have hps : parD D s < D.next.length := Nat.lt_of_le_of_lt p2 hs
 apply Nat.le_antisymm
 ·refine Nat.le_of_not_lt fun hlt => p3 f hlt ?_
  exact (h.done hm hl hc ht h1 hs).1 h2
 ·exact prt_first hf hps ((h.done hm hl hc ht hps hs).2 p1)
end
end Go.Proofs.Ytiehefnbdijiaaa
