/-
  Texts of this proof, put together: SbS, SbU. No statement is proved here.
-/
import Derived.Test.YteadghoojeehlaaGreatDoorWR
import Derived.Test.YteadghoojeehlaaGreatDoorWO
namespace Go.Proofs.YteadghoojeehlaaGreatDoor
open Go.RowKit
set_option linter.unusedSimpArgs false
set_option linter.unusedVariables false
theorem ld_bls {ev : Operand → Value} {o : Oper} (x : Operand) (ho : o.op = .load 29 x) {p : Addr} (hx : ev x = .pointer (some p)) {A : Option Addr} {n c : Nat} {W : World} (hc : W.cell? p = some (.slice A n c)) : (execOp ev o).run Tryz.prog W = .ok (.value (.slice A n c)) W := by
 simp only [execOp, ho, hx]
 go_simp
theorem ld_inss {ev : Operand → Value} {o : Oper} (x : Operand) (ho : o.op = .load 28 x) {p : Addr} (hx : ev x = .pointer (some p)) {A : Option Addr} {n c : Nat} {W : World} (hc : W.cell? p = some (.slice A n c)) : (execOp ev o).run Tryz.prog W = .ok (.value (.slice A n c)) W := by
 simp only [execOp, ho, hx]
 go_simp
theorem wp_stBls {o : Oper} {a : Act} {K : Act → World → Prop} {Q : Exit → Act → World → Prop} {w : World} (x y : Operand) (ho : o.op = .store 29 x y) {p : Addr} (hx : a.eval x = .pointer (some p)) {A : Option Addr} {n c : Nat} (hy : a.eval y = .slice A n c) {v : Value} (hc : w.cell? p = some v) (hf : w.frozen? p = false)
  (h : K (a.put o.dst undef) (w.setCell p (.slice A n c))) : o.wp Tryz.prog a w K Q := by
 unfold Oper.wp
 simp only [execOp, ho, hx, hy]
 go_simp
 exact h
theorem wp_stIns {o : Oper} {a : Act} {K : Act → World → Prop} {Q : Exit → Act → World → Prop} {w : World} (x y : Operand) (ho : o.op = .store 28 x y) {p : Addr} (hx : a.eval x = .pointer (some p)) {A : Option Addr} {n c : Nat} (hy : a.eval y = .slice A n c) {v : Value} (hc : w.cell? p = some v) (hf : w.frozen? p = false)
  (h : K (a.put o.dst undef) (w.setCell p (.slice A n c))) : o.wp Tryz.prog a w K Q := by
 unfold Oper.wp
 simp only [execOp, ho, hx, hy]
 go_simp
 exact h
theorem ix_gr {ev : Operand → Value} {o : Oper} (x i : Operand) (ho : o.op = .indexAddr 61 x i) {b off n c q : Nat} (hx : ev x = .slice (some ⟨b, off, none⟩) n c) (hi : ev i = .int .i64 (q : Int)) (hq : q < n) (W : World) : (execOp ev o).run Tryz.prog W = .ok (.value (.pointer (some ⟨b, off + q * 32, none⟩))) W := by
 have h1 : (q : Int) < (n : Int) := Int.ofNat_lt.2 hq
 simp only [execOp, ho, hx, hi]
 go_simp
theorem inf_sl : (Tryz.prog.info? 53).map (fun i => (i.zero, i.size, i.bytes)) = some (some (.slice none 0 0), 1, 24) := by kernel_rfl
theorem built_df (parts : List (Nat × Value)) : Tryz.prog.built 31 parts = Instr.fill (fun i => (#[(0, 256), (256, 1), (257, 1)] : Array (Nat × Nat))[i]?) (dcl (ctab [] 0) (.slice none 0 0) (.slice none 0 0)).toArray parts := by kernel_rfl
theorem built_d1 (cl : List UInt8) (hl : cl.length = 256) : Tryz.prog.built 31 [(0, .agg (bvs cl).toArray)] = some (dcl cl (.slice none 0 0) (.slice none 0 0)).toArray := by
 rw [built_df]
 obtain ⟨d0, hd0⟩ : ∃ d0, d0 = dcl (ctab [] 0) (.slice none 0 0) (.slice none 0 0) := ⟨_, rfl⟩
 have h1 : d0.length = 258 := by rw [hd0]; exact dcl_len (ctab_length _ _)
 have hb : (bvs cl).length = 256 := by rw [bvs_length, hl]
 rw [← hd0]
 have e : Instr.fill (fun i => (#[(0, 256), (256, 1), (257, 1)] : Array (Nat × Nat))[i]?) d0.toArray [(0, .agg (bvs cl).toArray)] = some (((bvs cl).zipIdx 0).foldl (fun cs (x : Value × Nat) => cs.setIfInBounds (0 + x.2) x.1) d0.toArray) := by
  have c1 : ¬ ((bvs cl).toArray.size ≠ 256 || decide (0 + (bvs cl).toArray.size > d0.toArray.size)) = true := by simp [hb, h1]
  simp only [Instr.fill, Value.cells]
  rw [show (#[(0, 256), (256, 1), (257, 1)] : Array (Nat × Nat))[0]? = some (0, 256) from rfl]
  simp [hb, h1]
 rw [e]
 congr 1
 obtain ⟨hsz, hk⟩ := Great.foldl_set 0 (bvs cl) 0 d0.toArray
 apply Array.ext_getElem?
 intro k
 rw [hk k]
 have hz : d0.toArray.size = 258 := by simp [h1]
 by_cases hlt : k < 256
 ·rw [if_pos ⟨by omega, by omega, by omega⟩]
  have := dcl_cl (vn := .slice none 0 0) (ve := .slice none 0 0) hl hlt
  simpa using this.symm
 ·rw [if_neg (by omega)]
  obtain ⟨i, rfl⟩ : ∃ i, k = 256 + i := ⟨k - 256, by omega⟩
  have e1 := dcl_end (vn := .slice none 0 0) (ve := .slice none 0 0) hl i
  have e2 := dcl_end (vn := .slice none 0 0) (ve := .slice none 0 0) (ctab_length [] 0) i
  rw [← hd0] at e2
  rw [List.getElem?_toArray, List.getElem?_toArray, e1, e2]
def MkI (S : List St) (a z most : Int) (w3 : World) (H g mr mn gd : Nat) (A : Option Addr) (cap : Nat) (cl : List UInt8) (sg : Value) (r : Nat) (wl : World) : Prop :=
 ∃ (qv vn ve : Value) (Es : List Int) (vf : Nat → Value), (∀ i, i < r → i < (LN S a i).length) ∧ (r = 0 ∨ (r : Int) ≤ most) ∧ MkV wl w3.heap.size H g mr mn A cap a z cl (fbN S).length sg S qv (LN S a r) Es ∧ SgV wl H g mr mn sg (sgS S) ∧
  DV wl H gd cl qv vn ve vf r (rowsI (sucN S) (LN S a r) r) (endsI (hasZ z) (LN S a r) r) ∧ Below w3.heap.size w3 wl
def MkPost (S : List St) (a z most : Int) (w : World) (e : Ending) (w' : World) : Prop :=
 ∃ cs', e = .returned (.tuple #[.agg cs'.toArray, .int .i64 (mkN S a z most).2]) ∧ DfaV w' cs' (mkN S a z most).1 ∧ Below w.heap.size w w'
set_option maxHeartbeats 8000000 in
set_option maxRecDepth 1000000 in
theorem sbMake_any (S : List St) (a z most : Int) (cs : List Value) (w : World) (hv : NfaV w cs S a z) (hlo : ∀ s ∈ S, -9223372036854775808 ≤ s.to) (hmost : most ≤ 1000) (hT : Tb w) :
  Calls Tryz.prog 7 #[.agg cs.toArray, .int .i64 most] w fun e w' => MkPost S a z most w e w' := by
 have V := qH hv
 have HLO := qH hlo
 have HMO := qH hmost
 have HT := qH hT
 obtain ⟨A, cap, rfl, hlc, hcm, hA0⟩ := hv.len
 obtain ⟨d0, hd0⟩ : ∃ d0, d0 = dcl (ctab [] 0) (.slice none 0 0) (.slice none 0 0) := ⟨_, rfl⟩
 have HD0 := qH hd0
 have HDL := qH (show d0.length = 258 by rw [hd0]; exact dcl_len (ctab_length _ _))
 have HD1 := qH (show d0.all (·.oneCell') = true by rw [hd0]; exact dcl_one)
 have HDS := qH (show (Tryz.prog.info? 31).map (·.size) = some d0.length by rw [hd0]; exact size_dfa (ctab_length _ _))
 have HDB := qH (show Tryz.prog.built 31 [] = some d0.toArray by rw [hd0]; exact built_d0)
 obtain ⟨id, hid, hdz⟩ := Option.map_eq_some_iff.1 inf_dfa
 rw [← hd0] at hdz
 clear hv hlo hmost hT hd0 hlc hcm hA0
 go_enter Tryz.func7, Tryz.ntmps7
 go_wp2_with (first
  | ((with_reducible refine atDst 2 ?_); refine wpList_box rfl 24 _ rfl [.slice A S.length cap, .int .i64 a, .int .i64 z] rfl (Below.refl w.heap.size w) (Nat.le_refl _) ?_; intro w1 hk1 hb1 hs1 _; have K1 := qH hk1; have B1 := qH hb1; clear hk1 hb1 hs1; (try simp only [Act.put, qA, qB, qC]))
  | ((with_reducible refine atDst 4 ?_); refine wpList_new rfl 31 rfl id _ d0 hid hdz rfl (Below.refl w1.heap.size w1) (Nat.le_refl _) ?_; intro w2 hk hb hs _; have K2 := qH hk; have B12 := qH hb; have B2 := qH (B1.out.trans (hb.mono B1.out.size)); have C2 := qH (K1.out.below hb K1.out.lt); clear hk hb hs; (try simp only [Act.put, qA, qB, qC]))
  | ((with_reducible refine atDst 9 ?_); refine wpList_ldArr rfl 24 _ rfl w.heap.size rfl 24 _ _ C2.out Tryz.underlying24 rfl (size_nfa rfl) ?_; (try simp only [Act.put, qA, qB, qC])))
 refine (tMay_any S a z _ w2 (V.out.below B2.out)).mono ?_
 rintro e w3 ⟨rfl, hb⟩
 have K3 := qH (K2.out.below hb K2.out.lt)
 have C3 := qH (C2.out.below hb C2.out.lt)
 have B3 := qH (B2.out.trans (hb.mono B2.out.size))
 have B13 := qH (B12.out.trans (hb.mono B12.out.size))
 have S1 := qH (show w.heap.size < w1.heap.size from K1.out.lt)
 obtain ⟨my, hmy⟩ : ∃ b, b = mayNB S a z := ⟨_, rfl⟩
 have HMY := qH hmy
 rw [← hmy]
 clear hb hmy
 cases my with
 | false =>
  have HF := qH (mkN_form (S := S) (a := a) (z := z) (most := most) fun h => by have := HMY.out; rw [mayNB_yes h] at this; cases this)
  go_wp2_with (first
   | ((with_reducible refine atDst 12 ?_); refine wpList_bld rfl 31 #[] rfl d0 HDB.out ?_; (try simp only [Act.put, qA, qB, qC]))
   | ((with_reducible refine atStore 31 4 12 ?_); refine wpList_stBlk rfl 31 _ _ rfl w1.heap.size d0 rfl rfl 31 _ K3.out HDS.out rfl HD1.out B13.out (Nat.le_refl _) ?_; intro w4 hk hb hs ho; have K4 := qH hk; have B4 := qH (B1.out.trans (hb.mono B1.out.size)); clear hk hb hs ho; (try simp only [Act.put, qA, qB, qC])))
  refine bodyPost_ret (results_blk2 rfl _ _ w1.heap.size 31 _ _ _ rfl rfl K4.out Tryz.underlying31 rfl HDS.out) rfl ?_
  unfold MkPost
  rw [HF.out]
  exact ⟨d0, rfl, by rw [HD0.out]; exact dfaV_no _, B4.out⟩
 | true =>
  have HM := qH (mayNB_iff.1 HMY.out.symm)
  go_wp2_with ((with_reducible refine atDst 13 ?_); refine wpList_ldArr rfl 24 _ rfl w.heap.size rfl 24 _ _ C3.out Tryz.underlying24 rfl (size_nfa rfl) ?_; (try simp only [Act.put, qA, qB, qC]))
  refine (newMaker_any A cap a z S w3 (V.out.below B3.out) HM.out (HT.out.belowG B3.out HT.out.lt)).mono ?_
  rintro e w4 ⟨g, mr, mn, sg, rfl, hm4, hs4, hb⟩
  obtain ⟨cl, hcl⟩ : ∃ cl, cl = ctab (setsN S) 256 := ⟨_, rfl⟩
  have HCL := qH hcl
  have HL := qH (show cl.length = 256 by rw [hcl]; exact ctab_length _ _)
  have HSC := qH (show (Tryz.prog.info? 27).map (·.size) = some (bvs cl).length from size_ctab HL.out)
  rw [← hcl] at hm4
  obtain ⟨d1, hd1⟩ : ∃ d1, d1 = dcl cl (.slice none 0 0) (.slice none 0 0) := ⟨_, rfl⟩
  have HD1V := qH hd1
  have HDB1 := qH (show Tryz.prog.built 31 [(0, .agg (bvs cl).toArray)] = some d1.toArray by rw [hd1]; exact built_d1 cl HL.out)
  have HDL1 := qH (show d1.length = 258 by rw [hd1]; exact dcl_len HL.out)
  have HDO1 := qH (show d1.all (·.oneCell') = true by rw [hd1]; exact dcl_one)
  have HDS1 := qH (show (Tryz.prog.info? 31).map (·.size) = some d1.length by rw [hd1]; exact size_dfa HL.out)
  obtain ⟨H, hH⟩ : ∃ H, H = w4.heap.size := ⟨_, rfl⟩
  have HH := qH hH
  rw [← hH] at hm4 hs4
  have M4 := qH hm4
  have SG4 := qH hs4
  have B34 := qH hb
  have G4 := qH (mkc_rng hm4.blk HL.out)
  have V3 := qH (V.out.below B3.out)
  have C4 := qH (C3.out.below hb C3.out.lt)
  have S3 := qH (show w.heap.size < w3.heap.size from C3.out.lt)
  clear hm4 hs4 hb hcl hd1 hH
  go_wp2_with (first
   | ((with_reducible refine atDst 18 ?_); refine wpList_load_mid rfl 27 _ rfl g 3 rfl (bvs cl) _ G4.out Tryz.underlying27 rfl HSC.out ?_; (try simp only [Act.put, qA, qB, qC]))
   | ((with_reducible refine atDst 19 ?_); refine wpList_bld rfl 31 #[(0, .tmp 18)] rfl d1 HDB1.out ?_; (try simp only [Act.put, qA, qB, qC]))
   | ((with_reducible refine atDst 7 ?_); refine wpList_new rfl 31 rfl id _ d0 hid hdz rfl (Below.refl w4.heap.size w4) (Nat.le_refl _) ?_; intro w5 hk hb hs _; have K5 := qH hk; have B5 := qH hb; clear hk hb hs; (try simp only [Act.put, qA, qB, qC]))
   | ((with_reducible refine atStore 31 7 19 ?_); refine wpList_stBlk rfl 31 _ _ rfl w4.heap.size d1 rfl rfl 31 _ K5.out HDS1.out (by rw [HDL.out, HDL1.out]) HDO1.out B5.out (Nat.le_refl _) ?_; intro w6 hk hb hs ho; have K6 := qH hk; have B46 := qH hb; have c1 := (C4.out.below hb C4.out.lt).cell 1; clear hk hb hs ho; (try simp only [Act.put, qA, qB, qC])))
  clear c1
  have M6 := qH (M4.out.below B46.out)
  have B36 := qH (B34.out.trans (B46.out.mono B34.out.size))
  have HRA := qH (show -9223372036854775808 ≤ a ∧ a ≤ 9223372036854775807 by have h1 := HM.out.a0; have h2 := HM.out.a1; have h3 := HM.out.few; omega)
  refine (mReach_any w3 a w6 V3.out HM.out B36.out M6.out HRA.out).mono ?_
  rintro e w7 ⟨rfl, Es7, hm7, hs7⟩
  have M7 := qH hm7
  have T7 := qH hs7
  clear hm7 hs7
  go_wp2_with fail
  refine (mNumber_any (clsN S [a]) w7 M7.out (ris_cls S [a]) HM.out.few (by decide)).mono ?_
  rintro e w8 ⟨rfl, q8, hm8, hs8⟩
  have hx0 : extL ([] : List (List Int)) [clsN S [a]] = LN S a 0 := rfl
  rw [hx0] at hm8
  have M8 := qH hm8
  have T8 := qH (T7.out.trans hs8)
  have B38 := qH (B36.out.trans (T8.out.below M6.out))
  have SG8 := qH (SG4.out.mo ((((MO.refl (fun _ => False) w4 g mr mn (.slice none 0 0)).then B46.out).step T8.out)) (Nat.le_of_eq HH.out) (fun k hk => by cases hk) (fun k hk => hk.elim))
  obtain ⟨gd, hgd⟩ : ∃ gd, gd = w4.heap.size := ⟨_, rfl⟩
  have HGD := qH (show gd = H by rw [hgd, HH.out])
  have D6 := qH (show DV w6 H gd cl (.slice none 0 0) (.slice none 0 0) (.slice none 0 0) (fun _ => undef) 0 [] [] from
   ⟨by rw [hgd, ← HD1V.out]; exact K6.out, HL.out, Nat.le_of_eq HGD.out.symm, ownN _ _ _, ownN _ _ _, fun i l h => (by simp at h), fun k h => (by cases h), fun h => (by cases h), fun h => (by cases h), fun k h => (by cases h), rfl⟩)
  have D8 := qH (D6.out.mstep T8.out M4.out.gH M4.out.rH M4.out.nH)
  rw [← hgd]
  clear hm8 hs8 hx0 hgd
  go_wp2_with fail
  go_loopw [8] (fun iv wl => ∃ r : Nat, iv = .int .i64 (r : Int) ∧ MkI S a z most w3 H g mr mn gd A cap cl sg r wl) (fun iv _ => most.toNat + 2 - (intOf iv).toNat)
  case atStart => exact ⟨0, by simp, q8, .slice none 0 0, .slice none 0 0, Es7, fun _ => undef, fun i h => absurd h (Nat.not_lt_zero i), .inl rfl, M8.out, SG8.out, D8.out, B38.out⟩
  obtain ⟨r, rfl, qv, vn, ve, Es, vf, htn, hrm, hm, hs, hd, hb⟩ := hrel
  have HTN := qH htn
  have HRM := qH hrm
  have MR := qH hm
  have SR := qH hs
  have DR := qH hd
  have BR := qH hb
  obtain ⟨wq, hwq⟩ : ∃ v : World, v = wr := ⟨_, rfl⟩
  subst hwq
  clear htn hrm hm hs hd hb
  have HRL := qH (show r ≤ (LN S a r).length from Lq_turn HTN.out)
  obtain ⟨Aq, cq, hqv, _⟩ := own32_row MR.out.queue
  rw [map_len] at hqv
  have HQV := qH hqv
  obtain ⟨nq, hnq⟩ : ∃ nq, nq = (LN S a r).length := ⟨_, rfl⟩
  have HNQ := qH hnq
  rw [← hnq] at hqv HRL
  have C262 := qH (show wq.cell? ⟨g, 262, none⟩ = some (.slice Aq nq cq) by have := MR.out.blk.cell 262; rw [mkc_q HL.out, hqv] at this; exact this)
  have c262 := C262.out
  have HQF := qH hqv
  clear hnq hqv
  by_cases hge : r < nq
  ·have x1 : (r : Int) < (nq : Int) := Int.ofNat_lt.2 hge
   by_cases hbg : most < (nq : Int)
   ·have hd : decide (most < (nq : Int)) = true := decide_eq_true hbg
    have HF := qH (mkN_many (S := S) (a := a) (z := z) (most := most) HM.out (r := r) (by rw [← HNQ.out]; exact hbg))
    have KR := qH (K3.out.below BR.out K3.out.lt)
    have BW := qH (B13.out.trans (BR.out.mono B13.out.size))
    clear hge hbg
    go_wp2_with (first
     | ((with_reducible refine atDst 42 ?_); refine wpList_bld rfl 31 #[] rfl d0 HDB.out ?_; (try simp only [Act.put, qA, qB, qC]))
     | ((with_reducible refine atStore 31 4 42 ?_); refine wpList_stBlk rfl 31 _ _ rfl w1.heap.size d0 rfl rfl 31 _ KR.out HDS.out rfl HD1.out BW.out (Nat.le_refl _) ?_; intro w9 hk hb hs ho; have K9 := qH hk; have B9 := qH (B1.out.trans (hb.mono B1.out.size)); clear hk hb hs ho; (try simp only [Act.put, qA, qB, qC])))
    refine bodyPost_ret (results_blk2 rfl _ _ w1.heap.size 31 _ _ _ rfl rfl K9.out Tryz.underlying31 rfl HDS.out) rfl ?_
    unfold MkPost
    rw [HF.out]
    exact ⟨d0, rfl, by rw [HD0.out]; exact dfaV_no _, B9.out⟩
   ·have hd : decide (most < (nq : Int)) = false := decide_eq_false hbg
    have HGE := qH hge
    have HBG := qH hbg
    obtain ⟨X, hX⟩ : ∃ X, (LN S a r)[r]? = some X := ⟨_, List.getElem?_eq_getElem (by rw [← HNQ.out]; exact hge)⟩
    have HX := qH hX
    have HRX := qH (LN_ris S a r X (List.mem_of_getElem? hX))
    obtain ⟨Ae, ce, hve, _⟩ := Row.of_own DR.out.owne
    rw [bools_length] at hve
    obtain ⟨ne, hne⟩ : ∃ ne, ne = (endsI (hasZ z) (LN S a r) r).length := ⟨_, rfl⟩
    have HNE := qH hne
    rw [← hne] at hve
    have HVE := qH hve
    have C257 := qH (show wq.cell? ⟨gd, 257, none⟩ = some (.slice Ae ne ce) by have := DR.out.blk.cell 257; rw [dcl_e HL.out, hve] at this; exact this)
    obtain ⟨zn, hzn⟩ : ∃ zn : Nat, z = (zn : Int) := ⟨z.toNat, by have := HM.out.z0; omega⟩
    have HZN := qH hzn
    have HZL := qH (show zn < 2048 by have h1 := HM.out.z1; have h2 := HM.out.few; omega)
    have CQ := qH (C3.out.below BR.out C3.out.lt)
    have C2N := qH (show wq.cell? ⟨w.heap.size, 2, none⟩ = some (.int .i64 (zn : Int)) by have := CQ.out.cell 2; rw [hzn] at this; exact this)
    have HEO := qH (fun i (hi : ve.ownBlock = some i) => own_above DR.out.owne i hi)
    have NEg := qH (show ¬ ve.ownBlock = some g from fun h => by have h1 := HEO.out g h; have h2 := MR.out.gH; omega)
    have NEc := qH (show ¬ ve.ownBlock = some w.heap.size from fun h => by have h1 := HEO.out _ h; have h2 := MR.out.gH; have h3 := MR.out.gB; have h4 := S3.out; omega)
    obtain ⟨bq, oq, hAq, hbl, hrq⟩ := (by have h1 := own32_row MR.out.queue; rw [HQF.out] at h1; exact h1.at_ (by rw [map_len, ← HNQ.out]; omega) : ∃ b off, Aq = some ⟨b, off, none⟩ ∧ b < wq.heap.size ∧ ∀ i t, ((LN S a r).map memB)[i]? = some t → wq.rangeAt b (off + i * 32) (gds t))
    subst hAq
    have HRQ := qH (hrq r (memB X) (by rw [List.getElem?_map, hX]; rfl))
    have HBL := qH hbl
    have NEq := qH (show ¬ ve.ownBlock = some bq from (DR.out.qn bq (by rw [HQF.out]; rfl)).2.2)
    obtain ⟨i2, hi2, hb0, hb1, hb2⟩ := infoP inf_bool
    clear hX hve hne hzn hbl hrq hge hbg
    go_wp2_with fail
    clear c262
    refine sb_start (fun W => Off (fun i => ve.ownBlock = some i) wq W) 14 (by kernel_rfl) (fun wd hwd => ?_)
    have hX : Off (fun i => ve.ownBlock = some i) wq wd := by rw [hwd]; exact Off.start _ _
    have HWD := qH (show Below wq.heap.size wq wd by rw [hwd]; exact (Below.refl _ _).drew)
    clear hwd
    refine sb_take (i := 0) (oi := ⟨some 43, _, _, _, _, _⟩) (v := ?_) rfl (by kernel_rfl) (by kernel_rfl) (by kernel_rfl) (fun _ _ _ h => h) rfl hX ?_ ?_; rotate_left; (intro W hW; go_simp; try with_reducible rfl); simp only [Act.put, qA, qB, qC]
    refine sb_take (i := 1) (oi := ⟨some 44, _, _, _, _, _⟩) (v := .slice Ae ne ce) rfl (by kernel_rfl) (by kernel_rfl) (by kernel_rfl) (fun _ _ _ h => h) rfl hX (fun W hW => ld_bls (.tmp 43) rfl rfl (Off.cell hW DR.out.blk.lt DR.out.ed C257.out)) ?_; simp only [Act.put, qA, qB, qC]
    refine sb_take (i := 2) (oi := ⟨some 45, _, _, _, _, _⟩) (v := ?_) rfl (by kernel_rfl) (by kernel_rfl) (by kernel_rfl) (fun _ _ _ h => h) rfl hX ?_ ?_; rotate_left; (intro W hW; go_simp; try with_reducible rfl); simp only [Act.put, qA, qB, qC]
    refine sb_take (i := 3) (oi := ⟨some 46, _, _, _, _, _⟩) (v := ?_) rfl (by kernel_rfl) (by kernel_rfl) (by kernel_rfl) (fun _ _ _ h => h) rfl hX ?_ ?_; rotate_left; (intro W hW; go_simp; try with_reducible rfl); simp only [Act.put, qA, qB, qC]
    refine sb_take (i := 4) (oi := ⟨some 47, _, _, _, _, _⟩) (v := ?_) rfl (by kernel_rfl) (by kernel_rfl) (by kernel_rfl) (fun _ _ _ h => h) rfl hX ?_ ?_; rotate_left; (intro W hW; go_simp; try with_reducible rfl); simp only [Act.put, qA, qB, qC]
    refine sb_take (i := 5) (oi := ⟨some 48, _, _, _, _, _⟩) (v := .slice (some ⟨bq, oq, none⟩) nq cq) rfl (by kernel_rfl) (by kernel_rfl) (by kernel_rfl) (fun _ _ _ h => h) rfl hX (fun W hW => ld_grs (.tmp 47) rfl rfl (Off.cell hW MR.out.blk.lt NEg.out C262.out)) ?_; simp only [Act.put, qA, qB, qC]
    refine sb_take (i := 6) (oi := ⟨some 49, _, _, _, _, _⟩) (v := ?_) rfl (by kernel_rfl) (by kernel_rfl) (by kernel_rfl) (fun _ _ _ h => h) rfl hX ?_ ?_; rotate_left; (intro W hW; go_simp; try with_reducible rfl); simp only [Act.put, qA, qB, qC]
    refine sb_take (i := 7) (oi := ⟨some 50, _, _, _, _, _⟩) (v := .pointer (some ⟨bq, oq + r * 32, none⟩)) rfl (by kernel_rfl) (by kernel_rfl) (by kernel_rfl) (fun _ _ _ h => h) rfl hX (fun W _ => ix_gr (.tmp 48) (.tmp 49) rfl rfl rfl HGE.out W) ?_; simp only [Act.put, qA, qB, qC]
    refine sb_take (i := 8) (oi := ⟨some 51, _, _, _, _, _⟩) (v := ?_) rfl (by kernel_rfl) (by kernel_rfl) (by kernel_rfl) (fun _ _ _ h => h) rfl hX ?_ ?_; rotate_left; (intro W hW; go_simp; try with_reducible rfl); simp only [Act.put, qA, qB, qC]
    refine sb_take (i := 9) (oi := ⟨some 52, _, _, _, _, _⟩) (v := .int .i64 (zn : Int)) rfl (by kernel_rfl) (by kernel_rfl) (by kernel_rfl) (fun _ _ _ h => h) rfl hX (fun W hW => ld_int9 (.tmp 51) rfl rfl (Off.cell hW CQ.out.lt NEc.out C2N.out)) ?_; simp only [Act.put, qA, qB, qC]
    refine sb_actB (i := 10) (o := ⟨some 53, _, _, _, _, _⟩) rfl (by kernel_rfl) rfl hX (fun K hK => ?_)
    go_wp2_with fail
    refine (gHas_any (memB X) zn bq (oq + r * 32) HZL.out wd (Nat.lt_of_lt_of_le HBL.out (Off.size hX)) (Off.range hX HBL.out NEq.out HRQ.out)).mono ?_
    rintro e we ⟨rfl, hwe⟩
    subst hwe
    obtain ⟨bz, hbz⟩ : ∃ bz, bz = memB X zn := ⟨_, rfl⟩
    have HBZ := qH (show bz = hasZ z X by rw [hbz, HZN.out]; rfl)
    rw [← hbz]
    clear hbz
    go_wp2_with fail
    refine hK _ _ hX ?_
    clear hK K
    (try simp only [Act.put, qA, qB, qC])
    refine sb_actB (i := 11) (o := ⟨some 54, _, _, _, _, _⟩) rfl (by kernel_rfl) rfl hX (fun K hK => ?_)
    refine wp_bldV 29 4 (.tmp 53) rfl i2 (.bool false) Tryz.underlying29 hi2 hb0 hb1 rfl (.bool bz) rfl rfl ?_
    intro wf hrf hb
    have RF := qH hrf
    have BF := qH (HWD.out.trans (hb.mono HWD.out.size))
    refine hK _ _ (hX.then hb) ?_
    clear hK K
    (try simp only [Act.put, qA, qB, qC])
    replace hX := hX.then hb
    clear hb hrf
    refine sb_actB (i := 12) (o := ⟨some 55, _, _, _, _, _⟩) rfl (by kernel_rfl) rfl hX (fun K hK => ?_)
    refine wp_appW (base := H) (.tmp 44) (.tmp 54) 29 rfl 4 i2 (.bool false) 1 Tryz.underlying29 hi2 hb0 hb1 hb2 rfl _ ne (bools (endsI (hasZ z) (LN S a r) r)) rfl (by have h1 := ownBelow DR.out.owne BF.out (Nat.le_refl _); rw [HVE.out, ← HNE.out] at h1; exact h1) _ [.bool bz] rfl RF.out (fun u hu => by obtain rfl := List.mem_singleton.1 hu; rfl) (by have h1 := HNE.out; rw [endsI_len (by rw [← HNQ.out]; exact Nat.le_of_lt HGE.out)] at h1; have h2 := HGE.out; have h3 := HMO.out; have h4 := HBG.out; simp only [List.length_singleton]; omega) (by omega) (Nat.le_trans MR.out.hs BF.out.size) ?_
    intro vn2 wg hog hgg hwg
    rw [← HVE.out] at hgg hwg
    have HQLT := qH (fun i (hi : qv.ownBlock = some i) => own4_lt MR.out.queue i hi)
    have PX := qH (DR.out.ends BF.out bz (by
     have e : (endsI (hasZ z) (LN S a r) r ++ [bz]).length = ne + [Value.bool bz].length := by rw [List.length_append, ← HNE.out]; rfl
     have e2 : bools (endsI (hasZ z) (LN S a r) r ++ [bz]) = bools (endsI (hasZ z) (LN S a r) r) ++ [Value.bool bz] := by simp [bools]
     rw [e, e2]
     exact hog) hgg hwg HQLT.out)
    have HC5 := qH (by have := PX.out.1.cell 257; rw [dcl_e HL.out] at this; exact this)
    have HF5 := qH (PX.out.1.frozen 257)
    obtain ⟨An, cn, hvn, _⟩ := Row.of_own hog
    obtain ⟨nn, hnn⟩ : ∃ nn, nn = (bools (endsI (hasZ z) (LN S a r) r) ++ [Value.bool bz]).length := ⟨_, rfl⟩
    rw [← hnn] at hvn
    clear hnn
    subst hvn
    refine hK _ _ (hX.trans (Off.grown hgg fun i hi => .inr hi)) ?_
    clear hK K
    (try simp only [Act.put, qA, qB, qC])
    replace hX := hX.trans (Off.grown hgg fun i hi => .inr hi)
    clear hog hgg hwg
    refine sb_run (i := 13) (oi := ⟨some 56, _, _, _, _, _⟩) (v := ?_) rfl (by kernel_rfl) rfl hX ?_ ?_; rotate_left; (go_simp; try with_reducible rfl); simp only [Act.put, qA, qB, qC]
    refine sb_last (o := ⟨none, _, _, _, _, _⟩) rfl (by kernel_rfl) rfl (fun K hK => ?_)
    refine wp_stBls (.tmp 56) (.tmp 55) rfl rfl rfl HC5.out HF5.out ?_
    refine hK _ _ ?_
    clear hK K hX
    (try simp only [Act.put, qA, qB, qC])
    refine wpAnyB_done (by kernel_rfl) ?_ _
    obtain ⟨wh, hwh⟩ : ∃ v, v = wg.setCell ⟨gd, 257, none⟩ (.slice An nn cn) := ⟨_, rfl⟩
    have HWH := qH hwh
    have D9 := qH (show DV wh H gd cl qv vn (.slice An nn cn) vf r (rowsI (sucN S) (LN S a r) r) (endsI (hasZ z) (LN S a r) r ++ [hasZ z X]) by rw [hwh, ← HBZ.out]; exact PX.out.2.1)
    have O9 := qH (show Off (fun i => i = gd ∨ ve.ownBlock = some i) wq wh by rw [hwh]; exact PX.out.2.2)
    rw [← hwh]
    clear hwh
    have HMB := qH (fun i (hi : Md g mr mn qv i) => (MR.out.lts hi : i < wq.heap.size))
    have HMG := qH (fun i (hi : Md g mr mn qv i) => (show ¬ (i = gd ∨ ve.ownBlock = some i) from fun h => by
     rcases hi with e | e | e | e
     ·rcases h with h | h
      ·have h1 := MR.out.gH; have h2 := HGD.out; omega
      ·exact NEg.out (by rw [← e]; exact h)
     ·rcases h with h | h
      ·have h1 := MR.out.rH; have h2 := HGD.out; omega
      ·have h1 := HEO.out i h; have h2 := MR.out.rH; omega
     ·rcases h with h | h
      ·have h1 := MR.out.nH; have h2 := HGD.out; omega
      ·have h1 := HEO.out i h; have h2 := MR.out.nH; omega
     ·rcases h with h | h
      ·exact (DR.out.qn i e).1 h
      ·exact (DR.out.qn i e).2.2 h))
    have M9 := qH (MR.out.stay O9.out.size fun i hi => O9.out.block i (HMB.out i hi) (HMG.out i hi))
    have SG9 := qH (SR.out.stay O9.out.size fun i hi _ _ _ => O9.out.block i (Nat.lt_of_lt_of_le hi MR.out.hs) (fun h => by
     rcases h with h | h
     ·have h2 := HGD.out; omega
     ·have h1 := HEO.out i h; omega))
    have B9 := qH (BR.out.trans (O9.out.below (fun i hi => by
     rcases hi with h | h
     ·rw [h, HGD.out]; exact MR.out.bh
     ·exact Nat.le_trans MR.out.bh (HEO.out i h)) BR.out.size))
    have C262' := qH (show wh.cell? ⟨g, 262, none⟩ = some (.slice (some ⟨bq, oq, none⟩) nq cq) from O9.out.cell MR.out.blk.lt (HMG.out g (.inl rfl)) C262.out)
    have HRQ' := qH (show wh.rangeAt bq (oq + r * 32) (gds (memB X)) from O9.out.range HBL.out (HMG.out bq (.inr (.inr (.inr (by rw [HQF.out]; rfl))))) HRQ.out)
    obtain ⟨Av, cv, hvv, _⟩ := Row.of_own D9.out.ownn
    rw [show ((List.range r).map vf).length = r by simp] at hvv
    have HVV := qH hvv
    have C256 := qH (show wh.cell? ⟨gd, 256, none⟩ = some (.slice Av r cv) by have := D9.out.blk.cell 256; rw [dcl_n HL.out, hvv] at this; exact this)
    have HGG := qH (show ¬ (Md g mr mn qv gd ∨ vn.ownBlock = some gd) from fun h => by
     rcases h with h | h
     ·exact HMG.out gd h (.inl rfl)
     ·exact D9.out.nd h)
    obtain ⟨gx, hgx⟩ : ∃ gx, gx = gds (memB X) := ⟨_, rfl⟩
    have HGX := qH hgx
    have HKX := qH (show gkey X = .agg gx.toArray by rw [hgx]; rfl)
    have HSX := qH (show (Tryz.prog.info? 67).map (·.size) = some gx.length by rw [hgx]; exact size_group _)
    obtain ⟨il, hil, hl0, hl1, hl2⟩ := infoP inf_sl
    clear hvv hgx
    go_wp2_with fail
    refine sb_start (fun W => Off (fun i => Md g mr mn qv i ∨ vn.ownBlock = some i) wh W) 14 (by kernel_rfl) (fun wd hwd => ?_)
    have hX : Off (fun i => Md g mr mn qv i ∨ vn.ownBlock = some i) wh wd := by rw [hwd]; exact Off.start _ _
    have HWD2 := qH (show Below wh.heap.size wh wd by rw [hwd]; exact (Below.refl _ _).drew)
    clear hwd
    have O9n := qH (Off.new (fun _ => False) HWD2.out)
    have M10 := qH (M9.out.below HWD2.out)
    have CQ2 := qH (O9n.out.cell M9.out.blk.lt (fun h => h) C262'.out)
    have HBQ2 := qH (Nat.lt_of_lt_of_le HBL.out (Nat.le_trans O9.out.size HWD2.out.size))
    have HRQ2 := qH (show wd.rangeAt bq (oq + r * 32) gx by rw [HGX.out]; exact O9n.out.range (Nat.lt_of_lt_of_le HBL.out O9.out.size) (fun h => h) HRQ'.out)
    refine sb_take (i := 0) (oi := ⟨some 57, _, _, _, _, _⟩) (v := ?_) rfl (by kernel_rfl) (by kernel_rfl) (by kernel_rfl) (fun _ _ _ h => h) rfl hX ?_ ?_; rotate_left; (intro W hW; go_simp; try with_reducible rfl); simp only [Act.put, qA, qB, qC]
    refine sb_take (i := 1) (oi := ⟨some 58, _, _, _, _, _⟩) (v := .slice Av r cv) rfl (by kernel_rfl) (by kernel_rfl) (by kernel_rfl) (fun _ _ _ h => h) rfl hX (fun W hW => ld_inss (.tmp 57) rfl rfl (Off.cell hW D9.out.blk.lt HGG.out C256.out)) ?_; simp only [Act.put, qA, qB, qC]
    refine sb_take (i := 2) (oi := ⟨some 59, _, _, _, _, _⟩) (v := ?_) rfl (by kernel_rfl) (by kernel_rfl) (by kernel_rfl) (fun _ _ _ h => h) rfl hX ?_ ?_; rotate_left; (intro W hW; go_simp; try with_reducible rfl); simp only [Act.put, qA, qB, qC]
    refine sb_take (i := 3) (oi := ⟨some 60, _, _, _, _, _⟩) (v := ?_) rfl (by kernel_rfl) (by kernel_rfl) (by kernel_rfl) (fun _ _ _ h => h) rfl hX ?_ ?_; rotate_left; (intro W hW; go_simp; try with_reducible rfl); simp only [Act.put, qA, qB, qC]
    refine sb_take (i := 4) (oi := ⟨some 61, _, _, _, _, _⟩) (v := ?_) rfl (by kernel_rfl) (by kernel_rfl) (by kernel_rfl) (fun _ _ _ h => h) rfl hX ?_ ?_; rotate_left; (intro W hW; go_simp; try with_reducible rfl); simp only [Act.put, qA, qB, qC]
    refine sb_take (i := 5) (oi := ⟨some 62, _, _, _, _, _⟩) (v := ?_) rfl (by kernel_rfl) (by kernel_rfl) (by kernel_rfl) (fun _ _ _ h => h) rfl hX ?_ ?_; rotate_left; (intro W hW; go_simp; try with_reducible rfl); simp only [Act.put, qA, qB, qC]
    refine sb_take (i := 7) (oi := ⟨some 64, _, _, _, _, _⟩) (v := ?_) rfl (by kernel_rfl) (by kernel_rfl) (by kernel_rfl) (fun _ _ _ h => h) rfl hX ?_ ?_; rotate_left; (intro W hW; go_simp; try with_reducible rfl); simp only [Act.put, qA, qB, qC]
    refine sb_run (i := 6) (oi := ⟨some 63, _, _, _, _, _⟩) (v := .slice (some ⟨bq, oq, none⟩) nq cq) rfl (by kernel_rfl) rfl hX (ld_grs (.tmp 62) rfl rfl CQ2.out) ?_; simp only [Act.put, qA, qB, qC]
    refine sb_run (i := 8) (oi := ⟨some 65, _, _, _, _, _⟩) (v := .pointer (some ⟨bq, oq + r * 32, none⟩)) rfl (by kernel_rfl) rfl hX (ix_gr (.tmp 63) (.tmp 64) rfl rfl rfl HGE.out _) ?_; simp only [Act.put, qA, qB, qC]
    refine sb_run (i := 9) (oi := ⟨some 66, _, _, _, _, _⟩) (v := .agg gx.toArray) rfl (by kernel_rfl) rfl hX (ld_mid 67 _ rfl bq (oq + r * 32) rfl gx _ HRQ2.out HBQ2.out Tryz.underlying67 rfl HSX.out _ (Below.refl _ _)) ?_; simp only [Act.put, qA, qB, qC]
    refine sb_actB (i := 10) (o := ⟨some 67, _, _, _, _, _⟩) rfl (by kernel_rfl) rfl hX (fun K hK => ?_)
    go_wp2_with fail
    have hc := mRow_any w3 X wd V3.out HM.out HLO.out (HT.out.belowG B3.out HT.out.lt) (B9.out.trans (HWD2.out.mono B9.out.size)) (by rw [← HCL.out]; exact M10.out) (SG9.out.stay HWD2.out.size fun j hj _ _ _ => HWD2.out.block j (Nat.lt_of_lt_of_le hj M9.out.hs)) HRX.out (by rw [← HNQ.out]; have h1 := HBG.out; have h2 := HMO.out; omega)
    obtain ⟨kk, hkk⟩ : ∃ kk, kk = (fbN S).length := ⟨_, rfl⟩
    have HKK := qH hkk
    have HLS := qH (show LN S a (r + 1) = extL (LN S a r) (sucN S X) from Lq_step HX.out)
    obtain ⟨l, hl⟩ : ∃ l, l = rowI (LN S a (r + 1)) (sucN S X) := ⟨_, rfl⟩
    have HLI := qH hl
    have HLL := qH (show l.length = kk by rw [hl, rowI_len, sucN_len, hkk])
    rw [HKX.out, ← HCL.out, ← HLS.out, ← hl, ← hkk] at hc
    clear hl hkk
    refine hc.mono ?_
    clear hc
    rintro e we ⟨hb, rfl, hblk, hbge, qv', Es', hm', hst, hqh⟩
    have HBK := qH hblk
    have HBE := qH hbge
    have M11 := qH hm'
    have HST := qH hst
    have HQH := qH hqh
    have D11 := qH ((D9.out.below HWD2.out).mstep hst MR.out.gH MR.out.rH MR.out.nH)
    clear hblk hbge hm' hqh
    go_wp2_with fail
    refine hK _ _ (hX.trans (hst.off.mono fun k _ h => .inl h)) ?_
    clear hK K
    (try simp only [Act.put, qA, qB, qC])
    replace hX := hX.trans (hst.off.mono fun k _ h => .inl h)
    clear hst
    refine sb_actB (i := 11) (o := ⟨some 68, _, _, _, _, _⟩) rfl (by kernel_rfl) rfl hX (fun K hK => ?_)
    refine wp_bldV 28 53 (.tmp 67) rfl il (.slice none 0 0) Tryz.underlying28 hil hl0 hl1 rfl (.slice (some ⟨hb, 0, none⟩) kk kk) rfl rfl ?_
    intro wf hrf hbf
    have RF2 := qH hrf
    have BF2 := qH hbf
    refine hK _ _ (hX.then hbf) ?_
    clear hK K
    (try simp only [Act.put, qA, qB, qC])
    replace hX := hX.then hbf
    clear hbf hrf
    refine sb_actB (i := 12) (o := ⟨some 69, _, _, _, _, _⟩) rfl (by kernel_rfl) rfl hX (fun K hK => ?_)
    refine wp_appW (base := H) (.tmp 58) (.tmp 68) 28 rfl 53 il (.slice none 0 0) 24 Tryz.underlying28 hil hl0 hl1 hl2 rfl _ r ((List.range r).map vf) rfl (by have h1 := ownBelow D11.out.ownn BF2.out (Nat.le_refl _); rw [HVV.out] at h1; exact h1) _ [.slice (some ⟨hb, 0, none⟩) kk kk] rfl RF2.out (fun u hu => by obtain rfl := List.mem_singleton.1 hu; rfl) (by have h2 := HGE.out; have h3 := HMO.out; have h4 := HBG.out; simp only [List.length_singleton]; omega) (by omega) (Nat.le_trans M11.out.hs BF2.out.size) ?_
    intro vn2 wg2 hog hgg hwg
    rw [← HVV.out] at hgg hwg
    have HLV := qH (fun i (hi : vn.ownBlock = some i) => (own6_lt D9.out.ownn i hi).1)
    have HLE := qH (fun i (hi : (Value.slice An nn cn).ownBlock = some i) => (own6_lt D9.out.owne i hi).1)
    have HSE := qH (Nat.le_trans HWD2.out.size HBE.out)
    have PX2 := qH (D11.out.next (h := hb) (l := l) HBK.out (Nat.le_trans M9.out.hs HSE.out) (Nat.ne_of_gt (Nat.lt_of_lt_of_le D9.out.blk.lt HSE.out)) (fun e => Nat.lt_irrefl _ (Nat.lt_of_lt_of_le (HLV.out _ e) HSE.out)) (fun e => Nat.lt_irrefl _ (Nat.lt_of_lt_of_le (HLE.out _ e) HSE.out)) HQH.out (by rw [HLL.out, HKK.out]; exact fbN_len S) BF2.out (by rw [HLL.out]; exact hog) hgg hwg (fun i hi => own4_lt M11.out.queue i hi))
    have HC6 := qH (by have := PX2.out.1.cell 256; rw [dcl_n HL.out] at this; exact this)
    have HF6 := qH (PX2.out.1.frozen 256)
    obtain ⟨A2, c2, hvn2, _⟩ := Row.of_own hog
    obtain ⟨n2, hn2⟩ : ∃ n2, n2 = ((List.range r).map vf ++ [Value.slice (some ⟨hb, 0, none⟩) kk kk]).length := ⟨_, rfl⟩
    rw [← hn2] at hvn2
    clear hn2
    subst hvn2
    refine hK _ _ (hX.trans (Off.grown hgg fun i hi => .inr (.inr hi))) ?_
    clear hK K
    (try simp only [Act.put, qA, qB, qC])
    replace hX := hX.trans (Off.grown hgg fun i hi => .inr (.inr hi))
    clear hog hgg hwg
    refine sb_run (i := 13) (oi := ⟨some 70, _, _, _, _, _⟩) (v := ?_) rfl (by kernel_rfl) rfl hX ?_ ?_; rotate_left; (go_simp; try with_reducible rfl); simp only [Act.put, qA, qB, qC]
    refine sb_last (o := ⟨none, _, _, _, _, _⟩) rfl (by kernel_rfl) rfl (fun K hK => ?_)
    refine wp_stIns (.tmp 70) (.tmp 69) rfl rfl rfl HC6.out HF6.out ?_
    refine hK _ _ ?_
    clear hK K hX
    (try simp only [Act.put, qA, qB, qC])
    refine wpAnyB_done (by kernel_rfl) ?_ _
    obtain ⟨wz, hwz⟩ : ∃ v, v = wg2.setCell ⟨gd, 256, none⟩ (.slice A2 n2 c2) := ⟨_, rfl⟩
    have D12 := qH PX2.out.2.1
    have O12 := qH PX2.out.2.2
    rw [← hwz] at D12 O12 ⊢
    clear hwz
    have HNE2 := qH (fun i (hi : Md g mr mn qv' i) => (show ¬ (i = gd ∨ vn.ownBlock = some i) from fun h => by
     have hv : ∀ j, vn.ownBlock = some j → H ≤ j := fun j hj => own_above D11.out.ownn j hj
     have h0 := HGD.out
     rcases hi with e | e | e | e
     ·have h1 := MR.out.gH
      rcases h with h | h
      ·omega
      ·have h2 := hv i h; omega
     ·have h1 := MR.out.rH
      rcases h with h | h
      ·omega
      ·have h2 := hv i h; omega
     ·have h1 := MR.out.nH
      rcases h with h | h
      ·omega
      ·have h2 := hv i h; omega
     ·rcases h with h | h
      ·exact (D11.out.qn i e).1 h
      ·exact (D11.out.qn i e).2.1 h))
    have M12 := qH (show MkV wz w3.heap.size H g mr mn A cap a z cl (fbN S).length sg S qv' (LN S a (r + 1)) Es' by rw [← HKK.out]; exact M11.out.stay O12.out.size fun i hi => O12.out.block i (M11.out.lts hi) (HNE2.out i hi))
    have SG11 := qH (SG9.out.mo (((MO.refl (fun _ => False) wh g mr mn qv).then HWD2.out).step HST.out) M9.out.hs (fun k hk => own4_above M9.out.queue k hk) (fun k h => h.elim))
    have SG12 := qH (SG11.out.stay O12.out.size fun i hi _ _ _ => O12.out.block i (Nat.lt_of_lt_of_le hi M11.out.hs) (fun h => by
     have h0 := HGD.out
     rcases h with h | h
     ·omega
     ·have h1 := own_above D11.out.ownn i h; omega))
    have B11 := qH ((B9.out.trans (HWD2.out.mono B9.out.size)).trans (HST.out.below M10.out))
    have B12' := qH (B11.out.trans (O12.out.below (fun i hi => by
     have h1 := M11.out.bh
     have h0 := HGD.out
     rcases hi with h | h
     ·rw [h, h0]; exact h1
     ·exact Nat.le_trans h1 (own_above D11.out.ownn i h)) B11.out.size))
    have HTN2 := qH (show ∀ i, i < r + 1 → i < (LN S a i).length from fun i hi => by
     rcases Nat.lt_or_ge i r with h | h
     ·exact HTN.out i h
     ·obtain rfl : i = r := by omega
      rw [← HNQ.out]; exact HGE.out)
    have HRM2 := qH (show ((r + 1 : Nat) : Int) ≤ most by have h1 := HGE.out; have h2 := HBG.out; omega)
    have HR1K := qH (show r < 2000 by have h1 := HGE.out; have h2 := HBG.out; have h3 := HMO.out; omega)
    have HD13 := qH (show DV wz H gd cl qv' (.slice A2 n2 c2) (.slice An nn cn) (fun i => if i = r then .slice (some ⟨hb, 0, none⟩) l.length l.length else vf i) (r + 1) (rowsI (sucN S) (LN S a (r + 1)) (r + 1)) (endsI (hasZ z) (LN S a (r + 1)) (r + 1)) by
     have e1 : rowsI (sucN S) (LN S a (r + 1)) (r + 1) = rowsI (sucN S) (LN S a r) r ++ [l] := by
      rw [HLI.out]
      exact rowsI_next HX.out
     have e2 : endsI (hasZ z) (LN S a (r + 1)) (r + 1) = endsI (hasZ z) (LN S a r) r ++ [hasZ z X] := endsI_next HX.out
     rw [e1, e2]
     exact D12.out)
    have HMS := qH (show most.toNat + 2 - (r + 1) < most.toNat + 2 - r by have h1 := HRM2.out; omega)
    have e3 := wrap_one r (lt_2k HR1K.out (Nat.le_refl _))
    have e4 := wrap_one' r (lt_2k HR1K.out (Nat.le_refl _))
    go_wp2_with fail
    exact ⟨⟨r + 1, by congr 1, qv', .slice A2 n2 c2, .slice An nn cn, Es', _, HTN2.out, .inr HRM2.out, M12.out, SG12.out, HD13.out, B12'.out⟩, by simpa [intOf] using HMS.out⟩
  ·obtain rfl : r = nq := Nat.le_antisymm HRL.out (Nat.not_lt.1 hge)
   have x1 : ¬ ((r : Int) < (r : Int)) := Int.lt_irrefl _
   have HFT := qH (show FitN S a r from HNQ.out.symm)
   have HR0 := qH (show ¬ r = 0 from fun h => by have h1 := Lq_pos (f := sucN S) (x0 := clsN S [a]) r; have h2 := HNQ.out; unfold LN at h2; omega)
   have HOK := qH (mkN_ok (S := S) (a := a) (z := z) (most := most) HM.out HFT.out (HRM.out.resolve_left HR0.out))
   have KR := qH (K3.out.below BR.out K3.out.lt)
   have BW := qH (B13.out.trans (BR.out.mono B13.out.size))
   obtain ⟨da, hda⟩ : ∃ da, da = dcl cl vn ve := ⟨_, rfl⟩
   have HDA := qH hda
   have HDLa := qH (show da.length = 258 by rw [hda]; exact dcl_len HL.out)
   have HDOa := qH (show da.all (·.oneCell') = true by
    obtain ⟨A5, c5, h5, _⟩ := Row.of_own DR.out.ownn
    obtain ⟨A6, c6, h6, _⟩ := Row.of_own DR.out.owne
    rw [hda, h5, h6]; exact dcl_one)
   have HDSa := qH (show (Tryz.prog.info? 31).map (·.size) = some da.length by rw [hda]; exact size_dfa HL.out)
   have KDa := qH (show Blk wq gd 31 da by rw [hda]; exact DR.out.blk)
   have HS1 := qH (show w1.heap.size < H by
    have h1 := (K3.out.lt : w1.heap.size < w3.heap.size)
    have h2 := MR.out.bh
    omega)
   clear hge hda
   go_wp2_with (first
    | ((with_reducible refine atDst 71 ?_); refine wpList_ldArr rfl 31 _ rfl gd rfl 31 _ _ KDa.out Tryz.underlying31 rfl HDSa.out ?_; (try simp only [Act.put, qA, qB, qC]))
    | ((with_reducible refine atStore 31 4 71 ?_); refine wpList_stBlk rfl 31 _ _ rfl w1.heap.size da rfl rfl 31 _ KR.out HDSa.out (by rw [HDL.out, HDLa.out]) HDOa.out (Below.refl w1.heap.size wq) (Nat.le_refl _) ?_; intro w9 hk hb hs ho; have K9 := qH hk; have BB9 := qH hb; have HS9 := qH hs; have HO9 := qH ho; have B9 := qH (B1.out.trans ((BW.out.trans hb).mono B1.out.size)); clear hk hb hs ho; (try simp only [Act.put, qA, qB, qC])))
   have D9 := qH (DR.out.mstep (g := w1.heap.size) (mr := mr) (mn := mn) (w' := w9) (qv' := qv) ⟨⟨BB9.out.os, BB9.out.tape, BB9.out.output, Nat.le_of_eq HS9.out.symm, fun k hk hn => HO9.out k (fun e => hn (.inl e))⟩, fun k hk => .inl hk⟩ HS1.out MR.out.rH MR.out.nH)
   refine bodyPost_ret (results_blk2 rfl _ _ w1.heap.size 31 _ _ _ rfl rfl K9.out Tryz.underlying31 rfl HDSa.out) rfl ?_
   unfold MkPost
   rw [HOK.out]
   refine ⟨da, rfl, ?_, B9.out⟩
   rw [HDA.out]
   have h9 := D9.out.dfa
   unfold machN
   rw [← HCL.out]
   exact h9
theorem DfaV.form {w : World} {cs : List Value} {D : Dm} (h : DfaV w cs D) : ∃ (An Ae : Option Addr) (cn ce : Nat) (vf : Nat → Value), D.cl.length = 256 ∧ cs = dcl D.cl (.slice An D.next.length cn) (.slice Ae D.ends.length ce) ∧
  Row w (.slice An D.next.length cn) ((List.range D.next.length).map vf) ∧ (∀ i r, D.next[i]? = some r → Row w (vf i) (nums .i64 r)) ∧ Row w (.slice Ae D.ends.length ce) (bools D.ends) := by
 obtain ⟨hl, vn, ve, vf, hcs, hn, hr, he⟩ := h
 have hn' := hn
 have he' := he
 obtain ⟨An, cn, rfl, _⟩ := hn
 obtain ⟨Ae, ce, rfl, _⟩ := he
 rw [show ((List.range D.next.length).map vf).length = D.next.length by simp] at hcs hn'
 rw [bools_length] at hcs he'
 exact ⟨An, Ae, cn, ce, vf, hl, hcs, hn', hr, he'⟩
theorem DfaV.size {w : World} {cs : List Value} {D : Dm} (h : DfaV w cs D) : (Tryz.prog.info? 31).map (·.size) = some cs.length := by
 obtain ⟨hl, vn, ve, vf, hcs, _⟩ := h
 rw [hcs]
 exact size_dfa hl
theorem lt_k256 {i k : Nat} (h : i < k) (hk : k ≤ 256) : i ≤ 4611686018427387904 := by omega
end Go.Proofs.YteadghoojeehlaaGreatDoor
