/-
  Texts of this proof, put together: SbV, TbA, TbB, TbC, TbD, TbF. No statement is proved here.
-/
import Derived.Test.YtbbodfpnneifgaaYD
import Derived.Test.YtbbodfpnneifgaaYB
import Derived.Test.YtbbodfpnneifgaaYA
import Derived.Test.YtbbodfpnneifgaaYC
namespace Go.Proofs.Ytbbodfpnneifgaa
open Go.RowKit
set_option linter.unusedSimpArgs false
set_option linter.unusedVariables false
theorem guard_cls : Try.prog.eqGuardType Try.prog.depth 24 = false := by kernel_rfl
theorem inf_byte : (Try.prog.info? 5).map (·.size) = some 1 := by kernel_rfl
theorem size_byte : ∀ w, (sizeOf 5).run Try.prog w = .ok 1 w := by
 intro w
 have h := inf_byte
 cases hi : Try.prog.info? 5 with
 | none => rw [hi] at h; cases h
 | some i =>
  rw [hi] at h
  have h' : i.size = 1 := by simpa using h
  simp [sizeOf, typeInfo, hi, h']
theorem ex_neQ {ev : Operand → Value} {o : Oper} (x y : Operand) (ho : o.op = .binOp .neq 4 x y 4) {b : Bool} (hx : ev x = .bool b) (hy : ev y = .bool b) (W : World) : (execOp ev o).run Try.prog W = .ok (.value (.bool false)) W := by
 simp only [execOp, ho, hx, hy]
 cases b <;> go_simp
theorem ex_neI {ev : Operand → Value} {o : Oper} (x y : Operand) (ho : o.op = .binOp .neq 3 x y 3) {k : Int} (hx : ev x = .int .i64 k) (hy : ev y = .int .i64 k) (W : World) : (execOp ev o).run Try.prog W = .ok (.value (.bool false)) W := by
 simp only [execOp, ho, hx, hy]
 go_simp
theorem ld_boolQ {ev : Operand → Value} {o : Oper} (x : Operand) (ho : o.op = .load 4 x) {p : Addr} (hx : ev x = .pointer (some p)) {k : Bool} {W : World} (hc : W.cell? p = some (.bool k)) : (execOp ev o).run Try.prog W = .ok (.value (.bool k)) W := by
 simp only [execOp, ho, hx]
 go_simp
set_option maxHeartbeats 8000000 in
set_option maxRecDepth 1000000 in
theorem refSame11_self (D : Dm) (cs cs' : List Value) (w : World) (hv : DfaV w cs D) (hv' : DfaV w cs' D) (hE : D.ends.length ≤ 2000) (hN : D.next.length ≤ 2000) (hR : ∀ r ∈ D.next, r.length ≤ 2000) :
  Calls Try.prog 21 #[.agg cs.toArray, .agg cs'.toArray] w fun e w' => e = .returned (.bool true) ∧ Below w.heap.size w w' := by
 have HDS := qH hv.size
 have HDS' := qH hv'.size
 obtain ⟨An, Ae, cn, ce, vf, hl, hcs, hn, hr, he⟩ := hv.form
 obtain ⟨An', Ae', cn', ce', vf', _, hcs', hn', hr', he'⟩ := hv'.form
 have HL := qH hl
 obtain ⟨n, hnn⟩ : ∃ n, n = D.next.length := ⟨_, rfl⟩
 obtain ⟨m, hmm⟩ : ∃ m, m = D.ends.length := ⟨_, rfl⟩
 have HN := qH hnn
 have HM := qH hmm
 rw [← hnn, ← hmm] at hcs hcs'
 rw [← hnn] at hn hn' hN
 rw [← hmm] at he he' hE
 have HCS := qH hcs
 have HCS' := qH hcs'
 have HRN := qH hn
 have HRN' := qH hn'
 have HR := qH hr
 have HR' := qH hr'
 have HE := qH he
 have HE' := qH he'
 have HNF := qH hN
 have HEF := qH hE
 have HRF := qH hR
 obtain ⟨cl, hcl⟩ : ∃ cl, cl = D.cl := ⟨_, rfl⟩
 rw [← hcl] at HL HCS HCS'
 have HSC := qH (show (Try.prog.info? 24).map (·.size) = some (bvs cl).length from size_ctab HL.out)
 clear hv hv' hl hcs hcs' hn hn' hr hr' he he' hnn hmm hcl hN hE hR
 go_enter Try.func21, Try.ntmps21
 go_wp2_with (first
  | ((with_reducible refine atDst 2 ?_); refine wpList_box rfl 28 _ rfl cs rfl (Below.refl w.heap.size w) (Nat.le_refl _) ?_; intro w1 hk1 hb1 hs1 _; have K1 := qH hk1; have B1 := qH hb1; clear hk1 hb1 hs1; (try simp only [Act.put, qA, qB, qC]))
  | ((with_reducible refine atDst 3 ?_); refine wpList_box rfl 28 _ rfl cs' rfl (Below.refl w1.heap.size w1) (Nat.le_refl _) ?_; intro w2 hk1 hb1 hs1 _; have K1' := qH (K1.out.below hb1 K1.out.lt); have K2' := qH hk1; have B2 := qH (B1.out.trans (hb1.mono B1.out.size)); have c256 : w2.cell? ⟨w.heap.size, 256, none⟩ = some (.slice An n cn) := by { rw [K1'.out.cell 256, HCS.out]; exact dcl_n HL.out }; have c257 : w2.cell? ⟨w.heap.size, 257, none⟩ = some (.slice Ae m ce) := by { rw [K1'.out.cell 257, HCS.out]; exact dcl_e HL.out }; have k256 : w2.cell? ⟨w1.heap.size, 256, none⟩ = some (.slice An' n cn') := by { rw [K2'.out.cell 256, HCS'.out]; exact dcl_n HL.out }; have k257 : w2.cell? ⟨w1.heap.size, 257, none⟩ = some (.slice Ae' m ce') := by { rw [K2'.out.cell 257, HCS'.out]; exact dcl_e HL.out }; have r1 := qH (show w2.rangeAt w.heap.size 0 (bvs cl) from fun i v hv => by { rw [Nat.zero_add, K1'.out.cell i, HCS.out, dcl_cl HL.out (by have := (List.getElem?_eq_some_iff.1 hv).1; rw [bvs_length, HL.out] at this; exact this)]; exact hv }); have r2 := qH (show w2.rangeAt w1.heap.size 0 (bvs cl) from fun i v hv => by { rw [Nat.zero_add, K2'.out.cell i, HCS'.out, dcl_cl HL.out (by have := (List.getElem?_eq_some_iff.1 hv).1; rw [bvs_length, HL.out] at this; exact this)]; exact hv }); clear hk1 hb1 hs1; (try simp only [Act.put, qA, qB, qC]))
  | ((with_reducible refine atDst 9 ?_); refine wpList_load_mid rfl 24 _ rfl w.heap.size 0 rfl (bvs cl) _ r1.out Try.underlying24 rfl HSC.out ?_; (try simp only [Act.put, qA, qB, qC]))
  | ((with_reducible refine atDst 11 ?_); refine wpList_load_mid rfl 24 _ rfl w1.heap.size 0 rfl (bvs cl) _ r2.out Try.underlying24 rfl HSC.out ?_; (try simp only [Act.put, qA, qB, qC]))
  | ((with_reducible refine atDst 12 ?_); refine wpList_neArr rfl 24 5 256 (.tmp 9) (.tmp 11) 24 rfl guard_cls Try.underlying24 Try.underlying5 size_byte cl cl HL.out HL.out rfl rfl ?_; rw [decide_eq_true (rfl : cl = cl)]))
 clear c256 c257 k256 k257
 have HT1 := qH (show w.heap.size < w2.heap.size from K1'.out.lt)
 have HT2 := qH (show w1.heap.size < w2.heap.size from K2'.out.lt)
 have C256 := qH (show w2.cell? ⟨w.heap.size, 256, none⟩ = some (.slice An n cn) by rw [K1'.out.cell 256, HCS.out]; exact dcl_n HL.out)
 have C257 := qH (show w2.cell? ⟨w.heap.size, 257, none⟩ = some (.slice Ae m ce) by rw [K1'.out.cell 257, HCS.out]; exact dcl_e HL.out)
 have D256 := qH (show w2.cell? ⟨w1.heap.size, 256, none⟩ = some (.slice An' n cn') by rw [K2'.out.cell 256, HCS'.out]; exact dcl_n HL.out)
 have D257 := qH (show w2.cell? ⟨w1.heap.size, 257, none⟩ = some (.slice Ae' m ce') by rw [K2'.out.cell 257, HCS'.out]; exact dcl_e HL.out)
 go_loopw [5] (fun jv wl => ∃ j : Nat, j ≤ m ∧ jv = .int .i64 (j : Int) ∧ Below w2.heap.size w2 wl) (fun jv _ => m - (intOf jv).toNat)
 case atStart => exact ⟨0, Nat.zero_le _, by simp, Below.refl _ _⟩
 case round =>
  obtain ⟨j, hj, rfl, hb⟩ := hrel
  have BQ := qH hb
  obtain ⟨wq, hwq⟩ : ∃ v : World, v = wr := ⟨_, rfl⟩
  subst hwq
  have c257 : wq.cell? ⟨w.heap.size, 257, none⟩ = some (.slice Ae m ce) := (hb.cell (p := ⟨w.heap.size, 257, none⟩) HT1.out).trans C257.out
  have C257q := qH c257
  have D257q := qH ((hb.cell (p := ⟨w1.heap.size, 257, none⟩) HT2.out).trans D257.out)
  clear hb
  by_cases hjm : j < m
  ·have x1 : (j : Int) < (m : Int) := Int.ofNat_lt.2 hjm
   have HJ := qH hjm
   have HMJ := qH (sub_next hjm)
   have e3 := wrap_one j (lt_bigN hjm HEF.out)
   have e4 := wrap_one' j (lt_bigN hjm HEF.out)
   obtain ⟨b, hb⟩ : ∃ b, D.ends[j]? = some b := ⟨_, List.getElem?_eq_getElem (by rw [← HM.out]; exact hjm)⟩
   obtain ⟨b1, o1, rfl, hl1, hc1⟩ := (HE.out.below (B2.out.trans (BQ.out.mono B2.out.size))).at_ (by rw [bools_length, ← HM.out]; exact Nat.lt_of_le_of_lt (Nat.zero_le _) hjm)
   obtain ⟨b2, o2, rfl, hl2, hc2⟩ := (HE'.out.below (B2.out.trans (BQ.out.mono B2.out.size))).at_ (by rw [bools_length, ← HM.out]; exact Nat.lt_of_le_of_lt (Nat.zero_le _) hjm)
   have HC1 := qH (hc1 j (.bool b) (by simp [bools, hb]))
   have HC2 := qH (hc2 j (.bool b) (by simp [bools, hb]))
   have HL1 := qH hl1
   have HL2 := qH hl2
   have HT1q := qH (Nat.lt_of_lt_of_le HT1.out BQ.out.size)
   have HT2q := qH (Nat.lt_of_lt_of_le HT2.out BQ.out.size)
   clear hj hjm hb hl1 hl2 hc1 hc2
   go_wp2_with fail
   clear c257
   refine sx_startB (B := wq.heap.size) (w0 := wq) (by kernel_rfl) (Below.refl _ _) (fun wd hwd hX => ?_)
   clear hwd
   refine sx_take (i := 0) (oi := ⟨some 38, _, _, _, _, _⟩) (v := ?_) rfl (by kernel_rfl) (by kernel_rfl) (by kernel_rfl) (fun _ _ _ h => h) rfl hX ?_ ?_; rotate_left; (intro W hW; go_simp; try with_reducible rfl); simp only [Act.put, qA, qB, qC]
   refine sx_take (i := 1) (oi := ⟨some 39, _, _, _, _, _⟩) (v := .slice (some ⟨b1, o1, none⟩) m ce) rfl (by kernel_rfl) (by kernel_rfl) (by kernel_rfl) (fun _ _ _ h => h) rfl hX (fun V hV => ld_bls (.tmp 38) rfl rfl ((hV.cell (p := ⟨w.heap.size, 257, none⟩) HT1q.out).trans C257q.out)) ?_; simp only [Act.put, qA, qB, qC]
   refine sx_take (i := 2) (oi := ⟨some 40, _, _, _, _, _⟩) (v := ?_) rfl (by kernel_rfl) (by kernel_rfl) (by kernel_rfl) (fun _ _ _ h => h) rfl hX ?_ ?_; rotate_left; (intro W hW; go_simp; try with_reducible rfl); simp only [Act.put, qA, qB, qC]
   refine sx_take (i := 3) (oi := ⟨some 41, _, _, _, _, _⟩) (v := ?_) rfl (by kernel_rfl) (by kernel_rfl) (by kernel_rfl) (fun _ _ _ h => h) rfl hX ?_ ?_; rotate_left; (intro W hW; go_simp; try with_reducible rfl); simp only [Act.put, qA, qB, qC]
   refine sx_take (i := 4) (oi := ⟨some 42, _, _, _, _, _⟩) (v := .bool b) rfl (by kernel_rfl) (by kernel_rfl) (by kernel_rfl) (fun _ _ _ h => h) rfl hX (fun V hV => ld_boolQ (.tmp 41) rfl rfl ((hV.cell (p := ⟨b1, o1 + j, none⟩) HL1.out).trans HC1.out)) ?_; simp only [Act.put, qA, qB, qC]
   refine sx_take (i := 5) (oi := ⟨some 43, _, _, _, _, _⟩) (v := ?_) rfl (by kernel_rfl) (by kernel_rfl) (by kernel_rfl) (fun _ _ _ h => h) rfl hX ?_ ?_; rotate_left; (intro W hW; go_simp; try with_reducible rfl); simp only [Act.put, qA, qB, qC]
   refine sx_take (i := 6) (oi := ⟨some 44, _, _, _, _, _⟩) (v := .slice (some ⟨b2, o2, none⟩) m ce') rfl (by kernel_rfl) (by kernel_rfl) (by kernel_rfl) (fun _ _ _ h => h) rfl hX (fun V hV => ld_bls (.tmp 43) rfl rfl ((hV.cell (p := ⟨w1.heap.size, 257, none⟩) HT2q.out).trans D257q.out)) ?_; simp only [Act.put, qA, qB, qC]
   refine sx_take (i := 7) (oi := ⟨some 45, _, _, _, _, _⟩) (v := ?_) rfl (by kernel_rfl) (by kernel_rfl) (by kernel_rfl) (fun _ _ _ h => h) rfl hX ?_ ?_; rotate_left; (intro W hW; go_simp; try with_reducible rfl); simp only [Act.put, qA, qB, qC]
   refine sx_take (i := 8) (oi := ⟨some 46, _, _, _, _, _⟩) (v := ?_) rfl (by kernel_rfl) (by kernel_rfl) (by kernel_rfl) (fun _ _ _ h => h) rfl hX ?_ ?_; rotate_left; (intro W hW; go_simp; try with_reducible rfl); simp only [Act.put, qA, qB, qC]
   refine sx_take (i := 9) (oi := ⟨some 47, _, _, _, _, _⟩) (v := .bool b) rfl (by kernel_rfl) (by kernel_rfl) (by kernel_rfl) (fun _ _ _ h => h) rfl hX (fun V hV => ld_boolQ (.tmp 46) rfl rfl ((hV.cell (p := ⟨b2, o2 + j, none⟩) HL2.out).trans HC2.out)) ?_; simp only [Act.put, qA, qB, qC]
   refine sx_take (i := 10) (oi := ⟨some 48, _, _, _, _, _⟩) (v := .bool false) rfl (by kernel_rfl) (by kernel_rfl) (by kernel_rfl) (fun _ _ _ h => h) rfl hX (fun V _ => ex_neQ (.tmp 42) (.tmp 47) rfl rfl rfl V) ?_; simp only [Act.put, qA, qB, qC]
   refine wpAnyH_done (by kernel_rfl) ?_ _
   have BE := qH (BQ.out.trans (hX.mono BQ.out.size))
   clear hX
   go_wp2_with fail
   exact ⟨⟨j + 1, HJ.out, by congr 1, BE.out⟩, by simpa [intOf] using HMJ.out⟩
  ·obtain rfl : j = m := by omega
   have x1 : ¬ ((j : Int) < (j : Int)) := Int.lt_irrefl _
   clear hj hjm
   go_wp2_with fail
   clear c257
   go_loopw [6] (fun iv wl => ∃ i : Nat, i ≤ n ∧ iv = .int .i64 (i : Int) ∧ Below w2.heap.size w2 wl) (fun iv _ => n - (intOf iv).toNat)
   case atStart => exact ⟨0, Nat.zero_le _, by simp, BQ.out⟩
   obtain ⟨i, hi, rfl, hb⟩ := hrel
   have BI := qH hb
   obtain ⟨wi, hwi⟩ : ∃ v : World, v = wr := ⟨_, rfl⟩
   subst hwi
   have c256 : wi.cell? ⟨w.heap.size, 256, none⟩ = some (.slice An n cn) := (hb.cell (p := ⟨w.heap.size, 256, none⟩) HT1.out).trans C256.out
   have C256i := qH c256
   have D256i := qH ((hb.cell (p := ⟨w1.heap.size, 256, none⟩) HT2.out).trans D256.out)
   have HT1i := qH (Nat.lt_of_lt_of_le HT1.out hb.size)
   have HT2i := qH (Nat.lt_of_lt_of_le HT2.out hb.size)
   clear hb
   by_cases hin : i < n
   ·have y1 : (i : Int) < (n : Int) := Int.ofNat_lt.2 hin
    have HI := qH hin
    have HMI := qH (sub_next hin)
    have f3 := wrap_one i (lt_bigN hin HNF.out)
    have f4 := wrap_one' i (lt_bigN hin HNF.out)
    obtain ⟨r, hr⟩ : ∃ r, D.next[i]? = some r := ⟨_, List.getElem?_eq_getElem (by rw [← HN.out]; exact hin)⟩
    have hri := HR.out i r hr
    have hri' := HR'.out i r hr
    have HRI := qH hri
    have HRI' := qH hri'
    obtain ⟨k, hk⟩ : ∃ k, k = r.length := ⟨_, rfl⟩
    have HKR := qH hk
    have HKF := qH (show k ≤ 2000 by rw [hk]; exact HRF.out r (List.mem_of_getElem? hr))
    obtain ⟨Ar, cr, hvr, _⟩ := hri
    obtain ⟨Ar', cr', hvr', _⟩ := hri'
    rw [nums_length, ← hk] at hvr hvr'
    rw [hvr] at HRI
    rw [hvr'] at HRI'
    have hpos : 0 < n := Nat.lt_of_le_of_lt (Nat.zero_le _) hin
    obtain ⟨b1, o1, rfl, hl1, hc1⟩ := (HRN.out.below (B2.out.trans (BI.out.mono B2.out.size))).at_ (by rw [List.length_map, List.length_range]; exact hpos)
    obtain ⟨b2, o2, rfl, hl2, hc2⟩ := (HRN'.out.below (B2.out.trans (BI.out.mono B2.out.size))).at_ (by rw [List.length_map, List.length_range]; exact hpos)
    have HC1 := qH (show wi.cell? ⟨b1, o1 + i, none⟩ = some (.slice Ar k cr) from hc1 i _ (by simp [hin, hvr]))
    have HC2 := qH (show wi.cell? ⟨b2, o2 + i, none⟩ = some (.slice Ar' k cr') from hc2 i _ (by simp [hin, hvr']))
    have HL1 := qH hl1
    have HL2 := qH hl2
    clear hi hin hr hk hvr hvr' hpos hl1 hl2 hc1 hc2
    go_wp2_with fail
    clear c256
    refine sx_startB (B := wi.heap.size) (w0 := wi) (by kernel_rfl) (Below.refl _ _) (fun wd hwd hX => ?_)
    clear hwd
    refine sx_take (i := 0) (oi := ⟨some 56, _, _, _, _, _⟩) (v := ?_) rfl (by kernel_rfl) (by kernel_rfl) (by kernel_rfl) (fun _ _ _ h => h) rfl hX ?_ ?_; rotate_left; (intro W hW; go_simp; try with_reducible rfl); simp only [Act.put, qA, qB, qC]
    refine sx_take (i := 1) (oi := ⟨some 57, _, _, _, _, _⟩) (v := .slice (some ⟨b1, o1, none⟩) n cn) rfl (by kernel_rfl) (by kernel_rfl) (by kernel_rfl) (fun _ _ _ h => h) rfl hX (fun V hV => ld_inss (.tmp 56) rfl rfl ((hV.cell (p := ⟨w.heap.size, 256, none⟩) HT1i.out).trans C256i.out)) ?_; simp only [Act.put, qA, qB, qC]
    refine sx_take (i := 2) (oi := ⟨some 58, _, _, _, _, _⟩) (v := ?_) rfl (by kernel_rfl) (by kernel_rfl) (by kernel_rfl) (fun _ _ _ h => h) rfl hX ?_ ?_; rotate_left; (intro W hW; go_simp; try with_reducible rfl); simp only [Act.put, qA, qB, qC]
    refine sx_take (i := 3) (oi := ⟨some 59, _, _, _, _, _⟩) (v := ?_) rfl (by kernel_rfl) (by kernel_rfl) (by kernel_rfl) (fun _ _ _ h => h) rfl hX ?_ ?_; rotate_left; (intro W hW; go_simp; try with_reducible rfl); simp only [Act.put, qA, qB, qC]
    refine sx_take (i := 4) (oi := ⟨some 60, _, _, _, _, _⟩) (v := .slice Ar k cr) rfl (by kernel_rfl) (by kernel_rfl) (by kernel_rfl) (fun _ _ _ h => h) rfl hX (fun V hV => ld_ints (.tmp 59) rfl rfl ((hV.cell (p := ⟨b1, o1 + i, none⟩) HL1.out).trans HC1.out)) ?_; simp only [Act.put, qA, qB, qC]
    refine sx_take (i := 5) (oi := ⟨some 61, _, _, _, _, _⟩) (v := ?_) rfl (by kernel_rfl) (by kernel_rfl) (by kernel_rfl) (fun _ _ _ h => h) rfl hX ?_ ?_; rotate_left; (intro W hW; go_simp; try with_reducible rfl); simp only [Act.put, qA, qB, qC]
    refine sx_take (i := 6) (oi := ⟨some 62, _, _, _, _, _⟩) (v := ?_) rfl (by kernel_rfl) (by kernel_rfl) (by kernel_rfl) (fun _ _ _ h => h) rfl hX ?_ ?_; rotate_left; (intro W hW; go_simp; try with_reducible rfl); simp only [Act.put, qA, qB, qC]
    refine sx_take (i := 7) (oi := ⟨some 63, _, _, _, _, _⟩) (v := .slice (some ⟨b2, o2, none⟩) n cn') rfl (by kernel_rfl) (by kernel_rfl) (by kernel_rfl) (fun _ _ _ h => h) rfl hX (fun V hV => ld_inss (.tmp 62) rfl rfl ((hV.cell (p := ⟨w1.heap.size, 256, none⟩) HT2i.out).trans D256i.out)) ?_; simp only [Act.put, qA, qB, qC]
    refine sx_take (i := 8) (oi := ⟨some 64, _, _, _, _, _⟩) (v := ?_) rfl (by kernel_rfl) (by kernel_rfl) (by kernel_rfl) (fun _ _ _ h => h) rfl hX ?_ ?_; rotate_left; (intro W hW; go_simp; try with_reducible rfl); simp only [Act.put, qA, qB, qC]
    refine sx_take (i := 9) (oi := ⟨some 65, _, _, _, _, _⟩) (v := ?_) rfl (by kernel_rfl) (by kernel_rfl) (by kernel_rfl) (fun _ _ _ h => h) rfl hX ?_ ?_; rotate_left; (intro W hW; go_simp; try with_reducible rfl); simp only [Act.put, qA, qB, qC]
    refine sx_take (i := 10) (oi := ⟨some 66, _, _, _, _, _⟩) (v := .slice Ar' k cr') rfl (by kernel_rfl) (by kernel_rfl) (by kernel_rfl) (fun _ _ _ h => h) rfl hX (fun V hV => ld_ints (.tmp 65) rfl rfl ((hV.cell (p := ⟨b2, o2 + i, none⟩) HL2.out).trans HC2.out)) ?_; simp only [Act.put, qA, qB, qC]
    refine sx_take (i := 11) (oi := ⟨some 67, _, _, _, _, _⟩) (v := ?_) rfl (by kernel_rfl) (by kernel_rfl) (by kernel_rfl) (fun _ _ _ h => h) rfl hX ?_ ?_; rotate_left; (intro W hW; go_simp; try with_reducible rfl); simp only [Act.put, qA, qB, qC]
    refine sx_take (i := 12) (oi := ⟨some 68, _, _, _, _, _⟩) (v := .bool false) rfl (by kernel_rfl) (by kernel_rfl) (by kernel_rfl) (fun _ _ _ h => h) rfl hX (fun V _ => ex_neI (.tmp 61) (.tmp 67) rfl rfl rfl V) ?_; simp only [Act.put, qA, qB, qC]
    refine wpAnyH_done (by kernel_rfl) ?_ _
    have BE := qH (hX)
    clear hX
    go_wp2_with fail
    go_loopw [7] (fun jv wl => ∃ j : Nat, j ≤ k ∧ jv = .int .i64 (j : Int) ∧ Below wi.heap.size wi wl) (fun jv _ => k - (intOf jv).toNat)
    case atStart => exact ⟨0, Nat.zero_le _, by simp, BE.out⟩
    obtain ⟨q, hq, rfl, hb⟩ := hrel
    have BJ := qH hb
    obtain ⟨wj, hwj⟩ : ∃ v : World, v = wr := ⟨_, rfl⟩
    subst hwj
    have c256 : wj.cell? ⟨w.heap.size, 256, none⟩ = some (.slice (some ⟨b1, o1, none⟩) n cn) := (hb.cell (p := ⟨w.heap.size, 256, none⟩) HT1i.out).trans C256i.out
    have cri : wj.cell? ⟨b1, o1 + i, none⟩ = some (.slice Ar k cr) := (hb.cell (p := ⟨b1, o1 + i, none⟩) HL1.out).trans HC1.out
    have C256j := qH c256
    have CRI := qH cri
    have D256j := qH ((hb.cell (p := ⟨w1.heap.size, 256, none⟩) HT2i.out).trans D256i.out)
    have DRI := qH ((hb.cell (p := ⟨b2, o2 + i, none⟩) HL2.out).trans HC2.out)
    have HT1j := qH (Nat.lt_of_lt_of_le HT1i.out hb.size)
    have HT2j := qH (Nat.lt_of_lt_of_le HT2i.out hb.size)
    have HL1j := qH (Nat.lt_of_lt_of_le HL1.out hb.size)
    have HL2j := qH (Nat.lt_of_lt_of_le HL2.out hb.size)
    clear hb
    by_cases hqk : q < k
    ·have z1 : (q : Int) < (k : Int) := Int.ofNat_lt.2 hqk
     have HQ := qH hqk
     have HMQ := qH (sub_next hqk)
     have g3 := wrap_one q (lt_bigN hqk HKF.out)
     have g4 := wrap_one' q (lt_bigN hqk HKF.out)
     obtain ⟨x, hx⟩ : ∃ x, r[q]? = some x := ⟨_, List.getElem?_eq_getElem (by rw [← HKR.out]; exact hqk)⟩
     have BW := qH (B2.out.trans ((BI.out.trans (BJ.out.mono BI.out.size)).mono B2.out.size))
     have hpos : 0 < (nums .i64 r).length := by rw [nums_length, ← HKR.out]; exact Nat.lt_of_le_of_lt (Nat.zero_le _) hqk
     obtain ⟨b3, o3, rfl, hl3, hc3⟩ := (HRI.out.below BW.out).at_ hpos
     obtain ⟨b4, o4, rfl, hl4, hc4⟩ := (HRI'.out.below BW.out).at_ hpos
     have HC3 := qH (hc3 q (.int .i64 x) (by simp [nums, hx]))
     have HC4 := qH (hc4 q (.int .i64 x) (by simp [nums, hx]))
     have HL3 := qH hl3
     have HL4 := qH hl4
     clear hq hqk hx hpos hl3 hl4 hc3 hc4
     go_wp2_with fail
     clear c256 cri
     refine sx_startB (B := wj.heap.size) (w0 := wj) (by kernel_rfl) (Below.refl _ _) (fun wd2 hwd hX => ?_)
     clear hwd
     refine sx_take (i := 0) (oi := ⟨some 79, _, _, _, _, _⟩) (v := ?_) rfl (by kernel_rfl) (by kernel_rfl) (by kernel_rfl) (fun _ _ _ h => h) rfl hX ?_ ?_; rotate_left; (intro W hW; go_simp; try with_reducible rfl); simp only [Act.put, qA, qB, qC]
     refine sx_take (i := 1) (oi := ⟨some 80, _, _, _, _, _⟩) (v := .slice (some ⟨b1, o1, none⟩) n cn) rfl (by kernel_rfl) (by kernel_rfl) (by kernel_rfl) (fun _ _ _ h => h) rfl hX (fun V hV => ld_inss (.tmp 79) rfl rfl ((hV.cell (p := ⟨w.heap.size, 256, none⟩) HT1j.out).trans C256j.out)) ?_; simp only [Act.put, qA, qB, qC]
     refine sx_take (i := 2) (oi := ⟨some 81, _, _, _, _, _⟩) (v := ?_) rfl (by kernel_rfl) (by kernel_rfl) (by kernel_rfl) (fun _ _ _ h => h) rfl hX ?_ ?_; rotate_left; (intro W hW; go_simp; try with_reducible rfl); simp only [Act.put, qA, qB, qC]
     refine sx_take (i := 3) (oi := ⟨some 82, _, _, _, _, _⟩) (v := ?_) rfl (by kernel_rfl) (by kernel_rfl) (by kernel_rfl) (fun _ _ _ h => h) rfl hX ?_ ?_; rotate_left; (intro W hW; go_simp; try with_reducible rfl); simp only [Act.put, qA, qB, qC]
     refine sx_take (i := 4) (oi := ⟨some 83, _, _, _, _, _⟩) (v := .slice (some ⟨b3, o3, none⟩) k cr) rfl (by kernel_rfl) (by kernel_rfl) (by kernel_rfl) (fun _ _ _ h => h) rfl hX (fun V hV => ld_ints (.tmp 82) rfl rfl ((hV.cell (p := ⟨b1, o1 + i, none⟩) HL1j.out).trans CRI.out)) ?_; simp only [Act.put, qA, qB, qC]
     refine sx_take (i := 5) (oi := ⟨some 84, _, _, _, _, _⟩) (v := ?_) rfl (by kernel_rfl) (by kernel_rfl) (by kernel_rfl) (fun _ _ _ h => h) rfl hX ?_ ?_; rotate_left; (intro W hW; go_simp; try with_reducible rfl); simp only [Act.put, qA, qB, qC]
     refine sx_take (i := 6) (oi := ⟨some 85, _, _, _, _, _⟩) (v := ?_) rfl (by kernel_rfl) (by kernel_rfl) (by kernel_rfl) (fun _ _ _ h => h) rfl hX ?_ ?_; rotate_left; (intro W hW; go_simp; try with_reducible rfl); simp only [Act.put, qA, qB, qC]
     refine sx_take (i := 7) (oi := ⟨some 86, _, _, _, _, _⟩) (v := .int .i64 x) rfl (by kernel_rfl) (by kernel_rfl) (by kernel_rfl) (fun _ _ _ h => h) rfl hX (fun V hV => ld_int9 (.tmp 85) rfl rfl ((hV.cell (p := ⟨b3, o3 + q, none⟩) HL3.out).trans HC3.out)) ?_; simp only [Act.put, qA, qB, qC]
     refine sx_take (i := 8) (oi := ⟨some 87, _, _, _, _, _⟩) (v := ?_) rfl (by kernel_rfl) (by kernel_rfl) (by kernel_rfl) (fun _ _ _ h => h) rfl hX ?_ ?_; rotate_left; (intro W hW; go_simp; try with_reducible rfl); simp only [Act.put, qA, qB, qC]
     refine sx_take (i := 9) (oi := ⟨some 88, _, _, _, _, _⟩) (v := .slice (some ⟨b2, o2, none⟩) n cn') rfl (by kernel_rfl) (by kernel_rfl) (by kernel_rfl) (fun _ _ _ h => h) rfl hX (fun V hV => ld_inss (.tmp 87) rfl rfl ((hV.cell (p := ⟨w1.heap.size, 256, none⟩) HT2j.out).trans D256j.out)) ?_; simp only [Act.put, qA, qB, qC]
     refine sx_take (i := 10) (oi := ⟨some 89, _, _, _, _, _⟩) (v := ?_) rfl (by kernel_rfl) (by kernel_rfl) (by kernel_rfl) (fun _ _ _ h => h) rfl hX ?_ ?_; rotate_left; (intro W hW; go_simp; try with_reducible rfl); simp only [Act.put, qA, qB, qC]
     refine sx_take (i := 11) (oi := ⟨some 90, _, _, _, _, _⟩) (v := ?_) rfl (by kernel_rfl) (by kernel_rfl) (by kernel_rfl) (fun _ _ _ h => h) rfl hX ?_ ?_; rotate_left; (intro W hW; go_simp; try with_reducible rfl); simp only [Act.put, qA, qB, qC]
     refine sx_take (i := 12) (oi := ⟨some 91, _, _, _, _, _⟩) (v := .slice (some ⟨b4, o4, none⟩) k cr') rfl (by kernel_rfl) (by kernel_rfl) (by kernel_rfl) (fun _ _ _ h => h) rfl hX (fun V hV => ld_ints (.tmp 90) rfl rfl ((hV.cell (p := ⟨b2, o2 + i, none⟩) HL2j.out).trans DRI.out)) ?_; simp only [Act.put, qA, qB, qC]
     refine sx_take (i := 13) (oi := ⟨some 92, _, _, _, _, _⟩) (v := ?_) rfl (by kernel_rfl) (by kernel_rfl) (by kernel_rfl) (fun _ _ _ h => h) rfl hX ?_ ?_; rotate_left; (intro W hW; go_simp; try with_reducible rfl); simp only [Act.put, qA, qB, qC]
     refine sx_take (i := 14) (oi := ⟨some 93, _, _, _, _, _⟩) (v := ?_) rfl (by kernel_rfl) (by kernel_rfl) (by kernel_rfl) (fun _ _ _ h => h) rfl hX ?_ ?_; rotate_left; (intro W hW; go_simp; try with_reducible rfl); simp only [Act.put, qA, qB, qC]
     refine sx_take (i := 15) (oi := ⟨some 94, _, _, _, _, _⟩) (v := .int .i64 x) rfl (by kernel_rfl) (by kernel_rfl) (by kernel_rfl) (fun _ _ _ h => h) rfl hX (fun V hV => ld_int9 (.tmp 93) rfl rfl ((hV.cell (p := ⟨b4, o4 + q, none⟩) HL4.out).trans HC4.out)) ?_; simp only [Act.put, qA, qB, qC]
     refine sx_take (i := 16) (oi := ⟨some 95, _, _, _, _, _⟩) (v := .bool false) rfl (by kernel_rfl) (by kernel_rfl) (by kernel_rfl) (fun _ _ _ h => h) rfl hX (fun V _ => ex_neI (.tmp 86) (.tmp 94) rfl rfl rfl V) ?_; simp only [Act.put, qA, qB, qC]
     refine wpAnyH_done (by kernel_rfl) ?_ _
     have BE2 := qH (BJ.out.trans (hX.mono BJ.out.size))
     clear hX
     go_wp2_with fail
     exact ⟨⟨q + 1, HQ.out, by congr 1, BE2.out⟩, by simpa [intOf] using HMQ.out⟩
    ·obtain rfl : q = k := by omega
     have z1 : ¬ ((q : Int) < (q : Int)) := Int.lt_irrefl _
     have BO := qH (BI.out.trans (BJ.out.mono BI.out.size))
     clear hq hqk
     go_wp2_with fail
     exact ⟨⟨i + 1, HI.out, by congr 1, BO.out⟩, by simpa [intOf] using HMI.out⟩
   ·obtain rfl : i = n := by omega
    have y1 : ¬ ((i : Int) < (i : Int)) := Int.lt_irrefl _
    have BO := qH (B2.out.trans (BI.out.mono B2.out.size))
    clear hi hin
    go_wp2_with fail
    go_ret
    exact ⟨rfl, BO.out⟩
def st0 : St := ⟨fun _ => false, -1, []⟩
def stF (l : List Int) : St := ⟨fun _ => false, -1, l⟩
def linkS (S : List St) (f t : Nat) : List St := S.modify f fun s => { s with free := s.free ++ [(t : Int)] }
def setS (S : List St) (i : Nat) (p : Nat → Bool) (z : Nat) : List St := S.modify i fun s => { s with set := p, to := (z : Int) }
mutual
def bldT : T → List St → List St
 | .node k s l, S =>
  if k = 3 then setS (S ++ [st0] ++ [st0]) S.length s (S.length + 1)
  else if k = 4 then linkS (bldC l (S ++ [st0] ++ [st0]) S.length).1 (bldC l (S ++ [st0] ++ [st0]) S.length).2 (S.length + 1)
  else if k = 5 then bldA l (S ++ [st0] ++ [st0]) S.length (S.length + 1) true
  else if k = 6 then linkS (bldO l (S ++ [st0] ++ [st0]) S.length) S.length (S.length + 1)
  else if k = 2 then linkS (S ++ [st0] ++ [st0]) S.length (S.length + 1)
  else S ++ [st0] ++ [st0]
def bldC : List T → List St → Nat → List St × Nat
 | [], S, at' => (S, at')
 | x :: r, S, at' => bldC r (linkS (bldT x S) at' S.length) (S.length + 1)
def bldA : List T → List St → Nat → Nat → Bool → List St
 | [], S, _, _, _ => S
 | x :: r, S, f, z, first =>
  if first then bldA r (linkS (linkS (bldT x S) f S.length) (S.length + 1) z) f z false
  else bldA r (linkS (linkS (bldT x (linkS (S ++ [st0]) f S.length)) S.length (S.length + 1)) (S.length + 2) z) S.length z false
def bldO : List T → List St → Nat → List St
 | [], S, _ => S
 | x :: r, S, a => linkS (linkS (bldT x S) a S.length) (S.length + 1) a
end
/-! ### the same as one piece behind what was there -/
mutual
def szT : T → Nat
 | .node k _ l => 2 + if k = 4 then szC l else if k = 5 then szA l else if k = 6 then szO l else 0
def szC : List T → Nat
 | [] => 0
 | x :: r => szT x + szC r
def szA : List T → Nat
 | [] => 0
 | x :: r => szT x + if r.length = 0 then 0 else 1 + szA r
def szO : List T → Nat
 | [] => 0
 | x :: _ => szT x
end
def altL : List T → Nat → List Int
 | [], _ => []
 | x :: r, p => (p : Int) :: if r.length = 0 then [] else [((p + szT x : Nat) : Int)]
theorem altL_cons (x : T) (r : List T) (p : Nat) : altL (x :: r) p = (p : Int) :: if r.length = 0 then [] else [((p + szT x : Nat) : Int)] := rfl
mutual
def fragT : T → Nat → List Int → List St
 | .node k s l, n, c =>
  if k = 3 then [⟨s, ((n + 1 : Nat) : Int), []⟩, stF c]
  else if k = 4 then stF [if l.length = 0 then ((n + 1 : Nat) : Int) else ((n + 2 : Nat) : Int)] :: stF c :: fragC l (n + 2) (n + 1)
  else if k = 5 then stF (altL l (n + 2)) :: stF c :: fragA l (n + 2) (n + 1)
  else if k = 6 then stF ((if l.length = 0 then [] else [((n + 2 : Nat) : Int)]) ++ [((n + 1 : Nat) : Int)]) :: stF c :: fragO l (n + 2) n
  else if k = 2 then [stF [((n + 1 : Nat) : Int)], stF c]
  else [stF [], stF c]
def fragC : List T → Nat → Nat → List St
 | [], _, _ => []
 | x :: r, p, z => fragT x p [if r.length = 0 then (z : Int) else ((p + szT x : Nat) : Int)] ++ fragC r (p + szT x) z
def fragA : List T → Nat → Nat → List St
 | [], _, _ => []
 | x :: r, p, z => fragT x p [(z : Int)] ++ if r.length = 0 then [] else stF (altL r (p + szT x + 1)) :: fragA r (p + szT x + 1) z
def fragO : List T → Nat → Nat → List St
 | [], _, _ => []
 | x :: _, p, z => fragT x p [(z : Int)]
end
mutual
theorem fragT_len : ∀ (t : T) (n : Nat) (c : List Int), (fragT t n c).length = szT t
 | .node k s l, n, c => by
  have h1 := fragC_len l (n + 2) (n + 1)
  have h2 := fragA_len l (n + 2) (n + 1)
  have h3 := fragO_len l (n + 2) n
  simp only [fragT, szT]
  split
  ·next h => rw [if_neg (by omega), if_neg (by omega), if_neg (by omega)]; rfl
  ·split
   ·simp [h1]; omega
   ·split
    ·simp [h2]; omega
    ·split
     ·simp [h3]; omega
     ·split <;> rfl
theorem fragC_len : ∀ (l : List T) (p z : Nat), (fragC l p z).length = szC l
 | [], _, _ => rfl
 | x :: r, p, z => by
  simp only [fragC, szC, List.length_append]
  rw [fragT_len x, fragC_len r]
theorem fragA_len : ∀ (l : List T) (p z : Nat), (fragA l p z).length = szA l
 | [], _, _ => rfl
 | x :: r, p, z => by
  simp only [fragA, szA, List.length_append]
  rw [fragT_len x]
  split
  ·rfl
  ·rw [List.length_cons, fragA_len r]; omega
theorem fragO_len : ∀ (l : List T) (p z : Nat), (fragO l p z).length = szO l
 | [], _, _ => rfl
 | x :: r, p, z => by
  simp only [fragO, szO]
  exact fragT_len x _ _
end
theorem szT_two (t : T) : 2 ≤ szT t := by
 cases t with
 | node k s l => simp only [szT]; omega
theorem fragT_ends (t : T) (n : Nat) : ∃ (s : St) (r : List St), ∀ c, fragT t n c = s :: stF c :: r := by
 cases t with
 | node k s l =>
  simp only [fragT]
  by_cases h3 : k = 3
  ·exact ⟨_, [], fun c => by rw [if_pos h3]⟩
  ·by_cases h4 : k = 4
   ·exact ⟨_, _, fun c => by rw [if_neg h3, if_pos h4]⟩
   ·by_cases h5 : k = 5
    ·exact ⟨_, _, fun c => by rw [if_neg h3, if_neg h4, if_pos h5]⟩
    ·by_cases h6 : k = 6
     ·exact ⟨_, _, fun c => by rw [if_neg h3, if_neg h4, if_neg h5, if_pos h6]⟩
     ·by_cases h2 : k = 2
      ·exact ⟨_, [], fun c => by rw [if_neg h3, if_neg h4, if_neg h5, if_neg h6, if_pos h2]⟩
      ·exact ⟨_, [], fun c => by rw [if_neg h3, if_neg h4, if_neg h5, if_neg h6, if_neg h2]⟩
def linkI (S : List St) (f : Nat) (l : List Int) : List St := S.modify f fun s => { s with free := s.free ++ l }
theorem linkS_is (S : List St) (f t : Nat) : linkS S f t = linkI S f [(t : Int)] := rfl
theorem linkI_len (S : List St) (f : Nat) (l : List Int) : (linkI S f l).length = S.length := by simp [linkI]
theorem linkI_left {S X : List St} {f : Nat} {l : List Int} (h : f < S.length) : linkI (S ++ X) f l = linkI S f l ++ X := by
 unfold linkI
 apply List.ext_getElem?
 intro i
 rw [List.getElem?_modify, List.getElem?_append, List.getElem?_append, List.length_modify, List.getElem?_modify]
 by_cases hi : i < S.length
 ·rw [if_pos hi, if_pos hi]
 ·rw [if_neg hi, if_neg hi]
  have : f ≠ i := by omega
  simp [this]
theorem linkI_right {S X : List St} {f : Nat} {l : List Int} (h : S.length ≤ f) : linkI (S ++ X) f l = S ++ linkI X (f - S.length) l := by
 unfold linkI
 apply List.ext_getElem?
 intro i
 rw [List.getElem?_modify, List.getElem?_append, List.getElem?_append, List.getElem?_modify]
 by_cases hi : i < S.length
 ·rw [if_pos hi, if_pos hi]
  have : f ≠ i := by omega
  simp [this]
 ·rw [if_neg hi, if_neg hi]
  by_cases hfi : f = i
  ·subst hfi; simp
  ·have : ¬ (f - S.length = i - S.length) := by omega
   simp [hfi, this]
theorem linkI_two (S : List St) (f : Nat) (l m : List Int) : linkI (linkI S f l) f m = linkI S f (l ++ m) := by
 unfold linkI
 apply List.ext_getElem?
 intro i
 simp only [List.getElem?_modify]
 cases S[i]? with
 | none => rfl
 | some s =>
  by_cases h : f = i
  ·simp [h]
  ·simp [h]
theorem linkI_nil (S : List St) (f : Nat) : linkI S f [] = S := by
 unfold linkI
 apply List.ext_getElem?
 intro i
 rw [List.getElem?_modify]
 cases S[i]? with
 | none => rfl
 | some s => simp
theorem linkI_cons (s : St) (r : List St) (l : List Int) : linkI (s :: r) 0 l = { s with free := s.free ++ l } :: r := by simp [linkI]
theorem frag_link (P : List St) (x : T) (c d : List Int) (X : List St) : linkI (P ++ fragT x P.length c ++ X) (P.length + 1) d = P ++ fragT x P.length (c ++ d) ++ X := by
 obtain ⟨s, r, he⟩ := fragT_ends x P.length
 rw [linkI_left (by rw [List.length_append, fragT_len]; have := szT_two x; omega), linkI_right (by omega), he, he, show P.length + 1 - P.length = 1 from by omega]
 simp [linkI, stF]
theorem frag_link' {P : List St} {n f : Nat} (hn : P.length = n) (hf : f = n + 1) (x : T) (c d : List Int) : linkI (P ++ fragT x n c) f d = P ++ fragT x n (c ++ d) := by
 subst hn
 subst hf
 have := frag_link P x c d []
 simpa using this
theorem setS_end (S : List St) (p : Nat → Bool) (z : Nat) : setS (S ++ [st0] ++ [st0]) S.length p z = S ++ [⟨p, (z : Int), []⟩, stF []] := by
 rw [show S ++ [st0] ++ [st0] = S ++ [st0, st0] from by simp]
 apply List.ext_getElem?
 intro i
 unfold setS
 rw [List.getElem?_modify, List.getElem?_append, List.getElem?_append]
 by_cases hi : i < S.length
 ·rw [if_pos hi, if_pos hi]
  have : S.length ≠ i := by omega
  simp [this]
 ·rw [if_neg hi, if_neg hi]
  obtain ⟨j, rfl⟩ : ∃ j, i = S.length + j := ⟨i - S.length, by omega⟩
  rw [Nat.add_sub_cancel_left]
  match j with
  | 0 => simp [st0]
  | 1 => simp [st0, stF]
  | k + 2 => simp
theorem two_end (S : List St) : S ++ [st0] ++ [st0] = S ++ [stF [], stF []] := by simp [st0, stF]
theorem link_in (S X : List St) (c l m : List Int) : linkI (S ++ (stF c :: X)) S.length l = S ++ (stF (c ++ l) :: X) := by
 rw [linkI_right (Nat.le_refl _), Nat.sub_self, linkI_cons]
 rfl
mutual
theorem bldT_frag : ∀ (t : T) (S : List St), bldT t S = S ++ fragT t S.length []
 | .node k s l, S => by
  have hl : (S ++ [stF [], stF []]).length = S.length + 2 := by simp
  simp only [bldT, fragT]
  by_cases h3 : k = 3
  ·rw [if_pos h3, if_pos h3, setS_end]
  rw [if_neg h3, if_neg h3]
  by_cases h4 : k = 4
  ·rw [if_pos h4, if_pos h4, two_end, bldC_frag l (S ++ [stF [], stF []]) S.length (S.length + 1) (by rw [hl]; omega)]
   split
   ·next h0 =>
    have : l = [] := List.eq_nil_of_length_eq_zero h0
    subst this
    rw [linkS_is, link_in S _ [] _ []]
    simp [fragC]
   ·rw [hl, linkS_is, link_in S _ [] _ []]
    simp
  rw [if_neg h4, if_neg h4]
  by_cases h5 : k = 5
  ·rw [if_pos h5, if_pos h5, two_end]
   rw [bldA_first l (S ++ [stF [], stF []]) S.length (S.length + 1) (by rw [hl]; omega), hl, link_in S _ [] _ []]
   simp
  rw [if_neg h5, if_neg h5]
  by_cases h6 : k = 6
  ·rw [if_pos h6, if_pos h6, two_end]
   cases l with
   | nil => simp only [bldO, fragO]; rw [linkS_is, link_in S _ [] _ []]; simp
   | cons x r =>
    simp only [bldO, fragO]
    rw [bldT_frag x, hl, linkS_is, linkS_is, linkS_is, List.append_assoc, List.cons_append, List.cons_append, List.nil_append, link_in S _ [] _ []]
    rw [show S ++ (stF ([] ++ [((S.length + 2 : Nat) : Int)]) :: stF [] :: fragT x (S.length + 2) []) = (S ++ [stF ([] ++ [((S.length + 2 : Nat) : Int)]), stF []]) ++ fragT x (S.length + 2) [] from by simp]
    rw [frag_link' (by simp) (by omega), List.append_assoc, List.cons_append, List.cons_append, List.nil_append, link_in S _ _ _ []]
    simp
  rw [if_neg h6, if_neg h6]
  by_cases h2 : k = 2
  ·rw [if_pos h2, if_pos h2, two_end, linkS_is, link_in S _ [] _ []]
   simp
  rw [if_neg h2, if_neg h2, two_end]
theorem bldC_frag : ∀ (l : List T) (S : List St) (f z : Nat), f < S.length → linkS (bldC l S f).1 (bldC l S f).2 z = if l.length = 0 then linkS S f z else linkS S f S.length ++ fragC l S.length z
 | [], S, f, z, _ => by simp [bldC]
 | x :: r, S, f, z, hf => by
  have hlen : (linkI S f [(S.length : Int)]).length = S.length := linkI_len _ _ _
  simp only [bldC]
  rw [bldT_frag x, linkS_is (S ++ fragT x S.length []) f S.length, linkI_left hf, bldC_frag r _ (S.length + 1) z (by rw [List.length_append, hlen, fragT_len]; have := szT_two x; omega)]
  rw [if_neg (show ¬ (x :: r).length = 0 by simp)]
  simp only [fragC]
  by_cases h0 : r.length = 0
  ·have : r = [] := List.eq_nil_of_length_eq_zero h0
   subst this
   simp only [List.length_nil, if_true]
   rw [linkS_is, linkS_is, frag_link' hlen rfl]
   simp [fragC]
  ·simp only [if_neg h0]
   rw [linkS_is, linkS_is, frag_link' hlen rfl, List.length_append, hlen, fragT_len, List.append_assoc]
   simp
theorem bldA_first : ∀ (l : List T) (S : List St) (f z : Nat), f < S.length → bldA l S f z true = linkI S f (altL l S.length) ++ fragA l S.length z
 | [], S, f, z, _ => by simp [bldA, altL, fragA, linkI_nil]
 | x :: r, S, f, z, hf => by
  have hlen : (linkI S f [(S.length : Int)]).length = S.length := linkI_len _ _ _
  simp only [bldA, if_true, fragA]
  rw [altL_cons]
  rw [bldT_frag x, linkS_is, linkS_is, linkI_left hf, frag_link' hlen rfl]
  by_cases h0 : r.length = 0
  ·have : r = [] := List.eq_nil_of_length_eq_zero h0
   subst this
   simp [bldA]
  ·rw [if_neg h0, if_neg h0, bldA_more r _ f z h0 (by rw [List.length_append, hlen]; omega), List.length_append, hlen, fragT_len, linkI_left (by rw [hlen]; exact hf), linkI_two, List.append_assoc]
   simp
theorem bldA_more : ∀ (r : List T) (S : List St) (f z : Nat), ¬ r.length = 0 → f < S.length → bldA r S f z false = linkI S f [(S.length : Int)] ++ (stF (altL r (S.length + 1)) :: fragA r (S.length + 1) z)
 | [], S, f, z, h, _ => absurd rfl h
 | x :: r, S, f, z, _, hf => by
  have hlen : (linkI S f [(S.length : Int)]).length = S.length := linkI_len _ _ _
  obtain ⟨P, hP⟩ : ∃ P, P = linkI S f [(S.length : Int)] := ⟨_, rfl⟩
  simp only [bldA, Bool.false_eq_true, if_false, fragA]
  rw [altL_cons]
  rw [linkS_is, linkS_is, linkS_is, linkI_left (X := [st0]) hf, ← hP, bldT_frag x]
  rw [← hP] at hlen
  have h1 : (P ++ [st0]).length = S.length + 1 := by simp [hlen]
  rw [h1]
  have e1 : linkI (P ++ [st0] ++ fragT x (S.length + 1) []) S.length [((S.length + 1 : Nat) : Int)] = (P ++ [stF [((S.length + 1 : Nat) : Int)]]) ++ fragT x (S.length + 1) [] := by
   rw [List.append_assoc, ← hlen]
   have := link_in P (fragT x (P.length + 1) []) [] [((P.length + 1 : Nat) : Int)] []
   simpa [st0, stF] using this
  have h2 : (P ++ [stF [((S.length + 1 : Nat) : Int)]]).length = S.length + 1 := by simp [hlen]
  rw [e1, frag_link' h2 (by omega)]
  by_cases h0 : r.length = 0
  ·have : r = [] := List.eq_nil_of_length_eq_zero h0
   subst this
   simp [bldA]
  ·have h3 : (P ++ [stF [((S.length + 1 : Nat) : Int)]] ++ fragT x (S.length + 1) ([] ++ [(z : Int)])).length = S.length + 1 + szT x := by rw [List.length_append, h2, fragT_len]
   rw [if_neg h0, if_neg h0, bldA_more r _ S.length z h0 (by rw [h3]; omega), h3]
   have e2 := link_in P (fragT x (P.length + 1) [(z : Int)]) [((P.length + 1 : Nat) : Int)] [((P.length + 1 + szT x : Nat) : Int)] []
   rw [hlen] at e2
   rw [List.append_assoc P, List.cons_append, List.nil_append, List.nil_append, e2, List.append_assoc]
   simp
end
inductive WayN (S : List St) : Nat → Nat → List UInt8 → Nat → Prop
 | here {i : Nat} : WayN S 0 i [] i
 | free {m i j k : Nat} {s : St} {w : List UInt8} : S[i]? = some s → (j : Int) ∈ s.free → WayN S m j w k → WayN S (m + 1) i w k
 | byte {m i j k : Nat} {s : St} {b : UInt8} {w : List UInt8} : S[i]? = some s → s.set b.toNat = true → s.to = (j : Int) → WayN S m j w k → WayN S (m + 1) i (b :: w) k
def At (M : List St) (p : Nat) (L : List St) : Prop := ∀ i s, L[i]? = some s → M[p + i]? = some s
theorem At.left {M A B : List St} {p : Nat} (h : At M p (A ++ B)) : At M p A := fun i s hs => h i s (by rw [List.getElem?_append_left (List.getElem?_eq_some_iff.1 hs).1]; exact hs)
theorem At.right {M A B : List St} {p : Nat} (h : At M p (A ++ B)) : At M (p + A.length) B := fun i s hs => by
 rw [Nat.add_assoc]
 refine h (A.length + i) s ?_
 rw [List.getElem?_append_right (by omega), Nat.add_sub_cancel_left]
 exact hs
theorem WayN.out {M : List St} {m i k : Nat} {w : List UInt8} {l : List Int} (h : WayN M m i w k) (hi : M[i]? = some (stF l)) (hk : k ≠ i) : ∃ (j m' : Nat), (j : Int) ∈ l ∧ m = m' + 1 ∧ WayN M m' j w k := by
 cases h with
 | here => exact absurd rfl hk
 | free a b c =>
  rw [hi] at a
  injection a with a
  subst a
  exact ⟨_, _, b, rfl, c⟩
 | byte a b c d =>
  rw [hi] at a
  injection a with a
  subst a
  cases b
def OkF (hi : Nat) (L : List St) : Prop := ∀ s ∈ L, s.to < (hi : Int) ∧ s.free.length ≤ 2 ∧ ∀ f ∈ s.free, 0 ≤ f ∧ f < (hi : Int)
theorem OkF.cons {hi : Nat} {a : St} {L : List St} (h1 : a.to < (hi : Int) ∧ a.free.length ≤ 2 ∧ ∀ f ∈ a.free, 0 ≤ f ∧ f < (hi : Int)) (h2 : OkF hi L) : OkF hi (a :: L) := fun s hs => by
 rcases List.mem_cons.1 hs with rfl | hs
 ·exact h1
 ·exact h2 s hs
theorem OkF.nil (hi : Nat) : OkF hi [] := fun s hs => by cases hs
/-! ### cells of states -/
/-! ### rows of the call's own, one cell turned -/
theorem own_set {w : World} {base n k cap g : Nat} {e : TypeId} {xs : List Value} (h : w.ownsRow base e k (.slice (some ⟨g, 0, none⟩) n cap) n xs) {j : Nat} (hj : j < xs.length) (u : Value) : (w.setCell ⟨g, j, none⟩ u).ownsRow base e k (.slice (some ⟨g, 0, none⟩) n cap) n (xs.set j u) := by
 refine ⟨by rw [List.length_set]; exact h.1, ?_⟩
 rcases h.2 with ⟨he, h0⟩ | ⟨g', cap', cur, he, hb, hg, hnc, hcm, hcs, ht⟩
 ·cases he
 ·injection he with h1 h2 h3
  injection h1 with h1
  injection h1 with h1
  subst h1
  subst h3
  refine .inr ⟨g, cap, cur.setIfInBounds j u, rfl, hb, ?_, hnc, hcm, by simp [hcs], ?_⟩
  ·have : Blk w g e cur.toList := by unfold Blk; simpa using hg
   have h2 := this.set j u
   unfold Blk at h2
   rw [h2]
   congr 2
   apply Array.ext'
   simp
  ·rw [Array.toList_setIfInBounds, ← ht, List.take_set]
theorem own_cell {w : World} {base n k cap g : Nat} {e : TypeId} {xs : List Value} (h : w.ownsRow base e k (.slice (some ⟨g, 0, none⟩) n cap) n xs) {j : Nat} {u : Value} (hj : xs[j]? = some u) : w.cell? ⟨g, j, none⟩ = some u ∧ w.frozen? ⟨g, j, none⟩ = false := by
 refine ⟨by have := h.cells (g := g) rfl j u hj; rwa [Addr.add_lit, Nat.zero_add] at this, ?_⟩
 rcases h.2 with ⟨he, h0⟩ | ⟨g', cap', cur, he, hb, hg, hnc, hcm, hcs, ht⟩
 ·cases he
 ·injection he with h1 h2 h3
  injection h1 with h1
  injection h1 with h1
  subst h1
  simp [World.frozen?, hg]
/-! ### a builder -/
def up (D : Nat → Prop) (w w' : World) (k : Nat) : Prop := D k ∨ (w.heap.size ≤ k ∧ k < w'.heap.size)
section
variable {w w' w'' : World} {B g : Nat} {D D' : Nat → Prop} {S : List St} {lv : Value} {fv : Nat → Value}
end
/-! ### laws of rows of states -/
section
variable {P : Program} {w : World} {ops : Array Oper} {rest : List Oper} {o : Oper} {a : Act} {K : Act → World → Prop} {Q : Exit → Act → World → Prop}
end
theorem wp_stL {o : Oper} {a : Act} {w : World} {K : Act → World → Prop} {Q : Exit → Act → World → Prop} (x y : Operand) (ho : o.op = .store 41 x y) (g q : Nat) (hx : a.eval x = .pointer (some ⟨g, q, none⟩)) (A : Option Addr) (n c : Nat) (hy : a.eval y = .slice A n c)
  (u : Value) (hc : w.cell? ⟨g, q, none⟩ = some u) (hf : w.frozen? ⟨g, q, none⟩ = false) (h : K (a.put o.dst undef) (w.setCell ⟨g, q, none⟩ (.slice A n c))) : o.wp Try.prog a w K Q := by
 unfold Oper.wp execOp
 simp only [ho, hx, hy]
 have hrun : (Instr.storeAt 41 (.pointer (some ⟨g, q, none⟩)) (.slice A n c)).run Try.prog w = .ok () (w.setCell ⟨g, q, none⟩ (.slice A n c)) := by
  go_simp
 simp only [Sem.run_bind, hrun, Result.andThen_ok, Sem.run_pure]
 exact h
theorem ld_ints9 {ev : Operand → Value} {o : Oper} (x : Operand) (ho : o.op = .load 41 x) {p : Addr} (hx : ev x = .pointer (some p)) {A : Option Addr} {n c : Nat} {W : World} (hc : W.cell? p = some (.slice A n c)) : (execOp ev o).run Try.prog W = .ok (.value (.slice A n c)) W := by
 simp only [execOp, ho, hx]
 go_simp
end Go.Proofs.Ytbbodfpnneifgaa
