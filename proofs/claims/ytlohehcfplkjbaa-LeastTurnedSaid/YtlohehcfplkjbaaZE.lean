/-
  Texts of this proof, put together: SbU, SbV. No statement is proved here.
-/
import Derived.Test.YtlohehcfplkjbaaZD
namespace Go.Proofs.Ytlohehcfplkjbaa
open Go.RowKit
set_option linter.unusedSimpArgs false
set_option linter.unusedVariables false
structure MayD (D : Dm) : Prop where
 pos : 1 ≤ D.next.length
 few : D.next.length ≤ 2000
 ends : D.ends.length = D.next.length
 rows : ∀ r ∈ D.next, r.length = clsA D.cl
 to : ∀ r ∈ D.next, ∀ x ∈ r, 0 ≤ x ∧ x < (D.next.length : Int)
theorem DfaV.form {w : World} {cs : List Value} {D : Dm} (h : DfaV w cs D) : ∃ (An Ae : Option Addr) (cn ce : Nat) (vf : Nat → Value), D.cl.length = 256 ∧ cs = dcl D.cl (.slice An D.next.length cn) (.slice Ae D.ends.length ce) ∧
  Row w (.slice An D.next.length cn) ((List.range D.next.length).map vf) ∧ (∀ i r, D.next[i]? = some r → Row w (vf i) (nums .i64 r)) ∧ Row w (.slice Ae D.ends.length ce) (bools D.ends) := by
 obtain ⟨hl, vn, ve, vf, hcs, hn, hr, he⟩ := h
 have hn' := hn
 have he' := he
 obtain ⟨An, cn, rfl, _⟩ := hn
 obtain ⟨Ae, ce, rfl, _⟩ := he
 rw [show ((List.range D.next.length).map vf).length = D.next.length by simp] at hcs hn'
 rw [bools_length] at hcs he'
 exact ⟨An, Ae, cn, ce, vf, hl, hcs, hn', hr, he'⟩
theorem DfaV.size {w : World} {cs : List Value} {D : Dm} (h : DfaV w cs D) : (Try.prog.info? 28).map (·.size) = some cs.length := by
 obtain ⟨hl, vn, ve, vf, hcs, _⟩ := h
 rw [hcs]
 exact size_dfa hl
theorem clsA_le (cl : List UInt8) : clsA cl ≤ 256 := clsD_le cl 256
theorem lt_k256 {i k : Nat} (h : i < k) (hk : k ≤ 256) : i ≤ 4611686018427387904 := by omega
set_option maxHeartbeats 4000000 in
set_option maxRecDepth 1000000 in
theorem refMay11_any (D : Dm) (cs : List Value) (w : World) (hv : DfaV w cs D) (hm : MayD D) :
  Calls Try.prog 18 #[.agg cs.toArray] w fun e w' => e = .returned (.bool true) ∧ Below w.heap.size w w' := by
 have V0 := qH hv
 have HM := qH hm
 have HDS := qH hv.size
 obtain ⟨An, Ae, cn, ce, vf, hl, hcs, hn, hr, he⟩ := hv.form
 have HL := qH hl
 obtain ⟨n, hnn⟩ : ∃ n, n = D.next.length := ⟨_, rfl⟩
 have HN := qH hnn
 rw [hm.ends, ← hnn] at hcs
 rw [← hnn] at hn
 have HCS := qH hcs
 have HRN := qH hn
 have HR := qH hr
 have HNP := qH (show 1 ≤ n by rw [hnn]; exact hm.pos)
 have HNF := qH (show n ≤ 2000 by rw [hnn]; exact hm.few)
 obtain ⟨k, hk⟩ : ∃ k, k = clsA D.cl := ⟨_, rfl⟩
 have HK := qH hk
 have HK2 := qH (show k ≤ 256 by rw [hk]; exact clsA_le _)
 clear hv hm hl hcs hn hr he hnn hk
 go_enter Try.func18, Try.ntmps18
 go_wp2_with ((with_reducible refine atDst 1 ?_); refine wpList_box rfl 28 _ rfl cs rfl (Below.refl w.heap.size w) (Nat.le_refl _) ?_; intro w1 hk1 hb1 hs1 _; have K1 := qH hk1; have B1 := qH hb1; clear hk1 hb1 hs1; (try simp only [Act.put, qA, qB, qC]))
 have C256 := qH (show w1.cell? ⟨w.heap.size, 256, none⟩ = some (.slice An n cn) by rw [K1.out.cell 256, HCS.out]; exact dcl_n HL.out)
 refine sx_startB (B := w1.heap.size) (w0 := w1) (by kernel_rfl) (Below.refl _ _) (fun wd hwd hX => ?_)
 clear hwd
 refine sx_take (i := 0) (oi := ⟨some 7, _, _, _, _, _⟩) (v := ?_) rfl (by kernel_rfl) (by kernel_rfl) (by kernel_rfl) (fun _ _ _ h => h) rfl hX ?_ ?_; rotate_left; (intro W hW; go_simp; try with_reducible rfl); simp only [Act.put, qA, qB, qC]
 refine sx_take (i := 1) (oi := ⟨some 8, _, _, _, _, _⟩) (v := .slice An n cn) rfl (by kernel_rfl) (by kernel_rfl) (by kernel_rfl) (fun _ _ _ h => h) rfl hX (fun V hV => ld_inss (.tmp 7) rfl rfl ((hV.cell (p := ⟨w.heap.size, 256, none⟩) K1.out.lt).trans C256.out)) ?_; simp only [Act.put, qA, qB, qC]
 refine sx_take (i := 2) (oi := ⟨some 9, _, _, _, _, _⟩) (v := ?_) rfl (by kernel_rfl) (by kernel_rfl) (by kernel_rfl) (fun _ _ _ h => h) rfl hX ?_ ?_; rotate_left; (intro W hW; go_simp; try with_reducible rfl); simp only [Act.put, qA, qB, qC]
 refine sx_take (i := 3) (oi := ⟨some 10, _, _, _, _, _⟩) (v := .agg cs.toArray) rfl (by kernel_rfl) (by kernel_rfl) (by kernel_rfl) (fun _ _ _ h => h) rfl hX (ld_blk 28 _ rfl w.heap.size rfl 28 cs _ K1.out K1.out.lt Try.underlying28 rfl HDS.out) ?_; simp only [Act.put, qA, qB, qC]
 refine sx_actB (i := 4) (o := ⟨some 11, _, _, _, _, _⟩) rfl (by kernel_rfl) rfl hX (fun K hK => ?_)
 go_wp2_with fail
 refine (refClasses11_any D cs wd (V0.out.below (B1.out.trans (hX.mono B1.out.size)))).mono ?_
 rintro e w2 ⟨rfl, hb⟩
 rw [← HK.out]
 go_wp2_with fail
 refine hK _ _ (hb.mono hX.size) ?_
 clear hK K
 (try simp only [Act.put, qA, qB, qC])
 replace hX := hX.trans (hb.mono hX.size)
 clear hb
 refine sx_take (i := 5) (oi := ⟨some 3, _, _, _, _, _⟩) (v := ?_) rfl (by kernel_rfl) (by kernel_rfl) (by kernel_rfl) (fun _ _ _ h => h) rfl hX ?_ ?_; rotate_left; (intro W hW; go_simp; try with_reducible rfl); simp only [Act.put, qA, qB, qC]
 refine sx_take (i := 6) (oi := ⟨some 4, _, _, _, _, _⟩) (v := ?_) rfl (by kernel_rfl) (by kernel_rfl) (by kernel_rfl) (fun _ _ _ h => h) rfl hX ?_ ?_; rotate_left; (intro W hW; go_simp; try with_reducible rfl); simp only [Act.put, qA, qB, qC]
 refine wpAnyH_done (by kernel_rfl) ?_ _
 have B2 := qH (B1.out.trans (hX.mono B1.out.size))
 have K2 := qH (K1.out.below hX K1.out.lt)
 have c256 : w2.cell? ⟨w.heap.size, 256, none⟩ = some (.slice An n cn) := by rw [K2.out.cell 256, HCS.out]; exact dcl_n HL.out
 have c257 : w2.cell? ⟨w.heap.size, 257, none⟩ = some (.slice Ae n ce) := by rw [K2.out.cell 257, HCS.out]; exact dcl_e HL.out
 have d1 : decide ((n : Int) < 1) = false := decide_eq_false (by have := HNP.out; omega)
 have d2 : decide ((2000 : Int) < (n : Int)) = false := decide_eq_false (by have := HNF.out; omega)
 clear hX
 go_wp2_with fail
 go_loopw [5] (fun iv wl => ∃ i : Nat, i ≤ n ∧ iv = .int .i64 (i : Int) ∧ wl = w2) (fun iv _ => n - (intOf iv).toNat)
 case atStart => exact ⟨0, Nat.zero_le _, by simp, rfl⟩
 obtain ⟨i, hi, rfl, hw⟩ := hrel
 have hw2 := hw.symm
 subst hw2
 clear hw
 by_cases hin : i < n
 ·have x1 : (i : Int) < (n : Int) := Int.ofNat_lt.2 hin
  have HI := qH hin
  have HMI := qH (sub_next hin)
  have e3 := wrap_one i (lt_bigN hin HNF.out)
  have e4 := wrap_one' i (lt_bigN hin HNF.out)
  obtain ⟨r, hr⟩ : ∃ r, D.next[i]? = some r := ⟨_, List.getElem?_eq_getElem (by rw [← HN.out]; exact hin)⟩
  have HRM := qH (List.mem_of_getElem? hr)
  have HRL := qH (show r.length = k by rw [HM.out.rows r HRM.out, HK.out])
  have hri := (HR.out i r hr).below B2.out
  have HRI := qH hri
  obtain ⟨Ar, cr, hvr, _⟩ := hri
  rw [nums_length, HRL.out] at hvr
  obtain ⟨b, off, rfl, _, hcc⟩ := (HRN.out.below B2.out).at_ (by simp; exact Nat.lt_of_lt_of_le Nat.zero_lt_one HNP.out)
  have hci : w2.cell? ⟨b, off + i, none⟩ = some (.slice Ar k cr) := hcc i _ (by simp [hin, hvr])
  rw [hvr] at HRI
  clear hi hin hr hcc
  go_wp2_with fail
  go_loopw [6] (fun jv wl => ∃ j : Nat, j ≤ k ∧ jv = .int .i64 (j : Int) ∧ wl = w2) (fun jv _ => k - (intOf jv).toNat)
  case atStart => exact ⟨0, Nat.zero_le _, by simp, rfl⟩
  obtain ⟨j, hj, rfl, hw⟩ := hrel
  have hw2 := hw.symm
  subst hw2
  clear hw
  by_cases hjk : j < k
  ·have y1 : (j : Int) < (k : Int) := Int.ofNat_lt.2 hjk
   have HJ := qH hjk
   have HMJ := qH (sub_next hjk)
   have f3 := wrap_one j (lt_k256 hjk HK2.out)
   have f4 := wrap_one' j (lt_k256 hjk HK2.out)
   obtain ⟨x, hx⟩ : ∃ x, r[j]? = some x := ⟨_, List.getElem?_eq_getElem (by rw [HRL.out]; exact hjk)⟩
   have hto := HM.out.to r HRM.out x (List.mem_of_getElem? hx)
   obtain ⟨br, or, rfl, _, hcr⟩ := HRI.out.at_ (by rw [nums_length, HRL.out]; exact Nat.lt_of_le_of_lt (Nat.zero_le _) hjk)
   have hcx : w2.cell? ⟨br, or + j, none⟩ = some (.int .i64 x) := hcr j _ (by simp [nums, hx])
   have z1 : ¬ (x < 0) := by omega
   have z2 : ¬ ((n : Int) ≤ x) := by have := HN.out; omega
   clear hj hjk hx hcr hto
   go_wp2_with fail
   exact ⟨⟨j + 1, HJ.out, by congr 1, trivial⟩, by simpa [intOf] using HMJ.out⟩
  ·obtain rfl : j = k := by omega
   have y1 : ¬ ((j : Int) < (j : Int)) := Int.lt_irrefl _
   clear hj hjk
   go_wp2_with fail
   exact ⟨⟨i + 1, HI.out, by congr 1, trivial⟩, by simpa [intOf] using HMI.out⟩
 ·obtain rfl : i = n := by omega
  have x1 : ¬ ((i : Int) < (i : Int)) := Int.lt_irrefl _
  clear hi hin
  go_wp2_with fail
  go_ret
  exact ⟨rfl, B2.out⟩
theorem guard_cls : Try.prog.eqGuardType Try.prog.depth 24 = false := by kernel_rfl
theorem inf_byte : (Try.prog.info? 5).map (·.size) = some 1 := by kernel_rfl
theorem size_byte : ∀ w, (sizeOf 5).run Try.prog w = .ok 1 w := by
 intro w
 have h := inf_byte
 cases hi : Try.prog.info? 5 with
 | none => rw [hi] at h; cases h
 | some i =>
  rw [hi] at h
  have h' : i.size = 1 := by simpa using h
  simp [sizeOf, typeInfo, hi, h']
theorem ex_neQ {ev : Operand → Value} {o : Oper} (x y : Operand) (ho : o.op = .binOp .neq 4 x y 4) {b : Bool} (hx : ev x = .bool b) (hy : ev y = .bool b) (W : World) : (execOp ev o).run Try.prog W = .ok (.value (.bool false)) W := by
 simp only [execOp, ho, hx, hy]
 cases b <;> go_simp
theorem ex_neI {ev : Operand → Value} {o : Oper} (x y : Operand) (ho : o.op = .binOp .neq 3 x y 3) {k : Int} (hx : ev x = .int .i64 k) (hy : ev y = .int .i64 k) (W : World) : (execOp ev o).run Try.prog W = .ok (.value (.bool false)) W := by
 simp only [execOp, ho, hx, hy]
 go_simp
theorem ld_boolQ {ev : Operand → Value} {o : Oper} (x : Operand) (ho : o.op = .load 4 x) {p : Addr} (hx : ev x = .pointer (some p)) {k : Bool} {W : World} (hc : W.cell? p = some (.bool k)) : (execOp ev o).run Try.prog W = .ok (.value (.bool k)) W := by
 simp only [execOp, ho, hx]
 go_simp
set_option maxHeartbeats 8000000 in
set_option maxRecDepth 1000000 in
theorem refSame11_self (D : Dm) (cs cs' : List Value) (w : World) (hv : DfaV w cs D) (hv' : DfaV w cs' D) (hE : D.ends.length ≤ 2000) (hN : D.next.length ≤ 2000) (hR : ∀ r ∈ D.next, r.length ≤ 2000) :
  Calls Try.prog 12 #[.agg cs.toArray, .agg cs'.toArray] w fun e w' => e = .returned (.bool true) ∧ Below w.heap.size w w' := by
 have HDS := qH hv.size
 have HDS' := qH hv'.size
 obtain ⟨An, Ae, cn, ce, vf, hl, hcs, hn, hr, he⟩ := hv.form
 obtain ⟨An', Ae', cn', ce', vf', _, hcs', hn', hr', he'⟩ := hv'.form
 have HL := qH hl
 obtain ⟨n, hnn⟩ : ∃ n, n = D.next.length := ⟨_, rfl⟩
 obtain ⟨m, hmm⟩ : ∃ m, m = D.ends.length := ⟨_, rfl⟩
 have HN := qH hnn
 have HM := qH hmm
 rw [← hnn, ← hmm] at hcs hcs'
 rw [← hnn] at hn hn' hN
 rw [← hmm] at he he' hE
 have HCS := qH hcs
 have HCS' := qH hcs'
 have HRN := qH hn
 have HRN' := qH hn'
 have HR := qH hr
 have HR' := qH hr'
 have HE := qH he
 have HE' := qH he'
 have HNF := qH hN
 have HEF := qH hE
 have HRF := qH hR
 obtain ⟨cl, hcl⟩ : ∃ cl, cl = D.cl := ⟨_, rfl⟩
 rw [← hcl] at HL HCS HCS'
 have HSC := qH (show (Try.prog.info? 24).map (·.size) = some (bvs cl).length from size_ctab HL.out)
 clear hv hv' hl hcs hcs' hn hn' hr hr' he he' hnn hmm hcl hN hE hR
 go_enter Try.func12, Try.ntmps12
 go_wp2_with (first
  | ((with_reducible refine atDst 2 ?_); refine wpList_box rfl 28 _ rfl cs rfl (Below.refl w.heap.size w) (Nat.le_refl _) ?_; intro w1 hk1 hb1 hs1 _; have K1 := qH hk1; have B1 := qH hb1; clear hk1 hb1 hs1; (try simp only [Act.put, qA, qB, qC]))
  | ((with_reducible refine atDst 3 ?_); refine wpList_box rfl 28 _ rfl cs' rfl (Below.refl w1.heap.size w1) (Nat.le_refl _) ?_; intro w2 hk1 hb1 hs1 _; have K1' := qH (K1.out.below hb1 K1.out.lt); have K2' := qH hk1; have B2 := qH (B1.out.trans (hb1.mono B1.out.size)); have c256 : w2.cell? ⟨w.heap.size, 256, none⟩ = some (.slice An n cn) := by { rw [K1'.out.cell 256, HCS.out]; exact dcl_n HL.out }; have c257 : w2.cell? ⟨w.heap.size, 257, none⟩ = some (.slice Ae m ce) := by { rw [K1'.out.cell 257, HCS.out]; exact dcl_e HL.out }; have k256 : w2.cell? ⟨w1.heap.size, 256, none⟩ = some (.slice An' n cn') := by { rw [K2'.out.cell 256, HCS'.out]; exact dcl_n HL.out }; have k257 : w2.cell? ⟨w1.heap.size, 257, none⟩ = some (.slice Ae' m ce') := by { rw [K2'.out.cell 257, HCS'.out]; exact dcl_e HL.out }; have r1 := qH (show w2.rangeAt w.heap.size 0 (bvs cl) from fun i v hv => by { rw [Nat.zero_add, K1'.out.cell i, HCS.out, dcl_cl HL.out (by have := (List.getElem?_eq_some_iff.1 hv).1; rw [bvs_length, HL.out] at this; exact this)]; exact hv }); have r2 := qH (show w2.rangeAt w1.heap.size 0 (bvs cl) from fun i v hv => by { rw [Nat.zero_add, K2'.out.cell i, HCS'.out, dcl_cl HL.out (by have := (List.getElem?_eq_some_iff.1 hv).1; rw [bvs_length, HL.out] at this; exact this)]; exact hv }); clear hk1 hb1 hs1; (try simp only [Act.put, qA, qB, qC]))
  | ((with_reducible refine atDst 9 ?_); refine wpList_load_mid rfl 24 _ rfl w.heap.size 0 rfl (bvs cl) _ r1.out Try.underlying24 rfl HSC.out ?_; (try simp only [Act.put, qA, qB, qC]))
  | ((with_reducible refine atDst 11 ?_); refine wpList_load_mid rfl 24 _ rfl w1.heap.size 0 rfl (bvs cl) _ r2.out Try.underlying24 rfl HSC.out ?_; (try simp only [Act.put, qA, qB, qC]))
  | ((with_reducible refine atDst 12 ?_); refine wpList_neArr rfl 24 5 256 (.tmp 9) (.tmp 11) 24 rfl guard_cls Try.underlying24 Try.underlying5 size_byte cl cl HL.out HL.out rfl rfl ?_; rw [decide_eq_true (rfl : cl = cl)]))
 clear c256 c257 k256 k257
 have HT1 := qH (show w.heap.size < w2.heap.size from K1'.out.lt)
 have HT2 := qH (show w1.heap.size < w2.heap.size from K2'.out.lt)
 have C256 := qH (show w2.cell? ⟨w.heap.size, 256, none⟩ = some (.slice An n cn) by rw [K1'.out.cell 256, HCS.out]; exact dcl_n HL.out)
 have C257 := qH (show w2.cell? ⟨w.heap.size, 257, none⟩ = some (.slice Ae m ce) by rw [K1'.out.cell 257, HCS.out]; exact dcl_e HL.out)
 have D256 := qH (show w2.cell? ⟨w1.heap.size, 256, none⟩ = some (.slice An' n cn') by rw [K2'.out.cell 256, HCS'.out]; exact dcl_n HL.out)
 have D257 := qH (show w2.cell? ⟨w1.heap.size, 257, none⟩ = some (.slice Ae' m ce') by rw [K2'.out.cell 257, HCS'.out]; exact dcl_e HL.out)
 go_loopw [5] (fun jv wl => ∃ j : Nat, j ≤ m ∧ jv = .int .i64 (j : Int) ∧ Below w2.heap.size w2 wl) (fun jv _ => m - (intOf jv).toNat)
 case atStart => exact ⟨0, Nat.zero_le _, by simp, Below.refl _ _⟩
 case round =>
  obtain ⟨j, hj, rfl, hb⟩ := hrel
  have BQ := qH hb
  obtain ⟨wq, hwq⟩ : ∃ v : World, v = wr := ⟨_, rfl⟩
  subst hwq
  have c257 : wq.cell? ⟨w.heap.size, 257, none⟩ = some (.slice Ae m ce) := (hb.cell (p := ⟨w.heap.size, 257, none⟩) HT1.out).trans C257.out
  have C257q := qH c257
  have D257q := qH ((hb.cell (p := ⟨w1.heap.size, 257, none⟩) HT2.out).trans D257.out)
  clear hb
  by_cases hjm : j < m
  ·have x1 : (j : Int) < (m : Int) := Int.ofNat_lt.2 hjm
   have HJ := qH hjm
   have HMJ := qH (sub_next hjm)
   have e3 := wrap_one j (lt_bigN hjm HEF.out)
   have e4 := wrap_one' j (lt_bigN hjm HEF.out)
   obtain ⟨b, hb⟩ : ∃ b, D.ends[j]? = some b := ⟨_, List.getElem?_eq_getElem (by rw [← HM.out]; exact hjm)⟩
   obtain ⟨b1, o1, rfl, hl1, hc1⟩ := (HE.out.below (B2.out.trans (BQ.out.mono B2.out.size))).at_ (by rw [bools_length, ← HM.out]; exact Nat.lt_of_le_of_lt (Nat.zero_le _) hjm)
   obtain ⟨b2, o2, rfl, hl2, hc2⟩ := (HE'.out.below (B2.out.trans (BQ.out.mono B2.out.size))).at_ (by rw [bools_length, ← HM.out]; exact Nat.lt_of_le_of_lt (Nat.zero_le _) hjm)
   have HC1 := qH (hc1 j (.bool b) (by simp [bools, hb]))
   have HC2 := qH (hc2 j (.bool b) (by simp [bools, hb]))
   have HL1 := qH hl1
   have HL2 := qH hl2
   have HT1q := qH (Nat.lt_of_lt_of_le HT1.out BQ.out.size)
   have HT2q := qH (Nat.lt_of_lt_of_le HT2.out BQ.out.size)
   clear hj hjm hb hl1 hl2 hc1 hc2
   go_wp2_with fail
   clear c257
   refine sx_startB (B := wq.heap.size) (w0 := wq) (by kernel_rfl) (Below.refl _ _) (fun wd hwd hX => ?_)
   clear hwd
   refine sx_take (i := 0) (oi := ⟨some 38, _, _, _, _, _⟩) (v := ?_) rfl (by kernel_rfl) (by kernel_rfl) (by kernel_rfl) (fun _ _ _ h => h) rfl hX ?_ ?_; rotate_left; (intro W hW; go_simp; try with_reducible rfl); simp only [Act.put, qA, qB, qC]
   refine sx_take (i := 1) (oi := ⟨some 39, _, _, _, _, _⟩) (v := .slice (some ⟨b1, o1, none⟩) m ce) rfl (by kernel_rfl) (by kernel_rfl) (by kernel_rfl) (fun _ _ _ h => h) rfl hX (fun V hV => ld_bls (.tmp 38) rfl rfl ((hV.cell (p := ⟨w.heap.size, 257, none⟩) HT1q.out).trans C257q.out)) ?_; simp only [Act.put, qA, qB, qC]
   refine sx_take (i := 2) (oi := ⟨some 40, _, _, _, _, _⟩) (v := ?_) rfl (by kernel_rfl) (by kernel_rfl) (by kernel_rfl) (fun _ _ _ h => h) rfl hX ?_ ?_; rotate_left; (intro W hW; go_simp; try with_reducible rfl); simp only [Act.put, qA, qB, qC]
   refine sx_take (i := 3) (oi := ⟨some 41, _, _, _, _, _⟩) (v := ?_) rfl (by kernel_rfl) (by kernel_rfl) (by kernel_rfl) (fun _ _ _ h => h) rfl hX ?_ ?_; rotate_left; (intro W hW; go_simp; try with_reducible rfl); simp only [Act.put, qA, qB, qC]
   refine sx_take (i := 4) (oi := ⟨some 42, _, _, _, _, _⟩) (v := .bool b) rfl (by kernel_rfl) (by kernel_rfl) (by kernel_rfl) (fun _ _ _ h => h) rfl hX (fun V hV => ld_boolQ (.tmp 41) rfl rfl ((hV.cell (p := ⟨b1, o1 + j, none⟩) HL1.out).trans HC1.out)) ?_; simp only [Act.put, qA, qB, qC]
   refine sx_take (i := 5) (oi := ⟨some 43, _, _, _, _, _⟩) (v := ?_) rfl (by kernel_rfl) (by kernel_rfl) (by kernel_rfl) (fun _ _ _ h => h) rfl hX ?_ ?_; rotate_left; (intro W hW; go_simp; try with_reducible rfl); simp only [Act.put, qA, qB, qC]
   refine sx_take (i := 6) (oi := ⟨some 44, _, _, _, _, _⟩) (v := .slice (some ⟨b2, o2, none⟩) m ce') rfl (by kernel_rfl) (by kernel_rfl) (by kernel_rfl) (fun _ _ _ h => h) rfl hX (fun V hV => ld_bls (.tmp 43) rfl rfl ((hV.cell (p := ⟨w1.heap.size, 257, none⟩) HT2q.out).trans D257q.out)) ?_; simp only [Act.put, qA, qB, qC]
   refine sx_take (i := 7) (oi := ⟨some 45, _, _, _, _, _⟩) (v := ?_) rfl (by kernel_rfl) (by kernel_rfl) (by kernel_rfl) (fun _ _ _ h => h) rfl hX ?_ ?_; rotate_left; (intro W hW; go_simp; try with_reducible rfl); simp only [Act.put, qA, qB, qC]
   refine sx_take (i := 8) (oi := ⟨some 46, _, _, _, _, _⟩) (v := ?_) rfl (by kernel_rfl) (by kernel_rfl) (by kernel_rfl) (fun _ _ _ h => h) rfl hX ?_ ?_; rotate_left; (intro W hW; go_simp; try with_reducible rfl); simp only [Act.put, qA, qB, qC]
   refine sx_take (i := 9) (oi := ⟨some 47, _, _, _, _, _⟩) (v := .bool b) rfl (by kernel_rfl) (by kernel_rfl) (by kernel_rfl) (fun _ _ _ h => h) rfl hX (fun V hV => ld_boolQ (.tmp 46) rfl rfl ((hV.cell (p := ⟨b2, o2 + j, none⟩) HL2.out).trans HC2.out)) ?_; simp only [Act.put, qA, qB, qC]
   refine sx_take (i := 10) (oi := ⟨some 48, _, _, _, _, _⟩) (v := .bool false) rfl (by kernel_rfl) (by kernel_rfl) (by kernel_rfl) (fun _ _ _ h => h) rfl hX (fun V _ => ex_neQ (.tmp 42) (.tmp 47) rfl rfl rfl V) ?_; simp only [Act.put, qA, qB, qC]
   refine wpAnyH_done (by kernel_rfl) ?_ _
   have BE := qH (BQ.out.trans (hX.mono BQ.out.size))
   clear hX
   go_wp2_with fail
   exact ⟨⟨j + 1, HJ.out, by congr 1, BE.out⟩, by simpa [intOf] using HMJ.out⟩
  ·obtain rfl : j = m := by omega
   have x1 : ¬ ((j : Int) < (j : Int)) := Int.lt_irrefl _
   clear hj hjm
   go_wp2_with fail
   clear c257
   go_loopw [6] (fun iv wl => ∃ i : Nat, i ≤ n ∧ iv = .int .i64 (i : Int) ∧ Below w2.heap.size w2 wl) (fun iv _ => n - (intOf iv).toNat)
   case atStart => exact ⟨0, Nat.zero_le _, by simp, BQ.out⟩
   obtain ⟨i, hi, rfl, hb⟩ := hrel
   have BI := qH hb
   obtain ⟨wi, hwi⟩ : ∃ v : World, v = wr := ⟨_, rfl⟩
   subst hwi
   have c256 : wi.cell? ⟨w.heap.size, 256, none⟩ = some (.slice An n cn) := (hb.cell (p := ⟨w.heap.size, 256, none⟩) HT1.out).trans C256.out
   have C256i := qH c256
   have D256i := qH ((hb.cell (p := ⟨w1.heap.size, 256, none⟩) HT2.out).trans D256.out)
   have HT1i := qH (Nat.lt_of_lt_of_le HT1.out hb.size)
   have HT2i := qH (Nat.lt_of_lt_of_le HT2.out hb.size)
   clear hb
   by_cases hin : i < n
   ·have y1 : (i : Int) < (n : Int) := Int.ofNat_lt.2 hin
    have HI := qH hin
    have HMI := qH (sub_next hin)
    have f3 := wrap_one i (lt_bigN hin HNF.out)
    have f4 := wrap_one' i (lt_bigN hin HNF.out)
    obtain ⟨r, hr⟩ : ∃ r, D.next[i]? = some r := ⟨_, List.getElem?_eq_getElem (by rw [← HN.out]; exact hin)⟩
    have hri := HR.out i r hr
    have hri' := HR'.out i r hr
    have HRI := qH hri
    have HRI' := qH hri'
    obtain ⟨k, hk⟩ : ∃ k, k = r.length := ⟨_, rfl⟩
    have HKR := qH hk
    have HKF := qH (show k ≤ 2000 by rw [hk]; exact HRF.out r (List.mem_of_getElem? hr))
    obtain ⟨Ar, cr, hvr, _⟩ := hri
    obtain ⟨Ar', cr', hvr', _⟩ := hri'
    rw [nums_length, ← hk] at hvr hvr'
    rw [hvr] at HRI
    rw [hvr'] at HRI'
    have hpos : 0 < n := Nat.lt_of_le_of_lt (Nat.zero_le _) hin
    obtain ⟨b1, o1, rfl, hl1, hc1⟩ := (HRN.out.below (B2.out.trans (BI.out.mono B2.out.size))).at_ (by rw [List.length_map, List.length_range]; exact hpos)
    obtain ⟨b2, o2, rfl, hl2, hc2⟩ := (HRN'.out.below (B2.out.trans (BI.out.mono B2.out.size))).at_ (by rw [List.length_map, List.length_range]; exact hpos)
    have HC1 := qH (show wi.cell? ⟨b1, o1 + i, none⟩ = some (.slice Ar k cr) from hc1 i _ (by simp [hin, hvr]))
    have HC2 := qH (show wi.cell? ⟨b2, o2 + i, none⟩ = some (.slice Ar' k cr') from hc2 i _ (by simp [hin, hvr']))
    have HL1 := qH hl1
    have HL2 := qH hl2
    clear hi hin hr hk hvr hvr' hpos hl1 hl2 hc1 hc2
    go_wp2_with fail
    clear c256
    refine sx_startB (B := wi.heap.size) (w0 := wi) (by kernel_rfl) (Below.refl _ _) (fun wd hwd hX => ?_)
    clear hwd
    refine sx_take (i := 0) (oi := ⟨some 56, _, _, _, _, _⟩) (v := ?_) rfl (by kernel_rfl) (by kernel_rfl) (by kernel_rfl) (fun _ _ _ h => h) rfl hX ?_ ?_; rotate_left; (intro W hW; go_simp; try with_reducible rfl); simp only [Act.put, qA, qB, qC]
    refine sx_take (i := 1) (oi := ⟨some 57, _, _, _, _, _⟩) (v := .slice (some ⟨b1, o1, none⟩) n cn) rfl (by kernel_rfl) (by kernel_rfl) (by kernel_rfl) (fun _ _ _ h => h) rfl hX (fun V hV => ld_inss (.tmp 56) rfl rfl ((hV.cell (p := ⟨w.heap.size, 256, none⟩) HT1i.out).trans C256i.out)) ?_; simp only [Act.put, qA, qB, qC]
    refine sx_take (i := 2) (oi := ⟨some 58, _, _, _, _, _⟩) (v := ?_) rfl (by kernel_rfl) (by kernel_rfl) (by kernel_rfl) (fun _ _ _ h => h) rfl hX ?_ ?_; rotate_left; (intro W hW; go_simp; try with_reducible rfl); simp only [Act.put, qA, qB, qC]
    refine sx_take (i := 3) (oi := ⟨some 59, _, _, _, _, _⟩) (v := ?_) rfl (by kernel_rfl) (by kernel_rfl) (by kernel_rfl) (fun _ _ _ h => h) rfl hX ?_ ?_; rotate_left; (intro W hW; go_simp; try with_reducible rfl); simp only [Act.put, qA, qB, qC]
    refine sx_take (i := 4) (oi := ⟨some 60, _, _, _, _, _⟩) (v := .slice Ar k cr) rfl (by kernel_rfl) (by kernel_rfl) (by kernel_rfl) (fun _ _ _ h => h) rfl hX (fun V hV => ld_ints (.tmp 59) rfl rfl ((hV.cell (p := ⟨b1, o1 + i, none⟩) HL1.out).trans HC1.out)) ?_; simp only [Act.put, qA, qB, qC]
    refine sx_take (i := 5) (oi := ⟨some 61, _, _, _, _, _⟩) (v := ?_) rfl (by kernel_rfl) (by kernel_rfl) (by kernel_rfl) (fun _ _ _ h => h) rfl hX ?_ ?_; rotate_left; (intro W hW; go_simp; try with_reducible rfl); simp only [Act.put, qA, qB, qC]
    refine sx_take (i := 6) (oi := ⟨some 62, _, _, _, _, _⟩) (v := ?_) rfl (by kernel_rfl) (by kernel_rfl) (by kernel_rfl) (fun _ _ _ h => h) rfl hX ?_ ?_; rotate_left; (intro W hW; go_simp; try with_reducible rfl); simp only [Act.put, qA, qB, qC]
    refine sx_take (i := 7) (oi := ⟨some 63, _, _, _, _, _⟩) (v := .slice (some ⟨b2, o2, none⟩) n cn') rfl (by kernel_rfl) (by kernel_rfl) (by kernel_rfl) (fun _ _ _ h => h) rfl hX (fun V hV => ld_inss (.tmp 62) rfl rfl ((hV.cell (p := ⟨w1.heap.size, 256, none⟩) HT2i.out).trans D256i.out)) ?_; simp only [Act.put, qA, qB, qC]
    refine sx_take (i := 8) (oi := ⟨some 64, _, _, _, _, _⟩) (v := ?_) rfl (by kernel_rfl) (by kernel_rfl) (by kernel_rfl) (fun _ _ _ h => h) rfl hX ?_ ?_; rotate_left; (intro W hW; go_simp; try with_reducible rfl); simp only [Act.put, qA, qB, qC]
    refine sx_take (i := 9) (oi := ⟨some 65, _, _, _, _, _⟩) (v := ?_) rfl (by kernel_rfl) (by kernel_rfl) (by kernel_rfl) (fun _ _ _ h => h) rfl hX ?_ ?_; rotate_left; (intro W hW; go_simp; try with_reducible rfl); simp only [Act.put, qA, qB, qC]
    refine sx_take (i := 10) (oi := ⟨some 66, _, _, _, _, _⟩) (v := .slice Ar' k cr') rfl (by kernel_rfl) (by kernel_rfl) (by kernel_rfl) (fun _ _ _ h => h) rfl hX (fun V hV => ld_ints (.tmp 65) rfl rfl ((hV.cell (p := ⟨b2, o2 + i, none⟩) HL2.out).trans HC2.out)) ?_; simp only [Act.put, qA, qB, qC]
    refine sx_take (i := 11) (oi := ⟨some 67, _, _, _, _, _⟩) (v := ?_) rfl (by kernel_rfl) (by kernel_rfl) (by kernel_rfl) (fun _ _ _ h => h) rfl hX ?_ ?_; rotate_left; (intro W hW; go_simp; try with_reducible rfl); simp only [Act.put, qA, qB, qC]
    refine sx_take (i := 12) (oi := ⟨some 68, _, _, _, _, _⟩) (v := .bool false) rfl (by kernel_rfl) (by kernel_rfl) (by kernel_rfl) (fun _ _ _ h => h) rfl hX (fun V _ => ex_neI (.tmp 61) (.tmp 67) rfl rfl rfl V) ?_; simp only [Act.put, qA, qB, qC]
    refine wpAnyH_done (by kernel_rfl) ?_ _
    have BE := qH (hX)
    clear hX
    go_wp2_with fail
    go_loopw [7] (fun jv wl => ∃ j : Nat, j ≤ k ∧ jv = .int .i64 (j : Int) ∧ Below wi.heap.size wi wl) (fun jv _ => k - (intOf jv).toNat)
    case atStart => exact ⟨0, Nat.zero_le _, by simp, BE.out⟩
    obtain ⟨q, hq, rfl, hb⟩ := hrel
    have BJ := qH hb
    obtain ⟨wj, hwj⟩ : ∃ v : World, v = wr := ⟨_, rfl⟩
    subst hwj
    have c256 : wj.cell? ⟨w.heap.size, 256, none⟩ = some (.slice (some ⟨b1, o1, none⟩) n cn) := (hb.cell (p := ⟨w.heap.size, 256, none⟩) HT1i.out).trans C256i.out
    have cri : wj.cell? ⟨b1, o1 + i, none⟩ = some (.slice Ar k cr) := (hb.cell (p := ⟨b1, o1 + i, none⟩) HL1.out).trans HC1.out
    have C256j := qH c256
    have CRI := qH cri
    have D256j := qH ((hb.cell (p := ⟨w1.heap.size, 256, none⟩) HT2i.out).trans D256i.out)
    have DRI := qH ((hb.cell (p := ⟨b2, o2 + i, none⟩) HL2.out).trans HC2.out)
    have HT1j := qH (Nat.lt_of_lt_of_le HT1i.out hb.size)
    have HT2j := qH (Nat.lt_of_lt_of_le HT2i.out hb.size)
    have HL1j := qH (Nat.lt_of_lt_of_le HL1.out hb.size)
    have HL2j := qH (Nat.lt_of_lt_of_le HL2.out hb.size)
    clear hb
    by_cases hqk : q < k
    ·have z1 : (q : Int) < (k : Int) := Int.ofNat_lt.2 hqk
     have HQ := qH hqk
     have HMQ := qH (sub_next hqk)
     have g3 := wrap_one q (lt_bigN hqk HKF.out)
     have g4 := wrap_one' q (lt_bigN hqk HKF.out)
     obtain ⟨x, hx⟩ : ∃ x, r[q]? = some x := ⟨_, List.getElem?_eq_getElem (by rw [← HKR.out]; exact hqk)⟩
     have BW := qH (B2.out.trans ((BI.out.trans (BJ.out.mono BI.out.size)).mono B2.out.size))
     have hpos : 0 < (nums .i64 r).length := by rw [nums_length, ← HKR.out]; exact Nat.lt_of_le_of_lt (Nat.zero_le _) hqk
     obtain ⟨b3, o3, rfl, hl3, hc3⟩ := (HRI.out.below BW.out).at_ hpos
     obtain ⟨b4, o4, rfl, hl4, hc4⟩ := (HRI'.out.below BW.out).at_ hpos
     have HC3 := qH (hc3 q (.int .i64 x) (by simp [nums, hx]))
     have HC4 := qH (hc4 q (.int .i64 x) (by simp [nums, hx]))
     have HL3 := qH hl3
     have HL4 := qH hl4
     clear hq hqk hx hpos hl3 hl4 hc3 hc4
     go_wp2_with fail
     clear c256 cri
     refine sx_startB (B := wj.heap.size) (w0 := wj) (by kernel_rfl) (Below.refl _ _) (fun wd2 hwd hX => ?_)
     clear hwd
     refine sx_take (i := 0) (oi := ⟨some 79, _, _, _, _, _⟩) (v := ?_) rfl (by kernel_rfl) (by kernel_rfl) (by kernel_rfl) (fun _ _ _ h => h) rfl hX ?_ ?_; rotate_left; (intro W hW; go_simp; try with_reducible rfl); simp only [Act.put, qA, qB, qC]
     refine sx_take (i := 1) (oi := ⟨some 80, _, _, _, _, _⟩) (v := .slice (some ⟨b1, o1, none⟩) n cn) rfl (by kernel_rfl) (by kernel_rfl) (by kernel_rfl) (fun _ _ _ h => h) rfl hX (fun V hV => ld_inss (.tmp 79) rfl rfl ((hV.cell (p := ⟨w.heap.size, 256, none⟩) HT1j.out).trans C256j.out)) ?_; simp only [Act.put, qA, qB, qC]
     refine sx_take (i := 2) (oi := ⟨some 81, _, _, _, _, _⟩) (v := ?_) rfl (by kernel_rfl) (by kernel_rfl) (by kernel_rfl) (fun _ _ _ h => h) rfl hX ?_ ?_; rotate_left; (intro W hW; go_simp; try with_reducible rfl); simp only [Act.put, qA, qB, qC]
     refine sx_take (i := 3) (oi := ⟨some 82, _, _, _, _, _⟩) (v := ?_) rfl (by kernel_rfl) (by kernel_rfl) (by kernel_rfl) (fun _ _ _ h => h) rfl hX ?_ ?_; rotate_left; (intro W hW; go_simp; try with_reducible rfl); simp only [Act.put, qA, qB, qC]
     refine sx_take (i := 4) (oi := ⟨some 83, _, _, _, _, _⟩) (v := .slice (some ⟨b3, o3, none⟩) k cr) rfl (by kernel_rfl) (by kernel_rfl) (by kernel_rfl) (fun _ _ _ h => h) rfl hX (fun V hV => ld_ints (.tmp 82) rfl rfl ((hV.cell (p := ⟨b1, o1 + i, none⟩) HL1j.out).trans CRI.out)) ?_; simp only [Act.put, qA, qB, qC]
     refine sx_take (i := 5) (oi := ⟨some 84, _, _, _, _, _⟩) (v := ?_) rfl (by kernel_rfl) (by kernel_rfl) (by kernel_rfl) (fun _ _ _ h => h) rfl hX ?_ ?_; rotate_left; (intro W hW; go_simp; try with_reducible rfl); simp only [Act.put, qA, qB, qC]
     refine sx_take (i := 6) (oi := ⟨some 85, _, _, _, _, _⟩) (v := ?_) rfl (by kernel_rfl) (by kernel_rfl) (by kernel_rfl) (fun _ _ _ h => h) rfl hX ?_ ?_; rotate_left; (intro W hW; go_simp; try with_reducible rfl); simp only [Act.put, qA, qB, qC]
     refine sx_take (i := 7) (oi := ⟨some 86, _, _, _, _, _⟩) (v := .int .i64 x) rfl (by kernel_rfl) (by kernel_rfl) (by kernel_rfl) (fun _ _ _ h => h) rfl hX (fun V hV => ld_int9 (.tmp 85) rfl rfl ((hV.cell (p := ⟨b3, o3 + q, none⟩) HL3.out).trans HC3.out)) ?_; simp only [Act.put, qA, qB, qC]
     refine sx_take (i := 8) (oi := ⟨some 87, _, _, _, _, _⟩) (v := ?_) rfl (by kernel_rfl) (by kernel_rfl) (by kernel_rfl) (fun _ _ _ h => h) rfl hX ?_ ?_; rotate_left; (intro W hW; go_simp; try with_reducible rfl); simp only [Act.put, qA, qB, qC]
     refine sx_take (i := 9) (oi := ⟨some 88, _, _, _, _, _⟩) (v := .slice (some ⟨b2, o2, none⟩) n cn') rfl (by kernel_rfl) (by kernel_rfl) (by kernel_rfl) (fun _ _ _ h => h) rfl hX (fun V hV => ld_inss (.tmp 87) rfl rfl ((hV.cell (p := ⟨w1.heap.size, 256, none⟩) HT2j.out).trans D256j.out)) ?_; simp only [Act.put, qA, qB, qC]
     refine sx_take (i := 10) (oi := ⟨some 89, _, _, _, _, _⟩) (v := ?_) rfl (by kernel_rfl) (by kernel_rfl) (by kernel_rfl) (fun _ _ _ h => h) rfl hX ?_ ?_; rotate_left; (intro W hW; go_simp; try with_reducible rfl); simp only [Act.put, qA, qB, qC]
     refine sx_take (i := 11) (oi := ⟨some 90, _, _, _, _, _⟩) (v := ?_) rfl (by kernel_rfl) (by kernel_rfl) (by kernel_rfl) (fun _ _ _ h => h) rfl hX ?_ ?_; rotate_left; (intro W hW; go_simp; try with_reducible rfl); simp only [Act.put, qA, qB, qC]
     refine sx_take (i := 12) (oi := ⟨some 91, _, _, _, _, _⟩) (v := .slice (some ⟨b4, o4, none⟩) k cr') rfl (by kernel_rfl) (by kernel_rfl) (by kernel_rfl) (fun _ _ _ h => h) rfl hX (fun V hV => ld_ints (.tmp 90) rfl rfl ((hV.cell (p := ⟨b2, o2 + i, none⟩) HL2j.out).trans DRI.out)) ?_; simp only [Act.put, qA, qB, qC]
     refine sx_take (i := 13) (oi := ⟨some 92, _, _, _, _, _⟩) (v := ?_) rfl (by kernel_rfl) (by kernel_rfl) (by kernel_rfl) (fun _ _ _ h => h) rfl hX ?_ ?_; rotate_left; (intro W hW; go_simp; try with_reducible rfl); simp only [Act.put, qA, qB, qC]
     refine sx_take (i := 14) (oi := ⟨some 93, _, _, _, _, _⟩) (v := ?_) rfl (by kernel_rfl) (by kernel_rfl) (by kernel_rfl) (fun _ _ _ h => h) rfl hX ?_ ?_; rotate_left; (intro W hW; go_simp; try with_reducible rfl); simp only [Act.put, qA, qB, qC]
     refine sx_take (i := 15) (oi := ⟨some 94, _, _, _, _, _⟩) (v := .int .i64 x) rfl (by kernel_rfl) (by kernel_rfl) (by kernel_rfl) (fun _ _ _ h => h) rfl hX (fun V hV => ld_int9 (.tmp 93) rfl rfl ((hV.cell (p := ⟨b4, o4 + q, none⟩) HL4.out).trans HC4.out)) ?_; simp only [Act.put, qA, qB, qC]
     refine sx_take (i := 16) (oi := ⟨some 95, _, _, _, _, _⟩) (v := .bool false) rfl (by kernel_rfl) (by kernel_rfl) (by kernel_rfl) (fun _ _ _ h => h) rfl hX (fun V _ => ex_neI (.tmp 86) (.tmp 94) rfl rfl rfl V) ?_; simp only [Act.put, qA, qB, qC]
     refine wpAnyH_done (by kernel_rfl) ?_ _
     have BE2 := qH (BJ.out.trans (hX.mono BJ.out.size))
     clear hX
     go_wp2_with fail
     exact ⟨⟨q + 1, HQ.out, by congr 1, BE2.out⟩, by simpa [intOf] using HMQ.out⟩
    ·obtain rfl : q = k := by omega
     have z1 : ¬ ((q : Int) < (q : Int)) := Int.lt_irrefl _
     have BO := qH (BI.out.trans (BJ.out.mono BI.out.size))
     clear hq hqk
     go_wp2_with fail
     exact ⟨⟨i + 1, HI.out, by congr 1, BO.out⟩, by simpa [intOf] using HMI.out⟩
   ·obtain rfl : i = n := by omega
    have y1 : ¬ ((i : Int) < (i : Int)) := Int.lt_irrefl _
    have BO := qH (B2.out.trans (BI.out.mono B2.out.size))
    clear hi hin
    go_wp2_with fail
    go_ret
    exact ⟨rfl, BO.out⟩
end Go.Proofs.Ytlohehcfplkjbaa
