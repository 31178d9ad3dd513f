/-
  Texts of this proof, put together: ThH, ThI, ThR. No statement is proved here.
-/
import Derived.Test.YtmcpfaaakmehdaaQF
import Derived.Test.YtmcpfaaakmehdaaQB
namespace Go.Proofs.Ytmcpfaaakmehdaa
open Go.RowKit
set_option linter.unusedSimpArgs false
set_option linter.unusedVariables false
theorem clsN_len (S : List St) (l : List Int) : (clsN S l).length ≤ S.length := risJ_len _ _
theorem behN_len (S : List St) : ∀ (W : List UInt8) (l : List Int), l.length ≤ S.length → (behN S l W).length ≤ S.length
 | [], l, h => h
 | b :: W, l, _ => behN_len S W _ (clsN_len S _)
theorem behN_take {S : List St} {l : List Int} {W : List UInt8} {j : Nat} {b : UInt8} (h : W[j]? = some b) : behN S l (W.take (j + 1)) = stpN S (behN S l (W.take j)) b.toNat := by
 rw [List.take_add_one, h]
 show behN S l (W.take j ++ [b]) = _
 rw [behN_app]
 rfl
noncomputable def runB (S : List St) (a z : Int) (W : List UInt8) : Bool := mayNB S a z && runN S a z W
theorem runB_no {S : List St} {a z : Int} {W : List UInt8} (h : mayNB S a z = false) : runB S a z W = false := by
 unfold runB
 rw [h]
 rfl
theorem runB_yes {S : List St} {a z : Int} {W : List UInt8} (h : mayNB S a z = true) : runB S a z W = decide (z ∈ behN S (clsN S [a]) (W.take W.length)) := by
 unfold runB runN
 rw [h, List.take_length, Bool.true_and]
 congr
theorem ld_u9 {ev : Operand → Value} {o : Oper} (x : Operand) (ho : o.op = .load 5 x) {p : Addr} (hx : ev x = .pointer (some p)) {k : Int} {W : World} (hc : W.cell? p = some (.int .u8 k)) : (execOp ev o).run Try.prog W = .ok (.value (.int .u8 k)) W := by
 simp only [execOp, ho, hx]
 go_simp
set_option maxHeartbeats 4000000 in
set_option maxRecDepth 1000000 in
theorem refRunN_any (S : List St) (a z : Int) (cs : List Value) (W : List UInt8) (V : Value) (w : World) (hv : NfaV w cs S a z) (hr : Row w V (bvs W)) :
  Calls Try.prog 14 #[.agg cs.toArray, V] w fun e w' => e = .returned (.bool (runB S a z W)) ∧ Below w.heap.size w w' := by
 have N0 := qH hv
 have R0 := qH hr
 obtain ⟨A, cap, rfl, hlc, hcm, hA0⟩ := hv.len
 obtain ⟨A2, cap2, rfl, a1, a2, a0, a3⟩ := hr
 rw [bvs_length] at a1 R0 ⊢
 have HLN := qH (And.intro a1 a2)
 clear a3 a0 a2 a1 hv hlc hcm hA0
 obtain ⟨i1, hi1, hy0, hy1, hy2⟩ := infoP inf_int
 go_enter Try.func14, Try.ntmps14
 go_wp2_with (first
  | ((with_reducible refine atDst 2 ?_); refine wpList_box rfl 24 _ rfl [.slice A S.length cap, .int .i64 a, .int .i64 z] rfl (Below.refl w.heap.size w) (Nat.le_refl _) ?_; intro w1 hk1 hb1 hs1 _; have K1 := qH hk1; have B1 := qH hb1; clear hk1 hb1 hs1; (try simp only [Act.put, qA, qB, qC]))
  | ((with_reducible refine atDst 7 ?_); refine wpList_ldBlk rfl 24 _ rfl w.heap.size rfl 24 _ _ K1.out Try.underlying24 rfl (size_nfa rfl) ?_; (try simp only [Act.put, qA, qB, qC])))
 refine (refMayN_any S a z _ w1 (N0.out.below B1.out)).mono ?_
 rintro e w2 ⟨rfl, hb2⟩
 have B2 := qH hb2
 have BW2 := qH (B1.out.trans (hb2.mono B1.out.size))
 have K2 := qH (K1.out.below hb2 K1.out.lt)
 clear hb2
 obtain ⟨m, hm⟩ : ∃ m, mayNB S a z = m := ⟨_, rfl⟩
 rw [hm]
 cases m with
 | false =>
  have HC := qH (runB_no (W := W) hm)
  clear hm
  go_wp2_with fail
  go_ret
  rw [HC.out]
  exact ⟨rfl, BW2.out⟩
 | true =>
  have HC := qH (runB_yes (W := W) hm)
  have HM := qH (mayNB_iff.1 hm)
  have HSY := qH (fun l b => steN_yes (l := l) (b := b) hm)
  have HCY := qH (fun l => cloN_yes (l := l) hm)
  clear hm
  have N2 := qH (N0.out.below BW2.out)
  have R2 := qH (R0.out.below BW2.out)
  have c1 := K2.out.cell 1
  have BA := qH (show Below w2.heap.size w2 (w2.alloc (.cells #[.int .i64 a] 3)) from (Below.refl _ _).alloc (Nat.le_refl _) _)
  have RA := qH (rowB (n := 1) (show Blk (w2.alloc (.cells #[.int .i64 a] 3)) w2.heap.size 3 (nums .i64 [a]) from Blk.new w2 3 (nums .i64 [a])) rfl (by omega))
  go_wp2_with ((with_reducible refine atDst 10 ?_); refine wpList_ldBlk rfl 24 _ rfl w.heap.size rfl 24 _ _ K2.out Try.underlying24 rfl (size_nfa rfl) ?_; (try simp only [Act.put, qA, qB, qC]))
  refine (refCloseN_any S a z _ [a] _ _ (N2.out.below BA.out) RA.out).mono ?_
  rintro e w3 ⟨v, rfl, hr3, hb3⟩
  have R3 := qH hr3
  have B3 := qH (BA.out.trans (hb3.mono BA.out.size))
  rw [HCY.out] at R3
  clear hr3 hb3 c1
  go_wp2_with fail
  go_loopw [5, 6] (fun v iv wl => ∃ j : Nat, j ≤ W.length ∧ iv = .int .i64 (j : Int) ∧ Row wl v (nums .i64 (behN S (clsN S [a]) (W.take j))) ∧ Below w2.heap.size w2 wl) (fun _ iv _ => W.length - (intOf iv).toNat)
  case atStart => exact ⟨0, Nat.zero_le _, by simp, R3.out, B3.out⟩
  clear R3 B3
  obtain ⟨j, hj, rfl, ho, hb⟩ := hrel
  have HO := qH ho
  have BQ := qH hb
  have K9 := qH (K2.out.below hb K2.out.lt)
  have N9 := qH (N2.out.below hb)
  clear ho hb
  by_cases hjl : j < W.length
  ·have j1 : (j : Int) < (W.length : Int) := Int.ofNat_lt.2 hjl
   obtain ⟨b, hx⟩ : ∃ x, W[j]? = some x := ⟨_, List.getElem?_eq_getElem hjl⟩
   have HX := qH hx
   obtain ⟨bl, ol, rfl, hbl, hcell⟩ := (R2.out.below BQ.out).at_ (by rw [bvs_length]; omega)
   have HCJ := qH (show wr.cell? ⟨bl, ol + j, none⟩ = some (.int .u8 (b.toNat : Int)) from hcell j _ (bvs_get W j b hx))
   have HBL := qH hbl
   have HJ := qH hjl
   have HMJ := qH (sub_next hjl)
   have e3 := wrap_len HJ.out HLN.out.1 HLN.out.2
   have e4 := wrap_len' HJ.out HLN.out.1 HLN.out.2
   have HBE := qH (behN_take (S := S) (l := clsN S [a]) hx)
   have HBN := qH (show b.toNat < 256 from b.toNat_lt)
   have HLE := qH (show (behN S (clsN S [a]) (W.take j)).length ≤ 1000000 by
    have h1 := behN_len S (W.take j) _ (clsN_len S [a])
    have h2 := HM.out.few
    omega)
   obtain ⟨n, hn⟩ : ∃ n, n = b.toNat := ⟨_, rfl⟩
   rw [← hn] at HCJ HBE HBN
   clear hcell hbl hx hj hjl hn
   go_wp2_with fail
   refine sx_startB (B := wr.heap.size) (w0 := wr) (by kernel_rfl) (Below.refl _ _) (fun wd hwd hX => ?_)
   clear hwd
   refine sx_take (i := 0) (oi := ⟨some 21, _, _, _, _, _⟩) (v := .agg #[.slice A S.length cap, .int .i64 a, .int .i64 z]) rfl (by kernel_rfl) (by kernel_rfl) (by kernel_rfl) (fun _ _ _ h => h) rfl hX (ld_blk 24 _ rfl w.heap.size rfl 24 [.slice A S.length cap, .int .i64 a, .int .i64 z] _ K9.out K9.out.lt Try.underlying24 rfl (size_nfa rfl)) ?_; simp only [Act.put, qA, qB, qC]
   refine sx_take (i := 1) (oi := ⟨some 22, _, _, _, _, _⟩) (v := ?_) rfl (by kernel_rfl) (by kernel_rfl) (by kernel_rfl) (fun _ _ _ h => h) rfl hX ?_ ?_; rotate_left; (intro W hW; go_simp; try with_reducible rfl); simp only [Act.put, qA, qB, qC]
   refine sx_take (i := 2) (oi := ⟨some 23, _, _, _, _, _⟩) (v := ?_) rfl (by kernel_rfl) (by kernel_rfl) (by kernel_rfl) (fun _ _ _ h => h) rfl hX ?_ ?_; rotate_left; (intro W hW; go_simp; try with_reducible rfl); simp only [Act.put, qA, qB, qC]
   refine sx_take (i := 3) (oi := ⟨some 24, _, _, _, _, _⟩) (v := ?_) rfl (by kernel_rfl) (by kernel_rfl) (by kernel_rfl) (fun _ _ _ h => h) rfl hX ?_ ?_; rotate_left; (intro W hW; go_simp; try with_reducible rfl); simp only [Act.put, qA, qB, qC]
   refine sx_take (i := 4) (oi := ⟨some 25, _, _, _, _, _⟩) (v := ?_) rfl (by kernel_rfl) (by kernel_rfl) (by kernel_rfl) (fun _ _ _ h => h) rfl hX ?_ ?_; rotate_left; (intro W hW; go_simp; try with_reducible rfl); simp only [Act.put, qA, qB, qC]
   refine sx_take (i := 5) (oi := ⟨some 26, _, _, _, _, _⟩) (v := .int .u8 (n : Int)) rfl (by kernel_rfl) (by kernel_rfl) (by kernel_rfl) (fun _ _ _ h => h) rfl hX (fun V hV => ld_u9 (.tmp 25) rfl rfl ((hV.cell (p := ⟨bl, ol + j, none⟩) HBL.out).trans HCJ.out)) ?_; simp only [Act.put, qA, qB, qC]
   refine sx_actB (i := 6) (o := ⟨some 27, _, _, _, _, _⟩) rfl (by kernel_rfl) rfl hX (fun K hK => ?_)
   go_wp2_with fail
   refine (refStepN_any S a z [.slice A S.length cap, .int .i64 a, .int .i64 z] _ _ n wd (N9.out.below hX) (HO.out.below hX) HLE.out HBN.out).mono ?_
   rintro e w8 ⟨v8, rfl, hr8, hb8⟩
   rw [HSY.out, HCY.out] at hr8
   go_wp2_with fail
   refine hK _ _ (hb8.mono hX.size) ?_
   clear hK K
   (try simp only [Act.put, qA, qB, qC])
   replace hX := hX.trans (hb8.mono hX.size)
   have R8 := qH (show Row w8 v8 (nums .i64 (behN S (clsN S [a]) (W.take (j + 1)))) by rw [HBE.out]; exact hr8)
   have B8 := qH (BQ.out.trans (hX.mono BQ.out.size))
   clear hr8 hb8
   refine sx_take (i := 7) (oi := ⟨some 5, _, _, _, _, _⟩) (v := ?_) rfl (by kernel_rfl) (by kernel_rfl) (by kernel_rfl) (fun _ _ _ h => h) rfl hX ?_ ?_; rotate_left; (intro W hW; go_simp; try with_reducible rfl); simp only [Act.put, qA, qB, qC]
   refine wpAnyH_done (by kernel_rfl) ?_ _
   clear hX
   go_wp2_with fail
   exact ⟨⟨j + 1, HJ.out, by congr 1, R8.out, B8.out⟩, by simpa [intOf] using HMJ.out⟩
  ·obtain rfl : j = W.length := by omega
   have j1 : ¬ ((W.length : Int) < (W.length : Int)) := by omega
   have c2 := K9.out.cell 2
   have B9 := qH (BW2.out.trans (BQ.out.mono BW2.out.size))
   go_wp2_with fail
   refine (refHasN_any _ z _ wr HO.out).mono ?_
   rintro e w8 ⟨rfl, rfl⟩
   rw [← HC.out]
   go_wp2_with fail
   go_ret
   exact ⟨rfl, B9.out⟩
set_option maxHeartbeats 4000000 in
set_option maxRecDepth 1000000 in
theorem sameN_any (l m : List Int) (V U : Value) (w : World) (hl : Row w V (nums .i64 l)) (hm : Row w U (nums .i64 m)) :
  Calls Try.prog 15 #[V, U] w fun e w' => e = .returned (.bool (decide (l = m))) ∧ Below w.heap.size w w' := by
 have L0 := qH hl
 have M0 := qH hm
 obtain ⟨A, cap, rfl, a1, a2, a0, a3⟩ := hl
 obtain ⟨A2, cap2, rfl, b1, b2, b0, b3⟩ := hm
 rw [nums_length] at a1 L0 b1 M0 ⊢
 rw [nums_length]
 have HLN := qH (And.intro a1 a2)
 clear a3 a0 a2 a1 b0 b1 b2 b3
 by_cases hlen : l.length = m.length
 ·have HLE := qH hlen
  have h0 : ¬ ((l.length : Int) ≠ (m.length : Int)) := by omega
  rw [← hlen] at M0 ⊢
  clear h0 hlen
  go_enter Try.func15, Try.ntmps15
  go_wp2_with fail
  go_loopw [5] (fun iv wl => ∃ j : Nat, j ≤ l.length ∧ iv = .int .i64 (j : Int) ∧ l.take j = m.take j ∧ Below w.heap.size w wl) (fun iv _ => l.length - (intOf iv).toNat)
  case atStart => exact ⟨0, Nat.zero_le _, by simp, rfl, Below.refl _ _⟩
  obtain ⟨j, hj, rfl, he, hb⟩ := hrel
  have HE := qH he
  have BQ := qH hb
  clear he hb
  by_cases hjl : j < l.length
  ·have j1 : (j : Int) < (l.length : Int) := Int.ofNat_lt.2 hjl
   obtain ⟨x, hx⟩ : ∃ x, l[j]? = some x := ⟨_, List.getElem?_eq_getElem hjl⟩
   obtain ⟨y, hy⟩ : ∃ y, m[j]? = some y := ⟨_, List.getElem?_eq_getElem (by have := HLE.out; omega)⟩
   have HX := qH hx
   have HY := qH hy
   obtain ⟨bl, ol, rfl, hbl, hcl⟩ := (L0.out.below BQ.out).at_ (by rw [nums_length]; omega)
   obtain ⟨bm, om, rfl, hbm, hcm⟩ := (M0.out.below BQ.out).at_ (by rw [nums_length]; have := HLE.out; omega)
   have HCL := qH (hcl j (.int .i64 x) (by simp [nums, hx]))
   have HCM := qH (hcm j (.int .i64 y) (by simp [nums, hy]))
   have HBL := qH hbl
   have HBM := qH hbm
   have HJ := qH hjl
   have HMJ := qH (sub_next hjl)
   have e3 := wrap_len HJ.out HLN.out.1 HLN.out.2
   have e4 := wrap_len' HJ.out HLN.out.1 HLN.out.2
   clear hcl hcm hbl hbm hx hy hj hjl
   go_wp2_with fail
   refine sx_startB (B := wr.heap.size) (w0 := wr) (by kernel_rfl) (Below.refl _ _) (fun wd hwd hX => ?_)
   clear hwd
   refine sx_take (i := 0) (oi := ⟨some 17, _, _, _, _, _⟩) (v := ?_) rfl (by kernel_rfl) (by kernel_rfl) (by kernel_rfl) (fun _ _ _ h => h) rfl hX ?_ ?_; rotate_left; (intro W hW; go_simp; try with_reducible rfl); simp only [Act.put, qA, qB, qC]
   refine sx_take (i := 1) (oi := ⟨some 18, _, _, _, _, _⟩) (v := ?_) rfl (by kernel_rfl) (by kernel_rfl) (by kernel_rfl) (fun _ _ _ h => h) rfl hX ?_ ?_; rotate_left; (intro W hW; go_simp; try with_reducible rfl); simp only [Act.put, qA, qB, qC]
   refine sx_take (i := 2) (oi := ⟨some 19, _, _, _, _, _⟩) (v := ?_) rfl (by kernel_rfl) (by kernel_rfl) (by kernel_rfl) (fun _ _ _ h => h) rfl hX ?_ ?_; rotate_left; (intro W hW; go_simp; try with_reducible rfl); simp only [Act.put, qA, qB, qC]
   refine sx_take (i := 3) (oi := ⟨some 20, _, _, _, _, _⟩) (v := .int .i64 x) rfl (by kernel_rfl) (by kernel_rfl) (by kernel_rfl) (fun _ _ _ h => h) rfl hX (fun V hV => ld_int9 (.tmp 19) rfl rfl ((hV.cell (p := ⟨bl, ol + j, none⟩) HBL.out).trans HCL.out)) ?_; simp only [Act.put, qA, qB, qC]
   refine sx_take (i := 4) (oi := ⟨some 21, _, _, _, _, _⟩) (v := ?_) rfl (by kernel_rfl) (by kernel_rfl) (by kernel_rfl) (fun _ _ _ h => h) rfl hX ?_ ?_; rotate_left; (intro W hW; go_simp; try with_reducible rfl); simp only [Act.put, qA, qB, qC]
   refine sx_take (i := 5) (oi := ⟨some 22, _, _, _, _, _⟩) (v := ?_) rfl (by kernel_rfl) (by kernel_rfl) (by kernel_rfl) (fun _ _ _ h => h) rfl hX ?_ ?_; rotate_left; (intro W hW; go_simp; try with_reducible rfl); simp only [Act.put, qA, qB, qC]
   refine sx_take (i := 6) (oi := ⟨some 23, _, _, _, _, _⟩) (v := ?_) rfl (by kernel_rfl) (by kernel_rfl) (by kernel_rfl) (fun _ _ _ h => h) rfl hX ?_ ?_; rotate_left; (intro W hW; go_simp; try with_reducible rfl); simp only [Act.put, qA, qB, qC]
   refine sx_take (i := 7) (oi := ⟨some 24, _, _, _, _, _⟩) (v := .int .i64 y) rfl (by kernel_rfl) (by kernel_rfl) (by kernel_rfl) (fun _ _ _ h => h) rfl hX (fun V hV => ld_int9 (.tmp 23) rfl rfl ((hV.cell (p := ⟨bm, om + j, none⟩) HBM.out).trans HCM.out)) ?_; simp only [Act.put, qA, qB, qC]
   refine sx_take (i := 8) (oi := ⟨some 25, _, _, _, _, _⟩) (v := ?_) rfl (by kernel_rfl) (by kernel_rfl) (by kernel_rfl) (fun _ _ _ h => h) rfl hX ?_ ?_; rotate_left; (intro W hW; go_simp; try with_reducible rfl); simp only [Act.put, qA, qB, qC]
   refine wpAnyH_done (by kernel_rfl) ?_ _
   have BE := qH (BQ.out.trans (hX.mono BQ.out.size))
   clear hX
   by_cases hxy : x = y
   ·subst hxy
    have HE2 := qH (show l.take (j + 1) = m.take (j + 1) by rw [List.take_add_one, List.take_add_one, HE.out, HX.out, HY.out])
    go_wp2_with fail
    exact ⟨⟨j + 1, HJ.out, by congr 1, HE2.out, BE.out⟩, by simpa [intOf] using HMJ.out⟩
   ·have HT := qH (show decide (l = m) = false from decide_eq_false fun h => hxy (by have h1 := HX.out; rw [h, HY.out] at h1; exact (Option.some.inj h1).symm))
    go_wp2_with fail
    go_ret
    rw [HT.out]
    exact ⟨rfl, BE.out⟩
  ·obtain rfl : j = l.length := by omega
   have j1 : ¬ ((l.length : Int) < (l.length : Int)) := by omega
   have HT := qH (show decide (l = m) = true from decide_eq_true (by have h1 := HE.out; rw [List.take_length, HLE.out, List.take_length] at h1; exact h1))
   go_wp2_with fail
   go_ret
   rw [HT.out]
   exact ⟨rfl, BQ.out⟩
 ·have h0 : ¬ ((l.length : Int) = (m.length : Int)) := by omega
  have HT := qH (show decide (l = m) = false from decide_eq_false fun h => hlen (by rw [h]))
  clear hlen
  go_enter Try.func15, Try.ntmps15
  go_wp2_with fail
  go_ret
  rw [HT.out]
  exact ⟨rfl, Below.refl _ _⟩
def lightN (S : List St) (k : Nat) : Prop := S.length ≤ k ∧ ∀ s ∈ S, s.free.length ≤ 20
theorem lightN_at {S : List St} {k : Nat} (h : lightN S k) {i : Nat} {s : St} (hs : S[i]? = some s) : s.free.length ≤ 20 := h.2 s (List.mem_of_getElem? hs)
noncomputable def lightB (S : List St) (k : Nat) : Bool := @decide (lightN S k) (Classical.propDecidable _)
theorem lightB_yes {S : List St} {k : Nat} (h : lightN S k) : lightB S k = true := by
 unfold lightB
 exact (@decide_eq_true_iff _ (Classical.propDecidable _)).2 h
theorem lightB_no {S : List St} {k : Nat} (h : ¬ lightN S k) : lightB S k = false := by
 unfold lightB
 exact (@decide_eq_false_iff_not _ (Classical.propDecidable _)).2 h
set_option maxHeartbeats 4000000 in
set_option maxRecDepth 1000000 in
theorem lightN_any (S : List St) (a z : Int) (k : Nat) (cs : List Value) (w : World) (hv : NfaV w cs S a z) :
  Calls Try.prog 10 #[.agg cs.toArray, .int .i64 (k : Int)] w fun e w' => e = .returned (.bool (lightB S k)) ∧ Below w.heap.size w w' := by
 have N0 := qH hv
 obtain ⟨A, cap, rfl, hlc, hcm, hA0⟩ := hv.len
 have HLN := qH (And.intro hlc hcm)
 clear hv hlc hcm hA0
 go_enter Try.func10, Try.ntmps10
 by_cases h1 : (k : Int) < (S.length : Int)
 ·have HF := qH (show ¬ lightN S k from fun h => by have := h.1; omega)
  go_wp2_with ((with_reducible refine atDst 2 ?_); refine wpList_box rfl 24 _ rfl [.slice A S.length cap, .int .i64 a, .int .i64 z] rfl (Below.refl w.heap.size w) (Nat.le_refl _) ?_; intro w1 hk1 hb1 hs1 _; have B1 := qH hb1; have c0 := hk1.cell 0; clear hk1 hb1 hs1; (try simp only [Act.put, qA, qB, qC]))
  go_ret
  rw [lightB_no HF.out]
  exact ⟨rfl, B1.out⟩
 have HK := qH (show S.length ≤ k by omega)
 go_wp2_with ((with_reducible refine atDst 2 ?_); refine wpList_box rfl 24 _ rfl [.slice A S.length cap, .int .i64 a, .int .i64 z] rfl (Below.refl w.heap.size w) (Nat.le_refl _) ?_; intro w1 hk1 hb1 hs1 _; have K1 := qH hk1; have B1 := qH hb1; have c0 := hk1.cell 0; clear hk1 hb1 hs1; (try simp only [Act.put, qA, qB, qC]))
 have N1 := qH (N0.out.below B1.out)
 go_loopw [5] (fun iv wl => ∃ i : Nat, i ≤ S.length ∧ iv = .int .i64 (i : Int) ∧ (∀ (i' : Nat) (s : St), i' < i → S[i']? = some s → s.free.length ≤ 20) ∧ wl = w1) (fun iv _ => S.length - (intOf iv).toNat)
 case atStart => exact ⟨0, Nat.zero_le _, by simp, fun i' s h => absurd h (Nat.not_lt_zero i'), rfl⟩
 obtain ⟨i, hi, rfl, hok, hw⟩ := hrel
 have hw2 := hw.symm
 subst hw2
 clear hw
 have HOK := qH hok
 clear hok h1
 by_cases hin : i < S.length
 ·have x1 : (i : Int) < (S.length : Int) := Int.ofNat_lt.2 hin
  have HI := qH hin
  have HMI := qH (sub_next hin)
  have e3 := wrap_len HI.out HLN.out.1 HLN.out.2
  have e4 := wrap_len' HI.out HLN.out.1 HLN.out.2
  obtain ⟨s, hs⟩ : ∃ s, S[i]? = some s := ⟨_, List.getElem?_eq_getElem hin⟩
  have HS := qH hs
  obtain ⟨b, off, rfl, _, _, _, Af, cf, hf, _⟩ := N1.out.at_ hs
  obtain ⟨fl, hfl⟩ : ∃ n, n = s.free.length := ⟨_, rfl⟩
  rw [← hfl] at hf
  have HFL := qH hfl
  clear hi hin hs hfl
  by_cases hfl20 : (20 : Int) < (fl : Int)
  ·have HF := qH (show ¬ lightN S k from fun h => by have := lightN_at h HS.out; have := HFL.out; omega)
   go_wp2_with fail
   go_ret
   rw [lightB_no HF.out]
   exact ⟨rfl, B1.out⟩
  ·have HF20 := qH (show s.free.length ≤ 20 by have := HFL.out; omega)
   go_wp2_with fail
   refine ⟨⟨i + 1, HI.out, by congr 1, fun i' s' hi' hs' => ?_, trivial⟩, by simpa [intOf] using HMI.out⟩
   rcases Nat.lt_or_ge i' i with hlt | hge
   ·exact HOK.out i' s' hlt hs'
   ·obtain rfl : i' = i := by omega
    have h9 := HS.out
    rw [hs'] at h9
    injection h9 with h9
    rw [h9]
    exact HF20.out
 ·obtain rfl : i = S.length := by omega
  have x1 : ¬ ((S.length : Int) < (S.length : Int)) := by omega
  have HT := qH (show lightN S k from ⟨HK.out, fun s hs => by
   obtain ⟨i, hi, rfl⟩ := List.getElem_of_mem hs
   exact HOK.out i _ hi (List.getElem?_eq_getElem hi)⟩)
  go_wp2_with fail
  go_ret
  rw [lightB_yes HT.out]
  exact ⟨rfl, B1.out⟩
structure ThC : Prop where
 may : ∀ (S : List St) (a z : Int) (cs : List Value) (w : World), NfaV w cs S a z →
  Calls Try.prog 11 #[.agg cs.toArray] w fun e w' => e = .returned (.bool (mayNB S a z)) ∧ Below w.heap.size w w'
 close : ∀ (S : List St) (a z : Int) (cs : List Value) (l : List Int) (V : Value) (w : World), NfaV w cs S a z → Row w V (nums .i64 l) → l.length ≤ 1000000 →
  Calls Try.prog 16 #[.agg cs.toArray, V] w fun e w' => ∃ v, e = .returned v ∧ Row w' v (nums .i64 (cloN S a z l)) ∧ Below w.heap.size w w'
 step : ∀ (S : List St) (a z : Int) (cs : List Value) (l : List Int) (V : Value) (n : Nat) (w : World), NfaV w cs S a z → Row w V (nums .i64 l) → l.length ≤ 1000000 → n < 256 →
  Calls Try.prog 18 #[.agg cs.toArray, V, .int .u8 (n : Int)] w fun e w' => ∃ v, e = .returned v ∧ Row w' v (nums .i64 (steN S a z l n)) ∧ Below w.heap.size w w'
 run : ∀ (S : List St) (a z : Int) (cs : List Value) (W : List UInt8) (V : Value) (w : World), NfaV w cs S a z → Row w V (bvs W) →
  Calls Try.prog 13 #[.agg cs.toArray, V] w fun e w' => e = .returned (.bool (runB S a z W)) ∧ Below w.heap.size w w'
theorem sameN_self (l : List Int) (V U : Value) (w : World) (hl : Row w V (nums .i64 l)) (hm : Row w U (nums .i64 l)) :
  Calls Try.prog 15 #[V, U] w fun e w' => e = .returned (.bool true) ∧ Below w.heap.size w w' :=
 (sameN_any l l V U w hl hm).mono fun e w' h => by
  obtain ⟨rfl, hb⟩ := h
  exact ⟨by simp, hb⟩
set_option maxHeartbeats 8000000 in
set_option maxRecDepth 1000000 in
theorem runs_walk (T : ThC) (hbg : ∀ w, Calls Try.prog 9 #[] w fun e w' => e = .returned (.bool true) ∧ Below w.heap.size w w')
  (S : List St) (a z : Int) (cs : List Value) (l : List Int) (W : List UInt8) (b : UInt8) (V U : Value) (w : World) (hv : NfaV w cs S a z) (hl : Row w V (nums .i64 l)) (hw : Row w U (bvs W)) :
  Calls Try.prog 3 #[.agg cs.toArray, V, U, bv b] w fun e w' => e = .returned (.bool true) ∧ Below w.heap.size w w' := by
 have N0 := qH hv
 have L0 := qH hl
 have W0 := qH hw
 have HT := qH T
 obtain ⟨A, cap, rfl, hlc, hcm, hA0⟩ := hv.len
 obtain ⟨A1, cap1, rfl, _⟩ := hl
 obtain ⟨A2, cap2, rfl, _⟩ := hw
 rw [nums_length] at L0 ⊢
 rw [bvs_length] at W0 ⊢
 obtain ⟨n, hn⟩ : ∃ n, n = b.toNat := ⟨_, rfl⟩
 have HNB := qH (show n < 256 by rw [hn]; exact b.toNat_lt)
 rw [show bv b = .int .u8 (n : Int) by rw [hn]]
 clear hv hlc hcm hA0 T hn
 go_enter Try.func3, Try.ntmps3
 go_wp2_with ((with_reducible refine atDst 4 ?_); refine wpList_box rfl 24 _ rfl [.slice A S.length cap, .int .i64 a, .int .i64 z] rfl (Below.refl w.heap.size w) (Nat.le_refl _) ?_; intro w1 hk1 hb1 hs1 _; have K1 := qH hk1; have B1 := qH hb1; clear hk1 hb1 hs1; (try simp only [Act.put, qA, qB, qC]))
 refine (hbg w1).mono ?_
 rintro e w2 ⟨rfl, hb⟩
 have K2 := qH (K1.out.below hb K1.out.lt)
 have B2 := qH (B1.out.trans (hb.mono B1.out.size))
 clear hb hbg
 go_wp2_with ((with_reducible refine atDst 11 ?_); refine wpList_ldBlk rfl 24 _ rfl w.heap.size rfl 24 _ _ K2.out Try.underlying24 rfl (size_nfa rfl) ?_; (try simp only [Act.put, qA, qB, qC]))
 refine (lightN_any S a z 40 _ w2 (N0.out.below B2.out)).mono ?_
 rintro e w3 ⟨rfl, hb⟩
 have K3 := qH (K2.out.below hb K2.out.lt)
 have B3 := qH (B2.out.trans (hb.mono B2.out.size))
 have N3 := qH (N0.out.below B3.out)
 have L3 := qH (L0.out.below B3.out)
 have W3 := qH (W0.out.below B3.out)
 clear hb
 obtain ⟨lt, hlt⟩ : ∃ m, lightB S 40 = m := ⟨_, rfl⟩
 rw [hlt]
 clear hlt
 cases lt with
 | false =>
  go_wp2_with fail
  go_ret
  exact ⟨rfl, B3.out⟩
 | true =>
  by_cases hw20 : (20 : Int) < (W.length : Int)
  ·go_wp2_with fail
   go_ret
   exact ⟨rfl, B3.out⟩
  by_cases hl40 : (40 : Int) < (l.length : Int)
  ·go_wp2_with fail
   go_ret
   exact ⟨rfl, B3.out⟩
  have HL := qH (show l.length ≤ 1000000 by omega)
  go_wp2_with fail
  clear hw20 hl40
  refine sx_startB (B := w3.heap.size) (w0 := w3) (by kernel_rfl) (Below.refl _ _) (fun wd hwd hX => ?_)
  clear hwd
  refine sx_take (i := 0) (oi := ⟨some 24, _, _, _, _, _⟩) (v := .agg #[.slice A S.length cap, .int .i64 a, .int .i64 z]) rfl (by kernel_rfl) (by kernel_rfl) (by kernel_rfl) (fun _ _ _ h => h) rfl hX (ld_blk 24 _ rfl w.heap.size rfl 24 [.slice A S.length cap, .int .i64 a, .int .i64 z] _ K3.out K3.out.lt Try.underlying24 rfl (size_nfa rfl)) ?_; simp only [Act.put, qA, qB, qC]
  refine sx_take (i := 2) (oi := ⟨some 26, _, _, _, _, _⟩) (v := .agg #[.slice A S.length cap, .int .i64 a, .int .i64 z]) rfl (by kernel_rfl) (by kernel_rfl) (by kernel_rfl) (fun _ _ _ h => h) rfl hX (ld_blk 24 _ rfl w.heap.size rfl 24 [.slice A S.length cap, .int .i64 a, .int .i64 z] _ K3.out K3.out.lt Try.underlying24 rfl (size_nfa rfl)) ?_; simp only [Act.put, qA, qB, qC]
  refine sx_actB (i := 1) (o := ⟨some 25, _, _, _, _, _⟩) rfl (by kernel_rfl) rfl hX (fun K hK => ?_)
  go_wp2_with fail
  refine (HT.out.may S a z _ wd (N3.out.below hX)).mono ?_
  rintro e w4 ⟨rfl, hb⟩
  go_wp2_with fail
  refine hK _ _ (hb.mono hX.size) ?_
  clear hK K
  (try simp only [Act.put, qA, qB, qC])
  replace hX := hX.trans (hb.mono hX.size)
  clear hb
  refine sx_actB (i := 3) (o := ⟨some 27, _, _, _, _, _⟩) rfl (by kernel_rfl) rfl hX (fun K hK => ?_)
  go_wp2_with fail
  refine (refMayN_any S a z _ w4 (N3.out.below hX)).mono ?_
  rintro e w5 ⟨rfl, hb⟩
  go_wp2_with fail
  refine hK _ _ (hb.mono hX.size) ?_
  clear hK K
  (try simp only [Act.put, qA, qB, qC])
  replace hX := hX.trans (hb.mono hX.size)
  clear hb
  refine sx_take (i := 4) (oi := ⟨some 28, _, _, _, _, _⟩) (v := ?_) rfl (by kernel_rfl) (by kernel_rfl) (by kernel_rfl) (fun _ _ _ h => h) rfl hX ?_ ?_; rotate_left; (intro W hW; go_simp; try with_reducible rfl); simp only [Act.put, qA, qB, qC]
  refine sx_take (i := 5) (oi := ⟨some 29, _, _, _, _, _⟩) (v := ?_) rfl (by kernel_rfl) (by kernel_rfl) (by kernel_rfl) (fun _ _ _ h => h) rfl hX ?_ ?_; rotate_left; (intro W hW; go_simp; try with_reducible rfl); simp only [Act.put, qA, qB, qC]
  refine sx_take (i := 6) (oi := ⟨some 30, _, _, _, _, _⟩) (v := .agg #[.slice A S.length cap, .int .i64 a, .int .i64 z]) rfl (by kernel_rfl) (by kernel_rfl) (by kernel_rfl) (fun _ _ _ h => h) rfl hX (ld_blk 24 _ rfl w.heap.size rfl 24 [.slice A S.length cap, .int .i64 a, .int .i64 z] _ K3.out K3.out.lt Try.underlying24 rfl (size_nfa rfl)) ?_; simp only [Act.put, qA, qB, qC]
  refine sx_take (i := 7) (oi := ⟨some 31, _, _, _, _, _⟩) (v := ?_) rfl (by kernel_rfl) (by kernel_rfl) (by kernel_rfl) (fun _ _ _ h => h) rfl hX ?_ ?_; rotate_left; (intro W hW; go_simp; try with_reducible rfl); simp only [Act.put, qA, qB, qC]
  refine sx_take (i := 9) (oi := ⟨some 33, _, _, _, _, _⟩) (v := .agg #[.slice A S.length cap, .int .i64 a, .int .i64 z]) rfl (by kernel_rfl) (by kernel_rfl) (by kernel_rfl) (fun _ _ _ h => h) rfl hX (ld_blk 24 _ rfl w.heap.size rfl 24 [.slice A S.length cap, .int .i64 a, .int .i64 z] _ K3.out K3.out.lt Try.underlying24 rfl (size_nfa rfl)) ?_; simp only [Act.put, qA, qB, qC]
  refine sx_take (i := 10) (oi := ⟨some 34, _, _, _, _, _⟩) (v := ?_) rfl (by kernel_rfl) (by kernel_rfl) (by kernel_rfl) (fun _ _ _ h => h) rfl hX ?_ ?_; rotate_left; (intro W hW; go_simp; try with_reducible rfl); simp only [Act.put, qA, qB, qC]
  refine sx_actB (i := 8) (o := ⟨some 32, _, _, _, _, _⟩) rfl (by kernel_rfl) rfl hX (fun K hK => ?_)
  go_wp2_with fail
  refine (HT.out.run S a z _ W _ w5 (N3.out.below hX) (W3.out.below hX)).mono ?_
  rintro e w6 ⟨rfl, hb⟩
  go_wp2_with fail
  refine hK _ _ (hb.mono hX.size) ?_
  clear hK K
  (try simp only [Act.put, qA, qB, qC])
  replace hX := hX.trans (hb.mono hX.size)
  clear hb
  refine sx_actB (i := 11) (o := ⟨some 35, _, _, _, _, _⟩) rfl (by kernel_rfl) rfl hX (fun K hK => ?_)
  go_wp2_with fail
  refine (refRunN_any S a z _ W _ w6 (N3.out.below hX) (W3.out.below hX)).mono ?_
  rintro e w7 ⟨rfl, hb⟩
  go_wp2_with fail
  refine hK _ _ (hb.mono hX.size) ?_
  clear hK K
  (try simp only [Act.put, qA, qB, qC])
  replace hX := hX.trans (hb.mono hX.size)
  clear hb
  refine sx_take (i := 12) (oi := ⟨some 36, _, _, _, _, _⟩) (v := ?_) rfl (by kernel_rfl) (by kernel_rfl) (by kernel_rfl) (fun _ _ _ h => h) rfl hX ?_ ?_; rotate_left; (intro W hW; go_simp; try with_reducible rfl); simp only [Act.put, qA, qB, qC]
  refine sx_take (i := 13) (oi := ⟨some 37, _, _, _, _, _⟩) (v := ?_) rfl (by kernel_rfl) (by kernel_rfl) (by kernel_rfl) (fun _ _ _ h => h) rfl hX ?_ ?_; rotate_left; (intro W hW; go_simp; try with_reducible rfl); simp only [Act.put, qA, qB, qC]
  refine sx_take (i := 14) (oi := ⟨some 38, _, _, _, _, _⟩) (v := ?_) rfl (by kernel_rfl) (by kernel_rfl) (by kernel_rfl) (fun _ _ _ h => h) rfl hX ?_ ?_; rotate_left; (intro W hW; go_simp; try with_reducible rfl); simp only [Act.put, qA, qB, qC]
  refine sx_take (i := 15) (oi := ⟨some 39, _, _, _, _, _⟩) (v := .agg #[.slice A S.length cap, .int .i64 a, .int .i64 z]) rfl (by kernel_rfl) (by kernel_rfl) (by kernel_rfl) (fun _ _ _ h => h) rfl hX (ld_blk 24 _ rfl w.heap.size rfl 24 [.slice A S.length cap, .int .i64 a, .int .i64 z] _ K3.out K3.out.lt Try.underlying24 rfl (size_nfa rfl)) ?_; simp only [Act.put, qA, qB, qC]
  refine sx_take (i := 16) (oi := ⟨some 40, _, _, _, _, _⟩) (v := ?_) rfl (by kernel_rfl) (by kernel_rfl) (by kernel_rfl) (fun _ _ _ h => h) rfl hX ?_ ?_; rotate_left; (intro W hW; go_simp; try with_reducible rfl); simp only [Act.put, qA, qB, qC]
  refine sx_take (i := 18) (oi := ⟨some 42, _, _, _, _, _⟩) (v := .agg #[.slice A S.length cap, .int .i64 a, .int .i64 z]) rfl (by kernel_rfl) (by kernel_rfl) (by kernel_rfl) (fun _ _ _ h => h) rfl hX (ld_blk 24 _ rfl w.heap.size rfl 24 [.slice A S.length cap, .int .i64 a, .int .i64 z] _ K3.out K3.out.lt Try.underlying24 rfl (size_nfa rfl)) ?_; simp only [Act.put, qA, qB, qC]
  refine sx_take (i := 19) (oi := ⟨some 43, _, _, _, _, _⟩) (v := ?_) rfl (by kernel_rfl) (by kernel_rfl) (by kernel_rfl) (fun _ _ _ h => h) rfl hX ?_ ?_; rotate_left; (intro W hW; go_simp; try with_reducible rfl); simp only [Act.put, qA, qB, qC]
  refine sx_actB (i := 17) (o := ⟨some 41, _, _, _, _, _⟩) rfl (by kernel_rfl) rfl hX (fun K hK => ?_)
  go_wp2_with fail
  refine (HT.out.close S a z _ l _ w7 (N3.out.below hX) (L3.out.below hX) HL.out).mono ?_
  rintro e w8 ⟨vw8, rfl, hr, hb⟩
  go_wp2_with fail
  refine hK _ _ (hb.mono hX.size) ?_
  clear hK K
  (try simp only [Act.put, qA, qB, qC])
  replace hX := hX.trans (hb.mono hX.size)
  have Qw8 := qH hr
  have Cw8 := qH hb
  clear hr hb
  refine sx_actB (i := 20) (o := ⟨some 44, _, _, _, _, _⟩) rfl (by kernel_rfl) rfl hX (fun K hK => ?_)
  go_wp2_with fail
  refine (refCloseN_any S a z _ l _ w8 (N3.out.below hX) (L3.out.below hX)).mono ?_
  rintro e w9 ⟨vw9, rfl, hr, hb⟩
  go_wp2_with fail
  refine hK _ _ (hb.mono hX.size) ?_
  clear hK K
  (try simp only [Act.put, qA, qB, qC])
  replace hX := hX.trans (hb.mono hX.size)
  have Qw9 := qH hr
  have Cw9 := qH hb
  clear hr hb
  refine sx_actB (i := 21) (o := ⟨some 45, _, _, _, _, _⟩) rfl (by kernel_rfl) rfl hX (fun K hK => ?_)
  go_wp2_with fail
  refine (sameN_self _ _ _ w9 (Qw8.out.below Cw9.out) Qw9.out).mono ?_
  rintro e wA ⟨rfl, hb⟩
  go_wp2_with fail
  refine hK _ _ (hb.mono hX.size) ?_
  clear hK K
  (try simp only [Act.put, qA, qB, qC])
  replace hX := hX.trans (hb.mono hX.size)
  clear hb
  refine sx_take (i := 22) (oi := ⟨some 46, _, _, _, _, _⟩) (v := ?_) rfl (by kernel_rfl) (by kernel_rfl) (by kernel_rfl) (fun _ _ _ h => h) rfl hX ?_ ?_; rotate_left; (intro W hW; go_simp; try with_reducible rfl); simp only [Act.put, qA, qB, qC]
  refine sx_take (i := 23) (oi := ⟨some 47, _, _, _, _, _⟩) (v := ?_) rfl (by kernel_rfl) (by kernel_rfl) (by kernel_rfl) (fun _ _ _ h => h) rfl hX ?_ ?_; rotate_left; (intro W hW; go_simp; try with_reducible rfl); simp only [Act.put, qA, qB, qC]
  refine sx_take (i := 24) (oi := ⟨some 48, _, _, _, _, _⟩) (v := .agg #[.slice A S.length cap, .int .i64 a, .int .i64 z]) rfl (by kernel_rfl) (by kernel_rfl) (by kernel_rfl) (fun _ _ _ h => h) rfl hX (ld_blk 24 _ rfl w.heap.size rfl 24 [.slice A S.length cap, .int .i64 a, .int .i64 z] _ K3.out K3.out.lt Try.underlying24 rfl (size_nfa rfl)) ?_; simp only [Act.put, qA, qB, qC]
  refine sx_take (i := 25) (oi := ⟨some 49, _, _, _, _, _⟩) (v := ?_) rfl (by kernel_rfl) (by kernel_rfl) (by kernel_rfl) (fun _ _ _ h => h) rfl hX ?_ ?_; rotate_left; (intro W hW; go_simp; try with_reducible rfl); simp only [Act.put, qA, qB, qC]
  refine sx_take (i := 26) (oi := ⟨some 50, _, _, _, _, _⟩) (v := ?_) rfl (by kernel_rfl) (by kernel_rfl) (by kernel_rfl) (fun _ _ _ h => h) rfl hX ?_ ?_; rotate_left; (intro W hW; go_simp; try with_reducible rfl); simp only [Act.put, qA, qB, qC]
  refine sx_take (i := 28) (oi := ⟨some 52, _, _, _, _, _⟩) (v := .agg #[.slice A S.length cap, .int .i64 a, .int .i64 z]) rfl (by kernel_rfl) (by kernel_rfl) (by kernel_rfl) (fun _ _ _ h => h) rfl hX (ld_blk 24 _ rfl w.heap.size rfl 24 [.slice A S.length cap, .int .i64 a, .int .i64 z] _ K3.out K3.out.lt Try.underlying24 rfl (size_nfa rfl)) ?_; simp only [Act.put, qA, qB, qC]
  refine sx_take (i := 29) (oi := ⟨some 53, _, _, _, _, _⟩) (v := ?_) rfl (by kernel_rfl) (by kernel_rfl) (by kernel_rfl) (fun _ _ _ h => h) rfl hX ?_ ?_; rotate_left; (intro W hW; go_simp; try with_reducible rfl); simp only [Act.put, qA, qB, qC]
  refine sx_take (i := 30) (oi := ⟨some 54, _, _, _, _, _⟩) (v := ?_) rfl (by kernel_rfl) (by kernel_rfl) (by kernel_rfl) (fun _ _ _ h => h) rfl hX ?_ ?_; rotate_left; (intro W hW; go_simp; try with_reducible rfl); simp only [Act.put, qA, qB, qC]
  refine sx_actB (i := 27) (o := ⟨some 51, _, _, _, _, _⟩) rfl (by kernel_rfl) rfl hX (fun K hK => ?_)
  go_wp2_with fail
  refine (HT.out.step S a z _ l _ n wA (N3.out.below hX) (L3.out.below hX) HL.out HNB.out).mono ?_
  rintro e wB ⟨vwB, rfl, hr, hb⟩
  go_wp2_with fail
  refine hK _ _ (hb.mono hX.size) ?_
  clear hK K
  (try simp only [Act.put, qA, qB, qC])
  replace hX := hX.trans (hb.mono hX.size)
  have QwB := qH hr
  have CwB := qH hb
  clear hr hb
  refine sx_actB (i := 31) (o := ⟨some 55, _, _, _, _, _⟩) rfl (by kernel_rfl) rfl hX (fun K hK => ?_)
  go_wp2_with fail
  refine (refStepN_any S a z _ l _ n wB (N3.out.below hX) (L3.out.below hX) HL.out HNB.out).mono ?_
  rintro e wC ⟨vwC, rfl, hr, hb⟩
  go_wp2_with fail
  refine hK _ _ (hb.mono hX.size) ?_
  clear hK K
  (try simp only [Act.put, qA, qB, qC])
  replace hX := hX.trans (hb.mono hX.size)
  have QwC := qH hr
  have CwC := qH hb
  clear hr hb
  refine sx_actB (i := 32) (o := ⟨some 56, _, _, _, _, _⟩) rfl (by kernel_rfl) rfl hX (fun K hK => ?_)
  go_wp2_with fail
  refine (sameN_self _ _ _ wC (QwB.out.below CwC.out) QwC.out).mono ?_
  rintro e wD ⟨rfl, hb⟩
  go_wp2_with fail
  refine hK _ _ (hb.mono hX.size) ?_
  clear hK K
  (try simp only [Act.put, qA, qB, qC])
  replace hX := hX.trans (hb.mono hX.size)
  clear hb
  refine sx_take (i := 33) (oi := ⟨some 57, _, _, _, _, _⟩) (v := ?_) rfl (by kernel_rfl) (by kernel_rfl) (by kernel_rfl) (fun _ _ _ h => h) rfl hX ?_ ?_; rotate_left; (intro W hW; go_simp; try with_reducible rfl); simp only [Act.put, qA, qB, qC]
  refine sx_take (i := 34) (oi := ⟨some 8, _, _, _, _, _⟩) (v := ?_) rfl (by kernel_rfl) (by kernel_rfl) (by kernel_rfl) (fun _ _ _ h => h) rfl hX ?_ ?_; rotate_left; (intro W hW; go_simp; try with_reducible rfl); simp only [Act.put, qA, qB, qC]
  refine wpAnyH_done (by kernel_rfl) ?_ _
  have BD := qH (B3.out.trans (hX.mono B3.out.size))
  clear hX
  go_wp2_with fail
  go_ret
  exact ⟨rfl, BD.out⟩
end Go.Proofs.Ytmcpfaaakmehdaa
