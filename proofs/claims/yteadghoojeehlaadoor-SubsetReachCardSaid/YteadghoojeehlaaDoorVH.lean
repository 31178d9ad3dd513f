/-
  Texts of this proof, put together: ThH, BsAh, BsA, BsO, BsB, SetCA, SetD, SetE, SetK, BsH. No statement is proved here.
-/
import Derived.Test.YteadghoojeehlaaDoorVG
import Derived.Test.YteadghoojeehlaaDoorVB
import Derived.Test.YteadghoojeehlaaDoorVD
import Derived.Test.YteadghoojeehlaaDoorVC
namespace Go.Proofs.YteadghoojeehlaaDoor
open Go.RowKit
set_option linter.unusedSimpArgs false
set_option linter.unusedVariables false
theorem clsN_len (S : List St) (l : List Int) : (clsN S l).length ≤ S.length := risJ_len _ _
theorem behN_len (S : List St) : ∀ (W : List UInt8) (l : List Int), l.length ≤ S.length → (behN S l W).length ≤ S.length
 | [], l, h => h
 | b :: W, l, _ => behN_len S W _ (clsN_len S _)
theorem behN_take {S : List St} {l : List Int} {W : List UInt8} {j : Nat} {b : UInt8} (h : W[j]? = some b) : behN S l (W.take (j + 1)) = stpN S (behN S l (W.take j)) b.toNat := by
 rw [List.take_add_one, h]
 show behN S l (W.take j ++ [b]) = _
 rw [behN_app]
 rfl
noncomputable def runB (S : List St) (a z : Int) (W : List UInt8) : Bool := mayNB S a z && runN S a z W
theorem runB_no {S : List St} {a z : Int} {W : List UInt8} (h : mayNB S a z = false) : runB S a z W = false := by
 unfold runB
 rw [h]
 rfl
theorem runB_yes {S : List St} {a z : Int} {W : List UInt8} (h : mayNB S a z = true) : runB S a z W = decide (z ∈ behN S (clsN S [a]) (W.take W.length)) := by
 unfold runB runN
 rw [h, List.take_length, Bool.true_and]
 congr
theorem ld_u9 {ev : Operand → Value} {o : Oper} (x : Operand) (ho : o.op = .load 5 x) {p : Addr} (hx : ev x = .pointer (some p)) {k : Int} {W : World} (hc : W.cell? p = some (.int .u8 k)) : (execOp ev o).run Tryd.prog W = .ok (.value (.int .u8 k)) W := by
 simp only [execOp, ho, hx]
 go_simp
set_option maxHeartbeats 4000000 in
set_option maxRecDepth 1000000 in
theorem refRunN_any (S : List St) (a z : Int) (cs : List Value) (W : List UInt8) (V : Value) (w : World) (hv : NfaV w cs S a z) (hr : Row w V (bvs W)) :
  Calls Tryd.prog 13 #[.agg cs.toArray, V] w fun e w' => e = .returned (.bool (runB S a z W)) ∧ Below w.heap.size w w' := by
 have N0 := qH hv
 have R0 := qH hr
 obtain ⟨A, cap, rfl, hlc, hcm, hA0⟩ := hv.len
 obtain ⟨A2, cap2, rfl, a1, a2, a0, a3⟩ := hr
 rw [bvs_length] at a1 R0 ⊢
 have HLN := qH (And.intro a1 a2)
 clear a3 a0 a2 a1 hv hlc hcm hA0
 obtain ⟨i1, hi1, hy0, hy1, hy2⟩ := infoP inf_int
 go_enter Tryd.func13, Tryd.ntmps13
 go_wp2_with (first
  | ((with_reducible refine atDst 2 ?_); refine wpList_box rfl 24 _ rfl [.slice A S.length cap, .int .i64 a, .int .i64 z] rfl (Below.refl w.heap.size w) (Nat.le_refl _) ?_; intro w1 hk1 hb1 hs1 _; have K1 := qH hk1; have B1 := qH hb1; clear hk1 hb1 hs1; (try simp only [Act.put, qA, qB, qC]))
  | ((with_reducible refine atDst 7 ?_); refine wpList_ldBlk rfl 24 _ rfl w.heap.size rfl 24 _ _ K1.out Tryd.underlying24 rfl (size_nfa rfl) ?_; (try simp only [Act.put, qA, qB, qC])))
 refine (refMayN_any S a z _ w1 (N0.out.below B1.out)).mono ?_
 rintro e w2 ⟨rfl, hb2⟩
 have B2 := qH hb2
 have BW2 := qH (B1.out.trans (hb2.mono B1.out.size))
 have K2 := qH (K1.out.below hb2 K1.out.lt)
 clear hb2
 obtain ⟨m, hm⟩ : ∃ m, mayNB S a z = m := ⟨_, rfl⟩
 rw [hm]
 cases m with
 | false =>
  have HC := qH (runB_no (W := W) hm)
  clear hm
  go_wp2_with fail
  go_ret
  rw [HC.out]
  exact ⟨rfl, BW2.out⟩
 | true =>
  have HC := qH (runB_yes (W := W) hm)
  have HM := qH (mayNB_iff.1 hm)
  have HSY := qH (fun l b => steN_yes (l := l) (b := b) hm)
  have HCY := qH (fun l => cloN_yes (l := l) hm)
  clear hm
  have N2 := qH (N0.out.below BW2.out)
  have R2 := qH (R0.out.below BW2.out)
  have c1 := K2.out.cell 1
  have BA := qH (show Below w2.heap.size w2 (w2.alloc (.cells #[.int .i64 a] 3)) from (Below.refl _ _).alloc (Nat.le_refl _) _)
  have RA := qH (rowB (n := 1) (show Blk (w2.alloc (.cells #[.int .i64 a] 3)) w2.heap.size 3 (nums .i64 [a]) from Blk.new w2 3 (nums .i64 [a])) rfl (by omega))
  go_wp2_with ((with_reducible refine atDst 10 ?_); refine wpList_ldBlk rfl 24 _ rfl w.heap.size rfl 24 _ _ K2.out Tryd.underlying24 rfl (size_nfa rfl) ?_; (try simp only [Act.put, qA, qB, qC]))
  refine (refCloseN_any S a z _ [a] _ _ (N2.out.below BA.out) RA.out).mono ?_
  rintro e w3 ⟨v, rfl, hr3, hb3⟩
  have R3 := qH hr3
  have B3 := qH (BA.out.trans (hb3.mono BA.out.size))
  rw [HCY.out] at R3
  clear hr3 hb3 c1
  go_wp2_with fail
  go_loopw [5, 6] (fun v iv wl => ∃ j : Nat, j ≤ W.length ∧ iv = .int .i64 (j : Int) ∧ Row wl v (nums .i64 (behN S (clsN S [a]) (W.take j))) ∧ Below w2.heap.size w2 wl) (fun _ iv _ => W.length - (intOf iv).toNat)
  case atStart => exact ⟨0, Nat.zero_le _, by simp, R3.out, B3.out⟩
  clear R3 B3
  obtain ⟨j, hj, rfl, ho, hb⟩ := hrel
  have HO := qH ho
  have BQ := qH hb
  have K9 := qH (K2.out.below hb K2.out.lt)
  have N9 := qH (N2.out.below hb)
  clear ho hb
  by_cases hjl : j < W.length
  ·have j1 : (j : Int) < (W.length : Int) := Int.ofNat_lt.2 hjl
   obtain ⟨b, hx⟩ : ∃ x, W[j]? = some x := ⟨_, List.getElem?_eq_getElem hjl⟩
   have HX := qH hx
   obtain ⟨bl, ol, rfl, hbl, hcell⟩ := (R2.out.below BQ.out).at_ (by rw [bvs_length]; omega)
   have HCJ := qH (show wr.cell? ⟨bl, ol + j, none⟩ = some (.int .u8 (b.toNat : Int)) from hcell j _ (bvs_get W j b hx))
   have HBL := qH hbl
   have HJ := qH hjl
   have HMJ := qH (sub_next hjl)
   have e3 := wrap_len HJ.out HLN.out.1 HLN.out.2
   have e4 := wrap_len' HJ.out HLN.out.1 HLN.out.2
   have HBE := qH (behN_take (S := S) (l := clsN S [a]) hx)
   have HBN := qH (show b.toNat < 256 from b.toNat_lt)
   have HLE := qH (show (behN S (clsN S [a]) (W.take j)).length ≤ 1000000 by
    have h1 := behN_len S (W.take j) _ (clsN_len S [a])
    have h2 := HM.out.few
    omega)
   obtain ⟨n, hn⟩ : ∃ n, n = b.toNat := ⟨_, rfl⟩
   rw [← hn] at HCJ HBE HBN
   clear hcell hbl hx hj hjl hn
   go_wp2_with fail
   refine sx_startB (B := wr.heap.size) (w0 := wr) (by kernel_rfl) (Below.refl _ _) (fun wd hwd hX => ?_)
   clear hwd
   refine sx_take (i := 0) (oi := ⟨some 21, _, _, _, _, _⟩) (v := .agg #[.slice A S.length cap, .int .i64 a, .int .i64 z]) rfl (by kernel_rfl) (by kernel_rfl) (by kernel_rfl) (fun _ _ _ h => h) rfl hX (ld_blk 24 _ rfl w.heap.size rfl 24 [.slice A S.length cap, .int .i64 a, .int .i64 z] _ K9.out K9.out.lt Tryd.underlying24 rfl (size_nfa rfl)) ?_; simp only [Act.put, qA, qB, qC]
   refine sx_take (i := 1) (oi := ⟨some 22, _, _, _, _, _⟩) (v := ?_) rfl (by kernel_rfl) (by kernel_rfl) (by kernel_rfl) (fun _ _ _ h => h) rfl hX ?_ ?_; rotate_left; (intro W hW; go_simp; try with_reducible rfl); simp only [Act.put, qA, qB, qC]
   refine sx_take (i := 2) (oi := ⟨some 23, _, _, _, _, _⟩) (v := ?_) rfl (by kernel_rfl) (by kernel_rfl) (by kernel_rfl) (fun _ _ _ h => h) rfl hX ?_ ?_; rotate_left; (intro W hW; go_simp; try with_reducible rfl); simp only [Act.put, qA, qB, qC]
   refine sx_take (i := 3) (oi := ⟨some 24, _, _, _, _, _⟩) (v := ?_) rfl (by kernel_rfl) (by kernel_rfl) (by kernel_rfl) (fun _ _ _ h => h) rfl hX ?_ ?_; rotate_left; (intro W hW; go_simp; try with_reducible rfl); simp only [Act.put, qA, qB, qC]
   refine sx_take (i := 4) (oi := ⟨some 25, _, _, _, _, _⟩) (v := ?_) rfl (by kernel_rfl) (by kernel_rfl) (by kernel_rfl) (fun _ _ _ h => h) rfl hX ?_ ?_; rotate_left; (intro W hW; go_simp; try with_reducible rfl); simp only [Act.put, qA, qB, qC]
   refine sx_take (i := 5) (oi := ⟨some 26, _, _, _, _, _⟩) (v := .int .u8 (n : Int)) rfl (by kernel_rfl) (by kernel_rfl) (by kernel_rfl) (fun _ _ _ h => h) rfl hX (fun V hV => ld_u9 (.tmp 25) rfl rfl ((hV.cell (p := ⟨bl, ol + j, none⟩) HBL.out).trans HCJ.out)) ?_; simp only [Act.put, qA, qB, qC]
   refine sx_actB (i := 6) (o := ⟨some 27, _, _, _, _, _⟩) rfl (by kernel_rfl) rfl hX (fun K hK => ?_)
   go_wp2_with fail
   refine (refStepN_any S a z [.slice A S.length cap, .int .i64 a, .int .i64 z] _ _ n wd (N9.out.below hX) (HO.out.below hX) HLE.out HBN.out).mono ?_
   rintro e w8 ⟨v8, rfl, hr8, hb8⟩
   rw [HSY.out, HCY.out] at hr8
   go_wp2_with fail
   refine hK _ _ (hb8.mono hX.size) ?_
   clear hK K
   (try simp only [Act.put, qA, qB, qC])
   replace hX := hX.trans (hb8.mono hX.size)
   have R8 := qH (show Row w8 v8 (nums .i64 (behN S (clsN S [a]) (W.take (j + 1)))) by rw [HBE.out]; exact hr8)
   have B8 := qH (BQ.out.trans (hX.mono BQ.out.size))
   clear hr8 hb8
   refine sx_take (i := 7) (oi := ⟨some 5, _, _, _, _, _⟩) (v := ?_) rfl (by kernel_rfl) (by kernel_rfl) (by kernel_rfl) (fun _ _ _ h => h) rfl hX ?_ ?_; rotate_left; (intro W hW; go_simp; try with_reducible rfl); simp only [Act.put, qA, qB, qC]
   refine wpAnyH_done (by kernel_rfl) ?_ _
   clear hX
   go_wp2_with fail
   exact ⟨⟨j + 1, HJ.out, by congr 1, R8.out, B8.out⟩, by simpa [intOf] using HMJ.out⟩
  ·obtain rfl : j = W.length := by omega
   have j1 : ¬ ((W.length : Int) < (W.length : Int)) := by omega
   have c2 := K9.out.cell 2
   have B9 := qH (BW2.out.trans (BQ.out.mono BW2.out.size))
   go_wp2_with fail
   refine (refHasN_any _ z _ wr HO.out).mono ?_
   rintro e w8 ⟨rfl, rfl⟩
   rw [← HC.out]
   go_wp2_with fail
   go_ret
   exact ⟨rfl, B9.out⟩
theorem has_bit2 (x k : Nat) (hx : x < 18446744073709551616) : (bits .and .u64 ((x : Int) / 2 ^ k) 1 == 1) = decide (x / 2 ^ k % 2 = 1) := by
 have e : (2 ^ k : Int) = ((2 ^ k : Nat) : Int) := by rw [Int.natCast_pow]; rfl
 have hlt : x / 2 ^ k < 18446744073709551616 := Nat.lt_of_le_of_lt (Nat.div_le_self _ _) hx
 rw [e, ← Int.natCast_ediv]
 generalize x / 2 ^ k = y at hlt
 rw [show (1 : Int) = ((1 : Nat) : Int) from rfl, u64_and_nat y 1 hlt (by omega), Nat.and_one_is_mod, Bool.eq_iff_iff, beq_iff_eq, decide_eq_true_iff]
 omega
set_option maxHeartbeats 2000000 in
set_option maxRecDepth 100000 in
theorem bsOf_any (v : Value) (l : List UInt8) (w : World) (hr : Row w v (bvs l)) (hl : l.length ≤ 1048576) :
  Calls Tryd.prog 53 #[v] w fun e w' => e = .returned (.agg (wds fun b => decide (UInt8.ofNat b ∈ l)).toArray) ∧ Below w.heap.size w w' := by
 have R0 := qH hr
 obtain ⟨A, cap, rfl, a1, a2, a0, a3⟩ := hr
 rw [bvs_length] at a1 R0 ⊢
 clear a3 a0 a2
 obtain ⟨i0, hi0, hz0⟩ := info_set
 obtain ⟨z, hz⟩ : ∃ z : Nat → Bool, z = fun _ => false := ⟨_, rfl⟩
 rw [← hz] at hz0
 have HZ := qH hz
 clear hz
 go_enter Tryd.func53, Tryd.ntmps53
 go_wp2_with ((with_reducible refine atDst 2 ?_); refine wpList_new rfl 47 rfl i0 _ (wds z) hi0 hz0 rfl (Below.refl w.heap.size w) (Nat.le_refl _) ?_; intro w1 hk1 hb1 hs1 _; have K1 := qH hk1; have B1 := qH hb1; clear hk1 hb1 hs1)
 go_loopw [7] (fun i wl => ∃ j : Nat, j ≤ l.length ∧ i = .int .i64 (j : Int) ∧ Blk wl w.heap.size 47 (wds fun b => decide (UInt8.ofNat b ∈ l.take j)) ∧ Below w.heap.size w wl) (fun i _ => l.length - (intOf i).toNat)
 case atStart => exact ⟨0, by omega, by simp, by simpa [HZ.out] using K1.out, B1.out⟩
 case round =>
  obtain ⟨j, hj, rfl, hk, hb⟩ := hrel
  have KR := qH hk
  have BR := qH hb
  clear hk hb
  by_cases hjl : j < l.length
  ·have i1 : (j : Int) < (l.length : Int) := by omega
   obtain ⟨b0, off, rfl, hb0, hcell⟩ := (R0.out.below BR.out).at_ (by rw [bvs_length]; omega)
   have hcj := hcell j _ (bvs_get l j l[j] (List.getElem?_eq_getElem hjl))
   obtain ⟨c, hc⟩ : ∃ c : UInt8, c = l[j] := ⟨_, rfl⟩
   rw [← hc] at hcj
   have HC := qH hc
   have hlt := c.toNat_lt
   obtain ⟨n, hn⟩ : ∃ n, n = c.toNat := ⟨_, rfl⟩
   have hcj' : wr.cell? ⟨b0, off + j, none⟩ = some (.int .u8 (n : Int)) := by rw [hn]; exact hcj
   rw [← hn] at hlt
   have HN := qH hn
   have hgc := KR.out.cell (n / 64)
   rw [wds_get _ (n / 64) (by omega)] at hgc
   obtain ⟨x, hx⟩ : ∃ x, x = word (fun b => decide (UInt8.ofNat b ∈ l.take j)) (n / 64) := ⟨_, rfl⟩
   rw [← hx] at hgc
   have hfz := KR.out.frozen (n / 64)
   have HX := qH hx
   have hlx : x < 18446744073709551616 := by rw [hx]; exact word_lt _ _
   have hsh := shl_bit (n % 64) (Nat.mod_lt _ (by omega))
   clear hcell hc hcj hn hx
   have hq1 : IntKind.u8.wrap ((n : Int) / 64) = ((n / 64 : Nat) : Int) := IntWalk.u8_in _ (by omega)
   have hq2 : ((n : Int).tmod 64) = ((n % 64 : Nat) : Int) := by rw [Int.tmod_eq_emod_of_nonneg (by omega)]; rfl
   have hq3 : (n : Int) / 64 < 4 := by omega
   have hq4 : 0 ≤ (n : Int) / 64 := by omega
   have hq5 : ((n : Int) / 64).toNat = n / 64 := by omega
   go_wp2_with fail
   refine ⟨⟨j + 1, by omega, by congr 1, ?_, (BR.out.setCell (p := ⟨w.heap.size, n / 64, none⟩) (Nat.le_refl _) _)⟩, by simp [intOf] <;> omega⟩
   rw [of_bits hlx (Nat.mod_lt n (by omega))]
   have hk := KR.out.set (n / 64) (.int .u64 ((x ||| 2 ^ (n % 64) : Nat) : Int))
   rw [HX.out, wds_put _ n (by omega)] at hk
   rw [HX.out]
   rw [wds_congr (q := fun b => decide (UInt8.ofNat b ∈ l.take j) || decide (b = n)) (fun b hb => ?_)]
   ·exact hk
   ·rw [List.take_succ_eq_append_getElem hjl, ← HC.out]
    exact mem_next b c n hb HN.out _
  ·obtain rfl : j = l.length := by omega
   have i1 : ¬ ((l.length : Int) < (l.length : Int)) := by omega
   have k9 := KR.out
   rw [List.take_length] at k9
   obtain ⟨q, hq⟩ : ∃ q : Nat → Bool, q = fun b => decide (UInt8.ofNat b ∈ l) := ⟨_, rfl⟩
   rw [← hq] at k9
   have K9 := qH k9
   have HQ := qH hq
   clear k9 hq KR
   go_wp2_with (first
    | ((with_reducible refine atDst 21 ?_); refine wpList_ldArr rfl 47 _ rfl w.heap.size rfl 47 _ _ K9.out Tryd.underlying47 rfl (size_set q) ?_)
    | ((with_reducible refine atStore 47 2 21 ?_); refine wpList_stBlk rfl 47 _ _ rfl w.heap.size (wds q) rfl rfl 47 _ K9.out (size_set q) rfl (wds_all _) BR.out (Nat.le_refl _) ?_; intro w3 hk3 hb3 hs3 _; have K3 := qH hk3; have B3 := qH hb3; clear hk3 hb3))
   refine bodyPost_ret (results_blk rfl _ _ w.heap.size 47 _ _ rfl K3.out Tryd.underlying47 rfl (size_set q)) rfl ?_
   exact ⟨by rw [HQ.out], B3.out⟩
def cutW (r : Nat → Bool) (j : Nat) : Nat → Bool := fun b => decide (b < 64 * j) && r b
theorem cutW_zero (r : Nat → Bool) : cutW r 0 = fun _ => false := by
 funext b
 simp [cutW]
theorem cutW_four (r : Nat → Bool) : wds (cutW r 4) = wds r := wds_congr fun b hb => by simp [cutW]; omega
theorem cutW_same (r : Nat → Bool) {i j : Nat} (h : i ≠ j) : word (cutW r j) i = word (cutW r (j + 1)) i := wd_congr fun k hk => by
 have : decide (64 * i + k < 64 * j) = decide (64 * i + k < 64 * (j + 1)) := decide_eq_decide.2 (by omega)
 simp only [cutW, this]
theorem cutW_here (r : Nat → Bool) (j : Nat) : word (cutW r (j + 1)) j = word r j := wd_congr fun k hk => by
 have : decide (64 * j + k < 64 * (j + 1)) = true := decide_eq_true (by omega)
 simp only [cutW, this, Bool.true_and]
theorem cutW_next (r : Nat → Bool) (j : Nat) (hj : j < 4) : (wds (cutW r j)).set j (.int .u64 (word r j : Int)) = wds (cutW r (j + 1)) := by
 rw [← cutW_here r j]
 match j, hj with
 | 0, _ => simp only [wds, List.set_cons_zero]; rw [cutW_same r (i := 1) (j := 0) (by omega), cutW_same r (i := 2) (j := 0) (by omega), cutW_same r (i := 3) (j := 0) (by omega)]
 | 1, _ => simp only [wds, List.set_cons_zero, List.set_cons_succ]; rw [cutW_same r (i := 0) (j := 1) (by omega), cutW_same r (i := 2) (j := 1) (by omega), cutW_same r (i := 3) (j := 1) (by omega)]
 | 2, _ => simp only [wds, List.set_cons_zero, List.set_cons_succ]; rw [cutW_same r (i := 0) (j := 2) (by omega), cutW_same r (i := 1) (j := 2) (by omega), cutW_same r (i := 3) (j := 2) (by omega)]
 | 3, _ => simp only [wds, List.set_cons_zero, List.set_cons_succ]; rw [cutW_same r (i := 0) (j := 3) (by omega), cutW_same r (i := 1) (j := 3) (by omega), cutW_same r (i := 2) (j := 3) (by omega)]
theorem word_not (p : Nat → Bool) (i : Nat) : (18446744073709551615 : Nat) ^^^ word p i = word (fun b => !p b) i := by
 rw [show (18446744073709551615 : Nat) = 2 ^ 64 - 1 from rfl]
 apply Nat.eq_of_testBit_eq
 intro j
 rw [Nat.testBit_xor, Nat.testBit_two_pow_sub_one]
 simp only [word, wd_bit]
 cases decide (j < 64) <;> simp
set_option maxHeartbeats 2000000 in
set_option maxRecDepth 100000 in
theorem bsAnd_any (p q : Nat → Bool) (w : World) :
  Calls Tryd.prog 39 #[.agg (wds p).toArray, .agg (wds q).toArray] w fun e w' => e = .returned (.agg (wds fun b => Bool.and (p b) (q b)).toArray) ∧ Below w.heap.size w w' := by
 obtain ⟨r, hr⟩ : ∃ r : Nat → Bool, r = fun b => Bool.and (p b) (q b) := ⟨_, rfl⟩
 have HOP := qH (show ∀ i, HAnd.hAnd (word p i) (word q i) = word r i from fun i => by rw [hr]; exact word_and p q i)
 rw [← hr]
 clear hr
 obtain ⟨i0, hi0, hz0⟩ := info_set
 obtain ⟨z, hz⟩ : ∃ z : Nat → Bool, z = fun _ => false := ⟨_, rfl⟩
 rw [← hz] at hz0
 have HZ := qH hz
 clear hz
 go_enter Tryd.func39, Tryd.ntmps39
 go_wp2_with (first
  | ((with_reducible refine atDst 2 ?_); refine wpList_box rfl 47 _ rfl (wds p) rfl (Below.refl w.heap.size w) (Nat.le_refl _) ?_; intro w1 hk1 hb1 hs1 _; have K1 := qH hk1; have B1 := qH hb1; clear hk1 hb1 hs1)
  | ((with_reducible refine atDst 3 ?_); refine wpList_box rfl 47 _ rfl (wds q) rfl B1.out B1.out.size ?_; intro w2 hk2 hb2 hs2 ho2; have L2 := qH hk2; have B2 := qH hb2; have K2 := qH (show Blk w2 w.heap.size 47 (wds p) from (ho2 _ K1.out.lt).trans K1.out); clear hk2 hb2 hs2 ho2)
  | ((with_reducible refine atDst 4 ?_); refine wpList_new rfl 47 rfl i0 _ (wds z) hi0 hz0 rfl B2.out B2.out.size ?_; intro w3 hk3 hb3 hs3 ho3; have M3 := qH hk3; have B3 := qH hb3; have K3 := qH (show Blk w3 w.heap.size 47 (wds p) from (ho3 _ K2.out.lt).trans K2.out); have L3 := qH (show Blk w3 w1.heap.size 47 (wds q) from (ho3 _ L2.out.lt).trans L2.out); clear hk3 hb3 hs3 ho3))
 go_loopw [6] (fun i wl => ∃ j : Nat, j ≤ 4 ∧ i = .int .i64 (j : Int) ∧ Blk wl w2.heap.size 47 (wds (cutW r j)) ∧ Below w2.heap.size w3 wl) (fun i _ => 4 - (intOf i).toNat)
 case atStart => exact ⟨0, by omega, by simp, by rw [cutW_zero, ← HZ.out]; exact M3.out, Below.refl _ _⟩
 case round =>
  obtain ⟨j, hj, rfl, hk, hb⟩ := hrel
  have KR := qH hk
  have BR := qH hb
  clear hk hb
  by_cases hjl : j < 4
  ·have j1 : (j : Int) < 4 := by omega
   have hcp := (K3.out.below BR.out K2.out.lt).cell j
   rw [wds_get p j hjl] at hcp
   have hcq := (L3.out.below BR.out L2.out.lt).cell j
   rw [wds_get q j hjl] at hcq
   have hfz := KR.out.frozen j
   have hcr := KR.out.cell j
   rw [wds_get _ j hjl] at hcr
   obtain ⟨x, hx⟩ : ∃ x, x = word p j := ⟨_, rfl⟩
   obtain ⟨y, hy⟩ : ∃ y, y = word q j := ⟨_, rfl⟩
   obtain ⟨z2, hz2⟩ : ∃ y, y = word (cutW r j) j := ⟨_, rfl⟩
   rw [← hx] at hcp
   rw [← hy] at hcq
   rw [← hz2] at hcr
   have hlx : x < 18446744073709551616 := by rw [hx]; exact word_lt _ _
   have hly : y < 18446744073709551616 := by rw [hy]; exact word_lt _ _
   have HXY := qH (show HAnd.hAnd x y = word r j by rw [hx, hy]; exact HOP.out j)
   clear hx hy hz2
   go_wp2_with fail
   go_still_tail 9, (by kernel_rfl)
   change wpList _ _ _ _ _ wr.drew
   go_wp2_with fail
   refine ⟨⟨j + 1, by omega, by congr 1, ?_, (BR.out.setCell (p := ⟨w2.heap.size, j, none⟩) (Nat.le_refl _) _).drew⟩, by simp [intOf] <;> omega⟩
   have hk := KR.out.set j (.int .u64 ((HAnd.hAnd x y : Nat) : Int))
   rw [HXY.out, cutW_next r j hjl] at hk
   rw [u64_and_nat x y hlx hly, HXY.out]
   exact hk.drew
  ·obtain rfl : j = 4 := by omega
   have k9 := KR.out
   rw [cutW_four] at k9
   have K9 := qH k9
   have B9 := qH (B3.out.trans (BR.out.mono B2.out.size))
   clear k9 KR
   go_wp2_with (first
    | ((with_reducible refine atDst 19 ?_); refine wpList_ldArr rfl 47 _ rfl w2.heap.size rfl 47 _ _ K9.out Tryd.underlying47 rfl (size_set r) ?_)
    | ((with_reducible refine atStore 47 4 19 ?_); refine wpList_stBlk rfl 47 _ _ rfl w2.heap.size (wds r) rfl rfl 47 _ K9.out (size_set r) rfl (wds_all _) B9.out B2.out.size ?_; intro w4 hk4 hb4 hs4 _; have K4 := qH hk4; have B4 := qH hb4; clear hk4 hb4))
   refine bodyPost_ret (results_blk rfl _ _ w2.heap.size 47 _ _ rfl K4.out Tryd.underlying47 rfl (size_set r)) rfl ?_
   exact ⟨rfl, B4.out⟩
set_option maxHeartbeats 2000000 in
set_option maxRecDepth 100000 in
theorem bsNot_any (p : Nat → Bool) (w : World) :
  Calls Tryd.prog 63 #[.agg (wds p).toArray] w fun e w' => e = .returned (.agg (wds fun b => !p b).toArray) ∧ Below w.heap.size w w' := by
 obtain ⟨r, hr⟩ : ∃ r : Nat → Bool, r = fun b => !p b := ⟨_, rfl⟩
 have HOP := qH (show ∀ i, (18446744073709551615 : Nat) ^^^ word p i = word r i from fun i => by rw [hr]; exact word_not p i)
 rw [← hr]
 clear hr
 obtain ⟨i0, hi0, hz0⟩ := info_set
 obtain ⟨z, hz⟩ : ∃ z : Nat → Bool, z = fun _ => false := ⟨_, rfl⟩
 rw [← hz] at hz0
 have HZ := qH hz
 clear hz
 go_enter Tryd.func63, Tryd.ntmps63
 go_wp2_with (first
  | ((with_reducible refine atDst 1 ?_); refine wpList_box rfl 47 _ rfl (wds p) rfl (Below.refl w.heap.size w) (Nat.le_refl _) ?_; intro w1 hk1 hb1 hs1 _; have K1 := qH hk1; have B1 := qH hb1; clear hk1 hb1 hs1)
  | ((with_reducible refine atDst 2 ?_); refine wpList_new rfl 47 rfl i0 _ (wds z) hi0 hz0 rfl B1.out B1.out.size ?_; intro w2 hk2 hb2 hs2 ho2; have M2 := qH hk2; have B2 := qH hb2; have K2 := qH (show Blk w2 w.heap.size 47 (wds p) from (ho2 _ K1.out.lt).trans K1.out); clear hk2 hb2 hs2 ho2))
 go_loopw [4] (fun i wl => ∃ j : Nat, j ≤ 4 ∧ i = .int .i64 (j : Int) ∧ Blk wl w1.heap.size 47 (wds (cutW r j)) ∧ Below w1.heap.size w2 wl) (fun i _ => 4 - (intOf i).toNat)
 case atStart => exact ⟨0, by omega, by simp, by rw [cutW_zero, ← HZ.out]; exact M2.out, Below.refl _ _⟩
 case round =>
  obtain ⟨j, hj, rfl, hk, hb⟩ := hrel
  have KR := qH hk
  have BR := qH hb
  clear hk hb
  by_cases hjl : j < 4
  ·have j1 : (j : Int) < 4 := by omega
   have hcp := (K2.out.below BR.out K1.out.lt).cell j
   rw [wds_get p j hjl] at hcp
   have hfz := KR.out.frozen j
   have hcr := KR.out.cell j
   rw [wds_get _ j hjl] at hcr
   obtain ⟨x, hx⟩ : ∃ x, x = word p j := ⟨_, rfl⟩
   obtain ⟨z2, hz2⟩ : ∃ y, y = word (cutW r j) j := ⟨_, rfl⟩
   rw [← hx] at hcp
   rw [← hz2] at hcr
   have hlx : x < 18446744073709551616 := by rw [hx]; exact word_lt _ _
   have HXY := qH (show (18446744073709551615 : Nat) ^^^ x = word r j by rw [hx]; exact HOP.out j)
   clear hx hz2
   go_wp2_with fail
   refine ⟨⟨j + 1, by omega, by congr 1, ?_, (BR.out.setCell (p := ⟨w1.heap.size, j, none⟩) (Nat.le_refl _) _)⟩, by simp [intOf] <;> omega⟩
   have hk := KR.out.set j (.int .u64 ((18446744073709551615 ^^^ x : Nat) : Int))
   rw [HXY.out, cutW_next r j hjl] at hk
   have e0 : (if IntKind.u64.signed = true then (-1 : Int) else IntKind.u64.max) = ((18446744073709551615 : Nat) : Int) := by decide
   rw [e0, u64_xor_nat 18446744073709551615 x (by omega) hlx, HXY.out]
   exact hk
  ·obtain rfl : j = 4 := by omega
   have k9 := KR.out
   rw [cutW_four] at k9
   have K9 := qH k9
   have B9 := qH (B2.out.trans (BR.out.mono B1.out.size))
   clear k9 KR
   go_wp2_with (first
    | ((with_reducible refine atDst 14 ?_); refine wpList_ldArr rfl 47 _ rfl w1.heap.size rfl 47 _ _ K9.out Tryd.underlying47 rfl (size_set r) ?_)
    | ((with_reducible refine atStore 47 2 14 ?_); refine wpList_stBlk rfl 47 _ _ rfl w1.heap.size (wds r) rfl rfl 47 _ K9.out (size_set r) rfl (wds_all _) B9.out B1.out.size ?_; intro w4 hk4 hb4 hs4 _; have K4 := qH hk4; have B4 := qH hb4; clear hk4 hb4))
   refine bodyPost_ret (results_blk rfl _ _ w1.heap.size 47 _ _ rfl K4.out Tryd.underlying47 rfl (size_set r)) rfl ?_
   exact ⟨rfl, B4.out⟩
/-! ### alike -/
def alikeS (ps : List (Nat → Bool)) (a b : Nat) : Bool := ps.all fun p => p a == p b
def firstJ (ps : List (Nat → Bool)) : Nat → List Nat
 | 0 => []
 | j + 1 => if (firstJ ps j).any (fun f => alikeS ps j f) then firstJ ps j else firstJ ps j ++ [j]
def clsOf (ps : List (Nat → Bool)) (j : Nat) : Nat := (firstJ ps j).findIdx fun f => alikeS ps j f
theorem firstJ_len (ps : List (Nat → Bool)) : ∀ j, (firstJ ps j).length ≤ j
 | 0 => Nat.le_refl _
 | j + 1 => by
  have := firstJ_len ps j
  simp only [firstJ]
  split
  ·omega
  ·rw [List.length_append]; simp; omega
theorem firstJ_lt (ps : List (Nat → Bool)) : ∀ (j f : Nat), f ∈ firstJ ps j → f < j
 | 0, _, h => by simp [firstJ] at h
 | j + 1, f, h => by
  simp only [firstJ] at h
  split at h
  ·exact Nat.lt_succ_of_lt (firstJ_lt ps j f h)
  ·rcases List.mem_append.1 h with h | h
   ·exact Nat.lt_succ_of_lt (firstJ_lt ps j f h)
   ·have : f = j := by simpa using h
    omega
theorem clsOf_le (ps : List (Nat → Bool)) (j : Nat) : clsOf ps j ≤ (firstJ ps j).length := List.findIdx_le_length
theorem firstJ_hit {ps : List (Nat → Bool)} {j : Nat} (h : clsOf ps j < (firstJ ps j).length) : firstJ ps (j + 1) = firstJ ps j := by
 have : (firstJ ps j).any (fun f => alikeS ps j f) = true := by
  rw [List.any_eq_true]
  exact ⟨(firstJ ps j)[clsOf ps j], List.getElem_mem h, List.findIdx_getElem (w := h)⟩
 simp only [firstJ]
 rw [if_pos this]
theorem firstJ_new {ps : List (Nat → Bool)} {j : Nat} (h : clsOf ps j = (firstJ ps j).length) : firstJ ps (j + 1) = firstJ ps j ++ [j] := by
 have : ¬ (firstJ ps j).any (fun f => alikeS ps j f) = true := by
  rw [List.any_eq_true]
  rintro ⟨f, hf, ha⟩
  have := List.findIdx_lt_length_of_exists (p := fun f => alikeS ps j f) ⟨f, hf, ha⟩
  unfold clsOf at h
  omega
 simp only [firstJ]
 rw [if_neg this]
def ctab (ps : List (Nat → Bool)) (j : Nat) : List UInt8 := (List.range 256).map fun b => if b < j then UInt8.ofNat (clsOf ps b) else 0
theorem ctab_length (ps : List (Nat → Bool)) (j : Nat) : (ctab ps j).length = 256 := by simp [ctab]
theorem ctab_zero : ∃ i : TypeInfo, Tryd.prog.info? 28 = some i ∧ i.zero = some (.agg (bvs (ctab [] 0)).toArray) := by
 have h : ((Tryd.prog.info? 28).map (·.zero)) = some (some (.agg (bvs (ctab [] 0)).toArray)) := by kernel_rfl
 cases hi : Tryd.prog.info? 28 with
 | none => rw [hi] at h; cases h
 | some i =>
  rw [hi] at h
  exact ⟨i, rfl, by simpa using h⟩
theorem size_ctab {l : List UInt8} (h : l.length = 256) : (Tryd.prog.info? 28).map (·.size) = some (bvs l).length := by
 rw [bvs_length, h]
 kernel_rfl
theorem bvs_all' (l : List UInt8) : (bvs l).all (·.oneCell') = true := by
 rw [List.all_eq_true]
 exact bvs_one l
theorem firstJ_mono (ps : List (Nat → Bool)) (j : Nat) : ∀ d, (firstJ ps j).length ≤ (firstJ ps (j + d)).length
 | 0 => Nat.le_refl _
 | d + 1 => by
  refine Nat.le_trans (firstJ_mono ps j d) ?_
  rw [show j + (d + 1) = (j + d) + 1 from rfl]
  simp only [firstJ]
  split
  ·exact Nat.le_refl _
  ·rw [List.length_append]; omega
theorem clsOf_lt (ps : List (Nat → Bool)) {j : Nat} (hj : j < 256) : clsOf ps j < (firstJ ps 256).length := by
 have h1 := firstJ_mono ps (j + 1) (256 - (j + 1))
 rw [show j + 1 + (256 - (j + 1)) = 256 from by omega] at h1
 have h2 := clsOf_le ps j
 rcases Nat.lt_or_ge (clsOf ps j) (firstJ ps j).length with h | h
 ·rw [firstJ_hit h] at h1
  omega
 ·rw [firstJ_new (by omega), List.length_append] at h1
  simp at h1
  omega
def outs (ps : List (Nat → Bool)) (n j : Nat) : List (Nat → Bool) := (List.range n).map fun k b => decide (b < j) && decide (clsOf ps b = k)
theorem outs_length (ps : List (Nat → Bool)) (n j : Nat) : (outs ps n j).length = n := by simp [outs]
theorem outs_at (ps : List (Nat → Bool)) (n j i : Nat) (h : i < (outs ps n j).length) : (outs ps n j)[i] = fun b => decide (b < j) && decide (clsOf ps b = i) := by
 simp only [outs, List.getElem_map, List.getElem_range]
theorem outs_get {ps : List (Nat → Bool)} {n j k : Nat} (hk : k < n) : (outs ps n j)[k]? = some fun b => decide (b < j) && decide (clsOf ps b = k) := by simp [outs, hk]
theorem inf_set : (Tryd.prog.info? 47).map (fun i => (i.zero, i.size, i.bytes)) = some (some (.agg (wds fun _ => false).toArray), 4, 32) := by kernel_rfl
def parts (ps : List (Nat → Bool)) : List (Nat → Bool) := outs ps (firstJ ps 256).length 256
theorem guard_set : Tryd.prog.eqGuardType Tryd.prog.depth 47 = false := by kernel_rfl
theorem size_u64 : ∀ w, (sizeOf 45).run Tryd.prog w = .ok 1 w := by
 intro w
 have h : (Tryd.prog.info? 45).map (·.size) = some 1 := by kernel_rfl
 cases hi : Tryd.prog.info? 45 with
 | none => rw [hi] at h; cases h
 | some i =>
  rw [hi] at h
  have h' : i.size = 1 := by simpa using h
  simp [sizeOf, typeInfo, hi, h']
section
variable {P : Program} {w : World} {ops : Array Oper} {rest : List Oper} {o : Oper} {a : Act} {Q : Exit → Act → World → Prop} {K : Act → World → Prop}
theorem run_bldSet1 (t e : TypeId) (i : TypeInfo) (ht : P.underlying t = some (.slice e)) (hi : P.info? e = some i) (hz : i.zero = some (.agg (wds fun _ => false).toArray)) (hs : i.size = 4) (q : Nat → Bool) :
  (Instr.buildSlice t 1 #[(0, .agg (wds q).toArray)]).run P w = .ok (.slice (some ⟨w.heap.size, 0, none⟩) 1 1) (w.alloc (.cells (sets [q]).toArray e)) := by
 have hzv : (zeroValue e).run P w = .ok (.agg (wds fun _ => false).toArray) w := by simp [zeroValue, typeInfo, hi, hz]
 simp [Instr.buildSlice, run_underlying ht, sizeOf, typeInfo, hi, hs, hzv, Value.cells, Instr.fill, wds, Array.range_succ, Array.range_zero', newRow, sets]
theorem wp_bldSet1 (t e : TypeId) (x : Operand) (ho : o.op = .buildSlice t 1 #[(0, x)]) (i : TypeInfo) (ht : P.underlying t = some (.slice e)) (hi : P.info? e = some i) (hz : i.zero = some (.agg (wds fun _ => false).toArray)) (hs : i.size = 4) (q : Nat → Bool)
  (hx : a.eval x = .agg (wds q).toArray) (h : K (a.put o.dst (.slice (some ⟨w.heap.size, 0, none⟩) 1 1)) (w.alloc (.cells (sets [q]).toArray e))) : o.wp P a w K Q := by
 have hrun := run_bldSet1 (P := P) (w := w) t e i ht hi hz hs q
 unfold Oper.wp
 simp only [execOp, ho, List.map_toArray, List.map_cons, List.map_nil, hx, hrun, Sem.run_bind, Result.andThen_ok, Sem.run_pure]
 exact h
theorem wpList_bldSet1 (hg : o.guard = none) (t e : TypeId) (x : Operand) (ho : o.op = .buildSlice t 1 #[(0, x)]) (i : TypeInfo) (ht : P.underlying t = some (.slice e)) (hi : P.info? e = some i) (hz : i.zero = some (.agg (wds fun _ => false).toArray)) (hs : i.size = 4) (q : Nat → Bool)
  (hx : a.eval x = .agg (wds q).toArray)
  (h : ∀ w', Blk w' w.heap.size e (sets [q]) → Below w.heap.size w w' → wpList P ops Q rest (a.put o.dst (.slice (some ⟨w.heap.size, 0, none⟩) 1 1)) w') : wpList P ops Q (o :: rest) a w :=
 wpList_plain hg fun _ hK => wp_bldSet1 t e x ho i ht hi hz hs q hx (hK _ _ (h _ (Blk.new w e _) ((Below.refl _ _).alloc (Nat.le_refl _) _)))
end
/-! ### begun -/
def pieces (p s : Nat → Bool) : List (Nat → Bool) := [fun b => p b && s b, fun b => p b && !s b]
def nonE (q : Nat → Bool) : Bool := !eqS q fun _ => false
def splitS (ps : List (Nat → Bool)) (s : Nat → Bool) : List (Nat → Bool) := ps.flatMap fun p => (pieces p s).filter nonE
theorem splitS_next (ps : List (Nat → Bool)) (s : Nat → Bool) (j : Nat) (h : j < ps.length) : splitS (ps.take (j + 1)) s = splitS (ps.take j) s ++ (pieces ps[j] s).filter nonE := by
 unfold splitS
 rw [List.take_succ_eq_append_getElem h, List.flatMap_append, List.flatMap_cons, List.flatMap_nil, List.append_nil]
theorem splitS_len (s : Nat → Bool) : ∀ ps : List (Nat → Bool), (splitS ps s).length ≤ 2 * ps.length
 | [] => Nat.le_refl _
 | p :: r => by
  have h1 : ((pieces p s).filter nonE).length ≤ 2 := List.length_filter_le _ _
  have h2 := splitS_len s r
  have e : splitS (p :: r) s = (pieces p s).filter nonE ++ splitS r s := by simp [splitS]
  rw [e, List.length_append, List.length_cons]
  omega
theorem pieces_next (p s : Nat → Bool) (k : Nat) (q : Nat → Bool) (hk : (pieces p s)[k]? = some q) : ((pieces p s).take (k + 1)).filter nonE = ((pieces p s).take k).filter nonE ++ if nonE q then [q] else [] := by
 obtain ⟨h, e⟩ := List.getElem?_eq_some_iff.1 hk
 rw [List.take_succ_eq_append_getElem h, List.filter_append, e]
 cases hq : nonE q <;> simp [hq]
/-! ### rows of sets of the call's own -/
theorem own4Below {w w' : World} {base B n k : Nat} {e : TypeId} {v : Value} {xs : List Value} (h : w.ownsRow base e k v n xs) (hb : Below B w w') (hB : w.heap.size ≤ B) : w'.ownsRow base e k v n xs := by
 refine ⟨h.1, ?_⟩
 rcases h.2 with h0 | ⟨g, cap, cur, rfl, hb2, hg, h3⟩
 ·exact .inl h0
 ·exact .inr ⟨g, cap, cur, rfl, hb2, (hb.block g (Nat.lt_of_lt_of_le (Array.getElem?_eq_some_iff.1 hg).1 hB)).trans hg, h3⟩
theorem own4_above {w : World} {base n k : Nat} {e : TypeId} {v : Value} {xs : List Value} (h : w.ownsRow base e k v n xs) : ∀ j, v.ownBlock = some j → base ≤ j := by
 intro j hj
 rcases h.2 with ⟨rfl, h0⟩ | ⟨g, cap, cur, rfl, hb, hg, _⟩
 ·cases hj
 ·have hk' : some g = some j := hj
  injection hk' with hk'
  omega
theorem own4_lt {w : World} {base n k : Nat} {e : TypeId} {v : Value} {xs : List Value} (h : w.ownsRow base e k v n xs) : ∀ j, v.ownBlock = some j → j < w.heap.size := by
 intro j hj
 rcases h.2 with ⟨rfl, h0⟩ | ⟨g, cap, cur, rfl, hb, hg, _⟩
 ·cases hj
 ·have hk' : some g = some j := hj
  injection hk' with hk'
  subst hk'
  exact (Array.getElem?_eq_some_iff.1 hg).1
theorem own4N (w : World) (B : Nat) (e : TypeId) : w.ownsRow B e 4 (.slice none 0 0) 0 [] := ⟨by simp, .inl ⟨rfl, rfl⟩⟩
theorem own4_row {w : World} {base : Nat} {e : TypeId} {v : Value} {ps : List (Nat → Bool)} (h : w.ownsRow base e 4 v ps.length (sets ps)) : RowS w v ps := by
 rcases h.2 with ⟨rfl, h0⟩ | ⟨g, cap, cur, rfl, hb, hg, hn, hm, hs, ht⟩
 ·obtain rfl : ps = [] := List.eq_nil_of_length_eq_zero h0
  exact RowS.nil w
 ·refine ⟨_, cap, rfl, hn, hm, (fun h => by cases h), fun _ => ⟨g, 0, rfl, (Array.getElem?_eq_some_iff.1 hg).1, fun i p hp j u hu => ?_⟩⟩
  have hi := (List.getElem?_eq_some_iff.1 hp).1
  have hj : j < 4 := by simpa [wds_length] using (List.getElem?_eq_some_iff.1 hu).1
  have e1 := sets_get hp j hj
  rw [hu, ← ht, List.getElem?_take, if_pos (by omega), Array.getElem?_toList] at e1
  rw [cell_of_row w g _ cur e (0, 0) hg, Nat.zero_add, e1]
section
variable {P : Program} {w : World} {ops : Array Oper} {rest : List Oper} {o : Oper} {a : Act} {Q : Exit → Act → World → Prop}
theorem wpList_appS {base : Nat} (hgd : o.guard = none) (s x : Operand) (t : TypeId)
  (ho : o.op = .call { callee := .builtin .append, args := #[s, x], argTypes := #[t, t] })
  (e : TypeId) (i : TypeInfo) (ht : P.underlying t = some (.slice e)) (hi : P.info? e = some i) (hz : i.zero = some (.agg (wds fun _ => false).toArray))
  (hsize : i.size = 4) (hby : i.bytes = 32)
  (v : Value) (ps : List (Nat → Bool)) (hs : a.eval s = v) (hown : w.ownsRow base e 4 v ps.length (sets ps))
  (g c : Nat) (tg : TypeId) (qs : List (Nat → Bool)) (hx : a.eval x = .slice (some ⟨g, 0, none⟩) qs.length c) (hr : Blk w g tg (sets qs))
  (hlen : ps.length + qs.length ≤ 1048576) (hb : base ≤ w.heap.size)
  (h : ∀ v' w', w'.ownsRow base e 4 v' (ps ++ qs).length (sets (ps ++ qs)) → w.grownBy w' v.ownBlock → wpList P ops Q rest (a.put o.dst v') w') : wpList P ops Q (o :: rest) a w := by
 refine wpList_plain hgd fun K hK => ?_
 refine wp_append_own w s x t ho base e i _ 4 32 ht hi hz hsize hby (by simp [Value.cells, wds]) (by omega) v ps.length (sets ps) hs hown ⟨g, 0, none⟩ qs.length c (sets qs) hx (sets_length qs) (fun j u hj => ?_) (sets_one qs) (by unfold maxLen; omega) (by omega) hb
  (fun v' w' h2 h3 _ => hK _ _ (h v' w' ?_ h3))
 ·rw [Addr.add_lit, Nat.zero_add, hr.cell j]; exact hj
 ·rw [List.length_append, sets_append]; exact h2
theorem wpList_ldMid (hgd : o.guard = none) (ty : TypeId) (x : Operand) (ho : o.op = .load ty x) (b off : Nat) (hx : a.eval x = .pointer (some ⟨b, off, none⟩)) (cs : List Value) (d : TypeDesc)
  (hg : w.rangeAt b off cs) (hu : P.underlying ty = some d) (hd : d.isRow = true) (hi : (P.info? ty).map (·.size) = some cs.length)
  (h : wpList P ops Q rest (a.put o.dst (.agg cs.toArray)) w) : wpList P ops Q (o :: rest) a w :=
 wpList_plain hgd fun _ hK => wp_load_mid ty x ho b off hx cs d hg hu hd hi (hK _ _ h)
theorem wpList_neSet_is (hgd : Region.wanted o (yielded ops a.tmps) = true) {b : Bool} {p q : Nat → Bool} (hb : (!eqS p q) = b) (t e : TypeId) (x y : Operand) (oT : TypeId) (ho : o.op = .binOp .neq t x y oT) (hm : P.eqGuardType P.depth t = false)
  (ht : P.underlying t = some (.array 4 e)) (he : P.underlying e = some (.int .u64)) (hsz : ∀ w, (sizeOf e).run P w = .ok 1 w)
  (ex : a.eval x = .agg (wds p).toArray) (ey : a.eval y = .agg (wds q).toArray)
  (h : wpList P ops Q rest (a.put o.dst (.bool b)) w) : wpList P ops Q (o :: rest) a w := by
 refine BigFrame.wpList_want hgd fun K hK => ?_
 unfold Oper.wp
 simp only [execOp, ho, ex, ey, Sem.run_bind, run_eqGuard_agg w .neq t x y _ _ hm, Result.andThen_ok, run_neq_sets w t e ht he hsz p q, Sem.run_pure, hb]
 exact hK _ _ h
end
theorem runTwo (p q : Nat → Bool) (w : World) : (Instr.build 123 #[(0, .agg (wds p).toArray), (1, .agg (wds q).toArray)]).run Tryd.prog w = .ok (.agg (wds p ++ wds q).toArray) w := by kernel_rfl
theorem idxP0 (p q : Nat → Bool) (w : World) : (Instr.index 123 (.agg (wds p ++ wds q).toArray) (.int .i64 0)).run Tryd.prog w = .ok (.agg (wds p).toArray) w := by kernel_rfl
theorem idxP1 (p q : Nat → Bool) (w : World) : (Instr.index 123 (.agg (wds p ++ wds q).toArray) (.int .i64 1)).run Tryd.prog w = .ok (.agg (wds q).toArray) w := by kernel_rfl
theorem zeroB : Tryd.prog.built 47 [] = some (wds fun _ => false).toArray := by kernel_rfl
end Go.Proofs.YteadghoojeehlaaDoor
