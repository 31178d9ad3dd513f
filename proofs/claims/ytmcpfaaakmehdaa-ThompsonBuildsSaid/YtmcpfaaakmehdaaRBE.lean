/-
  Texts of this proof, put together: SpD. No statement is proved here.
-/
import Derived.Test.YtmcpfaaakmehdaaRBD
namespace Go.Proofs.Ytmcpfaaakmehdaa
open Go.RowKit
set_option linter.unusedSimpArgs false
set_option linter.unusedVariables false
def bhR (f u : Nat → Nat → Bool) (n i : Nat) (r : Nat → Bool) (p q : Nat) : Bool := if p < i then bhJ f u p n q else if p = i then r q else false
def bhK (f u : Nat → Nat → Bool) (i j k q : Nat) : Bool := if q < k then bhJ f u i (j + 1) q else bhJ f u i j q
theorem bhK_start {f u : Nat → Nat → Bool} {i j : Nat} : bhK f u i j j = bhJ f u i j := by
 funext q
 unfold bhK
 by_cases h : q < j
 ·rw [if_pos h, bhJ_low h]
 ·rw [if_neg h]
theorem bhK_at (f u : Nat → Nat → Bool) (i j k : Nat) : bhK f u i j k k = bhJ f u i j k := by unfold bhK; rw [if_neg (by omega)]
theorem bhK_put {f u : Nat → Nat → Bool} {i j k : Nat} (hi : i ≤ j) (hj : j ≤ k) (h : f i j = true) : updB (bhK f u i j k) k (bhJ f u i j k || u j k) = bhK f u i j (k + 1) := by
 funext q
 unfold updB bhK
 by_cases hq : q = k
 ·subst hq
  rw [if_pos rfl, if_pos (by omega), bhJ_at hi hj h]
 ·rw [if_neg hq]
  by_cases h2 : q < k
  ·rw [if_pos h2, if_pos (by omega)]
  ·rw [if_neg h2, if_neg (by omega)]
theorem bhR_at (f u : Nat → Nat → Bool) (n i : Nat) (r : Nat → Bool) : bhR f u n i r i = r := by funext q; unfold bhR; rw [if_neg (by omega), if_pos rfl]
theorem bhR_put (f u : Nat → Nat → Bool) (n i : Nat) (r : Nat → Bool) (q : Nat) (b : Bool) : upd2 (bhR f u n i r) i q b = bhR f u n i (updB r q b) := by
 funext p q'
 unfold upd2
 by_cases hp : p = i
 ·subst hp
  rw [if_pos rfl, bhR_at, bhR_at]
 ·rw [if_neg hp]
  unfold bhR
  by_cases h : p < i
  ·rw [if_pos h, if_pos h]
  ·rw [if_neg h, if_neg h, if_neg hp, if_neg hp]
theorem bhR_next {f u : Nat → Nat → Bool} {n i p q : Nat} (hp : p < i + 1) (hq : q < n) : bhR f u n i (bhJ f u i n) p q = bhR f u n (i + 1) (fun _ => false) p q := by
 unfold bhR
 by_cases h : p < i
 ·rw [if_pos h, if_pos (by omega)]
 ·rw [if_neg h, if_pos (by omega), if_pos (by omega)]
  obtain rfl : p = i := by omega
  rfl
theorem bhR_row (f u : Nat → Nat → Bool) (n i q : Nat) : bhR f u n i (fun _ => false) i q = false := by rw [bhR_at]
theorem bhR_zero (f u : Nat → Nat → Bool) (n i : Nat) : bhR f u n i (bhJ f u i i) = bhR f u n i (fun _ => false) := by rw [bhJ_start]
theorem bhR_all {f u : Nat → Nat → Bool} {n p q : Nat} (hp : p < n) (r : Nat → Bool) : bhR f u n n r p q = bhJ f u p n q := by unfold bhR; rw [if_pos hp]
theorem bhK_all {f u : Nat → Nat → Bool} {n i j p q : Nat} (hq : q < n) : bhR f u n i (bhK f u i j n) p q = bhR f u n i (bhJ f u i (j + 1)) p q := by
 unfold bhR bhK
 rw [if_pos hq]
theorem lt62 {j n : Nat} (h : j < n) (hn : n ≤ 1048576) : j ≤ 4611686018427387904 := by omega
set_option maxHeartbeats 4000000 in
set_option maxRecDepth 1000000 in
theorem refBehind_any (n : Nat) (hn : n ≤ 1048576) {Bt gt Bu gu : Nat} {bt bu : Nat → Nat} {ft fu : Nat → Nat → Bool} (w : World) (ht : Tbl w Bt gt bt n n ft) (hu : Tbl w Bu gu bu n n fu) :
  Calls Try.prog 70 #[.slice (some ⟨gt, 0, none⟩) n n, .slice (some ⟨gu, 0, none⟩) n n] w fun e w' => ∃ g bs, e = .returned (.slice (some ⟨g, 0, none⟩) n n) ∧ Tbl w' w.heap.size g bs n n (fun p q => bhJ ft fu p n q) ∧ Below w.heap.size w w' := by
 have HN := qH hn
 have T0 := qH ht
 have U0 := qH hu
 obtain ⟨i1, hi1, hz1, hs1, hy1⟩ := infoP inf_bools
 obtain ⟨i2, hi2, hz2, hs2, hy2⟩ := infoP inf_bool
 have HY1 := qH (show i1.bytes * n ≤ 281474976710656 by rw [hy1]; omega)
 have HY2 := qH (show i2.bytes * n ≤ 281474976710656 by rw [hy2]; omega)
 have HN3 := qH (show n ≤ 9223372036854775807 by omega)
 clear hn ht hu hy1 hy2
 go_enter Try.func70, Try.ntmps70
 go_wp2_with ((with_reducible refine atDst 11 ?_); refine wpList_mk _ rfl _ _ 81 rfl 66 i1 (.slice none 0 0) Try.underlying81 hi1 hz1 hs1 rfl n _ _ _ _ rfl rfl rfl rfl HY1.out HN3.out ?_; intro w1 hk hb hs; have T1 := qH (Tbl.new (B := w.heap.size) hk (Nat.le_refl _) (fun _ => 0) (bhR ft fu n 0 (fun _ => false))); have B1 := qH hb; clear hk hb hs; (try simp only [Act.put, qA, qB, qC]))
 go_loopw [6] (fun iv wl => ∃ (i : Nat) (bs : Nat → Nat), i ≤ n ∧ iv = .int .i64 (i : Int) ∧ Tbl wl w.heap.size w.heap.size bs n i (bhR ft fu n i (fun _ => false)) ∧ Below w.heap.size w wl) (fun iv _ => n - (intOf iv).toNat)
 case atStart => exact ⟨0, _, Nat.zero_le _, by simp, T1.out, B1.out⟩
 case round =>
  obtain ⟨i, bs0, hi, rfl, hT, hB⟩ := hrel
  have TQ := qH hT
  have BQ := qH hB
  clear hT hB
  by_cases hin : i < n
  ·have x1 : (i : Int) < (n : Int) := Int.ofNat_lt.2 hin
   have HI := qH hin
   have HI1 := qH (Nat.lt_succ_self i)
   have HMI := qH (sub_next hin)
   have e3 := wrap_one i (lt62 HI.out HN.out)
   have e4 := wrap_one' i (lt62 HI.out HN.out)
   clear hi hin
   obtain ⟨wq, hwq⟩ : ∃ v : World, v = wr := ⟨_, rfl⟩
   subst hwq
   go_wp2_with ((with_reducible refine atDst 22 ?_); refine wpList_mk _ rfl _ _ 66 rfl 4 i2 (.bool false) Try.underlying66 hi2 hz2 hs2 rfl n _ _ _ _ rfl rfl rfl rfl HY2.out HN3.out ?_; intro w2 hk hb hs; have hfz := (TQ.out.below hb).tfrozen i; have hcr := (TQ.out.below hb).nil_ HI.out (Nat.lt_irrefl i); have TM := qH (TQ.out.more hb hk (bhR_row ft fu n i)); have BM := qH (BQ.out.trans (hb.mono BQ.out.size)); clear hk hb hs; (try simp only [Act.put, qA, qB, qC]))
   obtain ⟨bs, hbs⟩ : ∃ b, b = updN bs0 i wq.heap.size := ⟨_, rfl⟩
   rw [← hbs] at TM
   have BN := qH (BM.out.setCell (p := ⟨w.heap.size, i, none⟩) (Nat.le_refl _) (.slice (some ⟨wq.heap.size, 0, none⟩) n n))
   clear hbs hfz hcr
   go_loopw [7] (fun jv wl => ∃ j : Nat, i ≤ j ∧ j ≤ n ∧ jv = .int .i64 (j : Int) ∧ Tbl wl w.heap.size w.heap.size bs n (i + 1) (bhR ft fu n i (bhJ ft fu i j)) ∧ Below w.heap.size w wl) (fun jv _ => n - (intOf jv).toNat)
   case atStart => exact ⟨i, Nat.le_refl _, Nat.le_of_lt HI.out, rfl, by rw [bhR_zero]; exact TM.out, BN.out⟩
   case round =>
    obtain ⟨j, hij, hj, rfl, hT, hB⟩ := hrel
    have TJ := qH hT
    have BJ := qH hB
    clear hT hB
    by_cases hjn : j < n
    ·have j1 : (j : Int) < (n : Int) := Int.ofNat_lt.2 hjn
     have HJ := qH hjn
     have HIJ := qH hij
     have HMJ := qH (sub_next hjn)
     have f3 := wrap_one j (lt62 HJ.out HN.out)
     have f4 := wrap_one' j (lt62 HJ.out HN.out)
     clear hj hij hjn
     obtain ⟨wj, hwj⟩ : ∃ v : World, v = wr := ⟨_, rfl⟩
     subst hwj
     obtain ⟨c, hc⟩ : ∃ c, ft i j = c := ⟨_, rfl⟩
     have HJJ := qH HJ.out
     cases c with
     | false =>
      have HFJ := qH hc
      clear hc
      have ht1 := (T0.out.below BJ.out).at_ HI.out HI.out
      have ht2 := (T0.out.below BJ.out).cell HI.out HJ.out
      rw [HFJ.out] at ht2
      go_wp2_with fail
      go_loopw [8] (fun kv wl => kv = .int .i64 (j : Int) ∧ wl = wj) (fun kv _ => 0)
      case atStart => exact ⟨rfl, rfl⟩
      case round =>
       obtain ⟨rfl, rfl⟩ := hrel
       go_wp2_with fail
       refine ⟨⟨j + 1, Nat.le_succ_of_le HIJ.out, HJ.out, by congr 1, by rw [bhJ_not HFJ.out]; exact TJ.out, BJ.out⟩, by simpa [intOf] using HMJ.out⟩
     | true =>
      have HFJ := qH hc
      clear hc
      go_wp2_with fail
      go_loopw [8] (fun kv wl => ∃ k : Nat, j ≤ k ∧ k ≤ n ∧ kv = .int .i64 (k : Int) ∧ Tbl wl w.heap.size w.heap.size bs n (i + 1) (bhR ft fu n i (bhK ft fu i j k)) ∧ Below w.heap.size w wl) (fun kv _ => n - (intOf kv).toNat)
      case atStart => exact ⟨j, Nat.le_refl _, Nat.le_of_lt HJ.out, rfl, by rw [bhK_start]; exact TJ.out, BJ.out⟩
      case round =>
       obtain ⟨k, hjk, hk, rfl, hT, hB⟩ := hrel
       have TR := qH hT
       have BR := qH hB
       clear hT hB
       have ht1 := (T0.out.below BR.out).at_ HI.out HI.out
       have ht2 := (T0.out.below BR.out).cell HI.out HJ.out
       rw [HFJ.out] at ht2
       by_cases hkn : k < n
       ·have k1 : (k : Int) < (n : Int) := Int.ofNat_lt.2 hkn
        have HK := qH hkn
        have HJK := qH hjk
        have HJK1 := qH (Nat.le_succ_of_le hjk)
        have HMK := qH (sub_next hkn)
        have g3 := wrap_one k (lt62 HK.out HN.out)
        have g4 := wrap_one' k (lt62 HK.out HN.out)
        clear hk hjk hkn
        obtain ⟨b, hb⟩ : ∃ b, bhJ ft fu i j k = b := ⟨_, rfl⟩
        obtain ⟨v, hv⟩ : ∃ v, fu j k = v := ⟨_, rfl⟩
        have HUV := qH hv
        clear hv
        cases b with
        | true =>
         have HC := qH hb
         clear hb
         go_wp2_with fail
         refine sg_start (S := fun V => wr.grownBy V (some (bs i))) (by kernel_rfl) (grown_start _ _) (fun wd hwd => ?_)
         have hX : wr.grownBy wd (some (bs i)) := by rw [hwd]; exact grown_start _ _
         have TD := qH (show Tbl wd w.heap.size w.heap.size bs n (i + 1) (bhR ft fu n i (bhK ft fu i j k)) by rw [hwd]; exact TR.out.drew)
         have BD := qH (show Below w.heap.size w wd by rw [hwd]; exact BR.out.drew)
         clear hwd
         have HT1 := qH (TR.out.at_ HI.out HI1.out)
         have HU1 := qH ((U0.out.below BR.out).at_ HJ.out HJ.out)
         have HU2 := qH ((U0.out.below BR.out).cell HJ.out HK.out)
         have HT2 := qH (show wd.cell? ⟨bs i, k, none⟩ = some (.bool true) by rw [TD.out.cell HI1.out HK.out, bhR_at, bhK_at, HC.out])
         have HL1 := qH TR.out.top.lt
         have HL3 := qH (Nat.lt_of_lt_of_le U0.out.top.lt BR.out.size)
         have HL4 := qH (Nat.lt_of_lt_of_le (U0.out.row j HJ.out).lt BR.out.size)
         have HE1 := qH (show some w.heap.size ≠ some (bs i) from fun h => TR.out.ne i HI1.out (Option.some.inj h).symm)
         have HE3 := qH (show some gu ≠ some (bs i) from fun h => by have h1 := Option.some.inj h; have h2 := TR.out.bbase i HI1.out; have h3 := U0.out.top.lt; omega)
         have HE4 := qH (show some (bu j) ≠ some (bs i) from fun h => by have h1 := Option.some.inj h; have h2 := TR.out.bbase i HI1.out; have h3 := (U0.out.row j HJ.out).lt; omega)
         refine sg_take (i := 0) (oi := ⟨some 47, _, _, _, _, _⟩) (v := ?_) rfl (by kernel_rfl) (by kernel_rfl) (by kernel_rfl) (fun _ _ _ h => h) rfl hX ?_ ?_; rotate_left; (intro W hW; go_simp; try with_reducible rfl); simp only [Act.put, qA, qB, qC]
         refine sg_take (i := 1) (oi := ⟨some 48, _, _, _, _, _⟩) (v := ?_) rfl (by kernel_rfl) (by kernel_rfl) (by kernel_rfl) (fun _ _ _ h => h) rfl hX ?_ ?_; rotate_left; (intro W hW; go_simp; try with_reducible rfl); simp only [Act.put, qA, qB, qC]
         refine sg_take (i := 2) (oi := ⟨some 49, _, _, _, _, _⟩) (v := ?_) rfl (by kernel_rfl) (by kernel_rfl) (by kernel_rfl) (fun _ _ _ h => h) rfl hX ?_ ?_; rotate_left; (intro W hW; go_simp; try with_reducible rfl); simp only [Act.put, qA, qB, qC]
         refine sg_take (i := 3) (oi := ⟨some 50, _, _, _, _, _⟩) (v := .slice (some ⟨bs i, 0, none⟩) n n) rfl (by kernel_rfl) (by kernel_rfl) (by kernel_rfl) (fun _ _ _ h => h) rfl hX (fun V hV => ld_bs (.tmp 49) rfl rfl (grown_cell hV HL1.out HE1.out HT1.out)) ?_; simp only [Act.put, qA, qB, qC]
         refine sg_take (i := 4) (oi := ⟨some 51, _, _, _, _, _⟩) (v := ?_) rfl (by kernel_rfl) (by kernel_rfl) (by kernel_rfl) (fun _ _ _ h => h) rfl hX ?_ ?_; rotate_left; (intro W hW; go_simp; try with_reducible rfl); simp only [Act.put, qA, qB, qC]
         refine sg_take (i := 5) (oi := ⟨some 52, _, _, _, _, _⟩) (v := ?_) rfl (by kernel_rfl) (by kernel_rfl) (by kernel_rfl) (fun _ _ _ h => h) rfl hX ?_ ?_; rotate_left; (intro W hW; go_simp; try with_reducible rfl); simp only [Act.put, qA, qB, qC]
         refine sg_take (i := 6) (oi := ⟨some 53, _, _, _, _, _⟩) (v := ?_) rfl (by kernel_rfl) (by kernel_rfl) (by kernel_rfl) (fun _ _ _ h => h) rfl hX ?_ ?_; rotate_left; (intro W hW; go_simp; try with_reducible rfl); simp only [Act.put, qA, qB, qC]
         refine sg_take (i := 7) (oi := ⟨some 54, _, _, _, _, _⟩) (v := ?_) rfl (by kernel_rfl) (by kernel_rfl) (by kernel_rfl) (fun _ _ _ h => h) rfl hX ?_ ?_; rotate_left; (intro W hW; go_simp; try with_reducible rfl); simp only [Act.put, qA, qB, qC]
         refine sg_take (i := 8) (oi := ⟨some 55, _, _, _, _, _⟩) (v := .slice (some ⟨bs i, 0, none⟩) n n) rfl (by kernel_rfl) (by kernel_rfl) (by kernel_rfl) (fun _ _ _ h => h) rfl hX (fun V hV => ld_bs (.tmp 54) rfl rfl (grown_cell hV HL1.out HE1.out HT1.out)) ?_; simp only [Act.put, qA, qB, qC]
         refine sg_take (i := 9) (oi := ⟨some 56, _, _, _, _, _⟩) (v := ?_) rfl (by kernel_rfl) (by kernel_rfl) (by kernel_rfl) (fun _ _ _ h => h) rfl hX ?_ ?_; rotate_left; (intro W hW; go_simp; try with_reducible rfl); simp only [Act.put, qA, qB, qC]
         refine sg_take (i := 10) (oi := ⟨some 57, _, _, _, _, _⟩) (v := ?_) rfl (by kernel_rfl) (by kernel_rfl) (by kernel_rfl) (fun _ _ _ h => h) rfl hX ?_ ?_; rotate_left; (intro W hW; go_simp; try with_reducible rfl); simp only [Act.put, qA, qB, qC]
         refine sg_actB (i := 11) (o := ⟨some 58, _, _, _, _, _⟩) rfl (by kernel_rfl) rfl hX (fun K hK => ?_)
         refine wp_ldB (.tmp 57) rfl rfl HT2.out ?_
         refine hK _ _ hX ?_
         clear hK K
         (try simp only [Act.put, qA, qB, qC])
         refine sg_take (i := 12) (oi := ⟨some 59, _, _, _, _, _⟩) (v := ?_) rfl (by kernel_rfl) (by kernel_rfl) (by kernel_rfl) (fun _ _ _ h => h) rfl hX ?_ ?_; rotate_left; (intro W hW; go_simp; try with_reducible rfl); simp only [Act.put, qA, qB, qC]
         refine sg_skip (i := 13) (oi := ⟨some 60, _, _, _, _, _⟩) rfl (by kernel_rfl) (by kernel_rfl) (by kernel_rfl) (fun _ _ _ h => h) rfl hX ?_; simp only [Act.put, qA, qB, qC]
         refine sg_skip (i := 14) (oi := ⟨some 61, _, _, _, _, _⟩) rfl (by kernel_rfl) (by kernel_rfl) (by kernel_rfl) (fun _ _ _ h => h) rfl hX ?_; simp only [Act.put, qA, qB, qC]
         refine sg_skip (i := 15) (oi := ⟨some 62, _, _, _, _, _⟩) rfl (by kernel_rfl) (by kernel_rfl) (by kernel_rfl) (fun _ _ _ h => h) rfl hX ?_; simp only [Act.put, qA, qB, qC]
         refine sg_skip (i := 16) (oi := ⟨some 63, _, _, _, _, _⟩) rfl (by kernel_rfl) (by kernel_rfl) (by kernel_rfl) (fun _ _ _ h => h) rfl hX ?_; simp only [Act.put, qA, qB, qC]
         refine sg_skip (i := 17) (oi := ⟨some 64, _, _, _, _, _⟩) rfl (by kernel_rfl) (by kernel_rfl) (by kernel_rfl) (fun _ _ _ h => h) rfl hX ?_; simp only [Act.put, qA, qB, qC]
         refine sg_skip (i := 18) (oi := ⟨some 65, _, _, _, _, _⟩) rfl (by kernel_rfl) (by kernel_rfl) (by kernel_rfl) (fun _ _ _ h => h) rfl hX ?_; simp only [Act.put, qA, qB, qC]
         refine sg_skip (i := 19) (oi := ⟨some 66, _, _, _, _, _⟩) rfl (by kernel_rfl) (by kernel_rfl) (by kernel_rfl) (fun _ _ _ h => h) rfl hX ?_; simp only [Act.put, qA, qB, qC]
         refine sg_take (i := 20) (oi := ⟨some 67, _, _, _, _, _⟩) (v := ?_) rfl (by kernel_rfl) (by kernel_rfl) (by kernel_rfl) (fun _ _ _ h => h) rfl hX ?_ ?_; rotate_left; (intro W hW; go_simp; try with_reducible rfl); simp only [Act.put, qA, qB, qC]
         refine sg_take (i := 21) (oi := ⟨some 68, _, _, _, _, _⟩) (v := ?_) rfl (by kernel_rfl) (by kernel_rfl) (by kernel_rfl) (fun _ _ _ h => h) rfl hX ?_ ?_; rotate_left; (intro W hW; go_simp; try with_reducible rfl); simp only [Act.put, qA, qB, qC]
         refine sg_actB (i := 22) (o := ⟨none, _, _, _, _, _⟩) rfl (by kernel_rfl) rfl hX (fun K hK => ?_)
         refine wp_stB (.tmp 68) (.tmp 67) rfl (bs i) k rfl true rfl _ HT2.out (TD.out.frozen HI1.out k) ?_
         refine hK _ _ (grown_set hX k _) ?_
         clear hK K
         refine wpAnyH_done (by kernel_rfl) ?_ _
         have TE := qH (TD.out.put HI1.out k true)
         have BE := qH (BD.out.setCell (p := ⟨bs i, k, none⟩) (TR.out.bbase i HI1.out) (Value.bool true))
         have HV := qH (show (true : Bool) = (bhJ ft fu i j k || fu j k) by rw [HC.out, HUV.out]; rfl)
         clear hX
         go_wp2_with fail
         refine ⟨⟨k + 1, HJK1.out, HK.out, by congr 1, ?_, BE.out⟩, by simpa [intOf] using HMK.out⟩
         rw [← bhK_put HIJ.out HJK.out HFJ.out, ← bhR_put, ← HV.out]
         exact TE.out
        | false =>
         have HC := qH hb
         clear hb
         go_wp2_with fail
         refine sg_start (S := fun V => wr.grownBy V (some (bs i))) (by kernel_rfl) (grown_start _ _) (fun wd hwd => ?_)
         have hX : wr.grownBy wd (some (bs i)) := by rw [hwd]; exact grown_start _ _
         have TD := qH (show Tbl wd w.heap.size w.heap.size bs n (i + 1) (bhR ft fu n i (bhK ft fu i j k)) by rw [hwd]; exact TR.out.drew)
         have BD := qH (show Below w.heap.size w wd by rw [hwd]; exact BR.out.drew)
         clear hwd
         have HT1 := qH (TR.out.at_ HI.out HI1.out)
         have HU1 := qH ((U0.out.below BR.out).at_ HJ.out HJ.out)
         have HU2 := qH ((U0.out.below BR.out).cell HJ.out HK.out)
         have HT2 := qH (show wd.cell? ⟨bs i, k, none⟩ = some (.bool false) by rw [TD.out.cell HI1.out HK.out, bhR_at, bhK_at, HC.out])
         have HL1 := qH TR.out.top.lt
         have HL3 := qH (Nat.lt_of_lt_of_le U0.out.top.lt BR.out.size)
         have HL4 := qH (Nat.lt_of_lt_of_le (U0.out.row j HJ.out).lt BR.out.size)
         have HE1 := qH (show some w.heap.size ≠ some (bs i) from fun h => TR.out.ne i HI1.out (Option.some.inj h).symm)
         have HE3 := qH (show some gu ≠ some (bs i) from fun h => by have h1 := Option.some.inj h; have h2 := TR.out.bbase i HI1.out; have h3 := U0.out.top.lt; omega)
         have HE4 := qH (show some (bu j) ≠ some (bs i) from fun h => by have h1 := Option.some.inj h; have h2 := TR.out.bbase i HI1.out; have h3 := (U0.out.row j HJ.out).lt; omega)
         refine sg_take (i := 0) (oi := ⟨some 47, _, _, _, _, _⟩) (v := ?_) rfl (by kernel_rfl) (by kernel_rfl) (by kernel_rfl) (fun _ _ _ h => h) rfl hX ?_ ?_; rotate_left; (intro W hW; go_simp; try with_reducible rfl); simp only [Act.put, qA, qB, qC]
         refine sg_take (i := 1) (oi := ⟨some 48, _, _, _, _, _⟩) (v := ?_) rfl (by kernel_rfl) (by kernel_rfl) (by kernel_rfl) (fun _ _ _ h => h) rfl hX ?_ ?_; rotate_left; (intro W hW; go_simp; try with_reducible rfl); simp only [Act.put, qA, qB, qC]
         refine sg_take (i := 2) (oi := ⟨some 49, _, _, _, _, _⟩) (v := ?_) rfl (by kernel_rfl) (by kernel_rfl) (by kernel_rfl) (fun _ _ _ h => h) rfl hX ?_ ?_; rotate_left; (intro W hW; go_simp; try with_reducible rfl); simp only [Act.put, qA, qB, qC]
         refine sg_take (i := 3) (oi := ⟨some 50, _, _, _, _, _⟩) (v := .slice (some ⟨bs i, 0, none⟩) n n) rfl (by kernel_rfl) (by kernel_rfl) (by kernel_rfl) (fun _ _ _ h => h) rfl hX (fun V hV => ld_bs (.tmp 49) rfl rfl (grown_cell hV HL1.out HE1.out HT1.out)) ?_; simp only [Act.put, qA, qB, qC]
         refine sg_take (i := 4) (oi := ⟨some 51, _, _, _, _, _⟩) (v := ?_) rfl (by kernel_rfl) (by kernel_rfl) (by kernel_rfl) (fun _ _ _ h => h) rfl hX ?_ ?_; rotate_left; (intro W hW; go_simp; try with_reducible rfl); simp only [Act.put, qA, qB, qC]
         refine sg_take (i := 5) (oi := ⟨some 52, _, _, _, _, _⟩) (v := ?_) rfl (by kernel_rfl) (by kernel_rfl) (by kernel_rfl) (fun _ _ _ h => h) rfl hX ?_ ?_; rotate_left; (intro W hW; go_simp; try with_reducible rfl); simp only [Act.put, qA, qB, qC]
         refine sg_take (i := 6) (oi := ⟨some 53, _, _, _, _, _⟩) (v := ?_) rfl (by kernel_rfl) (by kernel_rfl) (by kernel_rfl) (fun _ _ _ h => h) rfl hX ?_ ?_; rotate_left; (intro W hW; go_simp; try with_reducible rfl); simp only [Act.put, qA, qB, qC]
         refine sg_take (i := 7) (oi := ⟨some 54, _, _, _, _, _⟩) (v := ?_) rfl (by kernel_rfl) (by kernel_rfl) (by kernel_rfl) (fun _ _ _ h => h) rfl hX ?_ ?_; rotate_left; (intro W hW; go_simp; try with_reducible rfl); simp only [Act.put, qA, qB, qC]
         refine sg_take (i := 8) (oi := ⟨some 55, _, _, _, _, _⟩) (v := .slice (some ⟨bs i, 0, none⟩) n n) rfl (by kernel_rfl) (by kernel_rfl) (by kernel_rfl) (fun _ _ _ h => h) rfl hX (fun V hV => ld_bs (.tmp 54) rfl rfl (grown_cell hV HL1.out HE1.out HT1.out)) ?_; simp only [Act.put, qA, qB, qC]
         refine sg_take (i := 9) (oi := ⟨some 56, _, _, _, _, _⟩) (v := ?_) rfl (by kernel_rfl) (by kernel_rfl) (by kernel_rfl) (fun _ _ _ h => h) rfl hX ?_ ?_; rotate_left; (intro W hW; go_simp; try with_reducible rfl); simp only [Act.put, qA, qB, qC]
         refine sg_take (i := 10) (oi := ⟨some 57, _, _, _, _, _⟩) (v := ?_) rfl (by kernel_rfl) (by kernel_rfl) (by kernel_rfl) (fun _ _ _ h => h) rfl hX ?_ ?_; rotate_left; (intro W hW; go_simp; try with_reducible rfl); simp only [Act.put, qA, qB, qC]
         refine sg_actB (i := 11) (o := ⟨some 58, _, _, _, _, _⟩) rfl (by kernel_rfl) rfl hX (fun K hK => ?_)
         refine wp_ldB (.tmp 57) rfl rfl HT2.out ?_
         refine hK _ _ hX ?_
         clear hK K
         (try simp only [Act.put, qA, qB, qC])
         refine sg_take (i := 12) (oi := ⟨some 59, _, _, _, _, _⟩) (v := ?_) rfl (by kernel_rfl) (by kernel_rfl) (by kernel_rfl) (fun _ _ _ h => h) rfl hX ?_ ?_; rotate_left; (intro W hW; go_simp; try with_reducible rfl); simp only [Act.put, qA, qB, qC]
         refine sg_take (i := 13) (oi := ⟨some 60, _, _, _, _, _⟩) (v := ?_) rfl (by kernel_rfl) (by kernel_rfl) (by kernel_rfl) (fun _ _ _ h => h) rfl hX ?_ ?_; rotate_left; (intro W hW; go_simp; try with_reducible rfl); simp only [Act.put, qA, qB, qC]
         refine sg_take (i := 14) (oi := ⟨some 61, _, _, _, _, _⟩) (v := ?_) rfl (by kernel_rfl) (by kernel_rfl) (by kernel_rfl) (fun _ _ _ h => h) rfl hX ?_ ?_; rotate_left; (intro W hW; go_simp; try with_reducible rfl); simp only [Act.put, qA, qB, qC]
         refine sg_take (i := 15) (oi := ⟨some 62, _, _, _, _, _⟩) (v := ?_) rfl (by kernel_rfl) (by kernel_rfl) (by kernel_rfl) (fun _ _ _ h => h) rfl hX ?_ ?_; rotate_left; (intro W hW; go_simp; try with_reducible rfl); simp only [Act.put, qA, qB, qC]
         refine sg_take (i := 16) (oi := ⟨some 63, _, _, _, _, _⟩) (v := .slice (some ⟨bu j, 0, none⟩) n n) rfl (by kernel_rfl) (by kernel_rfl) (by kernel_rfl) (fun _ _ _ h => h) rfl hX (fun V hV => ld_bs (.tmp 62) rfl rfl (grown_cell hV HL3.out HE3.out HU1.out)) ?_; simp only [Act.put, qA, qB, qC]
         refine sg_take (i := 17) (oi := ⟨some 64, _, _, _, _, _⟩) (v := ?_) rfl (by kernel_rfl) (by kernel_rfl) (by kernel_rfl) (fun _ _ _ h => h) rfl hX ?_ ?_; rotate_left; (intro W hW; go_simp; try with_reducible rfl); simp only [Act.put, qA, qB, qC]
         refine sg_take (i := 18) (oi := ⟨some 65, _, _, _, _, _⟩) (v := ?_) rfl (by kernel_rfl) (by kernel_rfl) (by kernel_rfl) (fun _ _ _ h => h) rfl hX ?_ ?_; rotate_left; (intro W hW; go_simp; try with_reducible rfl); simp only [Act.put, qA, qB, qC]
         refine sg_take (i := 19) (oi := ⟨some 66, _, _, _, _, _⟩) (v := .bool v) rfl (by kernel_rfl) (by kernel_rfl) (by kernel_rfl) (fun _ _ _ h => h) rfl hX (fun V hV => ld_b (.tmp 65) rfl rfl (grown_cell hV HL4.out HE4.out (HU2.out.trans (congrArg (fun x => some (Value.bool x)) HUV.out)))) ?_; simp only [Act.put, qA, qB, qC]
         refine sg_take (i := 20) (oi := ⟨some 67, _, _, _, _, _⟩) (v := ?_) rfl (by kernel_rfl) (by kernel_rfl) (by kernel_rfl) (fun _ _ _ h => h) rfl hX ?_ ?_; rotate_left; (intro W hW; go_simp; try with_reducible rfl); simp only [Act.put, qA, qB, qC]
         refine sg_take (i := 21) (oi := ⟨some 68, _, _, _, _, _⟩) (v := ?_) rfl (by kernel_rfl) (by kernel_rfl) (by kernel_rfl) (fun _ _ _ h => h) rfl hX ?_ ?_; rotate_left; (intro W hW; go_simp; try with_reducible rfl); simp only [Act.put, qA, qB, qC]
         refine sg_actB (i := 22) (o := ⟨none, _, _, _, _, _⟩) rfl (by kernel_rfl) rfl hX (fun K hK => ?_)
         refine wp_stB (.tmp 68) (.tmp 67) rfl (bs i) k rfl v rfl _ HT2.out (TD.out.frozen HI1.out k) ?_
         refine hK _ _ (grown_set hX k _) ?_
         clear hK K
         refine wpAnyH_done (by kernel_rfl) ?_ _
         have TE := qH (TD.out.put HI1.out k v)
         have BE := qH (BD.out.setCell (p := ⟨bs i, k, none⟩) (TR.out.bbase i HI1.out) (Value.bool v))
         have HV := qH (show (v : Bool) = (bhJ ft fu i j k || fu j k) by rw [HC.out, HUV.out]; rfl)
         clear hX
         go_wp2_with fail
         refine ⟨⟨k + 1, HJK1.out, HK.out, by congr 1, ?_, BE.out⟩, by simpa [intOf] using HMK.out⟩
         rw [← bhK_put HIJ.out HJK.out HFJ.out, ← bhR_put, ← HV.out]
         exact TE.out
       ·obtain rfl : k = n := by omega
        have k1 : ¬ ((k : Int) < (k : Int)) := by omega
        go_wp2_with fail
        refine ⟨⟨j + 1, Nat.le_succ_of_le HIJ.out, HJ.out, by congr 1, TR.out.congr fun p q _ hq => bhK_all hq, BR.out⟩, by simpa [intOf] using HMJ.out⟩
    ·obtain rfl : j = n := by omega
     have j1 : ¬ ((j : Int) < (j : Int)) := by omega
     go_wp2_with fail
     refine ⟨⟨i + 1, bs, HI.out, by congr 1, TJ.out.congr fun p q hp hq => bhR_next hp hq, BJ.out⟩, by simpa [intOf] using HMI.out⟩
  ·obtain rfl : i = n := by omega
   have x1 : ¬ ((i : Int) < (i : Int)) := by omega
   go_wp2_with fail
   go_ret
   exact ⟨_, rfl, ⟨_, TQ.out.congr fun p q hp _ => bhR_all hp _⟩, BQ.out⟩
end Go.Proofs.Ytmcpfaaakmehdaa
