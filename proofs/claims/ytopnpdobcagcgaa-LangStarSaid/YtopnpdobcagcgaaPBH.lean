/-
  Texts of this proof, put together: (LwC) Loads of single cells in regions that draw their order. No statement is proved here. (LxN) The walk of LangNone: an expression of its own other than None has a word, and an empty rest is one just if it may be empty. The given row lies in a text of its own. (OpenL) A list of lists of bytes that comes in. No statement is proved here. (LxS) The walk of LangStar: any number of words of an expression, one behind the other, are a word of its star. The given row lies in a text of its own.
-/
import Derived.Test.YtopnpdobcagcgaaPBG
import Derived.Test.YtopnpdobcagcgaaPA
import Derived.Deep.Matrix
namespace Go.Proofs.Ytopnpdobcagcgaa
open Go.RowKit
set_option linter.unusedSimpArgs false
set_option linter.unusedVariables false
theorem ld_i {ev : Operand → Value} {o : Oper} (x : Operand) (ho : o.op = .load 3 x) {p : Addr} (hx : ev x = .pointer (some p)) {k : Int} {W : World} (hc : W.cell? p = some (.int .i64 k)) : (execOp ev o).run Try.prog W = .ok (.value (.int .i64 k)) W := by
 simp only [execOp, ho, hx]
 go_simp
end Go.Proofs.Ytopnpdobcagcgaa
namespace Go.Proofs.Ytopnpdobcagcgaa
open Go.RowKit
set_option linter.unusedSimpArgs false
set_option linter.unusedVariables false
theorem lgB_nil (t : T) : lgB t [] = nullT t := lgB_of (null_iff t)
theorem none_some {t : T} (hg : good t) : (nullT t || !eqS (firstT t) zeroS) = (t.kind != 1) := by
 by_cases h1 : t.kind = 1
 ·have hn : nullT t = false := by
   cases h : nullT t with
   | false => rfl
   | true => exact absurd ((null_iff t).1 h) (lg_k1 h1 [])
  have he : eqS (firstT t) zeroS = true := by
   refine (eqS_iff _ _).2 fun b hb => ?_
   have hz : zeroS b = false := rfl
   rw [hz]
   cases h : firstT t b with
   | false => rfl
   | true =>
    have hb' : (UInt8.ofNat b).toNat = b := UInt8.toNat_ofNat_of_lt' hb
    obtain ⟨u, hu⟩ := (first_iff t (UInt8.ofNat b)).1 (by rw [hb']; exact h)
    exact absurd hu (lg_k1 h1 _)
  rw [hn, he]
  simp [h1]
 ·have hr : (t.kind != 1) = true := by simpa using h1
  rw [hr]
  rcases good_some _ t (Nat.le_refl _) hg with ⟨w, hw⟩ | h
  ·cases w with
   | nil => rw [(null_iff t).2 hw]; rfl
   | cons b u =>
    have hf := (first_iff t b).2 ⟨u, hw⟩
    have he : eqS (firstT t) zeroS = false := by
     cases h : eqS (firstT t) zeroS with
     | false => rfl
     | true =>
      have := (eqS_iff _ _).1 h b.toNat b.toNat_lt
      rw [hf] at this
      cases this
    rw [he]
    simp
  ·exact absurd h h1
set_option maxHeartbeats 8000000 in
set_option maxRecDepth 1000000 in
theorem langNone_walk (V : Value) (ps : List UInt8) (w : World) (hr : Row w V (bvs ps)) :
  Calls Try.prog 7 #[V] w fun e w' => e = .returned (.bool true) ∧ Below w.heap.size w w' := by
 have R := Lib.hid hr
 obtain ⟨A, cap, rfl, _⟩ := hr
 have hbl : (bvs ps).length = ps.length := bvs_length ps
 rw [hbl] at R ⊢
 clear hbl
 by_cases h40 : 40 < ps.length
 ·have i1 : (40 : Int) < (ps.length : Int) := by omega
  clear h40
  go_enter Try.func7, Try.ntmps7
  go_wp2_with fail
  refine (begun_any w).mono ?_
  rintro e w1 ⟨rfl, hb⟩
  have B1 := Lib.hid hb
  clear hb
  go_wp2_with fail
  go_ret
  exact ⟨rfl, B1.out⟩
 have i1 : ¬ ((40 : Int) < (ps.length : Int)) := by omega
 have HL := Lib.hid (show ps.length ≤ 40 by omega)
 obtain ⟨t, ht⟩ : ∃ t, t = madeT ps := ⟨_, rfl⟩
 have HT := Lib.hid ht
 have HG := Lib.hid (show good t by rw [ht]; exact madeT_good ps)
 have HM2 := Lib.hid (show t.nodes ≤ 2000 by rw [ht]; have := madeT_few ps; omega)
 obtain ⟨i0, hi0, hz0, hz1, hz2⟩ := inf_rx'
 obtain ⟨z, hz⟩ : ∃ z, z = rxc 0 zeroS (.slice none 0 0) := ⟨_, rfl⟩
 have HZL := Lib.hid (show z.length = 6 by rw [hz]; rfl)
 have HZ0 := Lib.hid (show i0.zero = some (.agg z.toArray) by rw [hz]; exact hz0)
 obtain ⟨zs, hzs⟩ : ∃ zs, zs = zeroS := ⟨_, rfl⟩
 have HBS := Lib.hid (show Try.prog.built 24 [] = some (wds zs).toArray by rw [hzs]; exact builtS)
 have HNS := Lib.hid (none_some HG.out)
 obtain ⟨nv, hnv⟩ : ∃ nv, nv = nullT t := ⟨_, rfl⟩
 have HNV := Lib.hid hnv
 obtain ⟨q, hq⟩ : ∃ q, q = firstT t := ⟨_, rfl⟩
 have HQ := Lib.hid hq
 rw [← hnv, ← hq, ← hzs] at HNS
 clear hz hz0 hzs h40 ht hnv hq
 obtain ⟨sv, hsv⟩ : ∃ sv, sv = (t.kind != 1) := ⟨_, rfl⟩
 have HSV := Lib.hid (show (t.kind != 1) = sv from hsv.symm)
 have HSS := Lib.hid (show (sv == sv) = true by simp)
 rw [← hsv] at HNS
 clear hsv
 by_cases hn : nv = true
 ·subst hn
  have hs : sv = true := HNS.out.symm
  subst hs
  go_enter Try.func7, Try.ntmps7
  go_wp2_with fail
  refine (begun_any w).mono ?_
  rintro e w1 ⟨rfl, hb⟩
  have B1 := Lib.hid hb
  clear hb
  go_wp2_with fail
  refine (made_any _ ps w1 (R.out.below B1.out) (by have := HL.out; omega)).mono ?_
  rintro e w2 ⟨rfl, hb, hp⟩
  have P2 := Lib.hid hp
  have B2 := Lib.hid (B1.out.trans (hb.mono B1.out.size))
  have S1w := Lib.hid B1.out.size
  clear hb hp
  go_wp2_with fail
  refine (pickRx_any w1.heap.size _ ps w2 P2.out).mono ?_
  rintro e w3 ⟨cs, rfl, hcs, hg⟩
  have B3 := Lib.hid (B2.out.trans ((grown_belowG hg P2.out.blk.lt).mono S1w.out))
  rw [← HT.out] at hcs
  have V3 := Lib.hid (show RxV w3.heap.size w3 cs t from RxD.mono hcs fun k hk => hk.2)
  have C6 := Lib.hid hcs.length
  have C1 := Lib.hid (show cs.all (·.oneCell') = true from List.all_eq_true.2 (RxD.one hcs))
  have C0 := Lib.hid (show cs[0]? = some (.int .i64 t.kind) by obtain ⟨k, s, l⟩ := t; obtain ⟨v9, rfl, _⟩ := hcs.row; rfl)
  clear hcs hg
  go_wp2_with (first
   | ((with_reducible refine atDst 3 ?_); refine wpList_new rfl 27 rfl i0 _ z hi0 HZ0.out rfl (Below.refl w3.heap.size w3) (Nat.le_refl _) ?_; intro w4 hk hb hs ho; have L4 := Lib.hid hk; have B4 := Lib.hid hb; clear hk hb hs ho; (try simp only [Act.put, qA, qB, qC]))
   | ((with_reducible refine atStore 27 3 12 ?_); refine wpList_stBlk rfl 27 _ _ rfl w3.heap.size cs rfl rfl 27 _ L4.out (size_rx C6.out) (by rw [HZL.out, C6.out]) C1.out B4.out (Nat.le_refl _) ?_; intro w5 hk hb hs ho; have L5 := Lib.hid hk; have B35 := Lib.hid hb; have B5 := Lib.hid (B3.out.trans (hb.mono B3.out.size)); clear hk hb hs ho; (try simp only [Act.put, qA, qB, qC]))
   | ((with_reducible refine atDst 13 ?_); refine wpList_ldArr rfl 27 _ rfl w3.heap.size rfl 27 _ _ L5.out Try.underlying27 rfl (size_rx C6.out) ?_; (try simp only [Act.put, qA, qB, qC])))
  have V5 := Lib.hid ((V3.out.stay B35.out).mono B35.out.size)
  refine (lNull_any t cs w5 V5.out).mono ?_
  rintro e w6 ⟨rfl, hb⟩
  rw [← HNV.out]
  have B6 := Lib.hid (B5.out.trans (hb.mono B5.out.size))
  have L6 := Lib.hid (L5.out.below hb L5.out.lt)
  have V6 := Lib.hid ((V5.out.stay hb).mono hb.size)
  clear hb
  go_wp2_with fail
  refine sg_start (S := fun V => w6.grownBy V none) (by kernel_rfl) (grown_start _ _) (fun wd hwd => ?_)
  have hX : w6.grownBy wd none := by rw [hwd]; exact grown_start _ _
  have hwb : Below w6.heap.size w6 wd := by rw [hwd]; exact (Below.refl _ _).drew
  clear hwd
  have HRC := Lib.hid (show w6.rangeAt w3.heap.size 0 cs from fun i v hv => (L6.out.cell (0 + i)).trans (by rw [Nat.zero_add]; exact hv))
  have HK0 := Lib.hid (show w6.cell? ⟨w3.heap.size, 0, none⟩ = some (.int .i64 t.kind) from (L6.out.cell 0).trans C0.out)
  have HVD := Lib.hid (show RxV wd.heap.size wd cs t from (V6.out.stay hwb).mono hwb.size)
  clear hwb
  have hsv := HSV.out
  refine sg_take (i := 0) (oi := ⟨some 21, _, _, _, _, _⟩) (v := ?_) rfl (by kernel_rfl) (by kernel_rfl) (by kernel_rfl) (fun _ _ _ h => h) rfl hX ?_ ?_; rotate_left; (intro W hW; go_simp; try with_reducible rfl); simp only [Act.put, qA, qB, qC]
  refine sg_take (i := 1) (oi := ⟨some 22, _, _, _, _, _⟩) (v := ?_) rfl (by kernel_rfl) (by kernel_rfl) (by kernel_rfl) (fun _ _ _ h => h) rfl hX ?_ ?_; rotate_left; (intro W hW; go_simp; try with_reducible rfl); simp only [Act.put, qA, qB, qC]
  refine sg_take (i := 2) (oi := ⟨some 23, _, _, _, _, _⟩) (v := .int .i64 t.kind) rfl (by kernel_rfl) (by kernel_rfl) (by kernel_rfl) (fun _ _ _ h => h) rfl hX (fun W hW => ld_i _ rfl rfl (grown_cell hW L6.out.lt (by simp) HK0.out)) ?_; simp only [Act.put, qA, qB, qC]
  refine sg_take (i := 3) (oi := ⟨some 24, _, _, _, _, _⟩) (v := ?_) rfl (by kernel_rfl) (by kernel_rfl) (by kernel_rfl) (fun _ _ _ h => h) rfl hX ?_ ?_; rotate_left; (intro W hW; go_simp; try with_reducible rfl); simp only [Act.put, qA, qB, qC]
  refine sg_take (i := 4) (oi := ⟨some 25, _, _, _, _, _⟩) (v := ?_) rfl (by kernel_rfl) (by kernel_rfl) (by kernel_rfl) (fun _ _ _ h => h) rfl hX ?_ ?_; rotate_left; (intro W hW; go_simp; try with_reducible rfl); simp only [Act.put, qA, qB, qC]
  refine sg_take (i := 5) (oi := ⟨some 26, _, _, _, _, _⟩) (v := ?_) rfl (by kernel_rfl) (by kernel_rfl) (by kernel_rfl) (fun _ _ _ h => h) rfl hX ?_ ?_; rotate_left; (intro W hW; go_simp; try with_reducible rfl); simp only [Act.put, qA, qB, qC]
  refine sg_take (i := 6) (oi := ⟨some 27, _, _, _, _, _⟩) (v := .agg cs.toArray) rfl (by kernel_rfl) (by kernel_rfl) (by kernel_rfl) (fun _ _ _ h => h) rfl hX (fun W hW => ld_keep 27 _ rfl w3.heap.size 0 rfl _ _ HRC.out (hW.block _ L6.out.lt (by simp)) Try.underlying27 rfl (size_rx C6.out)) ?_; simp only [Act.put, qA, qB, qC]
  refine sg_take (i := 8) (oi := ⟨some 29, _, _, _, _, _⟩) (v := .agg cs.toArray) rfl (by kernel_rfl) (by kernel_rfl) (by kernel_rfl) (fun _ _ _ h => h) rfl hX (fun W hW => ld_keep 27 _ rfl w3.heap.size 0 rfl _ _ HRC.out (hW.block _ L6.out.lt (by simp)) Try.underlying27 rfl (size_rx C6.out)) ?_; simp only [Act.put, qA, qB, qC]
  refine sg_actB (i := 7) (o := ⟨some 28, _, _, _, _, _⟩) rfl (by kernel_rfl) rfl hX (fun K hK => ?_)
  go_wp2_with fail
  refine (lIn_any t HM2.out [] (Nat.zero_le _) _ cs wd (Row.nil _) HVD.out).mono ?_
  rintro e wE ⟨rfl, hb⟩
  rw [lgB_nil, ← HNV.out]
  go_wp2_with fail
  refine hK _ _ (grown_then hX hb) ?_
  clear hK K
  (try simp only [Act.put, qA, qB, qC])
  replace hX := grown_then hX hb
  have HVE := Lib.hid ((HVD.out.stay hb).mono hb.size)
  clear hb
  refine sg_actB (i := 9) (o := ⟨some 30, _, _, _, _, _⟩) rfl (by kernel_rfl) rfl hX (fun K hK => ?_)
  go_wp2_with fail
  refine (lNull_any t cs wE HVE.out).mono ?_
  rintro e wF ⟨rfl, hb⟩
  rw [← HNV.out]
  go_wp2_with fail
  refine hK _ _ (grown_then hX hb) ?_
  clear hK K
  (try simp only [Act.put, qA, qB, qC])
  replace hX := grown_then hX hb
  clear hb
  have hnn : (true == true) = true := rfl
  refine sg_take (i := 10) (oi := ⟨some 31, _, _, _, _, _⟩) (v := ?_) rfl (by kernel_rfl) (by kernel_rfl) (by kernel_rfl) (fun _ _ _ h => h) rfl hX ?_ ?_; rotate_left; (intro W hW; go_simp; try with_reducible rfl); simp only [Act.put, qA, qB, qC]
  refine sg_take (i := 11) (oi := ⟨some 32, _, _, _, _, _⟩) (v := ?_) rfl (by kernel_rfl) (by kernel_rfl) (by kernel_rfl) (fun _ _ _ h => h) rfl hX ?_ ?_; rotate_left; (intro W hW; go_simp; try with_reducible rfl); simp only [Act.put, qA, qB, qC]
  refine sg_take (i := 12) (oi := ⟨some 2, _, _, _, _, _⟩) (v := ?_) rfl (by kernel_rfl) (by kernel_rfl) (by kernel_rfl) (fun _ _ _ h => h) rfl hX ?_ ?_; rotate_left; (intro W hW; go_simp; try with_reducible rfl); simp only [Act.put, qA, qB, qC]
  refine wpAnyH_done (by kernel_rfl) ?_ _
  have BZ := Lib.hid (B6.out.trans (Below.mono (show Below w6.heap.size w6 wF from ⟨hX.os, hX.tape, hX.output, hX.size, fun k hk => hX.block k hk (by simp)⟩) B6.out.size))
  clear hX
  go_wp2_with fail
  go_ret
  exact ⟨rfl, BZ.out⟩
 ·obtain rfl : nv = false := by simpa using hn
  have HNE := Lib.hid (show (!eqS q zs) = sv by have := HNS.out; simpa using this)
  clear hn
  go_enter Try.func7, Try.ntmps7
  go_wp2_with fail
  refine (begun_any w).mono ?_
  rintro e w1 ⟨rfl, hb⟩
  have B1 := Lib.hid hb
  clear hb
  go_wp2_with fail
  refine (made_any _ ps w1 (R.out.below B1.out) (by have := HL.out; omega)).mono ?_
  rintro e w2 ⟨rfl, hb, hp⟩
  have P2 := Lib.hid hp
  have B2 := Lib.hid (B1.out.trans (hb.mono B1.out.size))
  have S1w := Lib.hid B1.out.size
  clear hb hp
  go_wp2_with fail
  refine (pickRx_any w1.heap.size _ ps w2 P2.out).mono ?_
  rintro e w3 ⟨cs, rfl, hcs, hg⟩
  have B3 := Lib.hid (B2.out.trans ((grown_belowG hg P2.out.blk.lt).mono S1w.out))
  rw [← HT.out] at hcs
  have V3 := Lib.hid (show RxV w3.heap.size w3 cs t from RxD.mono hcs fun k hk => hk.2)
  have C6 := Lib.hid hcs.length
  have C1 := Lib.hid (show cs.all (·.oneCell') = true from List.all_eq_true.2 (RxD.one hcs))
  have C0 := Lib.hid (show cs[0]? = some (.int .i64 t.kind) by obtain ⟨k, s, l⟩ := t; obtain ⟨v9, rfl, _⟩ := hcs.row; rfl)
  clear hcs hg
  go_wp2_with (first
   | ((with_reducible refine atDst 3 ?_); refine wpList_new rfl 27 rfl i0 _ z hi0 HZ0.out rfl (Below.refl w3.heap.size w3) (Nat.le_refl _) ?_; intro w4 hk hb hs ho; have L4 := Lib.hid hk; have B4 := Lib.hid hb; clear hk hb hs ho; (try simp only [Act.put, qA, qB, qC]))
   | ((with_reducible refine atStore 27 3 12 ?_); refine wpList_stBlk rfl 27 _ _ rfl w3.heap.size cs rfl rfl 27 _ L4.out (size_rx C6.out) (by rw [HZL.out, C6.out]) C1.out B4.out (Nat.le_refl _) ?_; intro w5 hk hb hs ho; have L5 := Lib.hid hk; have B35 := Lib.hid hb; have B5 := Lib.hid (B3.out.trans (hb.mono B3.out.size)); clear hk hb hs ho; (try simp only [Act.put, qA, qB, qC]))
   | ((with_reducible refine atDst 13 ?_); refine wpList_ldArr rfl 27 _ rfl w3.heap.size rfl 27 _ _ L5.out Try.underlying27 rfl (size_rx C6.out) ?_; (try simp only [Act.put, qA, qB, qC])))
  have V5 := Lib.hid ((V3.out.stay B35.out).mono B35.out.size)
  refine (lNull_any t cs w5 V5.out).mono ?_
  rintro e w6 ⟨rfl, hb⟩
  rw [← HNV.out]
  have B6 := Lib.hid (B5.out.trans (hb.mono B5.out.size))
  have L6 := Lib.hid (L5.out.below hb L5.out.lt)
  have V6 := Lib.hid ((V5.out.stay hb).mono hb.size)
  clear hb
  go_wp2_with ((with_reducible refine atDst 16 ?_); refine wpList_ldArr rfl 27 _ rfl w3.heap.size rfl 27 _ _ L6.out Try.underlying27 rfl (size_rx C6.out) ?_; (try simp only [Act.put, qA, qB, qC]))
  refine (lFirst_any t HM2.out cs w6 V6.out).mono ?_
  rintro e w7 ⟨rfl, hb⟩
  rw [← HQ.out]
  have B7 := Lib.hid (B6.out.trans (hb.mono B6.out.size))
  have L7 := Lib.hid (L6.out.below hb L6.out.lt)
  have V7 := Lib.hid ((V6.out.stay hb).mono hb.size)
  clear hb
  go_wp2_with (first
   | ((with_reducible refine atDst 18 ?_); refine wpList_bld rfl 24 _ rfl (wds zs) HBS.out ?_; (try simp only [Act.put, qA, qB, qC]))
   | ((with_reducible refine atDst 19 ?_); refine wpList_neSetG rfl HNE.out 24 22 (.tmp 17) (.tmp 18) 24 rfl guardSet Try.underlying24 Try.underlying22 sizeU64 rfl rfl ?_; (try simp only [Act.put, qA, qB, qC])))
  refine sg_start (S := fun V => w7.grownBy V none) (by kernel_rfl) (grown_start _ _) (fun wd hwd => ?_)
  have hX : w7.grownBy wd none := by rw [hwd]; exact grown_start _ _
  have hwb : Below w7.heap.size w7 wd := by rw [hwd]; exact (Below.refl _ _).drew
  clear hwd
  have HRC := Lib.hid (show w7.rangeAt w3.heap.size 0 cs from fun i v hv => (L7.out.cell (0 + i)).trans (by rw [Nat.zero_add]; exact hv))
  have HK0 := Lib.hid (show w7.cell? ⟨w3.heap.size, 0, none⟩ = some (.int .i64 t.kind) from (L7.out.cell 0).trans C0.out)
  have HVD := Lib.hid (show RxV wd.heap.size wd cs t from (V7.out.stay hwb).mono hwb.size)
  clear hwb
  have hsv := HSV.out
  refine sg_take (i := 0) (oi := ⟨some 21, _, _, _, _, _⟩) (v := ?_) rfl (by kernel_rfl) (by kernel_rfl) (by kernel_rfl) (fun _ _ _ h => h) rfl hX ?_ ?_; rotate_left; (intro W hW; go_simp; try with_reducible rfl); simp only [Act.put, qA, qB, qC]
  refine sg_take (i := 1) (oi := ⟨some 22, _, _, _, _, _⟩) (v := ?_) rfl (by kernel_rfl) (by kernel_rfl) (by kernel_rfl) (fun _ _ _ h => h) rfl hX ?_ ?_; rotate_left; (intro W hW; go_simp; try with_reducible rfl); simp only [Act.put, qA, qB, qC]
  refine sg_take (i := 2) (oi := ⟨some 23, _, _, _, _, _⟩) (v := .int .i64 t.kind) rfl (by kernel_rfl) (by kernel_rfl) (by kernel_rfl) (fun _ _ _ h => h) rfl hX (fun W hW => ld_i _ rfl rfl (grown_cell hW L7.out.lt (by simp) HK0.out)) ?_; simp only [Act.put, qA, qB, qC]
  refine sg_take (i := 3) (oi := ⟨some 24, _, _, _, _, _⟩) (v := ?_) rfl (by kernel_rfl) (by kernel_rfl) (by kernel_rfl) (fun _ _ _ h => h) rfl hX ?_ ?_; rotate_left; (intro W hW; go_simp; try with_reducible rfl); simp only [Act.put, qA, qB, qC]
  refine sg_take (i := 4) (oi := ⟨some 25, _, _, _, _, _⟩) (v := ?_) rfl (by kernel_rfl) (by kernel_rfl) (by kernel_rfl) (fun _ _ _ h => h) rfl hX ?_ ?_; rotate_left; (intro W hW; go_simp; try with_reducible rfl); simp only [Act.put, qA, qB, qC]
  refine sg_take (i := 5) (oi := ⟨some 26, _, _, _, _, _⟩) (v := ?_) rfl (by kernel_rfl) (by kernel_rfl) (by kernel_rfl) (fun _ _ _ h => h) rfl hX ?_ ?_; rotate_left; (intro W hW; go_simp; try with_reducible rfl); simp only [Act.put, qA, qB, qC]
  refine sg_take (i := 6) (oi := ⟨some 27, _, _, _, _, _⟩) (v := .agg cs.toArray) rfl (by kernel_rfl) (by kernel_rfl) (by kernel_rfl) (fun _ _ _ h => h) rfl hX (fun W hW => ld_keep 27 _ rfl w3.heap.size 0 rfl _ _ HRC.out (hW.block _ L7.out.lt (by simp)) Try.underlying27 rfl (size_rx C6.out)) ?_; simp only [Act.put, qA, qB, qC]
  refine sg_take (i := 8) (oi := ⟨some 29, _, _, _, _, _⟩) (v := .agg cs.toArray) rfl (by kernel_rfl) (by kernel_rfl) (by kernel_rfl) (fun _ _ _ h => h) rfl hX (fun W hW => ld_keep 27 _ rfl w3.heap.size 0 rfl _ _ HRC.out (hW.block _ L7.out.lt (by simp)) Try.underlying27 rfl (size_rx C6.out)) ?_; simp only [Act.put, qA, qB, qC]
  refine sg_actB (i := 7) (o := ⟨some 28, _, _, _, _, _⟩) rfl (by kernel_rfl) rfl hX (fun K hK => ?_)
  go_wp2_with fail
  refine (lIn_any t HM2.out [] (Nat.zero_le _) _ cs wd (Row.nil _) HVD.out).mono ?_
  rintro e wE ⟨rfl, hb⟩
  rw [lgB_nil, ← HNV.out]
  go_wp2_with fail
  refine hK _ _ (grown_then hX hb) ?_
  clear hK K
  (try simp only [Act.put, qA, qB, qC])
  replace hX := grown_then hX hb
  have HVE := Lib.hid ((HVD.out.stay hb).mono hb.size)
  clear hb
  refine sg_actB (i := 9) (o := ⟨some 30, _, _, _, _, _⟩) rfl (by kernel_rfl) rfl hX (fun K hK => ?_)
  go_wp2_with fail
  refine (lNull_any t cs wE HVE.out).mono ?_
  rintro e wF ⟨rfl, hb⟩
  rw [← HNV.out]
  go_wp2_with fail
  refine hK _ _ (grown_then hX hb) ?_
  clear hK K
  (try simp only [Act.put, qA, qB, qC])
  replace hX := grown_then hX hb
  clear hb
  have hnn : (false == false) = true := rfl
  refine sg_take (i := 10) (oi := ⟨some 31, _, _, _, _, _⟩) (v := ?_) rfl (by kernel_rfl) (by kernel_rfl) (by kernel_rfl) (fun _ _ _ h => h) rfl hX ?_ ?_; rotate_left; (intro W hW; go_simp; try with_reducible rfl); simp only [Act.put, qA, qB, qC]
  refine sg_take (i := 11) (oi := ⟨some 32, _, _, _, _, _⟩) (v := ?_) rfl (by kernel_rfl) (by kernel_rfl) (by kernel_rfl) (fun _ _ _ h => h) rfl hX ?_ ?_; rotate_left; (intro W hW; go_simp; try with_reducible rfl); simp only [Act.put, qA, qB, qC]
  refine sg_take (i := 12) (oi := ⟨some 2, _, _, _, _, _⟩) (v := ?_) rfl (by kernel_rfl) (by kernel_rfl) (by kernel_rfl) (fun _ _ _ h => h) rfl hX ?_ ?_; rotate_left; (intro W hW; go_simp; try with_reducible rfl); simp only [Act.put, qA, qB, qC]
  refine wpAnyH_done (by kernel_rfl) ?_ _
  have BZ := Lib.hid (B7.out.trans (Below.mono (show Below w7.heap.size w7 wF from ⟨hX.os, hX.tape, hX.output, hX.size, fun k hk => hX.block k hk (by simp)⟩) B7.out.size))
  clear hX
  go_wp2_with fail
  go_ret
  exact ⟨rfl, BZ.out⟩
end Go.Proofs.Ytopnpdobcagcgaa
namespace Go.Proofs.Ytopnpdobcagcgaa
open Go.ChangeShapes Go.WideShapes Go.ChangeAt Go.RowKit
set_option linter.unusedSimpArgs false
set_option linter.unusedVariables false
def RowsB (w : World) (v : Value) (ls : List (List UInt8)) : Prop :=
 ∃ vals : List Value, vals.length = ls.length ∧ Row w v vals ∧ ∀ i, i < ls.length → ∃ x, vals[i]? = some x ∧ Row w x (bvs (ls.getD i []))
theorem RowsB.below {w w' : World} {v : Value} {ls : List (List UInt8)} (h : RowsB w v ls) (hb : Below w.heap.size w w') : RowsB w' v ls := by
 obtain ⟨vals, h1, h2, h3⟩ := h
 exact ⟨vals, h1, h2.below hb, fun i hi => let ⟨x, hx, hr⟩ := h3 i hi; ⟨x, hx, hr.below hb⟩⟩
theorem row_of_cells {w : World} {A : Option Addr} {L C : Nat} {Z : List Int} (h1 : L ≤ C) (h2 : C ≤ maxLen) (h3 : Z.length = C) (h4 : ∀ n ∈ Z, (Lit.int .u8 n).wf = true) (h5 : A = none → C = 0)
  (h6 : ∀ a', A = some a' → ∀ c, c < C → w.cell? (a'.add c) = some (.int .u8 (Z.getD c 0))) : Row w (.slice A L C) (bvs ((Z.take L).map fun n => UInt8.ofNat n.toNat)) := by
 have hlen : (bvs ((Z.take L).map fun n => UInt8.ofNat n.toNat)).length = L := by simp [bvs]; omega
 refine ⟨A, C, by rw [hlen], by omega, h2, h5, fun hne => ?_⟩
 have hpos : 0 < L := by
  rcases Nat.eq_zero_or_pos L with h0 | h0
  ·subst h0; exact absurd rfl hne
  ·exact h0
 cases A with
 | none => have := h5 rfl; omega
 | some x =>
  obtain ⟨b, off, spot⟩ := x
  have hc0 := h6 _ rfl 0 (by omega)
  have hspot : spot = none := by simpa [Addr.add] using World.cell?_spot hc0
  subst hspot
  refine ⟨b, off, rfl, by have := World.block_lt_of_cell? _ _ hc0; rwa [Addr.add_lit] at this, fun i u hu => ?_⟩
  have hi : i < L := by
   have := (List.getElem?_eq_some_iff.1 hu).1
   rwa [hlen] at this
  have := h6 _ rfl i (by omega)
  rw [Addr.add_lit] at this
  rw [this, ← hu]
  have hiz : i < Z.length := by omega
  have hw := u8_of_wf (h4 Z[i] (List.getElem_mem hiz))
  simp only [bvs, List.map_map, List.getElem?_map, List.getElem?_take, hi, if_true, List.getElem?_eq_getElem hiz, Option.map_some, List.getD, Option.getD_some, Function.comp, bv, Option.some.injEq, Value.int.injEq, true_and]
  have : (UInt8.ofNat (Z[i]).toNat).toNat = (Z[i]).toNat := by
   rw [UInt8.toNat_ofNat']
   exact Nat.mod_eq_of_lt (by omega)
  rw [this]
  omega
theorem open_lists {H : Type} {enc : TypeId × Value → H} {P : Program} {t e q : TypeId} (ht : P.underlying t = some (.slice e)) (he : P.underlying e = some (.slice q)) (hq : P.underlying q = some (.int .u8)) (ce : P.cellsOf e = 1) (cq : P.cellsOf q = 1) {W : World} {a : Option Addr} {len cap : Nat} {d : DataW H} {p : List MemPlace}
  (h : DataW.Trod enc P W 0 (fun _ => true) true t (.slice a len cap) d p) : ∃ ls : List (List UInt8), ls.length = len ∧ RowsB W (.slice a len cap) ls := by
 obtain ⟨fuel, hf⟩ := h
 rcases Deep.open_int_rows ht he hq ce cq hf with ⟨hcs, _⟩ | ⟨x, l, c, A, L, C, Z, hcs, _, hl, hm, _, hrow⟩
 ·simp [Value.cells] at hcs
  obtain ⟨rfl, rfl, rfl⟩ := hcs
  exact ⟨[], rfl, [], rfl, Row.nil W, by simp⟩
 ·simp [Value.cells] at hcs
  obtain ⟨rfl, rfl, rfl⟩ := hcs
  refine ⟨(List.range len).map fun r => ((Z r).take (L r)).map fun n => UInt8.ofNat n.toNat, by simp, (List.range len).map fun r => .slice (A r) (L r) (C r), by simp, ?_, ?_⟩
  ·refine ⟨some x, cap, by simp, by simpa using hl, hm, (fun h => by cases h), fun hne => ?_⟩
   have hpos : 0 < len := by
    rcases Nat.eq_zero_or_pos len with h0 | h0
    ·subst h0; exact absurd rfl hne
    ·exact h0
   obtain ⟨b, off, spot⟩ := x
   have hc0 := (hrow 0 (by omega)).1
   have hspot : spot = none := by simpa [Addr.add] using World.cell?_spot hc0
   subst hspot
   refine ⟨b, off, rfl, by have := World.block_lt_of_cell? _ _ hc0; rwa [Addr.add_lit] at this, fun i u hu => ?_⟩
   have hi : i < len := by
    have := (List.getElem?_eq_some_iff.1 hu).1
    simpa using this
   have := (hrow i (by omega)).1
   rw [Addr.add_lit] at this
   rw [this, ← hu]
   simp [hi]
  ·intro i hi
   have hi' : i < len := by simpa using hi
   obtain ⟨_, r1, r2, r3, r4, r5, r6⟩ := hrow i (by omega)
   refine ⟨.slice (A i) (L i) (C i), by simp [hi'], ?_⟩
   have e : ((List.range len).map fun r => ((Z r).take (L r)).map fun n => UInt8.ofNat n.toNat).getD i [] = ((Z i).take (L i)).map fun n => UInt8.ofNat n.toNat := by simp [hi']
   rw [e]
   exact row_of_cells r1 r2 r3 r4 r5 (fun a' ha => (r6 a' ha).2)
end Go.Proofs.Ytopnpdobcagcgaa
namespace Go.Proofs.Ytopnpdobcagcgaa
open Go.RowKit
set_option linter.unusedSimpArgs false
set_option linter.unusedVariables false
def flw (ts : List (List UInt8)) : Nat → List UInt8
 | 0 => []
 | j + 1 => flw ts j ++ ts.getD j []
noncomputable def okw (t : T) (ts : List (List UInt8)) : Nat → Bool
 | 0 => true
 | j + 1 => okw t ts j && lgB t (ts.getD j [])
theorem flw_len (ts : List (List UInt8)) : ∀ j, (∀ i, i < j → (ts.getD i []).length ≤ 6) → (flw ts j).length ≤ 6 * j
 | 0, _ => by simp [flw]
 | j + 1, h => by
  have h1 := flw_len ts j (fun i hi => h i (by omega))
  have h2 := h j (by omega)
  rw [flw, List.length_append]
  omega
theorem starL_put {P : List UInt8 → Prop} {u v : List UInt8} (h : StarL P u) (hv : P v) : StarL P (u ++ v) := by
 induction h with
 | nil => have := StarL.app hv StarL.nil; rw [List.append_nil] at this; exact this
 | app a b ih => rw [List.append_assoc]; exact .app a ih
theorem okw_star {t : T} (ts : List (List UInt8)) : ∀ j, okw t ts j = true → StarL (Lg t) (flw ts j)
 | 0, _ => .nil
 | j + 1, h => by
  rw [okw, Bool.and_eq_true] at h
  rw [flw]
  exact starL_put (okw_star ts j h.1) (lgB_iff.1 h.2)
theorem ld_words {ev : Operand → Value} {o : Oper} (x : Operand) (ho : o.op = .load 28 x) {p : Addr} (hx : ev x = .pointer (some p)) {A : Option Addr} {n c : Nat} {W : World} (hc : W.cell? p = some (.slice A n c)) : (execOp ev o).run Try.prog W = .ok (.value (.slice A n c)) W := by
 simp only [execOp, ho, hx]
 go_simp
set_option maxHeartbeats 8000000 in
set_option maxRecDepth 1000000 in
theorem langStar_walk (V V2 : Value) (ps : List UInt8) (ts : List (List UInt8)) (w : World) (hr : Row w V (bvs ps)) (hr2 : RowsB w V2 ts) :
  Calls Try.prog 5 #[V, V2] w fun e w' => e = .returned (.bool true) ∧ Below w.heap.size w w' := by
 have R := Lib.hid hr
 have HTS := Lib.hid hr2
 obtain ⟨A, cap, rfl, _⟩ := hr
 obtain ⟨vals, e1, ⟨A2, cap2, rfl, _, _, _, _⟩, _⟩ := hr2
 have hbl : (bvs ps).length = ps.length := bvs_length ps
 rw [hbl] at R ⊢
 rw [e1] at HTS ⊢
 clear hbl
 have e1' := Lib.hid e1
 clear e1
 by_cases h40 : 30 < ps.length
 ·have i1 : (30 : Int) < (ps.length : Int) := by omega
  have d1 : decide ((30 : Int) < (ps.length : Int)) = true := decide_eq_true i1
  clear h40
  go_enter Try.func5, Try.ntmps5
  go_wp2_with fail
  refine (begun_any w).mono ?_
  rintro e w1 ⟨rfl, hb⟩
  have B1 := Lib.hid hb
  clear hb
  go_wp2_with fail
  go_ret
  exact ⟨rfl, B1.out⟩
 have i1 : ¬ ((30 : Int) < (ps.length : Int)) := by omega
 have d1 : decide ((30 : Int) < (ps.length : Int)) = false := decide_eq_false i1
 by_cases h20 : 4 < ts.length
 ·have i2 : (4 : Int) < (ts.length : Int) := by omega
  have d2 : decide ((4 : Int) < (ts.length : Int)) = true := decide_eq_true i2
  clear h20 h40
  go_enter Try.func5, Try.ntmps5
  go_wp2_with fail
  refine (begun_any w).mono ?_
  rintro e w1 ⟨rfl, hb⟩
  have B1 := Lib.hid hb
  clear hb
  go_wp2_with fail
  go_ret
  exact ⟨rfl, B1.out⟩
 have i2 : ¬ ((4 : Int) < (ts.length : Int)) := by omega
 have d2 : decide ((4 : Int) < (ts.length : Int)) = false := decide_eq_false i2
 have HL := Lib.hid (show ps.length ≤ 30 by omega)
 have HL2 := Lib.hid (show ts.length ≤ 4 by omega)
 obtain ⟨t, ht⟩ : ∃ t, t = madeT ps := ⟨_, rfl⟩
 have HT := Lib.hid ht
 have HG := Lib.hid (show good t by rw [ht]; exact madeT_good ps)
 have HM0 := Lib.hid (show t.nodes ≤ 400 by rw [ht]; have := madeT_few ps; omega)
 have HM2 := Lib.hid (show t.nodes ≤ 2000 from Nat.le_trans HM0.out (by decide))
 have HMS := Lib.hid (show (starT t).nodes ≤ 2000 by have h1 := star_nodes t; have h2 := HM0.out; omega)
 obtain ⟨i0, hi0, hz0, hz1, hz2⟩ := inf_rx'
 obtain ⟨z, hz⟩ : ∃ z, z = rxc 0 zeroS (.slice none 0 0) := ⟨_, rfl⟩
 have HZL := Lib.hid (show z.length = 6 by rw [hz]; rfl)
 have HZ0 := Lib.hid (show i0.zero = some (.agg z.toArray) by rw [hz]; exact hz0)
 obtain ⟨iu, hiu, hy0, hy1, hy2⟩ := infoP inf_u8
 clear hz hz0 h40 h20 ht
 go_enter Try.func5, Try.ntmps5
 go_wp2_with fail
 refine (begun_any w).mono ?_
 rintro e w1 ⟨rfl, hb⟩
 have B1 := Lib.hid hb
 clear hb
 go_wp2_with fail
 refine (made_any _ ps w1 (R.out.below B1.out) (by have := HL.out; omega)).mono ?_
 rintro e w2 ⟨rfl, hb, hp⟩
 have P2 := Lib.hid hp
 have B2 := Lib.hid (B1.out.trans (hb.mono B1.out.size))
 have S1w := Lib.hid B1.out.size
 clear hb hp
 go_wp2_with fail
 refine (pickRx_any w1.heap.size _ ps w2 P2.out).mono ?_
 rintro e w3 ⟨cs, rfl, hcs, hg⟩
 have B3 := Lib.hid (B2.out.trans ((grown_belowG hg P2.out.blk.lt).mono S1w.out))
 rw [← HT.out] at hcs
 have V3 := Lib.hid (show RxV w3.heap.size w3 cs t from RxD.mono hcs fun k hk => hk.2)
 have C6 := Lib.hid hcs.length
 have C1 := Lib.hid (show cs.all (·.oneCell') = true from List.all_eq_true.2 (RxD.one hcs))
 clear hcs hg
 go_wp2_with (first
  | ((with_reducible refine atDst 5 ?_); refine wpList_new rfl 27 rfl i0 _ z hi0 HZ0.out rfl (Below.refl w3.heap.size w3) (Nat.le_refl _) ?_; intro w4 hk hb hs ho; have L4 := Lib.hid hk; have B4 := Lib.hid hb; clear hk hb hs ho; (try simp only [Act.put, qA, qB, qC]))
  | ((with_reducible refine atStore 27 5 21 ?_); refine wpList_stBlk rfl 27 _ _ rfl w3.heap.size cs rfl rfl 27 _ L4.out (size_rx C6.out) (by rw [HZL.out, C6.out]) C1.out B4.out (Nat.le_refl _) ?_; intro w5 hk hb hs ho; have L5 := Lib.hid hk; have B35 := Lib.hid hb; have B5 := Lib.hid (B3.out.trans (hb.mono B3.out.size)); clear hk hb hs ho; (try simp only [Act.put, qA, qB, qC])))
 have V5 := Lib.hid ((V3.out.stay B35.out).mono B35.out.size)
 go_loopw [6, 7, 8] (fun v b i wl => ∃ (j : Nat), j ≤ ts.length ∧ i = .int .i64 (j : Int) ∧ b = .bool (okw t ts j) ∧ (∀ i, i < j → (ts.getD i []).length ≤ 6) ∧ wl.ownsRow w5.heap.size 5 1 v (flw ts j).length (bvs (flw ts j)) ∧ Blk wl w3.heap.size 27 cs ∧ Below w5.heap.size w5 wl) (fun _ _ i _ => ts.length - (intOf i).toNat)
 case atStart => exact ⟨0, Nat.zero_le _, by simp, rfl, fun i hi => absurd hi (Nat.not_lt_zero _), ownN _ _ _, L5.out, Below.refl _ _⟩
 case round =>
  obtain ⟨j, hj, rfl, rfl, hall, ho, hk, hb⟩ := hrel
  have HALL := Lib.hid hall
  have OX := Lib.hid ho
  have KX := Lib.hid hk
  have BX := Lib.hid hb
  have BXW := Lib.hid (B5.out.trans (hb.mono B5.out.size))
  have VX := Lib.hid ((V5.out.stay hb).mono hb.size)
  have HFL := Lib.hid (show (flw ts j).length ≤ 24 by have h1 := flw_len ts j hall; have h2 := HL2.out; omega)
  have HCS6 := Lib.hid (show (Try.prog.info? 27).map (·.size) = some cs.length from size_rx C6.out)
  clear hall ho hk hb
  obtain ⟨b, hbv⟩ : ∃ b, b = okw t ts j := ⟨_, rfl⟩
  have HBV := Lib.hid hbv
  rw [← hbv]
  clear hbv
  by_cases hjl : j < ts.length
  ·have j1 : (j : Int) < (ts.length : Int) := Int.ofNat_lt.2 hjl
   have HJ1 := Lib.hid j1
   have HJL := Lib.hid hjl
   obtain ⟨vals, e1, hvals, hx⟩ := HTS.out.below BXW.out
   obtain ⟨b1, off1, rfl, hb1, hcell⟩ := hvals.at_ (by omega)
   obtain ⟨x, hxk, hrx⟩ := hx j hjl
   have hck := hcell j x hxk
   obtain ⟨tw, htw⟩ : ∃ tw, tw = ts.getD j [] := ⟨_, rfl⟩
   rw [← htw] at hrx
   have HTW := Lib.hid htw
   have RX := Lib.hid hrx
   obtain ⟨A6, c6, rfl, _, _, _, _⟩ := hrx
   rw [bvs_length] at hck RX
   have HCK := Lib.hid hck
   have HB1L := Lib.hid hb1
   have hj62 : j ≤ 4611686018427387904 := by have := HL2.out; omega
   have HE3 := Lib.hid (wrap_one j hj62)
   have HE4 := Lib.hid (wrap_one' j hj62)
   have HMS := Lib.hid (sub_next hjl)
   clear hcell hxk hx hvals e1 htw vals hj62 hb1
   by_cases h6 : 6 < tw.length
   ·have i6 : (6 : Int) < (tw.length : Int) := by omega
    clear h6
    go_wp2_with fail
    go_ret
    exact ⟨rfl, BXW.out⟩
   have i6 : ¬ ((6 : Int) < (tw.length : Int)) := by omega
   have HT6 := Lib.hid (show tw.length ≤ 6 by omega)
   have HA2 := Lib.hid (show ∀ i, i < j + 1 → (ts.getD i []).length ≤ 6 from fun i hi => by
    rcases Nat.lt_or_ge i j with h | h
    ·exact HALL.out i h
    ·obtain rfl : i = j := by omega
     rw [← HTW.out]
     exact HT6.out)
   clear h6
   cases b with
   | true =>
    obtain ⟨res, hres⟩ : ∃ r, r = lgB t tw := ⟨_, rfl⟩
    have HRES := Lib.hid hres
    have HOK := Lib.hid (show Value.bool res = Value.bool (okw t ts (j + 1)) by rw [okw, ← HBV.out, ← HTW.out, hres]; rfl)
    clear hres
    go_wp2_with fail
    refine sg_start (S := fun V => wr.grownBy V none) (by kernel_rfl) (grown_start _ _) (fun wd hwd => ?_)
    have hX : wr.grownBy wd none := by rw [hwd]; exact grown_start _ _
    have hwb : Below wr.heap.size wr wd := by rw [hwd]; exact (Below.refl _ _).drew
    clear hwd
    have HRC := Lib.hid (show wr.rangeAt w3.heap.size 0 cs from fun i v hv => (KX.out.cell (0 + i)).trans (by rw [Nat.zero_add]; exact hv))
    have HVD := Lib.hid (show RxV wd.heap.size wd cs t from (VX.out.stay hwb).mono hwb.size)
    have HRD := Lib.hid (RX.out.below hwb)
    clear hwb
    refine sg_take (i := 0) (oi := ⟨some 34, _, _, _, _, _⟩) (v := ?_) rfl (by kernel_rfl) (by kernel_rfl) (by kernel_rfl) (fun _ _ _ h => h) rfl hX ?_ ?_; rotate_left; (intro W hW; go_simp; try with_reducible rfl); simp only [Act.put, qA, qB, qC]
    refine sg_take (i := 1) (oi := ⟨some 35, _, _, _, _, _⟩) (v := ?_) rfl (by kernel_rfl) (by kernel_rfl) (by kernel_rfl) (fun _ _ _ h => h) rfl hX ?_ ?_; rotate_left; (intro W hW; go_simp; try with_reducible rfl); simp only [Act.put, qA, qB, qC]
    refine sg_take (i := 2) (oi := ⟨some 36, _, _, _, _, _⟩) (v := .agg cs.toArray) rfl (by kernel_rfl) (by kernel_rfl) (by kernel_rfl) (fun _ _ _ h => h) rfl hX (fun W hW => ld_keep 27 _ rfl w3.heap.size 0 rfl _ _ HRC.out (hW.block _ KX.out.lt (by simp)) Try.underlying27 rfl (size_rx C6.out)) ?_; simp only [Act.put, qA, qB, qC]
    refine sg_take (i := 3) (oi := ⟨some 37, _, _, _, _, _⟩) (v := ?_) rfl (by kernel_rfl) (by kernel_rfl) (by kernel_rfl) (fun _ _ _ h => h) rfl hX ?_ ?_; rotate_left; (intro W hW; go_simp; try with_reducible rfl); simp only [Act.put, qA, qB, qC]
    refine sg_take (i := 4) (oi := ⟨some 38, _, _, _, _, _⟩) (v := ?_) rfl (by kernel_rfl) (by kernel_rfl) (by kernel_rfl) (fun _ _ _ h => h) rfl hX ?_ ?_; rotate_left; (intro W hW; go_simp; try with_reducible rfl); simp only [Act.put, qA, qB, qC]
    refine sg_take (i := 5) (oi := ⟨some 39, _, _, _, _, _⟩) (v := ?_) rfl (by kernel_rfl) (by kernel_rfl) (by kernel_rfl) (fun _ _ _ h => h) rfl hX ?_ ?_; rotate_left; (intro W hW; go_simp; try with_reducible rfl); simp only [Act.put, qA, qB, qC]
    refine sg_take (i := 6) (oi := ⟨some 40, _, _, _, _, _⟩) (v := .slice A6 tw.length c6) rfl (by kernel_rfl) (by kernel_rfl) (by kernel_rfl) (fun _ _ _ h => h) rfl hX (fun W hW => ld_words _ rfl rfl (grown_cell hW HB1L.out (by simp) HCK.out)) ?_; simp only [Act.put, qA, qB, qC]
    refine sg_actB (i := 7) (o := ⟨some 41, _, _, _, _, _⟩) rfl (by kernel_rfl) rfl hX (fun K hK => ?_)
    go_wp2_with fail
    refine (lIn_any t HM2.out tw (by have := HT6.out; omega) _ cs wd HRD.out HVD.out).mono ?_
    rintro e wE ⟨rfl, hb⟩
    rw [← HRES.out]
    go_wp2_with fail
    refine hK _ _ (grown_then hX hb) ?_
    clear hK K
    (try simp only [Act.put, qA, qB, qC])
    replace hX := grown_then hX hb
    clear hb
    refine sg_take (i := 8) (oi := ⟨some 42, _, _, _, _, _⟩) (v := ?_) rfl (by kernel_rfl) (by kernel_rfl) (by kernel_rfl) (fun _ _ _ h => h) rfl hX ?_ ?_; rotate_left; (intro W hW; go_simp; try with_reducible rfl); simp only [Act.put, qA, qB, qC]
    refine sg_take (i := 9) (oi := ⟨some 7, _, _, _, _, _⟩) (v := ?_) rfl (by kernel_rfl) (by kernel_rfl) (by kernel_rfl) (fun _ _ _ h => h) rfl hX ?_ ?_; rotate_left; (intro W hW; go_simp; try with_reducible rfl); simp only [Act.put, qA, qB, qC]
    refine wpAnyH_done (by kernel_rfl) ?_ _
    have BE := Lib.hid (show Below wr.heap.size wr wE from ⟨hX.os, hX.tape, hX.output, hX.size, fun k hk => hX.block k hk (by simp)⟩)
    clear hX
    have KE := Lib.hid (KX.out.below BE.out KX.out.lt)
    have OE := Lib.hid (ownBelow OX.out BE.out (Nat.le_refl _))
    have RE := Lib.hid (RX.out.below BE.out)
    have BZ := Lib.hid (BX.out.trans (BE.out.mono BX.out.size))
    have hck := (BE.out.cell (p := ⟨b1, off1 + j, none⟩) HB1L.out).trans HCK.out
    have j1 := HJ1.out
    have HAP := Lib.hid (show (flw ts j).length + (bvs tw).length ≤ 1048576 by have := HFL.out; have := HT6.out; rw [bvs_length]; omega)
    have e3 := HE3.out
    have e4 := HE4.out
    go_wp2_with ((with_reducible refine atDst 48 ?_); refine wpList_appR (w0 := w5) rfl (.tmp 43) (.tmp 47) 28 rfl 5 iu (.int .u8 0) 1 Try.underlying28 hiu hy0 hy1 hy2 rfl _ _ _ rfl OE.out _ (bvs tw) rfl RE.out (bvs_one _) HAP.out (by decide) BZ.out ?_; intro v9 w9 ho9 hr9 hb9 hg9; have O9 := Lib.hid ho9; have B9 := Lib.hid hb9; clear ho9 hr9 hb9 hg9; (try simp only [Act.put, qA, qB, qC]))
    refine ⟨⟨j + 1, HJL.out, by congr 1, HOK.out, HA2.out, ?_, L5.out.below B9.out L5.out.lt, B9.out⟩, by simpa [intOf] using HMS.out⟩
    rw [flw, ← HTW.out]
    simp only [bvs_append, List.length_append]
    have := O9.out
    rw [bvs_length] at this
    exact this
   | false =>
    have HOK := Lib.hid (show Value.bool false = Value.bool (okw t ts (j + 1)) by rw [okw, ← HBV.out]; rfl)
    go_wp2_with fail
    refine sg_start (S := fun V => wr.grownBy V none) (by kernel_rfl) (grown_start _ _) (fun wd hwd => ?_)
    have hX : wr.grownBy wd none := by rw [hwd]; exact grown_start _ _
    clear hwd
    refine sg_take (i := 0) (oi := ⟨some 34, _, _, _, _, _⟩) (v := ?_) rfl (by kernel_rfl) (by kernel_rfl) (by kernel_rfl) (fun _ _ _ h => h) rfl hX ?_ ?_; rotate_left; (intro W hW; go_simp; try with_reducible rfl); simp only [Act.put, qA, qB, qC]
    refine sg_take (i := 1) (oi := ⟨some 35, _, _, _, _, _⟩) (v := ?_) rfl (by kernel_rfl) (by kernel_rfl) (by kernel_rfl) (fun _ _ _ h => h) rfl hX ?_ ?_; rotate_left; (intro W hW; go_simp; try with_reducible rfl); simp only [Act.put, qA, qB, qC]
    refine sg_skip (i := 2) (oi := ⟨some 36, _, _, _, _, _⟩) rfl (by kernel_rfl) (by kernel_rfl) (by kernel_rfl) (fun _ _ _ h => h) rfl hX ?_; simp only [Act.put, qA, qB, qC]
    refine sg_skip (i := 3) (oi := ⟨some 37, _, _, _, _, _⟩) rfl (by kernel_rfl) (by kernel_rfl) (by kernel_rfl) (fun _ _ _ h => h) rfl hX ?_; simp only [Act.put, qA, qB, qC]
    refine sg_skip (i := 4) (oi := ⟨some 38, _, _, _, _, _⟩) rfl (by kernel_rfl) (by kernel_rfl) (by kernel_rfl) (fun _ _ _ h => h) rfl hX ?_; simp only [Act.put, qA, qB, qC]
    refine sg_skip (i := 5) (oi := ⟨some 39, _, _, _, _, _⟩) rfl (by kernel_rfl) (by kernel_rfl) (by kernel_rfl) (fun _ _ _ h => h) rfl hX ?_; simp only [Act.put, qA, qB, qC]
    refine sg_skip (i := 6) (oi := ⟨some 40, _, _, _, _, _⟩) rfl (by kernel_rfl) (by kernel_rfl) (by kernel_rfl) (fun _ _ _ h => h) rfl hX ?_; simp only [Act.put, qA, qB, qC]
    refine sg_skip (i := 7) (oi := ⟨some 41, _, _, _, _, _⟩) rfl (by kernel_rfl) (by kernel_rfl) (by kernel_rfl) (fun _ _ _ h => h) rfl hX ?_; simp only [Act.put, qA, qB, qC]
    refine sg_take (i := 8) (oi := ⟨some 42, _, _, _, _, _⟩) (v := ?_) rfl (by kernel_rfl) (by kernel_rfl) (by kernel_rfl) (fun _ _ _ h => h) rfl hX ?_ ?_; rotate_left; (intro W hW; go_simp; try with_reducible rfl); simp only [Act.put, qA, qB, qC]
    refine sg_take (i := 9) (oi := ⟨some 7, _, _, _, _, _⟩) (v := ?_) rfl (by kernel_rfl) (by kernel_rfl) (by kernel_rfl) (fun _ _ _ h => h) rfl hX ?_ ?_; rotate_left; (intro W hW; go_simp; try with_reducible rfl); simp only [Act.put, qA, qB, qC]
    refine wpAnyH_done (by kernel_rfl) ?_ _
    have BE := Lib.hid (show Below wr.heap.size wr wd from ⟨hX.os, hX.tape, hX.output, hX.size, fun k hk => hX.block k hk (by simp)⟩)
    clear hX
    have KE := Lib.hid (KX.out.below BE.out KX.out.lt)
    have OE := Lib.hid (ownBelow OX.out BE.out (Nat.le_refl _))
    have RE := Lib.hid (RX.out.below BE.out)
    have BZ := Lib.hid (BX.out.trans (BE.out.mono BX.out.size))
    have hck := (BE.out.cell (p := ⟨b1, off1 + j, none⟩) HB1L.out).trans HCK.out
    have j1 := HJ1.out
    have HAP := Lib.hid (show (flw ts j).length + (bvs tw).length ≤ 1048576 by have := HFL.out; have := HT6.out; rw [bvs_length]; omega)
    have e3 := HE3.out
    have e4 := HE4.out
    go_wp2_with ((with_reducible refine atDst 48 ?_); refine wpList_appR (w0 := w5) rfl (.tmp 43) (.tmp 47) 28 rfl 5 iu (.int .u8 0) 1 Try.underlying28 hiu hy0 hy1 hy2 rfl _ _ _ rfl OE.out _ (bvs tw) rfl RE.out (bvs_one _) HAP.out (by decide) BZ.out ?_; intro v9 w9 ho9 hr9 hb9 hg9; have O9 := Lib.hid ho9; have B9 := Lib.hid hb9; clear ho9 hr9 hb9 hg9; (try simp only [Act.put, qA, qB, qC]))
    refine ⟨⟨j + 1, HJL.out, by congr 1, HOK.out, HA2.out, ?_, L5.out.below B9.out L5.out.lt, B9.out⟩, by simpa [intOf] using HMS.out⟩
    rw [flw, ← HTW.out]
    simp only [bvs_append, List.length_append]
    have := O9.out
    rw [bvs_length] at this
    exact this
  ·obtain rfl : j = ts.length := by omega
   have j1 : ¬ ((ts.length : Int) < (ts.length : Int)) := by omega
   have RX := Lib.hid (Row.of_own OX.out)
   cases b with
   | true =>
    have HST := Lib.hid (lgB_iff.2 ((lg_starT HG.out _).2 (okw_star ts ts.length HBV.out.symm)))
    obtain ⟨fw, hfw⟩ : ∃ fw, fw = flw ts ts.length := ⟨_, rfl⟩
    rw [← hfw] at HST RX HFL
    clear OX hfw
    go_wp2_with ((with_reducible refine atDst 52 ?_); refine wpList_ldArr rfl 27 _ rfl w3.heap.size rfl 27 _ _ KX.out Try.underlying27 rfl (size_rx C6.out) ?_; (try simp only [Act.put, qA, qB, qC]))
    refine (refStar_any t cs wr (D := fun k => k < wr.heap.size) (fun k hk => hk) VX.out (Nat.le_trans HM2.out (by decide)) HG.out).mono ?_
    rintro e wE ⟨ds, rfl, hds, hb⟩
    have HDS := Lib.hid (show RxV wE.heap.size wE ds (starT t) from RxD.mono hds fun k hk => hk.2)
    have RY := Lib.hid (RX.out.below hb)
    have BY := Lib.hid (BXW.out.trans (hb.mono BXW.out.size))
    clear hds hb
    go_wp2_with fail
    refine (lIn_any (starT t) HMS.out fw (by have := HFL.out; omega) _ ds wE RY.out HDS.out).mono ?_
    rintro e wF ⟨rfl, hb⟩
    rw [HST.out]
    have BF := Lib.hid (BY.out.trans (hb.mono BY.out.size))
    clear hb
    go_wp2_with fail
    go_ret
    exact ⟨rfl, BF.out⟩
   | false =>
    go_wp2_with fail
    go_ret
    exact ⟨rfl, BXW.out⟩
end Go.Proofs.Ytopnpdobcagcgaa
