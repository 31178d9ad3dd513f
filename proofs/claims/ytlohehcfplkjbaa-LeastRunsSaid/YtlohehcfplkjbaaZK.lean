/-
  Texts of this proof, put together: LpD, ClA, SoA, SoB, FmA. No statement is proved here.
-/
import Derived.Test.YtlohehcfplkjbaaZJ
import Derived.Test.YtlohehcfplkjbaaZA
import Derived.Test.YtlohehcfplkjbaaChecked
import Derived.Lib.SliceRun
import Derived.StillTailTactics
import Derived.Test.YtlohehcfplkjbaaZH
import Derived.Test.YtlohehcfplkjbaaZB
import Derived.Test.YtlohehcfplkjbaaZC
import Derived.Test.YtlohehcfplkjbaaZF
namespace Go.Proofs.Ytlohehcfplkjbaa
open Go.RowKit
set_option linter.unusedSimpArgs false
set_option linter.unusedVariables false
noncomputable def alkG (D : Dm) (P : Nat → Nat) (t : Nat → Bool) (n a b : Nat) : Bool := @decide (∀ i, i < n → t i = true → P (stC D i a) = P (stC D i b)) (Classical.propDecidable _)
theorem alkG_iff {D : Dm} {P : Nat → Nat} {t : Nat → Bool} {n a b : Nat} : alkG D P t n a b = true ↔ ∀ i, i < n → t i = true → P (stC D i a) = P (stC D i b) := by
 unfold alkG
 exact ⟨fun h => @of_decide_eq_true _ (Classical.propDecidable _) h, fun h => @decide_eq_true _ (Classical.propDecidable _) h⟩
theorem alkG_no {D : Dm} {P : Nat → Nat} {t : Nat → Bool} {n a b : Nat} (h : ¬ ∀ i, i < n → t i = true → P (stC D i a) = P (stC D i b)) : alkG D P t n a b = false := by
 cases e : alkG D P t n a b with
 | false => rfl
 | true => exact absurd (alkG_iff.1 e) h
theorem row_ncs {w : World} {pv : Value} {n : Nat} {P : Nat → Nat} (hp : Row w pv (ncs n P)) (h0n : 0 < n) : ∃ bp op c, pv = .slice (some ⟨bp, op, none⟩) n c ∧ bp < w.heap.size ∧ ∀ q, q < n → w.cell? ⟨bp, op + q, none⟩ = some (.int .i64 (P q : Int)) := by
 obtain ⟨A, c, h1, _⟩ := id hp
 subst h1
 rw [ncs_len] at hp ⊢
 obtain ⟨b1, o1, rfl, h2, h3⟩ := hp.at_ (by rw [ncs_len]; exact h0n)
 exact ⟨b1, o1, c, rfl, h2, fun q hq => h3 q _ (ncs_get P hq)⟩
theorem row_bcs {w : World} {pv : Value} {n : Nat} {t : Nat → Bool} (hp : Row w pv (bcs n t)) (h0n : 0 < n) : ∃ bp op c, pv = .slice (some ⟨bp, op, none⟩) n c ∧ bp < w.heap.size ∧ ∀ q, q < n → w.cell? ⟨bp, op + q, none⟩ = some (.bool (t q)) := by
 obtain ⟨A, c, h1, _⟩ := id hp
 subst h1
 rw [bcs_len] at hp ⊢
 obtain ⟨b1, o1, rfl, h2, h3⟩ := hp.at_ (by rw [bcs_len]; exact h0n)
 exact ⟨b1, o1, c, rfl, h2, fun q hq => h3 q _ (bcs_get t hq)⟩
set_option maxHeartbeats 8000000 in
set_option maxRecDepth 1000000 in
theorem refAlike11_any (D : Dm) (P : Nat → Nat) (t : Nat → Bool) (n a b : Nat) (cs : List Value) (pv rv : Value) (w : World) (hv : DfaV w cs D) (hm : MayD D) (hn : n = D.next.length) (hp : Row w pv (ncs n P)) (ht : Row w rv (bcs n t)) (ha : a < clsA D.cl) (hb : b < clsA D.cl) :
  Calls Try.prog 32 #[.agg cs.toArray, pv, rv, .int .i64 (a : Int), .int .i64 (b : Int)] w fun e w' => e = .returned (.bool (alkG D P t n a b)) ∧ Below w.heap.size w w' := by
 have HM := qH hm
 have HDS := qH hv.size
 obtain ⟨An, Ae, cn, ce, vf, hl, hcs, hnx, hr, he⟩ := hv.form
 have HL := qH hl
 have HN := qH hn
 rw [← hn] at hcs hnx
 have HCS := qH hcs
 have HR := qH hr
 obtain ⟨k, hk⟩ : ∃ k, k = clsA D.cl := ⟨_, rfl⟩
 have HK := qH hk
 rw [← hk] at ha hb
 have HA := qH ha
 have HB := qH hb
 have HNF := qH (show n ≤ 2000 by rw [hn]; exact hm.few)
 have h0n : 0 < n := by rw [hn]; exact hm.pos
 obtain ⟨bp, op, cp, rfl, hbp, hcp⟩ := row_ncs hp h0n
 obtain ⟨bt, ot, ct, rfl, hbt, hct⟩ := row_bcs ht h0n
 have CP := qH hcp
 have HBP := qH hbp
 have CT := qH hct
 have HBT := qH hbt
 obtain ⟨bn, on, rfl, hbn, hcn⟩ := hnx.at_ (by rw [List.length_map, List.length_range]; exact h0n)
 have HBN := qH hbn
 have row : ∀ s, s < n → ∃ r Ar cr, D.next[s]? = some r ∧ r.length = k ∧ w.cell? ⟨bn, on + s, none⟩ = some (.slice Ar k cr) ∧ Row w (.slice Ar k cr) (nums .i64 r) := fun s hs => by
  obtain ⟨r, h1⟩ : ∃ r, D.next[s]? = some r := ⟨_, List.getElem?_eq_getElem (by rw [← hn]; exact hs)⟩
  have h2 : r.length = k := by rw [hk]; exact hm.rows r (List.mem_of_getElem? h1)
  have h3 := hr s r h1
  obtain ⟨Ar, cr, hvr, _⟩ := id h3
  rw [nums_length, h2] at hvr
  rw [hvr] at h3
  exact ⟨r, Ar, cr, h1, h2, hcn s _ (by simp [hs, hvr]), h3⟩
 have ROW := qH row
 have ya : (a : Int) < (k : Int) := Int.ofNat_lt.2 ha
 have yb : (b : Int) < (k : Int) := Int.ofNat_lt.2 hb
 clear hv hm hl hcs hnx hr he hn hp ht ha hb hk h0n hbp hcp hbt hct hbn hcn row
 go_enter Try.func32, Try.ntmps32
 go_wp2_with ((with_reducible refine atDst 5 ?_); refine wpList_box rfl 28 _ rfl cs rfl (Below.refl w.heap.size w) (Nat.le_refl _) ?_; intro w1 hk1 hb1 hs1 _; have K1 := qH hk1; have BW := qH hb1; clear hk1 hb1 hs1; (try simp only [Act.put, qA, qB, qC]))
 go_loopw [11] (fun v wl => ∃ i : Nat, i ≤ n ∧ v = .int .i64 (i : Int) ∧ (∀ q, q < i → t q = true → P (stC D q a) = P (stC D q b)) ∧ Below w.heap.size w wl ∧ Blk wl w.heap.size 28 cs) (fun v _ => n - (intOf v).toNat)
 case atStart => exact ⟨0, Nat.zero_le _, rfl, fun q hq => absurd hq (Nat.not_lt_zero q), BW.out, K1.out⟩
 obtain ⟨i, hi, rfl, hq, hb, hkw⟩ := hrel
 have HI := qH hi
 have HQ := qH hq
 have HBW := qH hb
 have KW := qH hkw
 have c256 : wr.cell? ⟨w.heap.size, 256, none⟩ = some (.slice (some ⟨bn, on, none⟩) n cn) := by rw [KW.out.cell 256, HCS.out]; exact dcl_n HL.out
 clear hi hq hb hkw K1 BW
 by_cases hin : i < n
 ·have y1 : (i : Int) < (n : Int) := Int.ofNat_lt.2 hin
  have HIN := qH hin
  have HMI := qH (sub_next hin)
  have f3 := wrap_one i (lt_bigN hin HNF.out)
  have f4 := wrap_one' i (lt_bigN hin HNF.out)
  obtain ⟨r, Ar, cr, ha1, ha2, ha3, ha4⟩ := ROW.out i hin
  have A3 := qH ha3
  obtain ⟨u, hu⟩ : ∃ u, stC D i a = u := ⟨_, rfl⟩
  obtain ⟨v, hv⟩ : ∃ v, stC D i b = v := ⟨_, rfl⟩
  obtain ⟨br, or, rfl, l1, hcr⟩ := ha4.at_ (by rw [nums_length, ha2]; exact Nat.lt_of_le_of_lt (Nat.zero_le _) HA.out)
  have cell : ∀ j u, j < k → stC D i j = u → u < n ∧ w.cell? ⟨br, or + j, none⟩ = some (.int .i64 (u : Int)) := fun j u hj hu => by
   obtain ⟨r', e1, _, e3, e4⟩ := may_cell HM.out (s := i) (k := j) (by rw [← HN.out]; exact hin) (by rw [← HK.out]; exact hj)
   obtain rfl : r' = r := Option.some.inj (e1.symm.trans ha1)
   rw [hu] at e3 e4
   exact ⟨by rw [HN.out]; exact e4, hcr j _ (by simp [nums, e3])⟩
  obtain ⟨hun, c1⟩ := cell a u HA.out hu
  obtain ⟨hvn, c2⟩ := cell b v HB.out hv
  obtain ⟨s, hs⟩ : ∃ s, P u = s := ⟨_, rfl⟩
  obtain ⟨x, hx⟩ : ∃ t, P v = t := ⟨_, rfl⟩
  obtain ⟨tt, htt⟩ : ∃ x, t i = x := ⟨_, rfl⟩
  have L1 := qH l1
  have C1 := qH c1
  have C2 := qH c2
  have yu : (u : Int) < (n : Int) := Int.ofNat_lt.2 hun
  have yv : (v : Int) < (n : Int) := Int.ofNat_lt.2 hvn
  have CU := qH (show w.cell? ⟨bp, op + u, none⟩ = some (.int .i64 (s : Int)) by rw [← hs]; exact CP.out u hun)
  have CV := qH (show w.cell? ⟨bp, op + v, none⟩ = some (.int .i64 (x : Int)) by rw [← hx]; exact CP.out v hvn)
  have CTI := qH (show w.cell? ⟨bt, ot + i, none⟩ = some (.bool tt) by rw [← htt]; exact CT.out i hin)
  have HST := qH (show P (stC D i a) = s ∧ P (stC D i b) = x by rw [hu, hv]; exact ⟨hs, hx⟩)
  have HTT := qH htt
  obtain ⟨z, hz⟩ : ∃ z, ((s : Int) != (x : Int)) = z := ⟨_, rfl⟩
  have HZ := qH hz
  clear hu hv cell l1 c1 c2 hun hvn hs hx ha1 ha2 ha3 ha4 hcr htt hin hz
  go_wp2_with fail
  clear c256
  refine mc_start (fun V => Below wr.heap.size wr V) (fun _ => True) 29 (by kernel_rfl) (fun wd2 hwd => ?_)
  have hX : Below wr.heap.size wr wd2 := by rw [hwd]; exact (Below.refl _ _).drew
  clear hwd
  have TO := qH (show ∀ V, Below wr.heap.size wr V → Below w.heap.size w V from fun V hV => HBW.out.trans (hV.mono HBW.out.size))
  have C256 := qH (show ∀ V, Below wr.heap.size wr V → V.cell? ⟨w.heap.size, 256, none⟩ = some (.slice (some ⟨bn, on, none⟩) n cn) from fun V hV => by rw [(KW.out.below hV KW.out.lt).cell 256, HCS.out]; exact dcl_n HL.out)
  cases tt with
  | false =>
   refine mc_take (i := 0) (oi := ⟨some 19, _, _, _, _, _⟩) (v := ?_) rfl (by kernel_rfl) (by kernel_rfl) (by kernel_rfl) (fun _ _ _ h => h) rfl hX ?_ ?_; rotate_left; (intro W hW; go_simp; try with_reducible rfl); simp only [Act.put, qA, qB, qC]
   refine mc_take (i := 1) (oi := ⟨some 20, _, _, _, _, _⟩) (v := ?_) rfl (by kernel_rfl) (by kernel_rfl) (by kernel_rfl) (fun _ _ _ h => h) rfl hX ?_ ?_; rotate_left; (intro W hW; go_simp; try with_reducible rfl); simp only [Act.put, qA, qB, qC]
   refine mc_take (i := 2) (oi := ⟨some 21, _, _, _, _, _⟩) (v := ?_) rfl (by kernel_rfl) (by kernel_rfl) (by kernel_rfl) (fun _ _ _ h => h) rfl hX ?_ ?_; rotate_left; (intro W hW; go_simp; try with_reducible rfl); simp only [Act.put, qA, qB, qC]
   refine mc_take (i := 3) (oi := ⟨some 22, _, _, _, _, _⟩) (v := .bool false) rfl (by kernel_rfl) (by kernel_rfl) (by kernel_rfl) (fun _ _ _ h => h) rfl hX (fun V hV => ld_b (.tmp 21) rfl rfl (((TO.out V hV).cell (p := ⟨bt, ot + i, none⟩) HBT.out).trans CTI.out)) ?_; simp only [Act.put, qA, qB, qC]
   refine mc_take (i := 4) (oi := ⟨some 23, _, _, _, _, _⟩) (v := ?_) rfl (by kernel_rfl) (by kernel_rfl) (by kernel_rfl) (fun _ _ _ h => h) rfl hX ?_ ?_; rotate_left; (intro W hW; go_simp; try with_reducible rfl); simp only [Act.put, qA, qB, qC]
   refine mc_skip (i := 5) (oi := ⟨some 24, _, _, _, _, _⟩) rfl (by kernel_rfl) (by kernel_rfl) (by kernel_rfl) (fun _ _ _ h => h) rfl hX ?_; simp only [Act.put, qA, qB, qC]
   refine mc_skip (i := 6) (oi := ⟨some 25, _, _, _, _, _⟩) rfl (by kernel_rfl) (by kernel_rfl) (by kernel_rfl) (fun _ _ _ h => h) rfl hX ?_; simp only [Act.put, qA, qB, qC]
   refine mc_skip (i := 7) (oi := ⟨some 26, _, _, _, _, _⟩) rfl (by kernel_rfl) (by kernel_rfl) (by kernel_rfl) (fun _ _ _ h => h) rfl hX ?_; simp only [Act.put, qA, qB, qC]
   refine mc_skip (i := 8) (oi := ⟨some 27, _, _, _, _, _⟩) rfl (by kernel_rfl) (by kernel_rfl) (by kernel_rfl) (fun _ _ _ h => h) rfl hX ?_; simp only [Act.put, qA, qB, qC]
   refine mc_skip (i := 9) (oi := ⟨some 28, _, _, _, _, _⟩) rfl (by kernel_rfl) (by kernel_rfl) (by kernel_rfl) (fun _ _ _ h => h) rfl hX ?_; simp only [Act.put, qA, qB, qC]
   refine mc_skip (i := 10) (oi := ⟨some 29, _, _, _, _, _⟩) rfl (by kernel_rfl) (by kernel_rfl) (by kernel_rfl) (fun _ _ _ h => h) rfl hX ?_; simp only [Act.put, qA, qB, qC]
   refine mc_skip (i := 11) (oi := ⟨some 30, _, _, _, _, _⟩) rfl (by kernel_rfl) (by kernel_rfl) (by kernel_rfl) (fun _ _ _ h => h) rfl hX ?_; simp only [Act.put, qA, qB, qC]
   refine mc_skip (i := 12) (oi := ⟨some 31, _, _, _, _, _⟩) rfl (by kernel_rfl) (by kernel_rfl) (by kernel_rfl) (fun _ _ _ h => h) rfl hX ?_; simp only [Act.put, qA, qB, qC]
   refine mc_skip (i := 13) (oi := ⟨some 32, _, _, _, _, _⟩) rfl (by kernel_rfl) (by kernel_rfl) (by kernel_rfl) (fun _ _ _ h => h) rfl hX ?_; simp only [Act.put, qA, qB, qC]
   refine mc_skip (i := 14) (oi := ⟨some 33, _, _, _, _, _⟩) rfl (by kernel_rfl) (by kernel_rfl) (by kernel_rfl) (fun _ _ _ h => h) rfl hX ?_; simp only [Act.put, qA, qB, qC]
   refine mc_skip (i := 15) (oi := ⟨some 34, _, _, _, _, _⟩) rfl (by kernel_rfl) (by kernel_rfl) (by kernel_rfl) (fun _ _ _ h => h) rfl hX ?_; simp only [Act.put, qA, qB, qC]
   refine mc_skip (i := 16) (oi := ⟨some 35, _, _, _, _, _⟩) rfl (by kernel_rfl) (by kernel_rfl) (by kernel_rfl) (fun _ _ _ h => h) rfl hX ?_; simp only [Act.put, qA, qB, qC]
   refine mc_skip (i := 17) (oi := ⟨some 36, _, _, _, _, _⟩) rfl (by kernel_rfl) (by kernel_rfl) (by kernel_rfl) (fun _ _ _ h => h) rfl hX ?_; simp only [Act.put, qA, qB, qC]
   refine mc_skip (i := 18) (oi := ⟨some 37, _, _, _, _, _⟩) rfl (by kernel_rfl) (by kernel_rfl) (by kernel_rfl) (fun _ _ _ h => h) rfl hX ?_; simp only [Act.put, qA, qB, qC]
   refine mc_skip (i := 19) (oi := ⟨some 38, _, _, _, _, _⟩) rfl (by kernel_rfl) (by kernel_rfl) (by kernel_rfl) (fun _ _ _ h => h) rfl hX ?_; simp only [Act.put, qA, qB, qC]
   refine mc_skip (i := 20) (oi := ⟨some 39, _, _, _, _, _⟩) rfl (by kernel_rfl) (by kernel_rfl) (by kernel_rfl) (fun _ _ _ h => h) rfl hX ?_; simp only [Act.put, qA, qB, qC]
   refine mc_skip (i := 21) (oi := ⟨some 40, _, _, _, _, _⟩) rfl (by kernel_rfl) (by kernel_rfl) (by kernel_rfl) (fun _ _ _ h => h) rfl hX ?_; simp only [Act.put, qA, qB, qC]
   refine mc_skip (i := 22) (oi := ⟨some 41, _, _, _, _, _⟩) rfl (by kernel_rfl) (by kernel_rfl) (by kernel_rfl) (fun _ _ _ h => h) rfl hX ?_; simp only [Act.put, qA, qB, qC]
   refine mc_skip (i := 23) (oi := ⟨some 42, _, _, _, _, _⟩) rfl (by kernel_rfl) (by kernel_rfl) (by kernel_rfl) (fun _ _ _ h => h) rfl hX ?_; simp only [Act.put, qA, qB, qC]
   refine mc_skip (i := 24) (oi := ⟨some 43, _, _, _, _, _⟩) rfl (by kernel_rfl) (by kernel_rfl) (by kernel_rfl) (fun _ _ _ h => h) rfl hX ?_; simp only [Act.put, qA, qB, qC]
   refine mc_skip (i := 25) (oi := ⟨some 44, _, _, _, _, _⟩) rfl (by kernel_rfl) (by kernel_rfl) (by kernel_rfl) (fun _ _ _ h => h) rfl hX ?_; simp only [Act.put, qA, qB, qC]
   refine mc_skip (i := 26) (oi := ⟨some 45, _, _, _, _, _⟩) rfl (by kernel_rfl) (by kernel_rfl) (by kernel_rfl) (fun _ _ _ h => h) rfl hX ?_; simp only [Act.put, qA, qB, qC]
   refine mc_skip (i := 27) (oi := ⟨some 46, _, _, _, _, _⟩) rfl (by kernel_rfl) (by kernel_rfl) (by kernel_rfl) (fun _ _ _ h => h) rfl hX ?_; simp only [Act.put, qA, qB, qC]
   refine mc_take (i := 28) (oi := ⟨some 47, _, _, _, _, _⟩) (v := ?_) rfl (by kernel_rfl) (by kernel_rfl) (by kernel_rfl) (fun _ _ _ h => h) rfl hX ?_ ?_; rotate_left; (intro W hW; go_simp; try with_reducible rfl); simp only [Act.put, qA, qB, qC]
   refine wpAnyC_done (by kernel_rfl) ?_ _
   have BE := qH (TO.out _ hX)
   have KE := qH (KW.out.below hX KW.out.lt)
   have HQ2 := qH (show ∀ q, q < i + 1 → t q = true → P (stC D q a) = P (stC D q b) from fun q hq h => by
    by_cases e : q = i
    ·subst e; rw [HTT.out] at h; cases h
    ·exact HQ.out q (by omega) h)
   clear hX
   go_wp2_with fail
   exact ⟨⟨i + 1, HIN.out, by congr 1, HQ2.out, BE.out, KE.out⟩, by simpa [intOf] using HMI.out⟩
  | true =>
   refine mc_take (i := 0) (oi := ⟨some 19, _, _, _, _, _⟩) (v := ?_) rfl (by kernel_rfl) (by kernel_rfl) (by kernel_rfl) (fun _ _ _ h => h) rfl hX ?_ ?_; rotate_left; (intro W hW; go_simp; try with_reducible rfl); simp only [Act.put, qA, qB, qC]
   refine mc_take (i := 1) (oi := ⟨some 20, _, _, _, _, _⟩) (v := ?_) rfl (by kernel_rfl) (by kernel_rfl) (by kernel_rfl) (fun _ _ _ h => h) rfl hX ?_ ?_; rotate_left; (intro W hW; go_simp; try with_reducible rfl); simp only [Act.put, qA, qB, qC]
   refine mc_take (i := 2) (oi := ⟨some 21, _, _, _, _, _⟩) (v := ?_) rfl (by kernel_rfl) (by kernel_rfl) (by kernel_rfl) (fun _ _ _ h => h) rfl hX ?_ ?_; rotate_left; (intro W hW; go_simp; try with_reducible rfl); simp only [Act.put, qA, qB, qC]
   refine mc_take (i := 3) (oi := ⟨some 22, _, _, _, _, _⟩) (v := .bool true) rfl (by kernel_rfl) (by kernel_rfl) (by kernel_rfl) (fun _ _ _ h => h) rfl hX (fun V hV => ld_b (.tmp 21) rfl rfl (((TO.out V hV).cell (p := ⟨bt, ot + i, none⟩) HBT.out).trans CTI.out)) ?_; simp only [Act.put, qA, qB, qC]
   refine mc_take (i := 4) (oi := ⟨some 23, _, _, _, _, _⟩) (v := ?_) rfl (by kernel_rfl) (by kernel_rfl) (by kernel_rfl) (fun _ _ _ h => h) rfl hX ?_ ?_; rotate_left; (intro W hW; go_simp; try with_reducible rfl); simp only [Act.put, qA, qB, qC]
   refine mc_take (i := 5) (oi := ⟨some 24, _, _, _, _, _⟩) (v := ?_) rfl (by kernel_rfl) (by kernel_rfl) (by kernel_rfl) (fun _ _ _ h => h) rfl hX ?_ ?_; rotate_left; (intro W hW; go_simp; try with_reducible rfl); simp only [Act.put, qA, qB, qC]
   refine mc_take (i := 6) (oi := ⟨some 25, _, _, _, _, _⟩) (v := ?_) rfl (by kernel_rfl) (by kernel_rfl) (by kernel_rfl) (fun _ _ _ h => h) rfl hX ?_ ?_; rotate_left; (intro W hW; go_simp; try with_reducible rfl); simp only [Act.put, qA, qB, qC]
   refine mc_take (i := 7) (oi := ⟨some 26, _, _, _, _, _⟩) (v := .slice (some ⟨bn, on, none⟩) n cn) rfl (by kernel_rfl) (by kernel_rfl) (by kernel_rfl) (fun _ _ _ h => h) rfl hX (fun V hV => ld_inss (.tmp 25) rfl rfl (C256.out V hV)) ?_; simp only [Act.put, qA, qB, qC]
   refine mc_take (i := 8) (oi := ⟨some 27, _, _, _, _, _⟩) (v := ?_) rfl (by kernel_rfl) (by kernel_rfl) (by kernel_rfl) (fun _ _ _ h => h) rfl hX ?_ ?_; rotate_left; (intro W hW; go_simp; try with_reducible rfl); simp only [Act.put, qA, qB, qC]
   refine mc_take (i := 9) (oi := ⟨some 28, _, _, _, _, _⟩) (v := ?_) rfl (by kernel_rfl) (by kernel_rfl) (by kernel_rfl) (fun _ _ _ h => h) rfl hX ?_ ?_; rotate_left; (intro W hW; go_simp; try with_reducible rfl); simp only [Act.put, qA, qB, qC]
   refine mc_take (i := 10) (oi := ⟨some 29, _, _, _, _, _⟩) (v := .slice (some ⟨br, or, none⟩) k cr) rfl (by kernel_rfl) (by kernel_rfl) (by kernel_rfl) (fun _ _ _ h => h) rfl hX (fun V hV => ld_ints9 (.tmp 28) rfl rfl (((TO.out V hV).cell (p := ⟨bn, on + i, none⟩) HBN.out).trans A3.out)) ?_; simp only [Act.put, qA, qB, qC]
   refine mc_take (i := 11) (oi := ⟨some 30, _, _, _, _, _⟩) (v := ?_) rfl (by kernel_rfl) (by kernel_rfl) (by kernel_rfl) (fun _ _ _ h => h) rfl hX ?_ ?_; rotate_left; (intro W hW; go_simp; try with_reducible rfl); simp only [Act.put, qA, qB, qC]
   refine mc_take (i := 12) (oi := ⟨some 31, _, _, _, _, _⟩) (v := ?_) rfl (by kernel_rfl) (by kernel_rfl) (by kernel_rfl) (fun _ _ _ h => h) rfl hX ?_ ?_; rotate_left; (intro W hW; go_simp; try with_reducible rfl); simp only [Act.put, qA, qB, qC]
   refine mc_take (i := 13) (oi := ⟨some 32, _, _, _, _, _⟩) (v := .int .i64 (u : Int)) rfl (by kernel_rfl) (by kernel_rfl) (by kernel_rfl) (fun _ _ _ h => h) rfl hX (fun V hV => ld_int9 (.tmp 31) rfl rfl (((TO.out V hV).cell (p := ⟨br, or + a, none⟩) L1.out).trans C1.out)) ?_; simp only [Act.put, qA, qB, qC]
   refine mc_take (i := 14) (oi := ⟨some 33, _, _, _, _, _⟩) (v := ?_) rfl (by kernel_rfl) (by kernel_rfl) (by kernel_rfl) (fun _ _ _ h => h) rfl hX ?_ ?_; rotate_left; (intro W hW; go_simp; try with_reducible rfl); simp only [Act.put, qA, qB, qC]
   refine mc_take (i := 15) (oi := ⟨some 34, _, _, _, _, _⟩) (v := .int .i64 (s : Int)) rfl (by kernel_rfl) (by kernel_rfl) (by kernel_rfl) (fun _ _ _ h => h) rfl hX (fun V hV => ld_int9 (.tmp 33) rfl rfl (((TO.out V hV).cell (p := ⟨bp, op + u, none⟩) HBP.out).trans CU.out)) ?_; simp only [Act.put, qA, qB, qC]
   refine mc_take (i := 16) (oi := ⟨some 35, _, _, _, _, _⟩) (v := ?_) rfl (by kernel_rfl) (by kernel_rfl) (by kernel_rfl) (fun _ _ _ h => h) rfl hX ?_ ?_; rotate_left; (intro W hW; go_simp; try with_reducible rfl); simp only [Act.put, qA, qB, qC]
   refine mc_take (i := 17) (oi := ⟨some 36, _, _, _, _, _⟩) (v := ?_) rfl (by kernel_rfl) (by kernel_rfl) (by kernel_rfl) (fun _ _ _ h => h) rfl hX ?_ ?_; rotate_left; (intro W hW; go_simp; try with_reducible rfl); simp only [Act.put, qA, qB, qC]
   refine mc_take (i := 18) (oi := ⟨some 37, _, _, _, _, _⟩) (v := .slice (some ⟨bn, on, none⟩) n cn) rfl (by kernel_rfl) (by kernel_rfl) (by kernel_rfl) (fun _ _ _ h => h) rfl hX (fun V hV => ld_inss (.tmp 36) rfl rfl (C256.out V hV)) ?_; simp only [Act.put, qA, qB, qC]
   refine mc_take (i := 19) (oi := ⟨some 38, _, _, _, _, _⟩) (v := ?_) rfl (by kernel_rfl) (by kernel_rfl) (by kernel_rfl) (fun _ _ _ h => h) rfl hX ?_ ?_; rotate_left; (intro W hW; go_simp; try with_reducible rfl); simp only [Act.put, qA, qB, qC]
   refine mc_take (i := 20) (oi := ⟨some 39, _, _, _, _, _⟩) (v := ?_) rfl (by kernel_rfl) (by kernel_rfl) (by kernel_rfl) (fun _ _ _ h => h) rfl hX ?_ ?_; rotate_left; (intro W hW; go_simp; try with_reducible rfl); simp only [Act.put, qA, qB, qC]
   refine mc_take (i := 21) (oi := ⟨some 40, _, _, _, _, _⟩) (v := .slice (some ⟨br, or, none⟩) k cr) rfl (by kernel_rfl) (by kernel_rfl) (by kernel_rfl) (fun _ _ _ h => h) rfl hX (fun V hV => ld_ints9 (.tmp 39) rfl rfl (((TO.out V hV).cell (p := ⟨bn, on + i, none⟩) HBN.out).trans A3.out)) ?_; simp only [Act.put, qA, qB, qC]
   refine mc_take (i := 22) (oi := ⟨some 41, _, _, _, _, _⟩) (v := ?_) rfl (by kernel_rfl) (by kernel_rfl) (by kernel_rfl) (fun _ _ _ h => h) rfl hX ?_ ?_; rotate_left; (intro W hW; go_simp; try with_reducible rfl); simp only [Act.put, qA, qB, qC]
   refine mc_take (i := 23) (oi := ⟨some 42, _, _, _, _, _⟩) (v := ?_) rfl (by kernel_rfl) (by kernel_rfl) (by kernel_rfl) (fun _ _ _ h => h) rfl hX ?_ ?_; rotate_left; (intro W hW; go_simp; try with_reducible rfl); simp only [Act.put, qA, qB, qC]
   refine mc_take (i := 24) (oi := ⟨some 43, _, _, _, _, _⟩) (v := .int .i64 (v : Int)) rfl (by kernel_rfl) (by kernel_rfl) (by kernel_rfl) (fun _ _ _ h => h) rfl hX (fun V hV => ld_int9 (.tmp 42) rfl rfl (((TO.out V hV).cell (p := ⟨br, or + b, none⟩) L1.out).trans C2.out)) ?_; simp only [Act.put, qA, qB, qC]
   refine mc_take (i := 25) (oi := ⟨some 44, _, _, _, _, _⟩) (v := ?_) rfl (by kernel_rfl) (by kernel_rfl) (by kernel_rfl) (fun _ _ _ h => h) rfl hX ?_ ?_; rotate_left; (intro W hW; go_simp; try with_reducible rfl); simp only [Act.put, qA, qB, qC]
   refine mc_take (i := 26) (oi := ⟨some 45, _, _, _, _, _⟩) (v := .int .i64 (x : Int)) rfl (by kernel_rfl) (by kernel_rfl) (by kernel_rfl) (fun _ _ _ h => h) rfl hX (fun V hV => ld_int9 (.tmp 44) rfl rfl (((TO.out V hV).cell (p := ⟨bp, op + v, none⟩) HBP.out).trans CV.out)) ?_; simp only [Act.put, qA, qB, qC]
   refine mc_take (i := 27) (oi := ⟨some 46, _, _, _, _, _⟩) (v := .bool z) rfl (by kernel_rfl) (by kernel_rfl) (by kernel_rfl) (fun _ _ _ h => h) rfl hX (fun V _ => ex_neJ (.tmp 34) (.tmp 45) rfl rfl rfl HZ.out V) ?_; simp only [Act.put, qA, qB, qC]
   refine mc_take (i := 28) (oi := ⟨some 47, _, _, _, _, _⟩) (v := ?_) rfl (by kernel_rfl) (by kernel_rfl) (by kernel_rfl) (fun _ _ _ h => h) rfl hX ?_ ?_; rotate_left; (intro W hW; go_simp; try with_reducible rfl); simp only [Act.put, qA, qB, qC]
   refine wpAnyC_done (by kernel_rfl) ?_ _
   have BE := qH (TO.out _ hX)
   have KE := qH (KW.out.below hX KW.out.lt)
   clear hX
   cases z with
   | false =>
    have HQ2 := qH (show ∀ q, q < i + 1 → t q = true → P (stC D q a) = P (stC D q b) from fun q hq h => by
     by_cases e : q = i
     ·subst e
      have h9 := HZ.out
      rw [HST.out.1, HST.out.2]
      have h8 : (s : Int) = (x : Int) := by simpa using h9
      exact Int.ofNat_inj.1 h8
     ·exact HQ.out q (by omega) h)
    go_wp2_with fail
    exact ⟨⟨i + 1, HIN.out, by congr 1, HQ2.out, BE.out, KE.out⟩, by simpa [intOf] using HMI.out⟩
   | true =>
    have HE := qH (show alkG D P t n a b = false from alkG_no fun h => by
     have h1 := h i HIN.out HTT.out
     rw [HST.out.1, HST.out.2] at h1
     have h9 := HZ.out
     rw [h1] at h9
     simp at h9)
    go_wp2_with fail
    go_ret
    rw [HE.out]
    exact ⟨rfl, BE.out⟩
 ·obtain rfl : n = i := Nat.le_antisymm (Nat.le_of_not_lt hin) HI.out
  have y1 : ¬ ((n : Int) < (n : Int)) := Int.lt_irrefl _
  have HE := qH (show alkG D P t n a b = true from alkG_iff.2 HQ.out)
  clear hin
  go_wp2_with fail
  go_ret
  rw [HE.out]
  exact ⟨rfl, HBW.out⟩
section
variable {P : Program} {w : World} {ops : Array Oper} {rest : List Oper} {o : Oper} {a : Act} {Q : Exit → Act → World → Prop}
end
theorem infoC {P : Program} {e : TypeId} {z : Value} {s b : Nat} (h : (P.info? e).map (fun i => (i.zero, i.size, i.bytes)) = some (some z, s, b)) : ∃ i, P.info? e = some i ∧ i.zero = some z ∧ i.size = s ∧ i.bytes = b := by
 cases hi : P.info? e with
 | none => rw [hi] at h; cases h
 | some i =>
  rw [hi] at h
  injection h with h
  simp only [Prod.mk.injEq] at h
  exact ⟨i, rfl, h.1, h.2.1, h.2.2⟩
theorem ownC_nil (w : World) (B : Nat) (e : TypeId) : w.ownsRow B e 1 (.slice none 0 0) 0 [] := ⟨rfl, .inl ⟨rfl, rfl⟩⟩
def Dat (w : World) (g : Nat) (zs : List Value) (l : List UInt8) : Prop := Blk w g 5 (bvs l ++ zs)
section
variable {w w' : World} {g : Nat} {zs : List Value} {l : List UInt8}
theorem Dat.lt (h : Dat w g zs l) : g < w.heap.size := Blk.lt h
theorem Dat.drew (h : Dat w g zs l) : Dat w.drew g zs l := Blk.drew h
theorem Dat.keep (h : Dat w g zs l) (hk : w'.heap[g]? = w.heap[g]?) : Dat w' g zs l := hk.trans h
theorem Dat.cell (h : Dat w g zs l) {i : Nat} {c : UInt8} (hc : l[i]? = some c) : w.cell? ⟨g, i, none⟩ = some (bv c) := by
 have hi := (List.getElem?_eq_some_iff.1 hc).1
 rw [Blk.cell h, List.getElem?_append_left (by rw [bvs_length]; exact hi)]
 exact bvs_get l i c hc
theorem Dat.frozen (h : Dat w g zs l) (i : Nat) : w.frozen? ⟨g, i, none⟩ = false := Blk.frozen h i
theorem bvs_set (l : List UInt8) (i : Nat) (c : UInt8) : (bvs l).set i (bv c) = bvs (l.set i c) := by simp [bvs, List.map_set]
theorem Dat.set (h : Dat w g zs l) {i : Nat} (hi : i < l.length) (c : UInt8) : Dat (w.setCell ⟨g, i, none⟩ (bv c)) g zs (l.set i c) := by
 have h1 := Blk.set h i (bv c)
 rw [List.set_append_left _ _ (by rw [bvs_length]; exact hi), bvs_set] at h1
 exact h1
theorem Dat.below {B : Nat} (h : Dat w g zs l) (hb : Below B w w') (hg : g < B) : Dat w' g zs l := Blk.below h hb hg
end
theorem grownS_trans {w w1 w2 : World} {g : Nat} (h : w.grownBy w1 (some g)) (h2 : w1.grownBy w2 (some g)) : w.grownBy w2 (some g) :=
 ⟨h2.os.trans h.os, h2.tape.trans h.tape, h2.output.trans h.output, Nat.le_trans h.size h2.size, fun k hk hne => (h2.block k (by have := h.size; omega) hne).trans (h.block k hk hne)⟩
theorem grownS_set {w V : World} {g : Nat} (h : w.grownBy V (some g)) (q : Nat) (v : Value) : w.grownBy (V.setCell ⟨g, q, none⟩ v) (some g) :=
 ⟨h.os, h.tape, h.output, Nat.le_trans h.size (by simp [World.setCell]), fun k hk hn => (Below.heap_setCell V ⟨g, q, none⟩ v k (by rintro rfl; exact hn rfl)).trans (h.block k hk hn)⟩
theorem grownS_drew (w : World) (g : Nat) : w.grownBy w.drew (some g) := ⟨rfl, rfl, rfl, Nat.le_refl _, fun _ _ _ => rfl⟩
theorem grownS_below {w w1 w2 : World} {g : Nat} (h : w.grownBy w1 (some g)) (hb : Below w1.heap.size w1 w2) : w.grownBy w2 (some g) :=
 ⟨hb.os.trans h.os, hb.tape.trans h.tape, hb.output.trans h.output, Nat.le_trans h.size hb.size, fun k hk hn => (hb.block k (Nat.lt_of_lt_of_le hk h.size)).trans (h.block k hk hn)⟩
structure SoP (g : Nat) (zs : List Value) (l0 : List UInt8) (w0 w : World) : Prop where
 dat : ∃ l, l.Perm l0 ∧ Dat w g zs l
 grown : w0.grownBy w (some g)
section
variable {w w0 w' : World} {g : Nat} {zs : List Value} {l l0 : List UInt8}
theorem SoP.refl (h : Dat w g zs l) : SoP g zs l w w := ⟨⟨l, List.Perm.refl _, h⟩, ⟨rfl, rfl, rfl, Nat.le_refl _, fun _ _ _ => rfl⟩⟩
theorem SoP.trans (hp : l.Perm l0) (h1 : w0.grownBy w (some g)) (h : SoP g zs l w w') : SoP g zs l0 w0 w' := by
 obtain ⟨⟨l', hp', hd⟩, hg⟩ := h
 exact ⟨⟨l', hp'.trans hp, hd⟩, grownS_trans h1 hg⟩
theorem SoP.below (h : SoP g zs l0 w0 w) (hb : Below w.heap.size w w') : SoP g zs l0 w0 w' := by
 obtain ⟨⟨l, hp, hd⟩, hg⟩ := h
 exact ⟨⟨l, hp, hd.below hb hd.lt⟩, grownS_below hg hb⟩
end
/-! ### single cells -/
theorem w64S (k : Nat) (h : k ≤ 4611686018427387904) : wrap64 (k : Int) = (k : Int) := IntWalk.wrap64_in _ (by omega)
theorem k64S (k : Nat) (h : k ≤ 4611686018427387904) : IntKind.i64.wrap (k : Int) = (k : Int) := IntWalk.i64_in _ (by omega)
def IsW (w V : World) : Prop := V = w
section
variable {w0 w V : World} {g : Nat} {zs : List Value} {l : List UInt8}
theorem Dat.is (h : Dat w g zs l) (hV : IsW w.drew V) : Dat V g zs l := by
 have e : V = w.drew := hV
 rw [e]
 exact h.drew
theorem grownS_is (h : w0.grownBy w (some g)) (hV : IsW w.drew V) : w0.grownBy V (some g) := by
 have e : V = w.drew := hV
 rw [e]
 exact grownS_trans h (grownS_drew _ _)
theorem SoP.is (h : SoP g zs l w0 w) (hV : IsW w.drew V) : SoP g zs l w0 V := ⟨by
 obtain ⟨l', hp, hd⟩ := h.dat
 exact ⟨l', hp, hd.is hV⟩, grownS_is h.grown hV⟩
end
def putV (vf : Nat → Value) (s : Nat) (v : Value) : Nat → Value := fun i => if i = s then v else vf i
theorem putV_at (vf : Nat → Value) (s : Nat) (v : Value) : putV vf s v s = v := if_pos rfl
theorem putV_ne {vf : Nat → Value} {s i : Nat} {v : Value} (h : i ≠ s) : putV vf s v i = vf i := if_neg h
theorem map_putV (vf : Nat → Value) (s : Nat) (v : Value) (n : Nat) : ((List.range n).map vf).set s v = (List.range n).map (putV vf s v) := by
 apply List.ext_getElem?
 intro i
 by_cases hi : i < n
 ·by_cases he : s = i
  ·subst he
   rw [List.getElem?_set_self (by simp [hi])]
   simp [hi, putV_at]
  ·rw [List.getElem?_set_ne he]
   simp [hi, putV_ne (Ne.symm he)]
 ·rw [List.getElem?_eq_none (by simp; omega), List.getElem?_eq_none (by simp; omega)]
def putL (L : Nat → List Int) (s : Nat) (l : List Int) : Nat → List Int := fun i => if i = s then l else L i
theorem putL_at (L : Nat → List Int) (s : Nat) (l : List Int) : putL L s l s = l := if_pos rfl
theorem putL_ne {L : Nat → List Int} {s i : Nat} {l : List Int} (h : i ≠ s) : putL L s l i = L i := if_neg h
theorem own_mono {w : World} {B B' : Nat} {e : TypeId} {v : Value} {n k : Nat} {xs : List Value} (h : w.ownsRow B' e k v n xs) (hB : B ≤ B') : w.ownsRow B e k v n xs := by
 refine ⟨h.1, ?_⟩
 rcases h.2 with h0 | ⟨g, cap, cur, rfl, hb, h3⟩
 ·exact .inl h0
 ·exact .inr ⟨g, cap, cur, rfl, Nat.le_trans hB hb, h3⟩
theorem ownC_slice {w : World} {base : Nat} {e : TypeId} {v : Value} {n : Nat} {xs : List Value} (h : w.ownsRow base e 1 v n xs) : ∃ A c, v = .slice A n c := by
 rcases h.2 with ⟨rfl, h0⟩ | ⟨g, cap, cur, rfl, _⟩
 ·exact ⟨none, 0, by rw [h0]⟩
 ·exact ⟨_, _, rfl⟩
structure Fam (w : World) (Bt Br g cap n m : Nat) (vf : Nat → Value) (L : Nat → List Int) : Prop where
 top : w.ownsRow Bt 33 1 (.slice (some ⟨g, 0, none⟩) n cap) n ((List.range n).map vf)
 row : ∀ i, i < m → w.ownsRow Br 3 1 (vf i) (L i).length (nums .i64 (L i))
 ng : ∀ i, i < m → (vf i).ownBlock ≠ some g
 inj : ∀ i j, i < m → j < m → i ≠ j → ∀ k, (vf i).ownBlock = some k → (vf j).ownBlock ≠ some k
section
variable {w w' : World} {Bt Br g cap n m : Nat} {vf : Nat → Value} {L : Nat → List Int}
theorem Fam.stay (h : Fam w Bt Br g cap n m vf L) (hg : w'.heap[g]? = w.heap[g]?) (hr : ∀ i k, i < m → (vf i).ownBlock = some k → w'.heap[k]? = w.heap[k]?) : Fam w' Bt Br g cap n m vf L :=
 ⟨own6_stay h.top fun j hj => by
  have e : some g = some j := hj
  rw [← Option.some.inj e]
  exact hg, fun i hi => own6_stay (h.row i hi) fun j hj => hr i j hi hj, h.ng, h.inj⟩
theorem Fam.glt (h : Fam w Bt Br g cap n m vf L) : g < w.heap.size ∧ Bt ≤ g := own6_lt h.top g rfl
theorem Fam.below (h : Fam w Bt Br g cap n m vf L) (hb : Below w.heap.size w w') : Fam w' Bt Br g cap n m vf L :=
 h.stay (hb.block g h.glt.1) fun i k hi hk => hb.block k (own6_lt (h.row i hi) k hk).1
theorem Fam.rowV (h : Fam w Bt Br g cap n m vf L) : Row w (.slice (some ⟨g, 0, none⟩) n cap) ((List.range n).map vf) := Row.of_own h.top
theorem Fam.cell (h : Fam w Bt Br g cap n m vf L) {i : Nat} (hi : i < n) : w.cell? ⟨g, i, none⟩ = some (vf i) := (own_cell h.top (j := i) (u := vf i) (by simp [hi])).1
theorem Fam.frozen (h : Fam w Bt Br g cap n m vf L) {i : Nat} (hi : i < n) : w.frozen? ⟨g, i, none⟩ = false := (own_cell h.top (j := i) (u := vf i) (by simp [hi])).2
theorem Fam.slice (h : Fam w Bt Br g cap n m vf L) {i : Nat} (hi : i < m) : ∃ A c, vf i = .slice A (L i).length c := by
 obtain ⟨A, c, hv, _⟩ := Row.of_own (h.row i hi)
 rw [nums_length] at hv
 exact ⟨A, c, hv⟩
theorem Fam.put (h : Fam w Bt Br g cap n m vf L) {s : Nat} (hs : s < n) {m' : Nat} (hm' : ∀ i, i < m' → i = s ∨ i < m) {v : Value} {l : List Int}
  (ho : w'.ownsRow Br 3 1 v l.length (nums .i64 l)) (hgr : ∀ k, k < w.heap.size → (∀ q, (q = k → q < w.heap.size → (s < m ∧ (vf s).ownBlock = some q) → False) ∧ True) → w'.heap[k]? = w.heap[k]?) (hsz : w.heap.size ≤ w'.heap.size)
  (hnew : ∀ k, v.ownBlock = some k → (s < m ∧ (vf s).ownBlock = some k) ∨ w.heap.size ≤ k) : Fam (w'.setCell ⟨g, s, none⟩ v) Bt Br g cap n m' (putV vf s v) (putL L s l) := by
 have hg := h.glt
 have hgs : ¬ (s < m ∧ (vf s).ownBlock = some g) := fun e => h.ng s e.1 e.2
 have hng : v.ownBlock ≠ some g := fun e => by
  rcases hnew g e with e1 | e1
  ·exact hgs e1
  ·omega
 have hkeep : ∀ i, i < m → i ≠ s → ∀ k, (vf i).ownBlock = some k → (w'.setCell ⟨g, s, none⟩ v).heap[k]? = w.heap[k]? := fun i hi hne k hk => by
  rw [Below.heap_setCell w' ⟨g, s, none⟩ v k (fun e => h.ng i hi (by rw [hk]; exact congrArg some e))]
  refine hgr k (own6_lt (h.row i hi) k hk).1 fun q => ⟨fun hq _ e => ?_, trivial⟩
  subst hq
  exact h.inj i s hi e.1 hne q hk e.2
 refine ⟨?_, fun i hi => ?_, fun i hi => ?_, fun i j hi hj hij k hk => ?_⟩
 ·have h1 : w'.ownsRow Bt 33 1 (.slice (some ⟨g, 0, none⟩) n cap) n ((List.range n).map vf) := own6_stay h.top fun j hj => by
   have e : some g = some j := hj
   have e2 := Option.some.inj e
   subst e2
   refine hgr g hg.1 fun q => ⟨fun hq _ e3 => ?_, trivial⟩
   subst hq
   exact hgs e3
  have h2 := own_set h1 (j := s) (by simp [hs]) v
  rw [map_putV] at h2
  exact h2
 ·by_cases hne : i = s
  ·subst hne
   rw [putV_at, putL_at]
   exact own6_stay ho fun j hj => Below.heap_setCell w' ⟨g, i, none⟩ v j (fun e => hng (by rw [hj]; exact congrArg some e))
  ·rw [putV_ne hne, putL_ne hne]
   have him : i < m := by rcases hm' i hi with e | e; exact absurd e hne; exact e
   exact own6_stay (h.row i him) fun j hj => hkeep i him hne j hj
 ·by_cases hne : i = s
  ·rw [hne, putV_at]; exact hng
  ·rw [putV_ne hne]
   have him : i < m := by rcases hm' i hi with e | e; exact absurd e hne; exact e
   exact h.ng i him
 ·by_cases hi2 : i = s
  ·have hj2 : j ≠ s := fun e => hij (by rw [hi2, e])
   have hjm : j < m := by rcases hm' j hj with e | e; exact absurd e hj2; exact e
   rw [hi2, putV_at] at hk
   rw [putV_ne hj2]
   rcases hnew k hk with e | e
   ·exact fun e2 => h.inj s j e.1 hjm (Ne.symm hj2) k e.2 e2
   ·exact fun e2 => by have := (own6_lt (h.row j hjm) k e2).1; omega
  ·have him : i < m := by rcases hm' i hi with e | e; exact absurd e hi2; exact e
   rw [putV_ne hi2] at hk
   by_cases hj2 : j = s
   ·rw [hj2, putV_at]
    intro e2
    rcases hnew k e2 with e | e
    ·exact h.inj s i e.1 him (Ne.symm hi2) k e.2 hk
    ·have := (own6_lt (h.row i him) k hk).1; omega
   ·have hjm : j < m := by rcases hm' j hj with e | e; exact absurd e hj2; exact e
    rw [putV_ne hj2]
    exact h.inj i j him hjm hij k hk
theorem Fam.push (h : Fam w Bt Br g cap n m vf L) {s : Nat} (hs : s < n) (hsm : s < m) {v : Value} {x : Int}
  (ho : w'.ownsRow Br 3 1 v (L s ++ [x]).length (nums .i64 (L s ++ [x]))) (hg : w.grownBy w' (vf s).ownBlock) (hw : ∀ k, v.ownBlock = some k → (vf s).ownBlock = some k ∨ w.heap.size ≤ k) :
  Fam (w'.setCell ⟨g, s, none⟩ v) Bt Br g cap n m (putV vf s v) (putL L s (L s ++ [x])) :=
 h.put hs (fun i hi => .inr hi) ho (fun k hk hn => hg.block k hk fun e => (hn k).1 rfl hk ⟨hsm, e.symm⟩) hg.size fun k hk => by
  rcases hw k hk with e | e
  ·exact .inl ⟨hsm, e⟩
  ·exact .inr e
theorem Fam.next (h : Fam w Bt Br g cap n m vf L) (hm : m < n) {v : Value} {l : List Int} (ho : w'.ownsRow w.heap.size 3 1 v l.length (nums .i64 l)) (hb : Below w.heap.size w w') (hB : Br ≤ w.heap.size) :
  Fam (w'.setCell ⟨g, m, none⟩ v) Bt Br g cap n (m + 1) (putV vf m v) (putL L m l) :=
 h.put hm (fun i hi => by omega) (own_mono ho hB) (fun k hk _ => hb.block k hk) hb.size fun k hk => .inr (own6_lt ho k hk).2
end
theorem Fam.made {w : World} {B Br g n : Nat} (h : Blk w g 33 (List.replicate n (.slice none 0 0))) (hB : B ≤ g) (hn : n ≤ 1048576) : Fam w B Br g n n n (fun _ => .slice none 0 0) (fun _ => []) := by
 refine ⟨?_, fun i _ => ownC_nil w Br _, fun i _ e => (by cases (show (none : Option Nat) = some g from e)), fun i j _ _ _ k hk => (by cases (show (none : Option Nat) = some k from hk))⟩
 have h1 := h.own hB (by rw [List.length_replicate]; unfold maxLen; omega)
 simp only [List.length_replicate] at h1
 rwa [show (List.range n).map (fun _ => Value.slice none 0 0) = List.replicate n (.slice none 0 0) by rw [List.map_const', List.length_range]]
def LnkV (w : World) (v : Value) (n : Nat) (L : Nat → List Int) : Prop :=
 ∃ vf : Nat → Value, Row w v ((List.range n).map vf) ∧ ∀ i, i < n → Row w (vf i) (nums .i64 (L i))
theorem LnkV.below {w w' : World} {v : Value} {n : Nat} {L : Nat → List Int} (h : LnkV w v n L) (hb : Below w.heap.size w w') : LnkV w' v n L := by
 obtain ⟨vf, h1, h2⟩ := h
 exact ⟨vf, h1.below hb, fun i hi => (h2 i hi).below hb⟩
theorem Fam.lnk {w : World} {Bt Br g cap n : Nat} {vf : Nat → Value} {L : Nat → List Int} (h : Fam w Bt Br g cap n n vf L) : LnkV w (.slice (some ⟨g, 0, none⟩) n cap) n L :=
 ⟨vf, h.rowV, fun i hi => Row.of_own (h.row i hi)⟩
theorem LnkV.congr {w : World} {v : Value} {n : Nat} {L L' : Nat → List Int} (h : LnkV w v n L) (he : ∀ i, i < n → L i = L' i) : LnkV w v n L' := by
 obtain ⟨vf, h1, h2⟩ := h
 exact ⟨vf, h1, fun i hi => by rw [← he i hi]; exact h2 i hi⟩
theorem ne_of_ltG {br g B : Nat} (h : br < B) (hB : B ≤ g) : some br ≠ some g := fun e => by
 have := Option.some.inj e
 omega
theorem below_own {w0 w w' : World} {B : Nat} {A : Option Nat} (h : Below B w0 w) (hB : B ≤ w.heap.size) (h2 : w.grownBy w' A) (hA : ∀ q, A = some q → B ≤ q) : Below B w0 w' :=
 h.trans ⟨h2.os, h2.tape, h2.output, h2.size, fun k hk => h2.block k (Nat.lt_of_lt_of_le hk hB) fun e => by
  have := hA k (by first | exact e | exact e.symm)
  omega⟩
end Go.Proofs.Ytlohehcfplkjbaa
