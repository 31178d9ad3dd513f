/-
  Texts of this proof, put together: ScA, ScB. No statement is proved here.
-/
import Derived.Test.YteadghoojeehlaaDoorVZ
import Derived.Test.YteadghoojeehlaaDoorVE
import Derived.Test.YteadghoojeehlaaDoorVF
namespace Go.Proofs.YteadghoojeehlaaDoor
open Go.RowKit
set_option linter.unusedSimpArgs false
set_option linter.unusedVariables false
def stsD (D : Dm) : List St := D.next.map fun r => ⟨fun _ => false, 0, r⟩
theorem stsD_len (D : Dm) : (stsD D).length = D.next.length := by simp [stsD]
theorem stsD_get {D : Dm} {i : Nat} {r : List Int} (h : D.next[i]? = some r) : (stsD D)[i]? = some ⟨fun _ => false, 0, r⟩ := by simp [stsD, h]
noncomputable def reaB (D : Dm) (i : Nat) : Bool := rcB (stsD D) (ofL [0]) i
theorem fit_at {S : List St} {a : Int} {n i : Nat} (h : FitN S a n) (hi : i < n) : ∃ X, (LN S a n)[i]? = some X ∧ (LN S a i)[i]? = some X := by
 have hg : i < (LN S a i).length := fit_going h hi
 refine ⟨(LN S a i)[i], ?_, List.getElem?_eq_getElem hg⟩
 exact Lq_get (f := sucN S) (x0 := clsN S [a]) (Nat.le_of_lt hi) (List.getElem?_eq_getElem hg)
theorem LN_nodup (S : List St) (a : Int) (n : Nat) : (LN S a n).Nodup := Lq_nodup n
theorem LN_first (S : List St) (a : Int) (n : Nat) : (LN S a n)[0]? = some (clsN S [a]) := Lq_zero n
theorem rowI_mem {L xs : List (List Int)} {y : List Int} (h : y ∈ xs) : ((ixOf L y : Nat) : Int) ∈ rowI L xs := List.mem_map_of_mem (f := fun x => (ixOf L x : Int)) h
theorem cls_same (ps : List (Nat → Bool)) {N b c : Nat} (hb : b < N) (hc : c < N) : clsOf ps b = clsOf ps c ↔ alikeS ps b c = true := by
 have hk := clsOf_ltN ps hc
 have h1 := (clsOf_is ps N c hc (clsOf ps c) hk).1 rfl
 rw [clsOf_is ps N b hb (clsOf ps c) hk]
 constructor
 ·intro h
  exact alikeS_trans (alikeS_symm h) h1
 ·intro h
  exact alikeS_trans h1 (alikeS_symm h)
theorem machN_reach {S : List St} {a z : Int} {n : Nat} (h : FitN S a n) : ∀ i, i < n → reaB (machN S a z n) i = true := by
 have hl : (LN S a n).length = n := h
 have hml := machN_len (z := z) h
 have key : ∀ X ∈ LN S a n, X ∈ LN S a n ∧ Rc (stsD (machN S a z n)) (ofL [0]) (ixOf (LN S a n) X) := by
  refine Lq_all (f := sucN S) (x0 := clsN S [a]) (p := fun X => X ∈ LN S a n ∧ Rc (stsD (machN S a z n)) (ofL [0]) (ixOf (LN S a n) X)) ?_ ?_ n
  ·have h0 := LN_first S a n
   have hm := List.mem_of_getElem? h0
   refine ⟨hm, .base ?_ ?_⟩
   ·rw [idx_is (LN_nodup S a n) h0]
    simp [ofL]
   ·rw [stsD_len, hml]
    exact Nat.lt_of_lt_of_eq (idx_lt hm) hl
  ·rintro X ⟨hX, hr⟩ Y hY
   have hYm : Y ∈ LN S a n := fit_closed (f := sucN S) (x0 := clsN S [a]) h hX Y hY
   have hix : ixOf (LN S a n) X < n := by
    have := idx_lt hX
    omega
   have hmem : ((ixOf (LN S a n) Y : Nat) : Int) ∈ rowI (LN S a n) (sucN S X) := rowI_mem hY
   have hst := stsD_get (machN_at (z := z) (idx_get hX) hix)
   obtain ⟨rr, hrr⟩ : ∃ rr, rr = rowI (LN S a n) (sucN S X) := ⟨_, rfl⟩
   rw [← hrr] at hst hmem
   refine ⟨hYm, .go hr hst hmem ?_⟩
   ·rw [stsD_len, hml]
    exact Nat.lt_of_lt_of_eq (idx_lt hYm) hl
 intro i hi
 obtain ⟨X, hX, _⟩ := fit_at h hi
 have h1 := (key X (List.mem_of_getElem? hX)).2
 rw [idx_is (LN_nodup S a n) hX] at h1
 exact rcB_iff.2 h1
noncomputable def topL (S : List St) (a : Int) (i : Nat) (X : List Int) (k : Nat) : Nat := (extL (LN S a i) ((sucN S X).take k)).length
theorem topL_zero (S : List St) (a : Int) (i : Nat) (X : List Int) : topL S a i X 0 = (LN S a i).length := rfl
theorem topL_all {S : List St} {a : Int} {i : Nat} {X : List Int} (hX : (LN S a i)[i]? = some X) {k : Nat} (hk : k = (sucN S X).length) : topL S a i X k = (LN S a (i + 1)).length := by
 unfold topL
 rw [hk, List.take_length, show LN S a (i + 1) = extL (LN S a i) (sucN S X) from Lq_step hX]
theorem topL_pos (S : List St) (a : Int) (i : Nat) (X : List Int) (k : Nat) : 1 ≤ topL S a i X k := by
 have h1 := Lq_pos (f := sucN S) (x0 := clsN S [a]) i
 have h2 := extL_le ((sucN S X).take k) (LN S a i)
 unfold LN at h2
 unfold topL LN
 omega
theorem topL_next {S : List St} {a : Int} {n i k : Nat} {X y : List Int} (h : FitN S a n) (hi : i < n) (hX : (LN S a i)[i]? = some X) (hk : (sucN S X)[k]? = some y) :
  ixOf (LN S a n) y ≤ topL S a i X k ∧ topL S a i X (k + 1) = max (topL S a i X k) (ixOf (LN S a n) y + 1) := by
 obtain ⟨M, hM⟩ : ∃ M, M = extL (LN S a i) ((sucN S X).take k) := ⟨_, rfl⟩
 have e1 : extL (LN S a i) ((sucN S X).take (k + 1)) = extL M [y] := by rw [hM]; exact extL_take hk
 have e2 : ∃ T, LN S a n = extL M [y] ++ T := by
  have s1 : LN S a (i + 1) = extL (LN S a i) (sucN S X) := Lq_step hX
  rw [← List.take_append_drop (k + 1) (sucN S X), extL_app, e1] at s1
  obtain ⟨T1, hT1⟩ := extL_pre ((sucN S X).drop (k + 1)) (extL M [y])
  obtain ⟨T2, hT2⟩ := Lq_mono (f := sucN S) (x0 := clsN S [a]) (r := i + 1) (s := n) hi
  exact ⟨T1 ++ T2, by rw [show LN S a n = LN S a (i + 1) ++ T2 from hT2, s1, hT1, List.append_assoc]⟩
 obtain ⟨T, hT⟩ := e2
 have t1 : topL S a i X k = M.length := by rw [hM]; rfl
 have t2 : topL S a i X (k + 1) = (extL M [y]).length := by unfold topL; rw [e1]
 rw [t1, t2, hT]
 by_cases hy : y ∈ M
 ·rw [extL_in hy, idx_app hy]
  have := idx_lt hy
  omega
 ·rw [extL_new hy, idx_app (by simp), idx_new hy, List.length_append, List.length_singleton]
  omega
def sameK (S : List St) (b c i : Nat) : Bool := (S.take i).all fun s => s.set b == s.set c
theorem sameK_zero (S : List St) (b c : Nat) : sameK S b c 0 = true := rfl
theorem sameK_next {S : List St} {b c i : Nat} {s : St} (h : S[i]? = some s) : sameK S b c (i + 1) = (sameK S b c i && (s.set b == s.set c)) := by
 obtain ⟨hi, rfl⟩ := List.getElem?_eq_some_iff.1 h
 unfold sameK
 rw [List.take_succ_eq_append_getElem hi, List.all_append]
 simp
theorem sameK_all (S : List St) {b c : Nat} (hb : b < 256) (hc : c < 256) : sameK S b c S.length = decide (clN S b = clN S c) := by
 unfold sameK
 rw [List.take_length, Bool.eq_iff_iff, List.all_eq_true, decide_eq_true_iff]
 have e : (∀ s ∈ S, (s.set b == s.set c) = true) ↔ alikeS (setsN S) b c = true := by
  rw [alikeS_iff]
  constructor
  ·intro h p hp
   obtain ⟨s, hs, rfl⟩ := List.mem_map.1 hp
   simpa using h s hs
  ·intro h s hs
   simpa using h _ (List.mem_map.2 ⟨s, hs, rfl⟩)
 rw [e]
 exact (cls_same (setsN S) hb hc).symm
theorem ctab_same (S : List St) {b c : Nat} (hb : b < 256) (hc : c < 256) : decide (((UInt8.ofNat (clN S b)).toNat : Int) = ((UInt8.ofNat (clN S c)).toNat : Int)) = sameK S b c S.length := by
 have h1 : clN S b < 256 := clsOf_256 _ hb
 have h2 : clN S c < 256 := clsOf_256 _ hc
 rw [sameK_all S hb hc, ofNat_toNat h1, ofNat_toNat h2]
 refine decide_eq_decide.2 ?_
 omega
theorem reach_first (S : List St) : Pq S (ofL [0]) true (updB (fun _ => false) 0 true) := by
 have h : updB (fun _ => false) 0 true = sdJ [0] [(0 : Int)].length := by
  have := sdJ_in (l := [0]) (j := 0) (x := 0) rfl (Int.le_refl _)
  rw [sdJ_zero] at this
  exact this
 rw [h]
 exact Pq.first
theorem Pq.rea {D : Dm} {t : Nat → Bool} {n : Nat} (hn : n = D.next.length) (h : Pq (stsD D) (ofL [0]) false t) : bcs n t = bcs n (reaB D) := by
 refine bcs_congr fun q hq => ?_
 unfold reaB
 rw [Bool.eq_iff_iff, rcB_iff]
 exact h.done rfl q (by rw [stsD_len, ← hn]; exact hq)
set_option maxHeartbeats 8000000 in
set_option maxRecDepth 1000000 in
theorem refReach11_any (D : Dm) (cs : List Value) (w : World) (hv : DfaV w cs D) (hm : MayD D) :
  Calls Tryd.prog 15 #[.agg cs.toArray] w fun e w' => ∃ v, e = .returned v ∧ Row w' v (bcs D.next.length (reaB D)) ∧ Below w.heap.size w w' := by
 have V0 := qH hv
 have HM := qH hm
 have HDS := qH hv.size
 obtain ⟨An, Ae, cn, ce, vf, hl, hcs, hn, hr, he⟩ := hv.form
 have HL := qH hl
 obtain ⟨n, hnn⟩ : ∃ n, n = D.next.length := ⟨_, rfl⟩
 have HN := qH hnn
 have HSL := qH (show (stsD D).length = n by rw [stsD_len, hnn])
 rw [hm.ends, ← hnn] at hcs
 rw [← hnn] at hn ⊢
 have HCS := qH hcs
 have HRN := qH hn
 have HR := qH hr
 have HNP := qH (show 1 ≤ n by rw [hnn]; exact hm.pos)
 have HNF := qH (show n ≤ 2000 by rw [hnn]; exact hm.few)
 obtain ⟨k, hk⟩ : ∃ k, k = clsA D.cl := ⟨_, rfl⟩
 have HK := qH hk
 have HK2 := qH (show k ≤ 256 by rw [hk]; exact clsA_le _)
 clear hv hm hl hcs hn hr he hnn hk
 obtain ⟨i2, hi2, hz2, hs2, hy2⟩ := infoP inf_bool
 go_enter Tryd.func15, Tryd.ntmps15
 go_wp2_with (first
  | ((with_reducible refine atDst 1 ?_); refine wpList_box rfl 32 _ rfl cs rfl (Below.refl w.heap.size w) (Nat.le_refl _) ?_; intro w1 hk1 hb1 hs1 _; have K1 := qH hk1; have B1 := qH hb1; clear hk1 hb1 hs1; (try simp only [Act.put, qA, qB, qC]))
  | ((with_reducible refine atDst 7 ?_); refine wpList_ldArr rfl 32 _ rfl w.heap.size rfl 32 _ _ K1.out Tryd.underlying32 rfl HDS.out ?_; (try simp only [Act.put, qA, qB, qC])))
 refine (refMay11_any D cs w1 (V0.out.below B1.out) HM.out).mono ?_
 rintro e w2 ⟨rfl, hb⟩
 have K2 := qH (K1.out.below hb K1.out.lt)
 have BW2 := qH (B1.out.trans (hb.mono B1.out.size))
 clear hb
 have c256 : w2.cell? ⟨w.heap.size, 256, none⟩ = some (.slice An n cn) := by rw [K2.out.cell 256, HCS.out]; exact dcl_n HL.out
 have C256 := qH c256
 have HT1 := qH (show w.heap.size < w2.heap.size from K2.out.lt)
 have HRN2 := qH (HRN.out.below BW2.out)
 have HR2 := qH (fun i r h => (HR.out i r h).below BW2.out)
 have HY2 := qH (show i2.bytes * n ≤ 281474976710656 by have := HNF.out; rw [hy2]; omega)
 have HN3 := qH (show n ≤ 9223372036854775807 by have := HNF.out; omega)
 have p0 : (0 : Int) < (n : Int) := by have := HNP.out; omega
 clear hy2
 go_wp2_with ((with_reducible refine atDst 13 ?_); refine wpList_mk _ rfl _ _ 30 rfl 4 i2 (.bool false) Tryd.underlying30 hi2 hz2 hs2 rfl n _ _ _ _ rfl rfl rfl rfl HY2.out HN3.out ?_; intro w3 hk hb hs; have T3 := qH hk; have B3 := qH hb; have hfz := hk.frozen 0; have hc0 := hk.cell 0; rw [bcs_no, bcs_get _ (Int.ofNat_lt.1 p0)] at hc0; clear hk hb hs; (try simp only [Act.put, qA, qB, qC]))
 have T4 := qH (show Blk (w3.setCell ⟨w2.heap.size, 0, none⟩ (.bool true)) w2.heap.size 4 (bcs n (updB (fun _ => false) 0 true)) by
  have := T3.out.set 0 (.bool true)
  rw [bcs_no, bcs_set] at this
  exact this)
 have B4 := qH (B3.out.setCell (p := ⟨w2.heap.size, 0, none⟩) (Nat.le_refl _) (Value.bool true))
 clear c256 hc0 hfz
 go_loopw [4] (fun v wl => ∃ (ag : Bool) (t : Nat → Bool), v = .bool ag ∧ Pq (stsD D) (ofL [0]) ag t ∧ Blk wl w2.heap.size 4 (bcs n t) ∧ Below w2.heap.size w2 wl) (fun v wl => farW w2.heap.size n v wl)
 case atStart => exact ⟨true, _, rfl, reach_first _, T4.out, B4.out⟩
 clear T3 B3 T4 B4
 obtain ⟨ag, t, rfl, hp, ht, hb⟩ := hrel
 have PQ := qH hp
 have TQ := qH ht
 have BQ := qH hb
 clear hp ht hb
 obtain ⟨wp, hwp⟩ : ∃ v : World, v = wr := ⟨_, rfl⟩
 subst hwp
 cases ag with
 | false =>
  have BE := qH (BW2.out.trans (BQ.out.mono BW2.out.size))
  have RE := qH (show Row wp (.slice (some ⟨w2.heap.size, 0, none⟩) n n) (bcs n (reaB D)) by
   rw [← PQ.out.rea HN.out]
   exact rowB TQ.out (bcs_len _ _) (by have := HNF.out; omega))
  go_wp2_with fail
  go_ret
  exact ⟨_, rfl, RE.out, BE.out⟩
 | true =>
  go_wp2_with fail
  go_loopw [4, 5] (fun v iv wl => ∃ (ag : Bool) (i : Nat) (u : Nat → Bool), i ≤ n ∧ v = .bool ag ∧ iv = .int .i64 (i : Int) ∧ Ps (stsD D) (ofL [0]) t ag i 0 u ∧ Blk wl w2.heap.size 4 (bcs n u) ∧ Below w2.heap.size w2 wl) (fun _ iv _ => n - (intOf iv).toNat)
  case atStart => exact ⟨false, 0, t, Nat.zero_le _, rfl, by simp, Ps.start PQ.out.seeds PQ.out.sound, TQ.out, BQ.out⟩
  obtain ⟨ag, i, u, hi, rfl, rfl, hp, ht, hb⟩ := hrel
  have PR := qH hp
  have TR := qH ht
  have BR := qH hb
  clear hp ht hb
  obtain ⟨wi, hwi⟩ : ∃ v : World, v = wr := ⟨_, rfl⟩
  subst hwi
  by_cases hin : i < n
  ·have x1 : (i : Int) < (n : Int) := Int.ofNat_lt.2 hin
   have HI := qH hin
   have HMI := qH (sub_next hin)
   have e3 := wrap_one i (lt_bigN HI.out HNF.out)
   have e4 := wrap_one' i (lt_bigN HI.out HNF.out)
   obtain ⟨r, hr⟩ : ∃ r, D.next[i]? = some r := ⟨_, List.getElem?_eq_getElem (by rw [← HN.out]; exact hin)⟩
   have HRM := qH (List.mem_of_getElem? hr)
   have HS := qH (stsD_get hr)
   have HRL := qH (show r.length = k by rw [HM.out.rows r HRM.out, HK.out])
   have HRI2 := qH (HR2.out i r hr)
   obtain ⟨Ar, cr, hvr, _⟩ := HR2.out i r hr
   rw [nums_length, HRL.out] at hvr
   obtain ⟨bn, on, rfl, hbn, hcn⟩ := HRN2.out.at_ (by rw [List.length_map, List.length_range]; exact HNP.out)
   have HCI2 := qH (show w2.cell? ⟨bn, on + i, none⟩ = some (.slice Ar k cr) from hcn i _ (by simp [hin, hvr]))
   have HBN := qH hbn
   rw [hvr] at HRI2
   clear hi hin hr hbn hcn hvr
   go_wp2_with fail
   go_loopw [4, 6] (fun v kv wl => ∃ (ag : Bool) (j : Nat) (u : Nat → Bool), j ≤ k ∧ v = .bool ag ∧ kv = .int .i64 (j : Int) ∧ Ps (stsD D) (ofL [0]) t ag i j u ∧ Blk wl w2.heap.size 4 (bcs n u) ∧ Below w2.heap.size w2 wl) (fun _ kv _ => k - (intOf kv).toNat)
   case atStart => exact ⟨ag, 0, u, Nat.zero_le _, rfl, by simp, PR.out, TR.out, BR.out⟩
   clear PR TR BR
   obtain ⟨ag, j, u, hj, rfl, rfl, hp, ht, hb⟩ := hrel
   have PR := qH hp
   have TR := qH ht
   have BR := qH hb
   have c256 := (BR.out.cell (p := ⟨w.heap.size, 256, none⟩) HT1.out).trans C256.out
   have hci := (BR.out.cell (p := ⟨bn, on + i, none⟩) HBN.out).trans HCI2.out
   have RX := qH (HRI2.out.below hb)
   have hti := TR.out.cell i
   rw [bcs_get _ HI.out] at hti
   clear hp ht hb
   by_cases hjk : j < k
   ·have y1 : (j : Int) < (k : Int) := Int.ofNat_lt.2 hjk
    have HJ := qH hjk
    have HMJ := qH (sub_next hjk)
    have f3 := wrap_one j (lt_k256 hjk HK2.out)
    have f4 := wrap_one' j (lt_k256 hjk HK2.out)
    obtain ⟨x, hx⟩ : ∃ x, r[j]? = some x := ⟨_, List.getElem?_eq_getElem (by rw [HRL.out]; exact hjk)⟩
    have HX := qH hx
    obtain ⟨x0, xn⟩ := HM.out.to r HRM.out x (List.mem_of_getElem? hx)
    obtain ⟨p, rfl⟩ : ∃ p : Nat, x = (p : Int) := ⟨x.toNat, by omega⟩
    have HP := qH (show p < n by have := HN.out; omega)
    have p1 : (p : Int) < (n : Int) := Int.ofNat_lt.2 HP.out
    obtain ⟨br, or, rfl, hbr, hcr⟩ := RX.out.at_ (by rw [nums_length, HRL.out]; exact Nat.lt_of_le_of_lt (Nat.zero_le _) hjk)
    have hcx : wr.cell? ⟨br, or + j, none⟩ = some (.int .i64 (p : Int)) := hcr j _ (by simp [nums, hx])
    obtain ⟨y, hy⟩ : ∃ y, u i = y := ⟨_, rfl⟩
    rw [hy] at hti
    have HYI := qH hy
    clear hj hjk hx hbr hcr hy x0 xn
    cases y with
    | true =>
     have htp := TR.out.cell p
     rw [bcs_get _ HP.out] at htp
     obtain ⟨c, hc⟩ : ∃ c, u p = c := ⟨_, rfl⟩
     rw [hc] at htp
     have HCC := qH hc
     have hfz := TR.out.frozen p
     have TE := qH (show Blk (wr.setCell ⟨w2.heap.size, p, none⟩ (.bool true)) w2.heap.size 4 (bcs n (updB u p true)) by
      have := TR.out.set p (.bool true)
      rw [bcs_set] at this
      exact this)
     have BE := qH (BR.out.setCell (p := ⟨w2.heap.size, p, none⟩) (Nat.le_refl _) (Value.bool true))
     have PE := qH (show Ps (stsD D) (ofL [0]) t (ag || !c) i (j + 1) (updB u p true) by
      have := PR.out.mark HS.out HYI.out (f := (p : Int)) HX.out (by omega) (by have := HP.out; have := HSL.out; omega)
      rw [Int.toNat_natCast, HCC.out] at this
      exact this)
     clear hc
     cases ag with
     | true =>
      go_wp2_with fail
      exact ⟨⟨true, j + 1, _, HJ.out, rfl, by congr 1, PE.out, TE.out, BE.out⟩, by simpa [intOf] using HMJ.out⟩
     | false =>
      go_wp2_with fail
      exact ⟨⟨!c, j + 1, _, HJ.out, by simp, by congr 1, PE.out, TE.out, BE.out⟩, by simpa [intOf] using HMJ.out⟩
    | false =>
     have PE := qH (PR.out.next HS.out (.inr HYI.out))
     go_wp2_with fail
     exact ⟨⟨ag, i + 1, _, HI.out, rfl, by congr 1, PE.out, TR.out, BR.out⟩, by simpa [intOf] using HMI.out⟩
   ·obtain rfl : j = k := by omega
    have y1 : ¬ ((j : Int) < (j : Int)) := Int.lt_irrefl _
    have PE := qH (PR.out.next HS.out (.inl HRL.out.symm))
    clear hj hjk
    go_wp2_with fail
    exact ⟨⟨ag, i + 1, _, HI.out, rfl, by congr 1, PE.out, TR.out, BR.out⟩, by simpa [intOf] using HMI.out⟩
  ·obtain rfl : i = n := by omega
   have x1 : ¬ ((i : Int) < (i : Int)) := Int.lt_irrefl _
   have PA := qH (show Pq (stsD D) (ofL [0]) ag u from (show Ps (stsD D) (ofL [0]) t ag (stsD D).length 0 u by rw [HSL.out]; exact PR.out).all)
   have PF := qH (show farW w2.heap.size i (.bool ag) wi < farW w2.heap.size i (.bool true) wp by
    have h := (show Ps (stsD D) (ofL [0]) t ag (stsD D).length 0 u by rw [HSL.out]; exact PR.out).far (g := w2.heap.size) (w := wp) (w' := wi) (by rw [HSL.out]; exact TQ.out) (by rw [HSL.out]; exact TR.out)
    rw [HSL.out] at h
    exact h)
   clear hi hin
   go_wp2_with fail
   exact ⟨⟨ag, _, rfl, PA.out, TR.out, BR.out⟩, PF.out⟩
end Go.Proofs.YteadghoojeehlaaDoor
