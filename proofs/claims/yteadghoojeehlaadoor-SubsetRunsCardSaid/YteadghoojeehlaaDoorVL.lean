/-
  Texts of this proof, put together: SbJ, SbK. No statement is proved here.
-/
import Derived.Test.YteadghoojeehlaaDoorVK
import Derived.Test.YteadghoojeehlaaDoorVJ
import Derived.Great.FillDense
namespace Go.Proofs.YteadghoojeehlaaDoor
open Go.RowKit
set_option linter.unusedSimpArgs false
set_option linter.unusedVariables false
/-! ### the table, part by part -/
def partP (ps : List (Nat → Bool)) (j b : Nat) : Bool := decide (b < 256) && decide (clsOf ps b = j)
theorem parts_get {ps : List (Nat → Bool)} {j : Nat} (hj : j < (firstJ ps 256).length) : (parts ps)[j]? = some (partP ps j) := outs_get hj
theorem parts_len (ps : List (Nat → Bool)) : (parts ps).length = (firstJ ps 256).length := outs_length _ _ _
def clsP (ps : List (Nat → Bool)) (j m : Nat) : List UInt8 := (List.range 256).map fun b => if clsOf ps b < j ∨ (clsOf ps b = j ∧ UInt8.ofNat b ∈ (memJ (partP ps j) 256).take m) then UInt8.ofNat (clsOf ps b) else 0
theorem clsP_len (ps : List (Nat → Bool)) (j m : Nat) : (clsP ps j m).length = 256 := by simp [clsP]
theorem clsP_zero (ps : List (Nat → Bool)) : clsP ps 0 0 = ctab [] 0 := by
 unfold clsP ctab
 refine List.map_congr_left fun b _ => ?_
 rw [if_neg (by simp), if_neg (by omega)]
theorem memJ_in {p : Nat → Bool} {c : UInt8} (h : c ∈ memJ p 256) : p c.toNat = true := by
 have hc := c.toNat_lt
 have := memJ_mem p c.toNat hc
 rw [UInt8.ofNat_toNat] at this
 rw [← this]
 exact decide_eq_true h
theorem clsP_next {ps : List (Nat → Bool)} {j m : Nat} {c : UInt8} (h : (memJ (partP ps j) 256)[m]? = some c) : (clsP ps j m).set c.toNat (UInt8.ofNat j) = clsP ps j (m + 1) := by
 have hm := (List.getElem?_eq_some_iff.1 h).1
 have hcm : c ∈ memJ (partP ps j) 256 := List.mem_of_getElem? h
 have hp := memJ_in hcm
 simp only [partP, Bool.and_eq_true, decide_eq_true_iff] at hp
 apply List.ext_getElem
 ·simp [clsP]
 ·intro i h1 h2
  have hi : i < 256 := by simpa [clsP] using h2
  have htk : (memJ (partP ps j) 256).take (m + 1) = (memJ (partP ps j) 256).take m ++ [c] := by
   rw [List.take_succ_eq_append_getElem hm]
   rw [List.getElem?_eq_getElem hm] at h
   injection h with h
   rw [h]
  have hic : UInt8.ofNat i = c ↔ i = c.toNat := by
   constructor
   ·intro e
    have := congrArg UInt8.toNat e
    rw [UInt8.toNat_ofNat', Nat.mod_eq_of_lt (by omega)] at this
    exact this
   ·rintro rfl
    exact UInt8.ofNat_toNat
  rw [List.getElem_set]
  simp only [clsP, List.getElem_map, List.getElem_range]
  rw [htk]
  have hmem : UInt8.ofNat i ∈ (memJ (partP ps j) 256).take m ++ [c] ↔ UInt8.ofNat i ∈ (memJ (partP ps j) 256).take m ∨ i = c.toNat := by rw [List.mem_append, List.mem_singleton, hic]
  by_cases hci : c.toNat = i
  ·rw [if_pos hci, if_pos (.inr ⟨by rw [← hci]; exact hp.2, hmem.2 (.inr hci.symm)⟩), ← hci, hp.2]
  ·rw [if_neg hci]
   have e : ¬ i = c.toNat := fun e => hci e.symm
   by_cases hq : clsOf ps i < j ∨ (clsOf ps i = j ∧ UInt8.ofNat i ∈ (memJ (partP ps j) 256).take m)
   ·rw [if_pos hq, if_pos]
    rcases hq with hq | hq
    ·exact .inl hq
    ·exact .inr ⟨hq.1, hmem.2 (.inl hq.2)⟩
   ·rw [if_neg hq, if_neg]
    rintro (h3 | ⟨h3, h4⟩)
    ·exact hq (.inl h3)
    ·rcases hmem.1 h4 with h4 | h4
     ·exact hq (.inr ⟨h3, h4⟩)
     ·exact e h4
theorem clsP_row (ps : List (Nat → Bool)) (j : Nat) : clsP ps j (memJ (partP ps j) 256).length = clsP ps (j + 1) 0 := by
 unfold clsP
 refine List.map_congr_left fun b hb => ?_
 have hb := List.mem_range.1 hb
 rw [List.take_length]
 have h := memJ_mem (partP ps j) b hb
 have h2 : UInt8.ofNat b ∈ memJ (partP ps j) 256 ↔ clsOf ps b = j := by
  constructor
  ·intro hm
   rw [decide_eq_true hm] at h
   have := h.symm
   simp only [partP, Bool.and_eq_true, decide_eq_true_iff] at this
   exact this.2
  ·intro e
   have hp : partP ps j b = true := by simp [partP, hb, e]
   rw [hp] at h
   exact of_decide_eq_true h
 by_cases hq : clsOf ps b < j ∨ clsOf ps b = j
 ·rw [if_pos (by rcases hq with hq | hq; exact .inl hq; exact .inr ⟨hq, h2.2 hq⟩), if_pos (.inl (by omega))]
 ·rw [if_neg (by rintro (h3 | h3); exact hq (.inl h3); exact hq (.inr h3.1)), if_neg]
  rintro (h3 | ⟨_, h4⟩)
  ·exact hq (by omega)
  ·simp at h4
theorem clsP_all (ps : List (Nat → Bool)) : clsP ps (firstJ ps 256).length 0 = ctab ps 256 := by
 unfold clsP ctab
 refine List.map_congr_left fun b hb => ?_
 have hb := List.mem_range.1 hb
 rw [if_pos (.inl (clsOf_lt ps hb)), if_pos hb]
theorem lt_big256 {i n : Nat} (h : i < n) (hn : n ≤ 256) : i ≤ 4611686018427387904 := by omega
theorem row_apart {w : World} {A : Option Addr} {n cap b off : Nat} (h : ∀ k, (Value.slice A n cap).ownBlock = some k → w.heap.size ≤ k) (hA : A = some ⟨b, off, none⟩) : w.heap.size ≤ b := by
 subst hA
 exact h b rfl
set_option maxHeartbeats 4000000 in
set_option maxRecDepth 1000000 in
theorem sbClasses_any (S : List St) (a z : Int) (cs : List Value) (w : World) (hv : NfaV w cs S a z) (hn : S.length ≤ 2000) (hT : Tb w) :
  Calls Tryd.prog 36 #[.agg cs.toArray] w fun e w' => e = .returned (.tuple #[.agg (bvs (ctab (setsN S) 256)).toArray, .int .i64 ((fbN S).length : Int)]) ∧ Below w.heap.size w w' := by
 have V := qH hv
 have HT := qH hT
 obtain ⟨A, cap, rfl, hlc, hcm, hA0⟩ := hv.len
 have HN := qH hn
 clear hv hlc hcm hA0 hn hT
 obtain ⟨ic, hic, hzc⟩ := ctab_zero
 obtain ⟨ps, hps⟩ : ∃ ps, ps = setsN S := ⟨_, rfl⟩
 have HPS := qH hps
 rw [← clsP_zero ps] at hzc
 obtain ⟨zt, hzt⟩ : ∃ zt, zt = clsP ps 0 0 := ⟨_, rfl⟩
 rw [← hzt] at hzc
 have HZT := qH hzt
 have HZL := qH (show zt.length = 256 by rw [hzt]; exact clsP_len _ _ _)
 obtain ⟨i4, hi4, hz4, hs4, hy4⟩ := infoP inf_set
 obtain ⟨zs, hzs⟩ : ∃ z : Nat → Bool, z = fun _ => false := ⟨_, rfl⟩
 rw [← hzs] at hz4
 clear hzs hzt hps
 go_enter Tryd.func36, Tryd.ntmps36
 go_wp2_with (first
  | ((with_reducible refine atDst 1 ?_); refine wpList_box rfl 24 _ rfl [.slice A S.length cap, .int .i64 a, .int .i64 z] rfl (Below.refl w.heap.size w) (Nat.le_refl _) ?_; intro w1 hk1 hb1 hs1 _; have K1 := qH hk1; have B1 := qH hb1; clear hk1 hb1 hs1; (try simp only [Act.put, qA, qB, qC]))
  | ((with_reducible refine atDst 2 ?_); refine wpList_new rfl 28 rfl ic _ (bvs zt) hic hzc rfl (Below.refl w1.heap.size w1) (Nat.le_refl _) ?_; intro w2 hk2 hb2 hs2 _; have K2 := qH hk2; have B2 := qH hb2; have B2W := qH (B1.out.trans (hb2.mono B1.out.size)); have C2 := qH (K1.out.below hb2 K1.out.lt); clear hk2 hb2 hs2; (try simp only [Act.put, qA, qB, qC]))
  | ((with_reducible refine atDst 9 ?_); refine wpList_ldArr rfl 24 _ rfl w.heap.size rfl 24 _ _ C2.out Tryd.underlying24 rfl (size_nfa rfl) ?_; (try simp only [Act.put, qA, qB, qC])))
 refine (sbSets_any S a z _ w2 (V.out.below B2W.out) (Nat.le_trans HN.out (by decide))).mono ?_
 rintro e w3 ⟨v3, rfl, hr3, hb3⟩
 rw [← HPS.out] at hr3
 have R3 := qH hr3
 have B3 := qH hb3
 clear hr3 hb3
 go_wp2_with fail
 refine (bsParts_own v3 ps w3 R3.out (by rw [HPS.out, setsN_len]; exact HN.out)).mono ?_
 rintro e w4 ⟨v4, rfl, hr4, ha4, hb4⟩
 obtain ⟨n, hnp⟩ : ∃ n, n = (parts ps).length := ⟨_, rfl⟩
 have HNP := qH hnp
 have HNF := qH (show n = (fbN S).length by rw [hnp, parts_len, HPS.out]; rfl)
 have HNL := qH (show n ≤ 256 by rw [hnp, parts_len]; exact firstJ_len _ _)
 have R4 := qH hr4
 have B4 := qH (B3.out.trans (hb4.mono B3.out.size))
 have K4 := qH (K2.out.below B4.out K2.out.lt)
 have B14 := qH (B2.out.trans (B4.out.mono (B2.out.size)))
 obtain ⟨A4, c4, rfl, _⟩ := hr4
 have HA4 := qH (fun b off (h : A4 = some ⟨b, off, none⟩) => row_apart ha4 h)
 rw [← hnp] at R4 ⊢
 clear ha4 hb4 hnp
 go_wp2_with fail
 go_loopw [14] (fun i wl => ∃ j : Nat, j ≤ n ∧ i = .int .i64 (j : Int) ∧ Blk wl w1.heap.size 28 (bvs (clsP ps j 0)) ∧ Below w1.heap.size w1 wl ∧ Off (fun k => k = w1.heap.size) w4 wl) (fun i _ => n - (intOf i).toNat)
 case atStart => exact ⟨0, Nat.zero_le _, by simp, by rw [← HZT.out]; exact K4.out, B14.out, Off.refl _ _⟩
 case round =>
  obtain ⟨j, hj, rfl, hk, hb, ho⟩ := hrel
  have KJ := qH hk
  have BJ := qH hb
  have OJ := qH ho
  clear hk hb ho
  obtain ⟨wq, hwq⟩ : ∃ v : World, v = wr := ⟨_, rfl⟩
  subst hwq
  by_cases hjl : j < n
  ·have x1 : (j : Int) < (n : Int) := Int.ofNat_lt.2 hjl
   have HJ := qH hjl
   have HMN := qH (sub_next hjl)
   have HJ2 := qH (show j < 256 by have := HNL.out; omega)
   obtain ⟨p, hp⟩ : ∃ p, p = partP ps j := ⟨_, rfl⟩
   have HP := qH hp
   obtain ⟨b, off, rfl, hlt, hr⟩ := R4.out.at_ (by rw [← HNP.out]; omega)
   have HBB := qH (show b ≠ w1.heap.size by have h1 := HA4.out b off rfl; have h2 := K2.out.lt; have h3 := B3.out.size; omega)
   have HRG := qH (show wq.rangeAt b (off + j * 4) (wds p) from OJ.out.range hlt (fun e => HBB.out e) (hr j p (by rw [hp]; exact parts_get (by rw [← parts_len, ← HNP.out]; exact hjl))))
   have e3 := wrap_one j (lt_big256 hjl HNL.out)
   have e4 := wrap_one' j (lt_big256 hjl HNL.out)
   have wj := wrap_256 j HJ2.out
   clear hj hjl hp hlt hr
   go_wp2_with (first
    | ((with_reducible refine atDst 18 ?_); refine wpList_ldMid rfl 47 _ rfl b (off + j * 4) rfl (wds p) _ HRG.out Tryd.underlying47 rfl (size_set p) ?_; (try simp only [Act.put, qA, qB, qC]))
    | ((with_reducible refine atDst 6 ?_); refine wpList_new rfl 47 rfl i4 _ (wds zs) hi4 hz4 rfl (Below.refl wq.heap.size wq) (Nat.le_refl _) ?_; intro w5 hk hb hs ho; have K5 := qH hk; have B5 := qH hb; clear hk hb hs ho; (try simp only [Act.put, qA, qB, qC]))
    | ((with_reducible refine atStore 47 6 18 ?_); refine wpList_stBlk rfl 47 _ _ rfl wq.heap.size (wds p) rfl rfl 47 _ K5.out (size_set p) rfl (wds_all _) B5.out (Nat.le_refl _) ?_; intro w6 hk hb hs ho; have K6 := qH hk; have B6 := qH hb; clear hk hb hs ho; (try simp only [Act.put, qA, qB, qC]))
    | ((with_reducible refine atDst 19 ?_); refine wpList_ldArr rfl 47 _ rfl wq.heap.size rfl 47 _ _ K6.out Tryd.underlying47 rfl (size_set p) ?_; (try simp only [Act.put, qA, qB, qC])))
   have HT6 := qH (HT.out.belowG (B1.out.trans ((BJ.out.trans (B6.out.mono BJ.out.size)).mono B1.out.size)) HT.out.lt)
   refine (bsList_own p w6 HT6.out).mono ?_
   rintro e w7 ⟨v7, rfl, ho7, hb7⟩
   have HM := qH (show (memJ p 256).length ≤ 256 from memJ_len p 256)
   obtain ⟨ml, hml⟩ : ∃ ml, ml = memJ p 256 := ⟨_, rfl⟩
   have HML := qH hml
   rw [← hml] at ho7 HM
   have H6 := qH (B6.out.size)
   have B67 := qH (B6.out.trans (hb7.mono B6.out.size))
   have K7 := qH (KJ.out.below B67.out KJ.out.lt)
   have B7 := qH (BJ.out.trans (B67.out.mono BJ.out.size))
   have O7 := qH (OJ.out.then B67.out)
   have HLW := qH (Nat.lt_of_lt_of_le KJ.out.lt B6.out.size)
   have R7 := qH (Row.of_own ho7)
   have HAB := qH (own_above ho7)
   obtain ⟨A7, c7, rfl, _⟩ := Row.of_own ho7
   obtain ⟨nm, hnm⟩ : ∃ nm, nm = ml.length := ⟨_, rfl⟩
   have HNM := qH hnm
   rw [bvs_length, ← hnm] at R7 HAB ⊢
   rw [← hnm] at HM
   clear ho7 hb7 hml hnm
   go_wp2_with fail
   go_loopw [22] (fun i wl => ∃ m : Nat, m ≤ nm ∧ i = .int .i64 (m : Int) ∧ Blk wl w1.heap.size 28 (bvs (clsP ps j m)) ∧ Below w1.heap.size w1 wl ∧ Off (fun k => k = w1.heap.size) w4 wl ∧ Off (fun k => k = w1.heap.size) w7 wl) (fun i _ => nm - (intOf i).toNat)
   case atStart => exact ⟨0, Nat.zero_le _, by simp, K7.out, B7.out, O7.out, Off.refl _ _⟩
   obtain ⟨m, hm, rfl, hk, hb, ho, ho2⟩ := hrel
   have KM := qH hk
   have BM := qH hb
   have OM := qH ho
   have OM7 := qH ho2
   clear hk hb ho ho2
   obtain ⟨wm, hwm⟩ : ∃ v : World, v = wr := ⟨_, rfl⟩
   subst hwm
   by_cases hml : m < nm
   ·have y1 : (m : Int) < (nm : Int) := Int.ofNat_lt.2 hml
    have HMM := qH hml
    have HMX := qH (sub_next hml)
    have f3 := wrap_one m (lt_big256 hml HM.out)
    have f4 := wrap_one' m (lt_big256 hml HM.out)
    obtain ⟨b7, o7, rfl, hlt7, hr7⟩ := R7.out.at_ (by rw [bvs_length, ← HNM.out]; exact Nat.lt_of_le_of_lt (Nat.zero_le _) hml)
    obtain ⟨c, hc⟩ : ∃ c, ml[m]? = some c := ⟨_, List.getElem?_eq_getElem (by rw [← HNM.out]; exact hml)⟩
    have HC := qH hc
    have HNE := qH (show ¬ b7 = w1.heap.size from Nat.ne_of_gt (Nat.lt_of_lt_of_le HLW.out (HAB.out b7 rfl)))
    have hcc := OM7.out.cell hlt7 HNE.out (hr7 m _ (bvs_get ml m c hc))
    obtain ⟨x, hx⟩ : ∃ x, x = c.toNat := ⟨_, rfl⟩
    have HX := qH hx
    have HX2 := qH (show x < 256 by rw [hx]; exact c.toNat_lt)
    have hcx : wm.cell? ⟨b7, o7 + m, none⟩ = some (.int .u8 (x : Int)) := by rw [hx]; exact hcc
    have x2 : (x : Int) < 256 := Int.ofNat_lt.2 HX2.out
    have hgc := KM.out.cell x
    have hfz := KM.out.frozen x
    obtain ⟨y, hy⟩ : ∃ y, (clsP ps j m)[x]? = some y := ⟨_, List.getElem?_eq_getElem (by rw [clsP_len]; exact HX2.out)⟩
    rw [bvs_get _ _ _ hy] at hgc
    clear hm hml hc hlt7 hr7 hcc hx hy
    go_wp2_with fail
    have HE := qH (show Blk (wm.setCell ⟨w1.heap.size, x, none⟩ (.int .u8 (j : Int))) w1.heap.size 28 (bvs (clsP ps j (m + 1))) from by
     have h1 := KM.out.set x (bv (UInt8.ofNat j))
     have hcl : (memJ (partP ps j) 256)[m]? = some c := by rw [← HP.out, ← HML.out]; exact HC.out
     rw [show (bvs (clsP ps j m)).set x (bv (UInt8.ofNat j)) = bvs ((clsP ps j m).set x (UInt8.ofNat j)) from by unfold bvs; rw [List.map_set], HX.out, clsP_next hcl, ← HX.out, bv_ofNat HJ2.out] at h1
     exact h1)
    have OS := Off.set wm x (.int .u8 (j : Int)) (D := fun k => k = w1.heap.size) rfl
    exact ⟨⟨m + 1, HMM.out, by congr 1, HE.out, BM.out.setCell (p := ⟨w1.heap.size, x, none⟩) (Nat.le_refl _) _, OM.out.trans OS, OM7.out.trans OS⟩, by simpa [intOf] using HMX.out⟩
   ·obtain rfl : m = nm := Nat.le_antisymm hm (Nat.not_lt.1 hml)
    have y1 : ¬ ((m : Int) < (m : Int)) := Int.lt_irrefl _
    have KE := qH (show Blk wm w1.heap.size 28 (bvs (clsP ps (j + 1) 0)) by
     have h1 := KM.out
     rw [HNM.out, HML.out, HP.out, clsP_row] at h1
     exact h1)
    clear hm hml KM
    go_wp2_with fail
    exact ⟨⟨j + 1, HJ.out, by congr 1, KE.out, BM.out, OM.out⟩, by simpa [intOf] using HMN.out⟩
  ·obtain rfl : j = n := Nat.le_antisymm hj (Nat.not_lt.1 hjl)
   have x1 : ¬ ((j : Int) < (j : Int)) := Int.lt_irrefl _
   obtain ⟨cl, hcl⟩ : ∃ cl, cl = ctab (setsN S) 256 := ⟨_, rfl⟩
   have KE := qH (show Blk wq w1.heap.size 28 (bvs cl) by
    have h1 := KJ.out
    rw [HNF.out, show (fbN S).length = (firstJ ps 256).length by rw [HPS.out]; rfl, clsP_all] at h1
    rw [hcl, ← HPS.out]
    exact h1)
   have HSZ := qH (show (Tryd.prog.info? 28).map (·.size) = some (bvs cl).length from size_ctab (by rw [hcl]; exact ctab_length _ _))
   have HCL := qH hcl
   have HNJ := qH HNF.out
   clear hj hjl KJ hcl
   go_wp2_with (first
    | ((with_reducible refine atDst 32 ?_); refine wpList_ldArr rfl 28 _ rfl w1.heap.size rfl 28 _ _ KE.out Tryd.underlying28 rfl HSZ.out ?_; (try simp only [Act.put, qA, qB, qC]))
    | ((with_reducible refine atStore 28 2 32 ?_); refine wpList_stBlk rfl 28 _ _ rfl w1.heap.size (bvs cl) rfl rfl 28 _ KE.out HSZ.out rfl (bvs_all' _) BJ.out (Nat.le_refl _) ?_; intro w8 hk hb hs ho; have K8 := qH hk; have B8 := qH (B1.out.trans (hb.mono B1.out.size)); clear hk hb hs ho; (try simp only [Act.put, qA, qB, qC])))
   refine bodyPost_ret (results_blk2 rfl _ _ w1.heap.size 28 _ _ _ rfl rfl K8.out Tryd.underlying28 rfl HSZ.out) rfl ?_
   rw [← HCL.out, ← HNJ.out]
   exact ⟨rfl, B8.out⟩
/-! ### cells -/
def nfc (A : Option Addr) (n cap : Nat) (a z : Int) : List Value := [.slice A n cap, .int .i64 a, .int .i64 z]
def mkc (nv : List Value) (cl : List UInt8) (k : Nat) (sg : Value) (mr : Nat) (q : Value) (mn : Nat) : List Value := nv ++ (bvs cl ++ [.int .i64 (k : Int), sg, .map (some mr), q, .map (some mn)])
section
variable {A : Option Addr} {n cap k mr mn : Nat} {a z : Int} {cl : List UInt8} {sg q : Value}
theorem mkc_len (hl : cl.length = 256) : (mkc (nfc A n cap a z) cl k sg mr q mn).length = 264 := by simp [mkc, nfc, bvs_length, hl]
theorem mkc_0 : (mkc (nfc A n cap a z) cl k sg mr q mn)[0]? = some (.slice A n cap) := rfl
theorem mkc_cl (hl : cl.length = 256) {i : Nat} (hi : i < 256) : (mkc (nfc A n cap a z) cl k sg mr q mn)[3 + i]? = (bvs cl)[i]? := by
 unfold mkc
 rw [List.getElem?_append_right (by simp [nfc]), List.getElem?_append_left (by simp [nfc, bvs_length, hl]; omega)]
 congr 1
 simp [nfc]
theorem mkc_end (hl : cl.length = 256) (i : Nat) : (mkc (nfc A n cap a z) cl k sg mr q mn)[259 + i]? = [.int .i64 (k : Int), sg, .map (some mr), q, .map (some mn)][i]? := by
 unfold mkc
 rw [List.getElem?_append_right (by simp [nfc]; omega), List.getElem?_append_right (by simp [nfc, bvs_length, hl]; omega)]
 congr 1
 simp [nfc, bvs_length, hl]
 omega
theorem mkc_k (hl : cl.length = 256) : (mkc (nfc A n cap a z) cl k sg mr q mn)[259]? = some (.int .i64 (k : Int)) := mkc_end hl 0
theorem mkc_sg (hl : cl.length = 256) : (mkc (nfc A n cap a z) cl k sg mr q mn)[260]? = some sg := mkc_end hl 1
theorem mkc_mr (hl : cl.length = 256) : (mkc (nfc A n cap a z) cl k sg mr q mn)[261]? = some (.map (some mr)) := mkc_end hl 2
theorem mkc_q (hl : cl.length = 256) : (mkc (nfc A n cap a z) cl k sg mr q mn)[262]? = some q := mkc_end hl 3
theorem mkc_mn (hl : cl.length = 256) : (mkc (nfc A n cap a z) cl k sg mr q mn)[263]? = some (.map (some mn)) := mkc_end hl 4
theorem mkc_set (hl : cl.length = 256) (i : Nat) (v : Value) : (mkc (nfc A n cap a z) cl k sg mr q mn).set (259 + i) v = nfc A n cap a z ++ (bvs cl ++ [.int .i64 (k : Int), sg, .map (some mr), q, .map (some mn)].set i v) := by
 unfold mkc
 rw [List.set_append_right _ _ (by simp [nfc]; omega), List.set_append_right _ _ (by simp [nfc, bvs_length, hl]; omega)]
 congr 3
 simp [nfc, bvs_length, hl]
 omega
theorem mkc_setk (hl : cl.length = 256) (j : Nat) : (mkc (nfc A n cap a z) cl k sg mr q mn).set 259 (.int .i64 (j : Int)) = mkc (nfc A n cap a z) cl j sg mr q mn := mkc_set hl 0 _
theorem mkc_setsg (hl : cl.length = 256) (v : Value) : (mkc (nfc A n cap a z) cl k sg mr q mn).set 260 v = mkc (nfc A n cap a z) cl k v mr q mn := mkc_set hl 1 _
theorem mkc_setq (hl : cl.length = 256) (v : Value) : (mkc (nfc A n cap a z) cl k sg mr q mn).set 262 v = mkc (nfc A n cap a z) cl k sg mr v mn := mkc_set hl 3 _
end
/-! ### entries -/
def gkey (X : List Int) : Value := .agg (gds (memB X)).toArray
theorem gkey_inj {n : Nat} (hn : n ≤ 2000) {X Y : List Int} (hX : Ris n X) (hY : Ris n Y) (h : gkey X = gkey Y) : X = Y := by
 unfold gkey at h
 injection h with h
 have h2 := congrArg Array.toList h
 exact ris_gds (by omega) hX hY h2
theorem gkey_key (X : List Int) : ∃ l, keyOf Tryd.prog 71 (gkey X) = some l := keyOf_group _
def numE (Qs : List (List Int)) : List (Value × Value) := Qs.mapIdx fun i X => (gkey X, .int .i64 (i : Int))
theorem numE_snoc (Qs : List (List Int)) (X : List Int) : numE (Qs ++ [X]) = numE Qs ++ [(gkey X, .int .i64 (Qs.length : Int))] := by
 unfold numE
 rw [List.mapIdx_concat]
theorem numE_mem {Qs : List (List Int)} {p : Value × Value} (h : p ∈ numE Qs) : ∃ (i : Nat) (X : List Int), Qs[i]? = some X ∧ p = (gkey X, .int .i64 (i : Int)) := by
 unfold numE at h
 obtain ⟨i, hi, rfl⟩ := List.mem_mapIdx.1 h
 exact ⟨i, Qs[i], List.getElem?_eq_getElem hi, rfl⟩
theorem numE_of {Qs : List (List Int)} {i : Nat} {X : List Int} (h : Qs[i]? = some X) : (gkey X, Value.int .i64 (i : Int)) ∈ numE Qs := by
 obtain ⟨hi, rfl⟩ := List.getElem?_eq_some_iff.1 h
 exact List.mem_mapIdx.2 ⟨i, hi, rfl⟩
theorem numE_keys (Qs : List (List Int)) : ∀ p ∈ numE Qs, ∃ l, keyOf Tryd.prog 71 p.1 = some l := fun p hp => by
 obtain ⟨i, X, _, rfl⟩ := numE_mem hp
 exact gkey_key X
noncomputable def reE (S : List St) (Es : List Int) : List (Value × Value) := Es.map fun s => (.int .i64 s, gkey (clsN S [s]))
theorem reE_snoc (S : List St) (Es : List Int) (s : Int) : reE S (Es ++ [s]) = reE S Es ++ [(.int .i64 s, gkey (clsN S [s]))] := by simp [reE]
theorem zero_int (w : World) : (zeroValue 3).run Tryd.prog w = .ok (.int .i64 0) w := by
 obtain ⟨i, hi, hz, _⟩ := infoP inf_int
 simp [zeroValue, typeInfo, hi, hz]
theorem zero_group (w : World) : (zeroValue 71).run Tryd.prog w = .ok (.agg (gds fun _ => false).toArray) w := by
 obtain ⟨i, hi, hz, _⟩ := infoP inf_group
 simp [zeroValue, typeInfo, hi, hz]
theorem look_yes {w : World} {mn n : Nat} {Qs : List (List Int)} {X : List Int} (hm : MapV w mn (numE Qs)) (hn : n ≤ 2000) (hr : ∀ Y ∈ Qs, Ris n Y) (hd : Qs.Nodup) (hX : X ∈ Qs) :
  (Instr.lookup 66 (.map (some mn)) (gkey X) true).run Tryd.prog w = .ok (.tuple #[.int .i64 (ixOf Qs X : Int), .bool true]) w := by
 obtain ⟨l, hl⟩ := gkey_key X
 rcases run_look keyed_group Tryd.underlying66 (zero_int w) hm hl (numE_keys Qs) with ⟨v, hv, hrun⟩ | ⟨hno, _⟩
 ·obtain ⟨i, Y, hY, he⟩ := numE_mem hv
  have e1 := congrArg Prod.fst he
  have e2 := congrArg Prod.snd he
  have hXY := gkey_inj hn (hr X hX) (hr Y (List.mem_of_getElem? hY)) e1
  rw [← hXY] at hY
  rw [hrun, idx_is hd hY, show v = .int .i64 (i : Int) from e2]
 ·exact absurd rfl (hno _ (numE_of (idx_get hX)))
theorem look_no {w : World} {mn n : Nat} {Qs : List (List Int)} {X : List Int} (hm : MapV w mn (numE Qs)) (hn : n ≤ 2000) (hr : ∀ Y ∈ Qs, Ris n Y) (hx : Ris n X) (hX : X ∉ Qs) :
  (Instr.lookup 66 (.map (some mn)) (gkey X) true).run Tryd.prog w = .ok (.tuple #[.int .i64 0, .bool false]) w := by
 obtain ⟨l, hl⟩ := gkey_key X
 rcases run_look keyed_group Tryd.underlying66 (zero_int w) hm hl (numE_keys Qs) with ⟨v, hv, hrun⟩ | ⟨_, hrun⟩
 ·obtain ⟨i, Y, hY, he⟩ := numE_mem hv
  have e1 := congrArg Prod.fst he
  have hXY := gkey_inj hn hx (hr Y (List.mem_of_getElem? hY)) e1
  rw [← hXY] at hY
  exact absurd (List.mem_of_getElem? hY) hX
 ·exact hrun
theorem num_new {n : Nat} {Qs : List (List Int)} {X : List Int} (hn : n ≤ 2000) (hr : ∀ Y ∈ Qs, Ris n Y) (hx : Ris n X) (hX : X ∉ Qs) : ∀ p ∈ numE Qs, p.1 ≠ gkey X := fun p hp e => by
 obtain ⟨i, Y, hY, rfl⟩ := numE_mem hp
 have hXY := gkey_inj hn hx (hr Y (List.mem_of_getElem? hY)) e.symm
 rw [← hXY] at hY
 exact hX (List.mem_of_getElem? hY)
theorem lookR {w : World} {mr : Nat} {S : List St} {Es : List Int} {s : Int} (hm : MapV w mr (reE S Es)) (he : ∀ x ∈ Es, -9223372036854775808 ≤ x ∧ x ≤ 9223372036854775807) (hs : -9223372036854775808 ≤ s ∧ s ≤ 9223372036854775807) :
  (s ∈ Es → (Instr.lookup 64 (.map (some mr)) (.int .i64 s) true).run Tryd.prog w = .ok (.tuple #[gkey (clsN S [s]), .bool true]) w) ∧
   (s ∉ Es → (Instr.lookup 64 (.map (some mr)) (.int .i64 s) true).run Tryd.prog w = .ok (.tuple #[.agg (gds fun _ => false).toArray, .bool false]) w) := by
 obtain ⟨l, hl⟩ := keyOf_int hs
 have hk : ∀ p ∈ reE S Es, ∃ l, keyOf Tryd.prog 3 p.1 = some l := fun p hp => by
  obtain ⟨x, hx, rfl⟩ := List.mem_map.1 hp
  exact keyOf_int (he x hx)
 rcases run_look keyed_int Tryd.underlying64 (zero_group w) hm hl hk with ⟨v, hv, hrun⟩ | ⟨hno, hrun⟩
 ·obtain ⟨x, hx, e⟩ := List.mem_map.1 hv
  have e1 : Value.int .i64 x = .int .i64 s := congrArg Prod.fst e
  have e2 : gkey (clsN S [x]) = v := congrArg Prod.snd e
  injection e1 with _ e1
  rw [e1] at hx e2
  exact ⟨fun _ => by rw [hrun, e2], fun h => absurd hx h⟩
 ·exact ⟨fun h => absurd rfl (hno _ (List.mem_map.2 ⟨s, h, rfl⟩)), fun _ => hrun⟩
/-! ### the whole of it -/
structure MkV (w : World) (B H g mr mn : Nat) (A : Option Addr) (cap : Nat) (a z : Int) (cl : List UInt8) (k : Nat) (sg : Value) (S : List St) (qv : Value) (Qs : List (List Int)) (Es : List Int) : Prop where
 blk : Blk w g 68 (mkc (nfc A S.length cap a z) cl k sg mr qv mn)
 cl : cl.length = 256
 reached : MapV w mr (reE S Es)
 numbers : MapV w mn (numE Qs)
 queue : w.ownsRow H 71 32 qv (Qs.map memB).length (grs (Qs.map memB))
 gB : B ≤ g
 rB : B ≤ mr
 nB : B ≤ mn
 gH : g < H
 rH : mr < H
 nH : mn < H
 hs : H ≤ w.heap.size
 gr : g ≠ mr
 gn : g ≠ mn
 rn : mr ≠ mn
 ris : ∀ X ∈ Qs, Ris S.length X
 nd : Qs.Nodup
 es : ∀ x ∈ Es, -9223372036854775808 ≤ x ∧ x ≤ 9223372036854775807
def Md (g mr mn : Nat) (qv : Value) (k : Nat) : Prop := k = g ∨ k = mr ∨ k = mn ∨ qv.ownBlock = some k
structure MStep (w w' : World) (g mr mn : Nat) (qv qv' : Value) : Prop where
 off : Off (Md g mr mn qv) w w'
 new : ∀ k, qv'.ownBlock = some k → qv.ownBlock = some k ∨ w.heap.size ≤ k
section
variable {w w' w'' : World} {B H g mr mn cap k : Nat} {A : Option Addr} {a z : Int} {cl : List UInt8} {sg : Value} {S : List St} {qv qv' qv'' : Value} {Qs : List (List Int)} {Es : List Int}
theorem MStep.refl (w : World) (g mr mn : Nat) (qv : Value) : MStep w w g mr mn qv qv := ⟨Off.refl _ _, fun k hk => .inl hk⟩
theorem MStep.trans (x : MStep w w' g mr mn qv qv') (y : MStep w' w'' g mr mn qv' qv'') : MStep w w'' g mr mn qv qv'' := by
 refine ⟨⟨y.off.os.trans x.off.os, y.off.tape.trans x.off.tape, y.off.output.trans x.off.output, Nat.le_trans x.off.size y.off.size, fun k hk hn => ?_⟩, fun k hk => ?_⟩
 ·refine (y.off.block k (Nat.lt_of_lt_of_le hk x.off.size) fun hd => ?_).trans (x.off.block k hk hn)
  rcases hd with e | e | e | e
  ·exact hn (.inl e)
  ·exact hn (.inr (.inl e))
  ·exact hn (.inr (.inr (.inl e)))
  ·rcases x.new k e with e | e
   ·exact hn (.inr (.inr (.inr e)))
   ·omega
 ·rcases y.new k hk with e | e
  ·exact x.new k e
  ·exact .inr (Nat.le_trans x.off.size e)
theorem MStep.of (hb : Below w.heap.size w w') (g mr mn : Nat) (qv : Value) : MStep w w' g mr mn qv qv := ⟨Off.new _ hb, fun k hk => .inl hk⟩
theorem MkV.md (x : MkV w B H g mr mn A cap a z cl k sg S qv Qs Es) (hBH : B ≤ H) {j : Nat} (hj : Md g mr mn qv j) : B ≤ j := by
 rcases hj with rfl | rfl | rfl | hj
 ·exact x.gB
 ·exact x.rB
 ·exact x.nB
 ·exact Nat.le_trans hBH (own4_above x.queue j hj)
theorem MkV.bh (x : MkV w B H g mr mn A cap a z cl k sg S qv Qs Es) : B ≤ H := Nat.le_of_lt (Nat.lt_of_le_of_lt x.gB x.gH)
theorem MkV.lts (x : MkV w B H g mr mn A cap a z cl k sg S qv Qs Es) {j : Nat} (hj : Md g mr mn qv j) : j < w.heap.size := by
 rcases hj with rfl | rfl | rfl | hj
 ·exact x.blk.lt
 ·exact x.reached.lt
 ·exact x.numbers.lt
 ·exact own4_lt x.queue j hj
theorem MStep.below (y : MStep w w' g mr mn qv qv') (x : MkV w B H g mr mn A cap a z cl k sg S qv Qs Es) : Below B w w' := y.off.below (fun k hk => x.md x.bh hk) (Nat.le_trans x.bh x.hs)
theorem own32_stay {base n : Nat} {e : TypeId} {v : Value} {xs : List Value} (h : w.ownsRow base e 32 v n xs) (hk : ∀ j, v.ownBlock = some j → w'.heap[j]? = w.heap[j]?) : w'.ownsRow base e 32 v n xs := by
 refine ⟨h.1, ?_⟩
 rcases h.2 with h0 | ⟨g, cap, cur, rfl, hb2, hg, h3⟩
 ·exact .inl h0
 ·exact .inr ⟨g, cap, cur, rfl, hb2, (hk g rfl).trans hg, h3⟩
theorem MkV.stay (x : MkV w B H g mr mn A cap a z cl k sg S qv Qs Es) (hs : w.heap.size ≤ w'.heap.size) (hk : ∀ j, Md g mr mn qv j → w'.heap[j]? = w.heap[j]?) : MkV w' B H g mr mn A cap a z cl k sg S qv Qs Es :=
 {x with blk := (hk g (.inl rfl)).trans x.blk, reached := x.reached.stay (hk mr (.inr (.inl rfl))), numbers := x.numbers.stay (hk mn (.inr (.inr (.inl rfl)))), queue := own32_stay x.queue fun j hj => hk j (.inr (.inr (.inr hj))), hs := Nat.le_trans x.hs hs }
theorem MkV.below (x : MkV w B H g mr mn A cap a z cl k sg S qv Qs Es) (hb : Below w.heap.size w w') : MkV w' B H g mr mn A cap a z cl k sg S qv Qs Es := x.stay hb.size fun j hj => hb.block j (x.lts hj)
theorem MkV.qne (x : MkV w B H g mr mn A cap a z cl k sg S qv Qs Es) {j : Nat} (hj : j < H) : qv.ownBlock ≠ some j := fun e => by
 have := own4_above x.queue j e
 omega
theorem MkV.push (x : MkV w B H g mr mn A cap a z cl k sg S qv Qs Es) {X : List Int} (hX : Ris S.length X) (hno : X ∉ Qs) {w2 w3 w4 : World}
  (h2 : MapV w2 mn (numE Qs ++ [(gkey X, .int .i64 (Qs.length : Int))])) (g2 : w.grownBy w2 (some mn)) (b3 : Below w2.heap.size w2 w3)
  (h4 : w4.ownsRow H 71 32 qv' (Qs.map memB ++ [memB X]).length (grs (Qs.map memB ++ [memB X]))) (g4 : w3.grownBy w4 qv.ownBlock) (hw : ∀ k, qv'.ownBlock = some k → qv.ownBlock = some k ∨ w3.heap.size ≤ k) :
  Blk w4 g 68 (mkc (nfc A S.length cap a z) cl k sg mr qv mn) ∧ MkV (w4.setCell ⟨g, 262, none⟩ qv') B H g mr mn A cap a z cl k sg S qv' (Qs ++ [X]) Es ∧ MStep w (w4.setCell ⟨g, 262, none⟩ qv') g mr mn qv qv' := by
 have hgq := x.qne x.gH
 have hrq := x.qne x.rH
 have hnq := x.qne x.nH
 have s2 : w.heap.size ≤ w3.heap.size := Nat.le_trans g2.size b3.size
 have bg3 : Blk w3 g 68 (mkc (nfc A S.length cap a z) cl k sg mr qv mn) := (x.blk.grown g2 (fun e => x.gn (Option.some.inj e))).below b3 (Nat.lt_of_lt_of_le x.blk.lt g2.size)
 have bg4 := bg3.grown g4 (fun e => hgq e.symm)
 have nq : ∀ j, j < H → qv'.ownBlock ≠ some j := fun j hj e => by
  rcases hw j e with e | e
  ·exact x.qne hj e
  ·have := x.hs; omega
 have st : ∀ j, j < w.heap.size → j ≠ mn → qv.ownBlock ≠ some j → w4.heap[j]? = w.heap[j]? := fun j hj h1 h2' =>
  (g4.block j (Nat.lt_of_lt_of_le hj s2) (fun e => h2' e.symm)).trans ((b3.block j (Nat.lt_of_lt_of_le hj g2.size)).trans (g2.block j hj (fun e => h1 (Option.some.inj e))))
 refine ⟨bg4, ?_, ⟨⟨?_, ?_, ?_, ?_, ?_⟩, ?_⟩⟩
 ·refine ⟨by have := bg4.set 262 qv'; rw [mkc_setq x.cl] at this; exact this, x.cl, ?_, ?_, ?_, x.gB, x.rB, x.nB, x.gH, x.rH, x.nH, ?_, x.gr, x.gn, x.rn, ?_, ?_, x.es⟩
  ·refine x.reached.stay ?_
   rw [Below.heap_setCell w4 ⟨g, 262, none⟩ qv' mr (fun e => x.gr e.symm)]
   exact st mr x.reached.lt x.rn hrq
  ·rw [numE_snoc]
   refine h2.stay ?_
   rw [Below.heap_setCell w4 ⟨g, 262, none⟩ qv' mn (fun e => x.gn e.symm)]
   exact (g4.block mn (Nat.lt_of_lt_of_le h2.lt b3.size) (fun e => hnq e.symm)).trans (b3.block mn h2.lt)
  ·rw [List.map_append, List.map_singleton]
   exact own32_stay h4 fun j hj => Below.heap_setCell w4 ⟨g, 262, none⟩ qv' j (fun e => nq j (by rw [show j = g from e]; exact x.gH) hj)
  ·have := g4.size
   have := x.hs
   simp
   omega
  ·intro Y hY
   rcases List.mem_append.1 hY with hY | hY
   ·exact x.ris Y hY
   ·obtain rfl := List.mem_singleton.1 hY
    exact hX
  ·exact nodup_snoc x.nd hno
 ·exact (g4.os.trans (b3.os.trans g2.os))
 ·exact (g4.tape.trans (b3.tape.trans g2.tape))
 ·exact (g4.output.trans (b3.output.trans g2.output))
 ·have := g4.size
  simp
  omega
 ·intro j hj hn
  rw [Below.heap_setCell w4 ⟨g, 262, none⟩ qv' j (fun e => hn (.inl e))]
  exact st j hj (fun e => hn (.inr (.inr (.inl e)))) (fun e => hn (.inr (.inr (.inr e))))
 ·intro j hj
  rcases hw j hj with e | e
  ·exact .inl e
  ·exact .inr (Nat.le_trans s2 e)
end
section
variable {P : Program} {w : World} {o : Oper} {a : Act} {Q : Exit → Act → World → Prop} {K : Act → World → Prop}
theorem run_bldGr (t e : TypeId) (i : TypeInfo) (ht : P.underlying t = some (.slice e)) (hi : P.info? e = some i) (hz : i.zero = some (.agg (gds fun _ => false).toArray)) (hs : i.size = 32) (q : Nat → Bool) :
  (Instr.buildSlice t 1 #[(0, .agg (gds q).toArray)]).run P w = .ok (.slice (some ⟨w.heap.size, 0, none⟩) 1 1) (w.alloc (.cells (gds q).toArray e)) := by
 have hzv : (zeroValue e).run P w = .ok (.agg (gds fun _ => false).toArray) w := by simp [zeroValue, typeInfo, hi, hz]
 obtain ⟨zc, hzc⟩ : ∃ zc : Array Value, zc = (Array.range (1 * 32)).map (fun j => ((Value.agg (gds fun _ => false).toArray).cells)[j % ((Value.agg (gds fun _ => false).toArray).cells).size]!) := ⟨_, rfl⟩
 have hzs : zc.size = 32 := by rw [hzc]; simp
 have hf := Great.fill_whole (s := 32) (by omega) [.agg (gds q).toArray] zc (fun v hv => by
  obtain rfl := List.mem_singleton.1 hv
  simp [Value.cells, gds_length]) (by rw [hzs]; rfl)
 have hf2 : Instr.fill (fun i => some (i * 32, 32)) zc [(0, .agg (gds q).toArray)] = some (gds q).toArray := by
  rw [show [(0, Value.agg (gds q).toArray)] = (([Value.agg (gds q).toArray].zipIdx 0).map fun x => (x.2, x.1)) from rfl, hf]
  simp [Value.cells]
 subst hzc
 simp only [Nat.one_mul] at hf2
 simp [Instr.buildSlice, run_underlying ht, sizeOf, typeInfo, hi, hs, hzv, hf2, newRow]
theorem wp_bldGr (t e : TypeId) (x : Operand) (ho : o.op = .buildSlice t 1 #[(0, x)]) (i : TypeInfo) (ht : P.underlying t = some (.slice e)) (hi : P.info? e = some i) (hz : i.zero = some (.agg (gds fun _ => false).toArray)) (hs : i.size = 32) (q : Nat → Bool)
  (hx : a.eval x = .agg (gds q).toArray) (h : ∀ w', Blk w' w.heap.size e (gds q) → Below w.heap.size w w' → K (a.put o.dst (.slice (some ⟨w.heap.size, 0, none⟩) 1 1)) w') : o.wp P a w K Q := by
 have hrun := run_bldGr (P := P) (w := w) t e i ht hi hz hs q
 unfold Oper.wp
 simp only [execOp, ho, List.map_toArray, List.map_cons, List.map_nil, hx, hrun, Sem.run_bind, Result.andThen_ok, Sem.run_pure]
 exact h _ (Blk.new w e _) ((Below.refl _ _).alloc (Nat.le_refl _) _)
end
end Go.Proofs.YteadghoojeehlaaDoor
