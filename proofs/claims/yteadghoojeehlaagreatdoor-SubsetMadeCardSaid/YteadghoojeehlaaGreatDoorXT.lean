/-
  Texts of this proof, put together: Off, SbJ, ScH, SbF. No statement is proved here.
-/
import Derived.Test.YteadghoojeehlaaGreatDoorXA
import Derived.Test.YteadghoojeehlaaGreatDoorXS
import Derived.Test.YteadghoojeehlaaGreatDoorXP
import Derived.Test.YteadghoojeehlaaGreatDoorXR
namespace Go.Proofs.YteadghoojeehlaaGreatDoor
open Go.RowKit
set_option linter.unusedSimpArgs false
set_option linter.unusedVariables false
structure Off (D : Nat → Prop) (w w' : World) : Prop where
 os : w'.os = w.os
 tape : w'.tape = w.tape
 output : w'.output = w.output
 size : w.heap.size ≤ w'.heap.size
 block : ∀ k, k < w.heap.size → ¬ D k → w'.heap[k]? = w.heap[k]?
section
variable {D D' : Nat → Prop} {w w1 w2 w' : World} {B b o : Nat}
theorem Off.refl (D : Nat → Prop) (w : World) : Off D w w := ⟨rfl, rfl, rfl, Nat.le_refl _, fun _ _ _ => rfl⟩
theorem Off.start (D : Nat → Prop) (w : World) : Off D w w.drew := ⟨rfl, rfl, rfl, Nat.le_refl _, fun _ _ _ => rfl⟩
theorem Off.trans (h : Off D w w1) (k : Off D w1 w2) : Off D w w2 :=
 ⟨k.os.trans h.os, k.tape.trans h.tape, k.output.trans h.output, Nat.le_trans h.size k.size, fun i hi hn => (k.block i (Nat.lt_of_lt_of_le hi h.size) hn).trans (h.block i hi hn)⟩
theorem Off.mono (h : Off D w w') (hD : ∀ k, k < w.heap.size → D k → D' k) : Off D' w w' := ⟨h.os, h.tape, h.output, h.size, fun k hk hn => h.block k hk fun hd => hn (hD k hk hd)⟩
theorem Off.of (h : Below B w w') (hB : ∀ k, k < w.heap.size → ¬ D k → k < B) : Off D w w' := ⟨h.os, h.tape, h.output, h.size, fun k hk hn => h.block k (hB k hk hn)⟩
theorem Off.new (D : Nat → Prop) (h : Below w.heap.size w w') : Off D w w' := .of h fun k hk _ => hk
theorem Off.put {g : Nat} (h : Below B w w') (ho : ∀ k, k ≠ g → w'.heap[k]? = w.heap[k]?) (hD : w.heap.size ≤ g ∨ D g) : Off D w w' :=
 ⟨h.os, h.tape, h.output, h.size, fun k hk hn => ho k (by rintro rfl; rcases hD with h1 | h1; exact absurd hk (Nat.not_lt.2 h1); exact hn h1)⟩
theorem Off.grown {r : Option Nat} (h : w.grownBy w' r) (hD : ∀ k, r = some k → w.heap.size ≤ k ∨ D k) : Off D w w' :=
 ⟨h.os, h.tape, h.output, h.size, fun k hk hn => h.block k hk fun e => by rcases hD k e.symm with h1 | h1; exact absurd hk (Nat.not_lt.2 h1); exact hn h1⟩
theorem Off.set (w : World) {g : Nat} (i : Nat) (u : Value) (hD : D g) : Off D w (w.setCell ⟨g, i, none⟩ u) :=
 ⟨rfl, rfl, rfl, by simp [World.setCell], fun k hk hn => Below.heap_setCell w ⟨g, i, none⟩ u k (by rintro rfl; exact hn hD)⟩
theorem Off.setCells {g : Nat} (hD : D g) : ∀ (vs : List Value) (o : Nat) (w : World), Off D w (w.setCells g o vs)
 | [], _, w => Off.refl D w
 | v :: r, o, w => (Off.set w o v hD).trans (Off.setCells hD r (o + 1) _)
theorem Off.below (h : Off D w w') (hD : ∀ k, D k → B ≤ k) (hB : B ≤ w.heap.size) : Below B w w' := ⟨h.os, h.tape, h.output, h.size, fun k hk => h.block k (Nat.lt_of_lt_of_le hk hB) fun hd => absurd hk (Nat.not_lt.2 (hD k hd))⟩
theorem Off.cell (h : Off D w w') {v : Value} (hb : b < w.heap.size) (hn : ¬ D b) (hc : w.cell? ⟨b, o, none⟩ = some v) : w'.cell? ⟨b, o, none⟩ = some v := by
 have := h.block b hb hn
 unfold World.cell? at hc ⊢
 simp only [this]
 exact hc
theorem Off.range (h : Off D w w') {cs : List Value} (hb : b < w.heap.size) (hn : ¬ D b) (hc : w.rangeAt b o cs) : w'.rangeAt b o cs := fun j v hv => h.cell hb hn (hc j v hv)
theorem Off.blk (h : Off D w w') {t : TypeId} {cs : List Value} (hn : ¬ D b) (hc : Blk w b t cs) : Blk w' b t cs := (h.block b hc.lt hn).trans hc
theorem Off.then (h : Off D w w1) (hb : Below w1.heap.size w1 w2) : Off D w w2 := h.trans (Off.new D hb)
end
/-! ### the table, part by part -/
def partP (ps : List (Nat → Bool)) (j b : Nat) : Bool := decide (b < 256) && decide (clsOf ps b = j)
theorem parts_get {ps : List (Nat → Bool)} {j : Nat} (hj : j < (firstJ ps 256).length) : (parts ps)[j]? = some (partP ps j) := outs_get hj
theorem parts_len (ps : List (Nat → Bool)) : (parts ps).length = (firstJ ps 256).length := outs_length _ _ _
def clsP (ps : List (Nat → Bool)) (j m : Nat) : List UInt8 := (List.range 256).map fun b => if clsOf ps b < j ∨ (clsOf ps b = j ∧ UInt8.ofNat b ∈ (memJ (partP ps j) 256).take m) then UInt8.ofNat (clsOf ps b) else 0
theorem clsP_len (ps : List (Nat → Bool)) (j m : Nat) : (clsP ps j m).length = 256 := by simp [clsP]
theorem clsP_zero (ps : List (Nat → Bool)) : clsP ps 0 0 = ctab [] 0 := by
 unfold clsP ctab
 refine List.map_congr_left fun b _ => ?_
 rw [if_neg (by simp), if_neg (by omega)]
theorem memJ_in {p : Nat → Bool} {c : UInt8} (h : c ∈ memJ p 256) : p c.toNat = true := by
 have hc := c.toNat_lt
 have := memJ_mem p c.toNat hc
 rw [UInt8.ofNat_toNat] at this
 rw [← this]
 exact decide_eq_true h
theorem clsP_next {ps : List (Nat → Bool)} {j m : Nat} {c : UInt8} (h : (memJ (partP ps j) 256)[m]? = some c) : (clsP ps j m).set c.toNat (UInt8.ofNat j) = clsP ps j (m + 1) := by
 have hm := (List.getElem?_eq_some_iff.1 h).1
 have hcm : c ∈ memJ (partP ps j) 256 := List.mem_of_getElem? h
 have hp := memJ_in hcm
 simp only [partP, Bool.and_eq_true, decide_eq_true_iff] at hp
 apply List.ext_getElem
 ·simp [clsP]
 ·intro i h1 h2
  have hi : i < 256 := by simpa [clsP] using h2
  have htk : (memJ (partP ps j) 256).take (m + 1) = (memJ (partP ps j) 256).take m ++ [c] := by
   rw [List.take_succ_eq_append_getElem hm]
   rw [List.getElem?_eq_getElem hm] at h
   injection h with h
   rw [h]
  have hic : UInt8.ofNat i = c ↔ i = c.toNat := by
   constructor
   ·intro e
    have := congrArg UInt8.toNat e
    rw [UInt8.toNat_ofNat', Nat.mod_eq_of_lt (by omega)] at this
    exact this
   ·rintro rfl
    exact UInt8.ofNat_toNat
  rw [List.getElem_set]
  simp only [clsP, List.getElem_map, List.getElem_range]
  rw [htk]
  have hmem : UInt8.ofNat i ∈ (memJ (partP ps j) 256).take m ++ [c] ↔ UInt8.ofNat i ∈ (memJ (partP ps j) 256).take m ∨ i = c.toNat := by rw [List.mem_append, List.mem_singleton, hic]
  by_cases hci : c.toNat = i
  ·rw [if_pos hci, if_pos (.inr ⟨by rw [← hci]; exact hp.2, hmem.2 (.inr hci.symm)⟩), ← hci, hp.2]
  ·rw [if_neg hci]
   have e : ¬ i = c.toNat := fun e => hci e.symm
   by_cases hq : clsOf ps i < j ∨ (clsOf ps i = j ∧ UInt8.ofNat i ∈ (memJ (partP ps j) 256).take m)
   ·rw [if_pos hq, if_pos]
    rcases hq with hq | hq
    ·exact .inl hq
    ·exact .inr ⟨hq.1, hmem.2 (.inl hq.2)⟩
   ·rw [if_neg hq, if_neg]
    rintro (h3 | ⟨h3, h4⟩)
    ·exact hq (.inl h3)
    ·rcases hmem.1 h4 with h4 | h4
     ·exact hq (.inr ⟨h3, h4⟩)
     ·exact e h4
theorem clsP_row (ps : List (Nat → Bool)) (j : Nat) : clsP ps j (memJ (partP ps j) 256).length = clsP ps (j + 1) 0 := by
 unfold clsP
 refine List.map_congr_left fun b hb => ?_
 have hb := List.mem_range.1 hb
 rw [List.take_length]
 have h := memJ_mem (partP ps j) b hb
 have h2 : UInt8.ofNat b ∈ memJ (partP ps j) 256 ↔ clsOf ps b = j := by
  constructor
  ·intro hm
   rw [decide_eq_true hm] at h
   have := h.symm
   simp only [partP, Bool.and_eq_true, decide_eq_true_iff] at this
   exact this.2
  ·intro e
   have hp : partP ps j b = true := by simp [partP, hb, e]
   rw [hp] at h
   exact of_decide_eq_true h
 by_cases hq : clsOf ps b < j ∨ clsOf ps b = j
 ·rw [if_pos (by rcases hq with hq | hq; exact .inl hq; exact .inr ⟨hq, h2.2 hq⟩), if_pos (.inl (by omega))]
 ·rw [if_neg (by rintro (h3 | h3); exact hq (.inl h3); exact hq (.inr h3.1)), if_neg]
  rintro (h3 | ⟨_, h4⟩)
  ·exact hq (by omega)
  ·simp at h4
theorem clsP_all (ps : List (Nat → Bool)) : clsP ps (firstJ ps 256).length 0 = ctab ps 256 := by
 unfold clsP ctab
 refine List.map_congr_left fun b hb => ?_
 have hb := List.mem_range.1 hb
 rw [if_pos (.inl (clsOf_lt ps hb)), if_pos hb]
theorem lt_big256 {i n : Nat} (h : i < n) (hn : n ≤ 256) : i ≤ 4611686018427387904 := by omega
theorem row_apart {w : World} {A : Option Addr} {n cap b off : Nat} (h : ∀ k, (Value.slice A n cap).ownBlock = some k → w.heap.size ≤ k) (hA : A = some ⟨b, off, none⟩) : w.heap.size ≤ b := by
 subst hA
 exact h b rfl
set_option maxHeartbeats 4000000 in
set_option maxRecDepth 1000000 in
theorem sbClasses_any (S : List St) (a z : Int) (cs : List Value) (w : World) (hv : NfaV w cs S a z) (hn : S.length ≤ 2000) (hT : Tb w) :
  Calls Tryz.prog 9 #[.agg cs.toArray] w fun e w' => e = .returned (.tuple #[.agg (bvs (ctab (setsN S) 256)).toArray, .int .i64 ((fbN S).length : Int)]) ∧ Below w.heap.size w w' := by
 have V := qH hv
 have HT := qH hT
 obtain ⟨A, cap, rfl, hlc, hcm, hA0⟩ := hv.len
 have HN := qH hn
 clear hv hlc hcm hA0 hn hT
 obtain ⟨ic, hic, hzc⟩ := ctab_zero
 obtain ⟨ps, hps⟩ : ∃ ps, ps = setsN S := ⟨_, rfl⟩
 have HPS := qH hps
 rw [← clsP_zero ps] at hzc
 obtain ⟨zt, hzt⟩ : ∃ zt, zt = clsP ps 0 0 := ⟨_, rfl⟩
 rw [← hzt] at hzc
 have HZT := qH hzt
 have HZL := qH (show zt.length = 256 by rw [hzt]; exact clsP_len _ _ _)
 obtain ⟨i4, hi4, hz4, hs4, hy4⟩ := infoP inf_set
 obtain ⟨zs, hzs⟩ : ∃ z : Nat → Bool, z = fun _ => false := ⟨_, rfl⟩
 rw [← hzs] at hz4
 clear hzs hzt hps
 go_enter Tryz.func9, Tryz.ntmps9
 go_wp2_with (first
  | ((with_reducible refine atDst 1 ?_); refine wpList_box rfl 24 _ rfl [.slice A S.length cap, .int .i64 a, .int .i64 z] rfl (Below.refl w.heap.size w) (Nat.le_refl _) ?_; intro w1 hk1 hb1 hs1 _; have K1 := qH hk1; have B1 := qH hb1; clear hk1 hb1 hs1; (try simp only [Act.put, qA, qB, qC]))
  | ((with_reducible refine atDst 2 ?_); refine wpList_new rfl 27 rfl ic _ (bvs zt) hic hzc rfl (Below.refl w1.heap.size w1) (Nat.le_refl _) ?_; intro w2 hk2 hb2 hs2 _; have K2 := qH hk2; have B2 := qH hb2; have B2W := qH (B1.out.trans (hb2.mono B1.out.size)); have C2 := qH (K1.out.below hb2 K1.out.lt); clear hk2 hb2 hs2; (try simp only [Act.put, qA, qB, qC]))
  | ((with_reducible refine atDst 9 ?_); refine wpList_ldArr rfl 24 _ rfl w.heap.size rfl 24 _ _ C2.out Tryz.underlying24 rfl (size_nfa rfl) ?_; (try simp only [Act.put, qA, qB, qC])))
 refine (sbSets_any S a z _ w2 (V.out.below B2W.out) (Nat.le_trans HN.out (by decide))).mono ?_
 rintro e w3 ⟨v3, rfl, hr3, hb3⟩
 rw [← HPS.out] at hr3
 have R3 := qH hr3
 have B3 := qH hb3
 clear hr3 hb3
 go_wp2_with fail
 refine (bsParts_own v3 ps w3 R3.out (by rw [HPS.out, setsN_len]; exact HN.out)).mono ?_
 rintro e w4 ⟨v4, rfl, hr4, ha4, hb4⟩
 obtain ⟨n, hnp⟩ : ∃ n, n = (parts ps).length := ⟨_, rfl⟩
 have HNP := qH hnp
 have HNF := qH (show n = (fbN S).length by rw [hnp, parts_len, HPS.out]; rfl)
 have HNL := qH (show n ≤ 256 by rw [hnp, parts_len]; exact firstJ_len _ _)
 have R4 := qH hr4
 have B4 := qH (B3.out.trans (hb4.mono B3.out.size))
 have K4 := qH (K2.out.below B4.out K2.out.lt)
 have B14 := qH (B2.out.trans (B4.out.mono (B2.out.size)))
 obtain ⟨A4, c4, rfl, _⟩ := hr4
 have HA4 := qH (fun b off (h : A4 = some ⟨b, off, none⟩) => row_apart ha4 h)
 rw [← hnp] at R4 ⊢
 clear ha4 hb4 hnp
 go_wp2_with fail
 go_loopw [14] (fun i wl => ∃ j : Nat, j ≤ n ∧ i = .int .i64 (j : Int) ∧ Blk wl w1.heap.size 27 (bvs (clsP ps j 0)) ∧ Below w1.heap.size w1 wl ∧ Off (fun k => k = w1.heap.size) w4 wl) (fun i _ => n - (intOf i).toNat)
 case atStart => exact ⟨0, Nat.zero_le _, by simp, by rw [← HZT.out]; exact K4.out, B14.out, Off.refl _ _⟩
 case round =>
  obtain ⟨j, hj, rfl, hk, hb, ho⟩ := hrel
  have KJ := qH hk
  have BJ := qH hb
  have OJ := qH ho
  clear hk hb ho
  obtain ⟨wq, hwq⟩ : ∃ v : World, v = wr := ⟨_, rfl⟩
  subst hwq
  by_cases hjl : j < n
  ·have x1 : (j : Int) < (n : Int) := Int.ofNat_lt.2 hjl
   have HJ := qH hjl
   have HMN := qH (sub_next hjl)
   have HJ2 := qH (show j < 256 by have := HNL.out; omega)
   obtain ⟨p, hp⟩ : ∃ p, p = partP ps j := ⟨_, rfl⟩
   have HP := qH hp
   obtain ⟨b, off, rfl, hlt, hr⟩ := R4.out.at_ (by rw [← HNP.out]; omega)
   have HBB := qH (show b ≠ w1.heap.size by have h1 := HA4.out b off rfl; have h2 := K2.out.lt; have h3 := B3.out.size; omega)
   have HRG := qH (show wq.rangeAt b (off + j * 4) (wds p) from OJ.out.range hlt (fun e => HBB.out e) (hr j p (by rw [hp]; exact parts_get (by rw [← parts_len, ← HNP.out]; exact hjl))))
   have e3 := wrap_one j (lt_big256 hjl HNL.out)
   have e4 := wrap_one' j (lt_big256 hjl HNL.out)
   have wj := wrap_256 j HJ2.out
   clear hj hjl hp hlt hr
   go_wp2_with (first
    | ((with_reducible refine atDst 18 ?_); refine wpList_ldMid rfl 43 _ rfl b (off + j * 4) rfl (wds p) _ HRG.out Tryz.underlying43 rfl (size_set p) ?_; (try simp only [Act.put, qA, qB, qC]))
    | ((with_reducible refine atDst 6 ?_); refine wpList_new rfl 43 rfl i4 _ (wds zs) hi4 hz4 rfl (Below.refl wq.heap.size wq) (Nat.le_refl _) ?_; intro w5 hk hb hs ho; have K5 := qH hk; have B5 := qH hb; clear hk hb hs ho; (try simp only [Act.put, qA, qB, qC]))
    | ((with_reducible refine atStore 43 6 18 ?_); refine wpList_stBlk rfl 43 _ _ rfl wq.heap.size (wds p) rfl rfl 43 _ K5.out (size_set p) rfl (wds_all _) B5.out (Nat.le_refl _) ?_; intro w6 hk hb hs ho; have K6 := qH hk; have B6 := qH hb; clear hk hb hs ho; (try simp only [Act.put, qA, qB, qC]))
    | ((with_reducible refine atDst 19 ?_); refine wpList_ldArr rfl 43 _ rfl wq.heap.size rfl 43 _ _ K6.out Tryz.underlying43 rfl (size_set p) ?_; (try simp only [Act.put, qA, qB, qC])))
   have HT6 := qH (HT.out.belowG (B1.out.trans ((BJ.out.trans (B6.out.mono BJ.out.size)).mono B1.out.size)) HT.out.lt)
   refine (bsList_own p w6 HT6.out).mono ?_
   rintro e w7 ⟨v7, rfl, ho7, hb7⟩
   have HM := qH (show (memJ p 256).length ≤ 256 from memJ_len p 256)
   obtain ⟨ml, hml⟩ : ∃ ml, ml = memJ p 256 := ⟨_, rfl⟩
   have HML := qH hml
   rw [← hml] at ho7 HM
   have H6 := qH (B6.out.size)
   have B67 := qH (B6.out.trans (hb7.mono B6.out.size))
   have K7 := qH (KJ.out.below B67.out KJ.out.lt)
   have B7 := qH (BJ.out.trans (B67.out.mono BJ.out.size))
   have O7 := qH (OJ.out.then B67.out)
   have HLW := qH (Nat.lt_of_lt_of_le KJ.out.lt B6.out.size)
   have R7 := qH (Row.of_own ho7)
   have HAB := qH (own_above ho7)
   obtain ⟨A7, c7, rfl, _⟩ := Row.of_own ho7
   obtain ⟨nm, hnm⟩ : ∃ nm, nm = ml.length := ⟨_, rfl⟩
   have HNM := qH hnm
   rw [bvs_length, ← hnm] at R7 HAB ⊢
   rw [← hnm] at HM
   clear ho7 hb7 hml hnm
   go_wp2_with fail
   go_loopw [22] (fun i wl => ∃ m : Nat, m ≤ nm ∧ i = .int .i64 (m : Int) ∧ Blk wl w1.heap.size 27 (bvs (clsP ps j m)) ∧ Below w1.heap.size w1 wl ∧ Off (fun k => k = w1.heap.size) w4 wl ∧ Off (fun k => k = w1.heap.size) w7 wl) (fun i _ => nm - (intOf i).toNat)
   case atStart => exact ⟨0, Nat.zero_le _, by simp, K7.out, B7.out, O7.out, Off.refl _ _⟩
   obtain ⟨m, hm, rfl, hk, hb, ho, ho2⟩ := hrel
   have KM := qH hk
   have BM := qH hb
   have OM := qH ho
   have OM7 := qH ho2
   clear hk hb ho ho2
   obtain ⟨wm, hwm⟩ : ∃ v : World, v = wr := ⟨_, rfl⟩
   subst hwm
   by_cases hml : m < nm
   ·have y1 : (m : Int) < (nm : Int) := Int.ofNat_lt.2 hml
    have HMM := qH hml
    have HMX := qH (sub_next hml)
    have f3 := wrap_one m (lt_big256 hml HM.out)
    have f4 := wrap_one' m (lt_big256 hml HM.out)
    obtain ⟨b7, o7, rfl, hlt7, hr7⟩ := R7.out.at_ (by rw [bvs_length, ← HNM.out]; exact Nat.lt_of_le_of_lt (Nat.zero_le _) hml)
    obtain ⟨c, hc⟩ : ∃ c, ml[m]? = some c := ⟨_, List.getElem?_eq_getElem (by rw [← HNM.out]; exact hml)⟩
    have HC := qH hc
    have HNE := qH (show ¬ b7 = w1.heap.size from Nat.ne_of_gt (Nat.lt_of_lt_of_le HLW.out (HAB.out b7 rfl)))
    have hcc := OM7.out.cell hlt7 HNE.out (hr7 m _ (bvs_get ml m c hc))
    obtain ⟨x, hx⟩ : ∃ x, x = c.toNat := ⟨_, rfl⟩
    have HX := qH hx
    have HX2 := qH (show x < 256 by rw [hx]; exact c.toNat_lt)
    have hcx : wm.cell? ⟨b7, o7 + m, none⟩ = some (.int .u8 (x : Int)) := by rw [hx]; exact hcc
    have x2 : (x : Int) < 256 := Int.ofNat_lt.2 HX2.out
    have hgc := KM.out.cell x
    have hfz := KM.out.frozen x
    obtain ⟨y, hy⟩ : ∃ y, (clsP ps j m)[x]? = some y := ⟨_, List.getElem?_eq_getElem (by rw [clsP_len]; exact HX2.out)⟩
    rw [bvs_get _ _ _ hy] at hgc
    clear hm hml hc hlt7 hr7 hcc hx hy
    go_wp2_with fail
    have HE := qH (show Blk (wm.setCell ⟨w1.heap.size, x, none⟩ (.int .u8 (j : Int))) w1.heap.size 27 (bvs (clsP ps j (m + 1))) from by
     have h1 := KM.out.set x (bv (UInt8.ofNat j))
     have hcl : (memJ (partP ps j) 256)[m]? = some c := by rw [← HP.out, ← HML.out]; exact HC.out
     rw [show (bvs (clsP ps j m)).set x (bv (UInt8.ofNat j)) = bvs ((clsP ps j m).set x (UInt8.ofNat j)) from by unfold bvs; rw [List.map_set], HX.out, clsP_next hcl, ← HX.out, bv_ofNat HJ2.out] at h1
     exact h1)
    have OS := Off.set wm x (.int .u8 (j : Int)) (D := fun k => k = w1.heap.size) rfl
    exact ⟨⟨m + 1, HMM.out, by congr 1, HE.out, BM.out.setCell (p := ⟨w1.heap.size, x, none⟩) (Nat.le_refl _) _, OM.out.trans OS, OM7.out.trans OS⟩, by simpa [intOf] using HMX.out⟩
   ·obtain rfl : m = nm := Nat.le_antisymm hm (Nat.not_lt.1 hml)
    have y1 : ¬ ((m : Int) < (m : Int)) := Int.lt_irrefl _
    have KE := qH (show Blk wm w1.heap.size 27 (bvs (clsP ps (j + 1) 0)) by
     have h1 := KM.out
     rw [HNM.out, HML.out, HP.out, clsP_row] at h1
     exact h1)
    clear hm hml KM
    go_wp2_with fail
    exact ⟨⟨j + 1, HJ.out, by congr 1, KE.out, BM.out, OM.out⟩, by simpa [intOf] using HMN.out⟩
  ·obtain rfl : j = n := Nat.le_antisymm hj (Nat.not_lt.1 hjl)
   have x1 : ¬ ((j : Int) < (j : Int)) := Int.lt_irrefl _
   obtain ⟨cl, hcl⟩ : ∃ cl, cl = ctab (setsN S) 256 := ⟨_, rfl⟩
   have KE := qH (show Blk wq w1.heap.size 27 (bvs cl) by
    have h1 := KJ.out
    rw [HNF.out, show (fbN S).length = (firstJ ps 256).length by rw [HPS.out]; rfl, clsP_all] at h1
    rw [hcl, ← HPS.out]
    exact h1)
   have HSZ := qH (show (Tryz.prog.info? 27).map (·.size) = some (bvs cl).length from size_ctab (by rw [hcl]; exact ctab_length _ _))
   have HCL := qH hcl
   have HNJ := qH HNF.out
   clear hj hjl KJ hcl
   go_wp2_with (first
    | ((with_reducible refine atDst 32 ?_); refine wpList_ldArr rfl 27 _ rfl w1.heap.size rfl 27 _ _ KE.out Tryz.underlying27 rfl HSZ.out ?_; (try simp only [Act.put, qA, qB, qC]))
    | ((with_reducible refine atStore 27 2 32 ?_); refine wpList_stBlk rfl 27 _ _ rfl w1.heap.size (bvs cl) rfl rfl 27 _ KE.out HSZ.out rfl (bvs_all' _) BJ.out (Nat.le_refl _) ?_; intro w8 hk hb hs ho; have K8 := qH hk; have B8 := qH (B1.out.trans (hb.mono B1.out.size)); clear hk hb hs ho; (try simp only [Act.put, qA, qB, qC])))
   refine bodyPost_ret (results_blk2 rfl _ _ w1.heap.size 27 _ _ _ rfl rfl K8.out Tryz.underlying27 rfl HSZ.out) rfl ?_
   rw [← HCL.out, ← HNJ.out]
   exact ⟨rfl, B8.out⟩
set_option maxHeartbeats 4000000 in
set_option maxRecDepth 1000000 in
theorem refClasses9_any (S : List St) (a z : Int) (cs : List Value) (w : World) (hv : NfaV w cs S a z) (hn : S.length ≤ 2000) :
  Calls Tryz.prog 10 #[.agg cs.toArray] w fun e w' => e = .returned (.tuple #[.agg (bvs (ctab (setsN S) 256)).toArray, .int .i64 ((fbN S).length : Int)]) ∧ Below w.heap.size w w' := by
 have V := qH hv
 obtain ⟨A, cap, rfl, hlc, hcm, hA0⟩ := hv.len
 have HN := qH hn
 clear hv hlc hcm hA0 hn
 obtain ⟨ic, hic, hzc⟩ := ctab_zero
 obtain ⟨zt, hzt⟩ : ∃ zt, zt = ctab [] 0 := ⟨_, rfl⟩
 rw [← hzt] at hzc
 have HZL := qH (show zt.length = 256 by rw [hzt]; exact ctab_length _ _)
 obtain ⟨i4, hi4, hz4, hs4, hy4⟩ := infoP inf_set
 obtain ⟨ct, hct⟩ : ∃ ct, ct = ctab (setsN S) 256 := ⟨_, rfl⟩
 obtain ⟨kk, hkk⟩ : ∃ kk, kk = (fbN S).length := ⟨_, rfl⟩
 have HCT := qH (show ∀ q, q = setsN S → ctab q 256 = ct from fun q hq => by rw [hq, hct])
 have HKK := qH (show ∀ q, q = setsN S → (firstJ q 256).length = kk from fun q hq => by rw [hq, hkk]; rfl)
 have HCL := qH (show ct.length = 256 by rw [hct]; exact ctab_length _ _)
 have HSZ := qH (show (Tryz.prog.info? 27).map (·.size) = some (bvs ct).length from size_ctab HCL.out)
 rw [← hct, ← hkk]
 clear hzt hct hkk
 go_enter Tryz.func10, Tryz.ntmps10
 go_wp2_with (first
  | ((with_reducible refine atDst 1 ?_); refine wpList_box rfl 24 _ rfl [.slice A S.length cap, .int .i64 a, .int .i64 z] rfl (Below.refl w.heap.size w) (Nat.le_refl _) ?_; intro w1 hk1 hb1 hs1 _; have K1 := qH hk1; have B1 := qH hb1; clear hk1 hb1 hs1; (try simp only [Act.put, qA, qB, qC]))
  | ((with_reducible refine atDst 2 ?_); refine wpList_new rfl 27 rfl ic _ (bvs zt) hic hzc rfl (Below.refl w1.heap.size w1) (Nat.le_refl _) ?_; intro w2 hk2 hb2 hs2 _; have K2 := qH hk2; have B2 := qH hb2; have B2W := qH (B1.out.trans (hb2.mono B1.out.size)); have C2 := qH (K1.out.below hb2 K1.out.lt); clear hk2 hb2 hs2; (try simp only [Act.put, qA, qB, qC])))
 go_loopw [4, 5] (fun v i wl => ∃ j : Nat, j ≤ S.length ∧ i = .int .i64 (j : Int) ∧ wl.ownsRow w2.heap.size 43 4 v (setsN (S.take j)).length (sets (setsN (S.take j))) ∧ Below w2.heap.size w2 wl) (fun _ i _ => S.length - (intOf i).toNat)
 case atStart => exact ⟨0, Nat.zero_le _, by simp, own4N _ _ _, Below.refl _ _⟩
 obtain ⟨j, hj, rfl, ho, hb⟩ := hrel
 have HO := qH ho
 have BR := qH hb
 have CR := qH (C2.out.below hb C2.out.lt)
 have c0 := CR.out.cell 0
 clear ho hb
 obtain ⟨wq, hwq⟩ : ∃ v : World, v = wr := ⟨_, rfl⟩
 subst hwq
 by_cases hjl : j < S.length
 ·have x1 : (j : Int) < (S.length : Int) := Int.ofNat_lt.2 hjl
  have HJ := qH hjl
  have HMN := qH (sub_next hjl)
  have e3 := wrap_one j (lt_bigN hjl HN.out)
  have e4 := wrap_one' j (lt_bigN hjl HN.out)
  obtain ⟨s, hs⟩ : ∃ s, S[j]? = some s := ⟨_, List.getElem?_eq_getElem hjl⟩
  have HS := qH hs
  have VQ := qH ((V.out.below B2W.out).below BR.out)
  obtain ⟨b, off, rfl, hlt, hr, _⟩ := VQ.out.at_ hs
  obtain ⟨st, hst⟩ : ∃ t, s.set = t := ⟨_, rfl⟩
  rw [hst] at hr
  have HST := qH hst
  have HR2 := qH hr
  have HL := qH (show (setsN (S.take j)).length ≤ 1000000 by rw [setsN_len, List.length_take]; have := HN.out; omega)
  clear hj hjl hs hr hlt hst
  go_wp2_with (first
   | ((with_reducible refine atDst 19 ?_); refine wpList_load_mid rfl 43 _ rfl b (off + j * 6) rfl (wds st) _ HR2.out Tryz.underlying43 rfl (size_set st) ?_; (try simp only [Act.put, qA, qB, qC]))
   | ((with_reducible refine atDst 20 ?_); refine wpList_bldSet1 rfl 76 43 (.tmp 19) rfl i4 Tryz.underlying76 hi4 hz4 hs4 st rfl ?_; intro w6 hk hb; have K6 := qH hk; have B6 := qH hb; clear hk hb; (try simp only [Act.put, qA, qB, qC]))
   | ((with_reducible refine atDst 21 ?_); refine wpList_appS (base := w2.heap.size) rfl (.tmp 13) (.tmp 20) 76 rfl 43 i4 Tryz.underlying76 hi4 hz4 hs4 hy4 _ (setsN (S.take j)) rfl (own4Below HO.out B6.out (Nat.le_refl _)) _ 1 43 [st] rfl K6.out (by have := HL.out; simp only [List.length_singleton]; omega) (Nat.le_trans BR.out.size B6.out.size) ?_; intro v7 w7 ho7 hg7; have O7 := qH ho7; have B7 := qH (Below.grown (BR.out.trans (B6.out.mono BR.out.size)) hg7 (Nat.le_trans BR.out.size B6.out.size) (own4_above HO.out)); clear ho7 hg7; (try simp only [Act.put, qA, qB, qC])))
  refine ⟨⟨j + 1, HJ.out, by congr 1, ?_, B7.out⟩, by simpa [intOf] using HMN.out⟩
  rw [setsN_take HS.out, HST.out]
  exact O7.out
 ·obtain rfl : j = S.length := Nat.le_antisymm hj (Nat.not_lt.1 hjl)
  have x1 : ¬ ((S.length : Int) < (S.length : Int)) := Int.lt_irrefl _
  obtain ⟨ps, hps⟩ : ∃ ps, ps = setsN S := ⟨_, rfl⟩
  have HCP := qH (HCT.out ps hps)
  have HKP := qH (HKK.out ps hps)
  have HE := qH (show RowS wq u4 ps by
   have h := HO.out
   rw [List.take_length, ← hps] at h
   exact own4_row h)
  have HPL := qH (show ps.length ≤ 1048576 by rw [hps, setsN_len]; have := HN.out; omega)
  clear hj hjl hps HO
  obtain ⟨A5, c5, rfl, _⟩ := HE.out
  go_wp2_with fail
  have hcc := refClasses_any _ ps wq HE.out HPL.out
  rw [HCP.out, HKP.out] at hcc
  refine hcc.mono ?_
  clear hcc
  rintro e w7 ⟨rfl, hb⟩
  have K7 := qH (K2.out.below (BR.out.trans (hb.mono BR.out.size)) K2.out.lt)
  have B7 := qH (B2W.out.trans ((BR.out.trans (hb.mono BR.out.size)).mono B2W.out.size))
  clear hb c0
  go_wp2_with ((with_reducible refine atStore 27 2 24 ?_); refine wpList_stBlk rfl 27 _ _ rfl w1.heap.size (bvs ct) rfl rfl 27 _ K7.out HSZ.out (by rw [bvs_length, bvs_length, HZL.out, HCL.out]) (bvs_all' _) B7.out B1.out.size ?_; intro w8 hk hb hs ho; have K8 := qH hk; have B8 := qH hb; clear hk hb hs ho; (try simp only [Act.put, qA, qB, qC]))
  refine bodyPost_ret (results_blk2 rfl _ _ w1.heap.size 27 _ _ _ rfl rfl K8.out Tryz.underlying27 rfl HSZ.out) rfl ?_
  exact ⟨rfl, B8.out⟩
def joinJ (t u : Nat → Bool) (j : Nat) (b : Nat) : Bool := t b || (decide (b < 64 * j) && u b)
theorem set_same {α : Type} {l : List α} {c : Nat} {t : α} (h : l[c]? = some t) : l.set c t = l := by
 obtain ⟨hc, rfl⟩ := List.getElem?_eq_some_iff.1 h
 exact List.set_getElem_self hc
theorem joinJ_zero (t u : Nat → Bool) : joinJ t u 0 = t := by
 funext b
 simp [joinJ]
theorem joinJ_all (t u : Nat → Bool) : gds (joinJ t u 32) = gds fun b => t b || u b := gds_congr fun b hb => by
 unfold joinJ
 rw [decide_eq_true hb, Bool.true_and]
theorem joinJ_word (t u : Nat → Bool) (j : Nat) : word (joinJ t u j) j = word t j := wordG fun i hi => by
 unfold joinJ
 rw [decide_eq_false (by omega)]
 simp
theorem joinJ_next (t u : Nat → Bool) (j : Nat) (hj : j < 32) : (gds (joinJ t u j)).set j (.int .u64 ((word t j ||| word u j : Nat) : Int)) = gds (joinJ t u (j + 1)) := by
 have e : word t j ||| word u j = word (joinJ t u (j + 1)) j := by
  rw [word_or]
  refine wordG fun i hi => ?_
  unfold joinJ
  rw [decide_eq_true (by omega), Bool.true_and]
 rw [e]
 refine gds_set _ j _ hj fun k _ hne => wordG fun i hi => ?_
 unfold joinJ
 have : decide (64 * k + i < 64 * j) = decide (64 * k + i < 64 * (j + 1)) := decide_eq_decide.2 (by omega)
 rw [this]
theorem grs_setW {ts : List (Nat → Bool)} {c j : Nat} {t u : Nat → Bool} (hc : ts[c]? = some t) (hj : j < 32) : (grs (ts.set c (joinJ t u j))).set (c * 32 + j) (.int .u64 ((word t j ||| word u j : Nat) : Int)) = grs (ts.set c (joinJ t u (j + 1))) := by
 have hl := (List.getElem?_eq_some_iff.1 hc).1
 have := grs_set (ts.set c (joinJ t u j)) c j (joinJ t u j) (joinJ t u (j + 1)) (.int .u64 ((word t j ||| word u j : Nat) : Int)) (by rw [List.getElem?_set_self hl]) hj (joinJ_next t u j hj)
 rwa [List.set_set] at this
theorem grs_congr : ∀ {ts : List (Nat → Bool)} {c : Nat} {t p q : Nat → Bool}, ts[c]? = some t → gds p = gds q → grs (ts.set c p) = grs (ts.set c q)
 | [], _, _, _, _, h, _ => by simp at h
 | x :: r, 0, _, p, q, _, hpq => by
  have e1 : grs (List.set (x :: r) 0 p) = gds p ++ grs r := rfl
  have e2 : grs (List.set (x :: r) 0 q) = gds q ++ grs r := rfl
  rw [e1, e2, hpq]
 | x :: r, c + 1, t, p, q, h, hpq => by
  have e1 : grs (List.set (x :: r) (c + 1) p) = gds x ++ grs (r.set c p) := rfl
  have e2 : grs (List.set (x :: r) (c + 1) q) = gds x ++ grs (r.set c q) := rfl
  rw [e1, e2, grs_congr (t := t) (by simpa using h) hpq]
set_option maxHeartbeats 2000000 in
set_option maxRecDepth 100000 in
theorem gJoin_any (ts : List (Nat → Bool)) (c : Nat) (t u : Nat → Bool) (h q oq : Nat) (ty : TypeId) (w : World) (hb : Blk w h ty (grs ts)) (hc : ts[c]? = some t) (hl : ts.length ≤ 1000) (hq : w.rangeAt q oq (gds u)) (hqs : q < w.heap.size) (hne : q ≠ h) :
  Calls Tryz.prog 43 #[.pointer (some ⟨h, c * 32, none⟩), .pointer (some ⟨q, oq, none⟩)] w fun e w' => e = .returned (.tuple #[]) ∧ Blk w' h ty (grs (ts.set c fun b => t b || u b)) ∧ Off (fun k => k = h) w w' := by
 have KB := qH hb
 have HCC := qH hc
 have HQ := qH hq
 have HQS := qH hqs
 have HNE := qH hne
 clear hb hc hq hqs hne
 go_enter Tryz.func43, Tryz.ntmps43
 go_wp2_with fail
 go_loopw [7] (fun i wl => ∃ j : Nat, j ≤ 32 ∧ i = .int .i64 (j : Int) ∧ Blk wl h ty (grs (ts.set c (joinJ t u j))) ∧ Off (fun k => k = h) w wl) (fun i _ => 32 - (intOf i).toNat)
 case atStart => exact ⟨0, Nat.zero_le _, by simp, by rw [joinJ_zero, set_same HCC.out]; exact KB.out, Off.refl _ _⟩
 case round =>
  obtain ⟨j, hj, rfl, hk, ho⟩ := hrel
  have KR := qH hk
  have OR := qH ho
  clear hk ho
  obtain ⟨wo, hwo⟩ : ∃ wo : World, wo = wr := ⟨_, rfl⟩
  subst hwo
  by_cases hjl : j < 32
  ·have i1 : (j : Int) < 32 := by omega
   have HJ := qH hjl
   have HMN := qH (sub_next hjl)
   have e3 := wrap_one j (by omega)
   have e4 := wrap_one' j (by omega)
   obtain ⟨x, hx⟩ : ∃ x, x = word t j := ⟨_, rfl⟩
   obtain ⟨y, hy⟩ : ∃ y, y = word u j := ⟨_, rfl⟩
   have HX := qH hx
   have HY := qH hy
   have HLX := qH (show x < 18446744073709551616 by rw [hx]; exact word_lt _ _)
   have HLY := qH (show y < 18446744073709551616 by rw [hy]; exact word_lt _ _)
   have HGX := qH (show wo.cell? ⟨h, c * 32 + j, none⟩ = some (.int .u64 (x : Int)) by
    rw [KR.out.cell, grs_get (List.getElem?_set_self (List.getElem?_eq_some_iff.1 HCC.out).1) j hjl, gds_get _ hjl, joinJ_word, hx])
   have HFX := qH (KR.out.frozen (c * 32 + j))
   have HGY := qH (show wo.cell? ⟨q, oq + j, none⟩ = some (.int .u64 (y : Int)) by
    have := OR.out.cell HQS.out (fun e => HNE.out e) (HQ.out j _ (gds_get u hjl))
    rw [hy]; exact this)
   obtain ⟨z, hz⟩ : ∃ z, z = x ||| y := ⟨_, rfl⟩
   have HZ := qH hz
   clear hj hjl hx hy hz
   go_wp2_with fail
   refine sx_startB (B := wo.heap.size) (w0 := wo) (by kernel_rfl) (Below.refl _ _) (fun wd hwd hX => ?_)
   have HWH := qH KR.out.lt
   have HWQ := qH (Nat.lt_of_lt_of_le HQS.out OR.out.size)
   clear hwd
   refine sx_take (i := 0) (oi := ⟨some 9, _, _, _, _, _⟩) (v := ?_) rfl (by kernel_rfl) (by kernel_rfl) (by kernel_rfl) (fun _ _ _ h => h) rfl hX ?_ ?_; rotate_left; (intro W hW; go_simp; try with_reducible rfl); simp only [Act.put, qA, qB, qC]
   refine sx_take (i := 1) (oi := ⟨some 10, _, _, _, _, _⟩) (v := ?_) rfl (by kernel_rfl) (by kernel_rfl) (by kernel_rfl) (fun _ _ _ h => h) rfl hX ?_ ?_; rotate_left; (intro W hW; go_simp; try with_reducible rfl); simp only [Act.put, qA, qB, qC]
   refine sx_take (i := 2) (oi := ⟨some 11, _, _, _, _, _⟩) (v := .pointer (some ⟨q, oq + j, none⟩)) rfl (by kernel_rfl) (by kernel_rfl) (by kernel_rfl) (fun _ _ _ h => h) rfl hX (fun W _ => ix_grp (.tmp 10) (.tmp 7) rfl rfl rfl HJ.out W) ?_; simp only [Act.put, qA, qB, qC]
   refine sx_take (i := 3) (oi := ⟨some 12, _, _, _, _, _⟩) (v := .int .u64 (y : Int)) rfl (by kernel_rfl) (by kernel_rfl) (by kernel_rfl) (fun _ _ _ h => h) rfl hX (fun W hW => ld_u64 (.tmp 11) rfl rfl ((hW.cell (p := ⟨q, oq + j, none⟩) HWQ.out).trans HGY.out)) ?_; simp only [Act.put, qA, qB, qC]
   refine sx_take (i := 4) (oi := ⟨some 4, _, _, _, _, _⟩) (v := ?_) rfl (by kernel_rfl) (by kernel_rfl) (by kernel_rfl) (fun _ _ _ h => h) rfl hX ?_ ?_; rotate_left; (intro W hW; go_simp; try with_reducible rfl); simp only [Act.put, qA, qB, qC]
   refine sx_take (i := 5) (oi := ⟨some 5, _, _, _, _, _⟩) (v := ?_) rfl (by kernel_rfl) (by kernel_rfl) (by kernel_rfl) (fun _ _ _ h => h) rfl hX ?_ ?_; rotate_left; (intro W hW; go_simp; try with_reducible rfl); simp only [Act.put, qA, qB, qC]
   refine wpAnyH_done (by kernel_rfl) ?_ _
   have BD := qH hX
   clear hX
   go_wp2_with fail
   refine sx_startB (B := h) (w0 := wd) (by kernel_rfl) (Below.refl _ _) (fun we hwe hX => ?_)
   have KE := qH (show Blk we h ty (grs (ts.set c (joinJ t u j))) by rw [hwe]; exact KR.out.below BD.out.drew HWH.out)
   have HGE := qH (show we.cell? ⟨h, c * 32 + j, none⟩ = some (.int .u64 (x : Int)) by rw [hwe]; exact (BD.out.cell (p := ⟨h, c * 32 + j, none⟩) HWH.out).trans HGX.out)
   have HFE := qH (KE.out.frozen (c * 32 + j))
   have OE := qH (show Off (fun k => k = h) w we by rw [hwe]; exact OR.out.then BD.out.drew)
   clear hwe
   refine sx_take (i := 0) (oi := ⟨some 13, _, _, _, _, _⟩) (v := ?_) rfl (by kernel_rfl) (by kernel_rfl) (by kernel_rfl) (fun _ _ _ h => h) rfl hX ?_ ?_; rotate_left; (intro W hW; go_simp; try with_reducible rfl); simp only [Act.put, qA, qB, qC]
   refine sx_take (i := 1) (oi := ⟨some 14, _, _, _, _, _⟩) (v := ?_) rfl (by kernel_rfl) (by kernel_rfl) (by kernel_rfl) (fun _ _ _ h => h) rfl hX ?_ ?_; rotate_left; (intro W hW; go_simp; try with_reducible rfl); simp only [Act.put, qA, qB, qC]
   refine sx_take (i := 2) (oi := ⟨some 15, _, _, _, _, _⟩) (v := ?_) rfl (by kernel_rfl) (by kernel_rfl) (by kernel_rfl) (fun _ _ _ h => h) rfl hX ?_ ?_; rotate_left; (intro W hW; go_simp; try with_reducible rfl); simp only [Act.put, qA, qB, qC]
   refine sx_take (i := 3) (oi := ⟨some 16, _, _, _, _, _⟩) (v := .pointer (some ⟨h, c * 32 + j, none⟩)) rfl (by kernel_rfl) (by kernel_rfl) (by kernel_rfl) (fun _ _ _ h => h) rfl hX (fun W _ => ix_grp (.tmp 15) (.tmp 14) rfl rfl rfl HJ.out W) ?_; simp only [Act.put, qA, qB, qC]
   refine sx_take (i := 5) (oi := ⟨some 18, _, _, _, _, _⟩) (v := ?_) rfl (by kernel_rfl) (by kernel_rfl) (by kernel_rfl) (fun _ _ _ h => h) rfl hX ?_ ?_; rotate_left; (intro W hW; go_simp; try with_reducible rfl); simp only [Act.put, qA, qB, qC]
   refine sx_take (i := 7) (oi := ⟨some 20, _, _, _, _, _⟩) (v := ?_) rfl (by kernel_rfl) (by kernel_rfl) (by kernel_rfl) (fun _ _ _ h => h) rfl hX ?_ ?_; rotate_left; (intro W hW; go_simp; try with_reducible rfl); simp only [Act.put, qA, qB, qC]
   refine sx_actB (i := 4) (o := ⟨some 17, _, _, _, _, _⟩) rfl (by kernel_rfl) rfl hX (fun K hK => ?_)
   refine wp_of_run (v := .int .u64 (x : Int)) (ld_u64 (.tmp 16) rfl rfl HGE.out) ?_
   refine hK _ _ (Below.refl _ _) ?_
   clear hK K
   (try simp only [Act.put, qA, qB, qC])
   refine sx_take (i := 6) (oi := ⟨some 19, _, _, _, _, _⟩) (v := .int .u64 (z : Int)) rfl (by kernel_rfl) (by kernel_rfl) (by kernel_rfl) (fun _ _ _ h => h) rfl hX (fun W _ => ex_or (.tmp 17) (.tmp 18) rfl HZ.out rfl rfl HLX.out HLY.out W) ?_; simp only [Act.put, qA, qB, qC]
   refine sx_take (i := 8) (oi := ⟨some 21, _, _, _, _, _⟩) (v := .pointer (some ⟨h, c * 32 + j, none⟩)) rfl (by kernel_rfl) (by kernel_rfl) (by kernel_rfl) (fun _ _ _ h => h) rfl hX (fun W _ => ix_grp (.tmp 20) (.tmp 14) rfl rfl rfl HJ.out W) ?_; simp only [Act.put, qA, qB, qC]
   refine sx_actB (i := 9) (o := ⟨none, _, _, _, _, _⟩) rfl (by kernel_rfl) rfl hX (fun K hK => ?_)
   refine wp_stU (.tmp 21) (.tmp 19) rfl rfl rfl HGE.out HFE.out ?_
   have HE := qH (show Blk (we.setCell ⟨h, c * 32 + j, none⟩ (.int .u64 (z : Int))) h ty (grs (ts.set c (joinJ t u (j + 1)))) from by
    have h1 := KE.out.set (c * 32 + j) (.int .u64 (z : Int))
    rw [HZ.out, HX.out, HY.out, grs_setW HCC.out HJ.out] at h1
    rw [HZ.out, HX.out, HY.out]
    exact h1)
   have OS := qH (OE.out.trans (Off.set we (c * 32 + j) (.int .u64 (z : Int)) (D := fun k => k = h) rfl))
   refine hK _ _ (setCell_below (p := ⟨h, c * 32 + j, none⟩) (Nat.le_refl _) _) ?_
   clear hK K hX
   (try simp only [Act.put, qA, qB, qC])
   refine wpAnyH_done (by kernel_rfl) ?_ _
   go_wp2_with fail
   exact ⟨⟨j + 1, HJ.out, by congr 1, HE.out, OS.out⟩, by simpa [intOf] using HMN.out⟩
  ·obtain rfl : j = 32 := by omega
   have i1 : ¬ ((32 : Int) < 32) := Int.lt_irrefl _
   have KE := qH (show Blk wo h ty (grs (ts.set c fun b => t b || u b)) by
    have h1 := KR.out
    have h2 : grs (ts.set c (joinJ t u 32)) = grs (ts.set c fun b => t b || u b) := grs_congr HCC.out (joinJ_all t u)
    rw [h2] at h1
    exact h1)
   clear KR hj hjl
   go_wp2_with fail
   go_end0
   exact ⟨rfl, KE.out, OR.out⟩
end Go.Proofs.YteadghoojeehlaaGreatDoor
