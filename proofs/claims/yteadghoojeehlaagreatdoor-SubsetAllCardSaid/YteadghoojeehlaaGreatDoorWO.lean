/-
  Texts of this proof, put together: LayI, TgF, TgG, TgH, SbM. No statement is proved here.
-/
import Derived.Shelf.Sort.Plain
import Derived.Test.YteadghoojeehlaaGreatDoorProg
import Derived.Test.YteadghoojeehlaaGreatDoorWN
import Derived.Shelf.Slices.In.SortNone
import Derived.Lib.OwnBridge
import Derived.Sort.Grow
import Derived.Test.YteadghoojeehlaaGreatDoorWM
namespace Go.Proofs
open Go.Shelf
def Tryz.sortI_ren : Go.Shelf.Ren := ⟨fun | 189 => 86 | 125 => 74 | 257 => 102 | 128 => 95 | 129 => 96 | 294 => 111 | 295 => 112 | 296 => 113 | 297 => 114 | 298 => 115 | 299 => 116 | 216 => 117 | 300 => 118 | 301 => 119 | 328 => 122 | 329 => 104 | 330 => 105 | 331 => 123 | 332 => 124 | 215 => 121 | 343 => 125 | n => n, fun | 28 => 53 | 3 => 3 | 46 => 125 | 0 => 0 | 51 => 144 | 53 => 41 | 4 => 4 | 183 => 138 | 182 => 137 | 131 => 91 | 5 => 5 | 9 => 9 | 218 => 149 | 222 => 153 | 228 => 162 | 229 => 84 | n => n, fun | n => n⟩
theorem Tryz.sortI : Go.Proofs.Lays.n189 Tryz.prog Tryz.sortI_ren := {
 mixed := by kernel_rfl
 f125 := Tryz.func74.trans (congrArg some (by kernel_rfl))
 f128 := Tryz.func95.trans (congrArg some (by kernel_rfl))
 f129 := Tryz.func96.trans (congrArg some (by kernel_rfl))
 f189 := Tryz.func86.trans (congrArg some (by kernel_rfl))
 f215 := Tryz.func121.trans (congrArg some (by kernel_rfl))
 f216 := Tryz.func117.trans (congrArg some (by kernel_rfl))
 f257 := Tryz.func102.trans (congrArg some (by kernel_rfl))
 f294 := Tryz.func111.trans (congrArg some (by kernel_rfl))
 f295 := Tryz.func112.trans (congrArg some (by kernel_rfl))
 f296 := Tryz.func113.trans (congrArg some (by kernel_rfl))
 f297 := Tryz.func114.trans (congrArg some (by kernel_rfl))
 f298 := Tryz.func115.trans (congrArg some (by kernel_rfl))
 f299 := Tryz.func116.trans (congrArg some (by kernel_rfl))
 f300 := Tryz.func118.trans (congrArg some (by kernel_rfl))
 f301 := Tryz.func119.trans (congrArg some (by kernel_rfl))
 f328 := Tryz.func122.trans (congrArg some (by kernel_rfl))
 f329 := Tryz.func104.trans (congrArg some (by kernel_rfl))
 f330 := Tryz.func105.trans (congrArg some (by kernel_rfl))
 f331 := Tryz.func123.trans (congrArg some (by kernel_rfl))
 f332 := Tryz.func124.trans (congrArg some (by kernel_rfl))
 f343 := Tryz.func125.trans (congrArg some (by kernel_rfl))
 t0 := Tryz.underlying0
 a0 := Tryz.isAgg0
 z0 := Tryz.sizeOf0
 v0 := Tryz.zeroValue0
 t3 := Tryz.underlying3
 a3 := Tryz.isAgg3
 z3 := Tryz.sizeOf3
 v3 := Tryz.zeroValue3
 t4 := Tryz.underlying4
 a4 := Tryz.isAgg4
 z4 := Tryz.sizeOf4
 v4 := Tryz.zeroValue4
 t5 := Tryz.underlying5
 a5 := Tryz.isAgg5
 z5 := Tryz.sizeOf5
 v5 := Tryz.zeroValue5
 t9 := Tryz.underlying9
 a9 := Tryz.isAgg9
 z9 := Tryz.sizeOf9
 v9 := Tryz.zeroValue9
 t28 := Tryz.underlying53
 a28 := Tryz.isAgg53
 z28 := Tryz.sizeOf53
 v28 := Tryz.zeroValue53
 t46 := Tryz.underlying125
 a46 := Tryz.isAgg125
 z46 := Tryz.sizeOf125
 v46 := Tryz.zeroValue125
 t51 := Tryz.underlying144
 a51 := Tryz.isAgg144
 z51 := Tryz.sizeOf144
 v51 := Tryz.zeroValue144
 t53 := Tryz.underlying41
 a53 := Tryz.isAgg41
 z53 := Tryz.sizeOf41
 v53 := Tryz.zeroValue41
 t131 := Tryz.underlying91
 a131 := Tryz.isAgg91
 z131 := Tryz.sizeOf91
 v131 := Tryz.zeroValue91
 t182 := Tryz.underlying137
 a182 := Tryz.isAgg137
 z182 := Tryz.sizeOf137
 v182 := Tryz.zeroValue137
 t183 := Tryz.underlying138
 a183 := Tryz.isAgg138
 z183 := Tryz.sizeOf138
 v183 := Tryz.zeroValue138
 t218 := Tryz.underlying149
 a218 := Tryz.isAgg149
 z218 := Tryz.sizeOf149
 v218 := Tryz.zeroValue149
 t222 := Tryz.underlying153
 a222 := Tryz.isAgg153
 z222 := Tryz.sizeOf153
 v222 := Tryz.zeroValue153
 t228 := Tryz.underlying162
 a228 := Tryz.isAgg162
 z228 := Tryz.sizeOf162
 v228 := Tryz.zeroValue162
 t229 := Tryz.underlying84
 a229 := Tryz.isAgg84
 z229 := Tryz.sizeOf84
 v229 := Tryz.zeroValue84 }
end Go.Proofs
namespace Go.Proofs.YteadghoojeehlaaGreatDoor
open Go.RowKit Go.Shelf Go.Sort
set_option linter.unusedSimpArgs false
set_option linter.unusedVariables false
abbrev leI (x y : Int) : Bool := decide (x ≤ y)
theorem sortInts_any {B : Nat} {v : Value} (L : List Int) (w : World) (h : w.ownsRow B 3 1 v L.length (nums .i64 L)) (hl : L.length ≤ 1048576) :
  Calls Tryz.prog 86 #[v] w fun e w' => e = .returned (.tuple #[]) ∧ w'.ownsRow B 3 1 v L.length (nums .i64 (L.mergeSort leI)) ∧ w.grownBy w' v.ownBlock := by
 by_cases hv : v = .slice none 0 0
 ·subst hv
  have hL : L = [] := by
   rcases h.2 with ⟨_, h0⟩ | ⟨g, cap, cur, he, _⟩
   ·exact List.eq_nil_of_length_eq_zero h0
   ·cases he
  subst hL
  refine (Any.slices_Sort_int_none Tryz.sortI none 0 w).mono ?_
  rintro e w' ⟨rfl, rfl⟩
  exact ⟨rfl, by simpa using h, World.grownBy.refl _ _⟩
 ·obtain ⟨g, cap, rfl, hb, hg, hn, hm, _, hH⟩ := Lib.holds_of_ownsRow (enc := Value.int .i64) (zs := L) (h : w.ownsRow B 3 1 v L.length (L.map (Value.int .i64))) hv
  refine (Any.slices_Sort_int Tryz.sortI g 0 cap L w hH hg (by omega)).mono ?_
  rintro e w' ⟨rfl, q, os, rfl⟩
  have hs := Lib.ownsRow_putRow (q := q) (k := L.length) (ys := L.mergeSort leI) (h : w.ownsRow B 3 1 _ L.length (L.map (Value.int .i64))) (List.length_mergeSort L) (Nat.le_refl _)
  rw [List.take_of_length_le (Nat.le_of_eq (List.length_mergeSort L))] at hs
  have hsz : (putRow (Value.int .i64) (Sort.ahead w q) g 0 (L.mergeSort leI).toArray).heap.size = w.heap.size := by simp [putRow, mapBlock, Sort.ahead]
  refine ⟨rfl, own6_stay hs fun j hj => heap_grow_old _ _ (own6_lt hs j hj).1, ⟨rfl, rfl, rfl, by simp [hsz], fun k hk hne => ?_⟩⟩
  rw [heap_grow_old _ _ (by rw [hsz]; exact hk)]
  have : g ≠ k := fun e => hne (by rw [e]; rfl)
  simp [putRow, mapBlock, Sort.ahead, Array.getElem?_modify, this]
theorem sort_ris {n : Nat} {t : Nat → Bool} {L : List Int} (h : GL n t L) : L.mergeSort leI = risJ t n := by
 refine List.Perm.eq_of_pairwise (le := fun a b : Int => a ≤ b) (fun a b _ _ h1 h2 => Int.le_antisymm h1 h2) ?_ ((risJ_rise t n).imp fun h => Int.le_of_lt h) ((List.mergeSort_perm L leI).trans h.perm)
 have := List.pairwise_mergeSort (le := leI) (fun a b c h1 h2 => by simp [leI] at *; omega) (fun a b => by simp [leI]; omega) L
 exact this.imp fun h => by simpa [leI] using h
set_option maxHeartbeats 4000000 in
set_option maxRecDepth 1000000 in
theorem gSorted_any {B g h n cap : Nat} {A : Option Addr} {a z : Int} {t : Nat → Bool} {lv : Value} {L : List Int} (w : World) (hg : GrpV w B g h A n cap a z t lv L) (hn : n ≤ 2000) :
  Calls Tryz.prog 72 #[.pointer (some ⟨g, 0, none⟩)] w fun e w' => ∃ v, e = .returned v ∧ Row w' v (nums .i64 (risJ t n)) ∧ Off (Gd g h lv) w w' := by
 have G := qH hg
 obtain ⟨A2, cap2, rfl, _⟩ := Row.of_own hg.own
 rw [nums_length] at G
 have HLN := qH (show L.length ≤ 1048576 by have := hg.gl.len; omega)
 have d4 := G.out.blk.cell 4
 simp only [gcl, List.getElem?_cons_succ, List.getElem?_cons_zero] at d4
 have HS := qH (sort_ris hg.gl)
 rw [nums_length]
 clear hg hn
 go_enter Tryz.func72, Tryz.ntmps72
 go_wp2_with fail
 refine (sortInts_any L w G.out.own HLN.out).mono ?_
 rintro e w2 ⟨rfl, ho2, hg2⟩
 rw [HS.out] at ho2
 have R2 := qH (Row.of_own ho2)
 have e4 := (G.out.blk.grown hg2 fun e => G.out.lg e.symm).cell 4
 simp only [gcl, List.getElem?_cons_succ, List.getElem?_cons_zero] at e4
 have O2 := qH (show Off (Gd g h (.slice A2 L.length cap2)) w w2 from Off.grown hg2 fun k hk => .inr (.inr (.inr hk)))
 clear ho2 hg2 d4
 go_wp2_with fail
 go_ret
 exact ⟨_, rfl, R2.out, O2.out⟩
open Go.RowKit
theorem fr_next {fr : List Int} {n j : Nat} {f : Int} (h : ∀ m f, m < j → fr[m]? = some f → 0 ≤ f ∧ f < (n : Int)) (hf : fr[j]? = some f) (hc : 0 ≤ f ∧ f < (n : Int)) : ∀ m f, m < j + 1 → fr[m]? = some f → 0 ≤ f ∧ f < (n : Int) := fun m f' hm hf' => by
 rcases Nat.lt_or_ge m j with hlt | hge
 ·exact h m f' hlt hf'
 ·obtain rfl : m = j := by omega
  rw [hf] at hf'
  injection hf' with hf'
  rw [← hf']
  exact hc
theorem ok_next {S : List St} {i : Nat} {s : St} (h : ∀ i' s, i' < i → S[i']? = some s → okS S.length s) (hs : S[i]? = some s) (hc : okS S.length s) : ∀ i' s, i' < i + 1 → S[i']? = some s → okS S.length s := fun i' s' hi' hs' => by
 rcases Nat.lt_or_ge i' i with hlt | hge
 ·exact h i' s' hlt hs'
 ·obtain rfl : i' = i := by omega
  rw [hs] at hs'
  injection hs' with hs'
  rw [← hs']
  exact hc
set_option maxHeartbeats 4000000 in
set_option maxRecDepth 1000000 in
theorem tMay_any (S : List St) (a z : Int) (cs : List Value) (w : World) (hv : NfaV w cs S a z) :
  Calls Tryz.prog 17 #[.agg cs.toArray] w fun e w' => e = .returned (.bool (mayNB S a z)) ∧ Below w.heap.size w w' := by
 have V := qH hv
 obtain ⟨A, cap, rfl, hlc, hcm, hA0⟩ := hv.len
 have HLM := qH (Nat.le_trans hlc hcm)
 clear hv hlc hcm hA0
 by_cases h1 : 2000 < S.length
 ·have i1 : (2000 : Int) < (S.length : Int) := by omega
  have HF := qH (mayNB_no (S := S) (a := a) (z := z) fun h => by have := h.few; omega)
  clear h1
  go_enter Tryz.func17, Tryz.ntmps17
  go_wp2_with ((with_reducible refine atDst 1 ?_); refine wpList_box rfl 24 _ rfl [.slice A S.length cap, .int .i64 a, .int .i64 z] rfl (Below.refl w.heap.size w) (Nat.le_refl _) ?_; intro w1 hk1 hb1 hs1 _; have K1 := qH hk1; have B1 := qH hb1; have c0 := hk1.cell 0; clear hk1 hb1 hs1; (try simp only [Act.put, qA, qB, qC]))
  go_ret
  rw [HF.out]
  exact ⟨rfl, B1.out⟩
 have i1 : ¬ ((2000 : Int) < (S.length : Int)) := by omega
 have HN := qH (show S.length ≤ 2000 by omega)
 obtain ⟨q1, hq1⟩ : ∃ q, decide (0 ≤ a ∧ a < (S.length : Int)) = q := ⟨_, rfl⟩
 obtain ⟨q2, hq2⟩ : ∃ q, decide (0 ≤ z ∧ z < (S.length : Int)) = q := ⟨_, rfl⟩
 have HQ1 := qH hq1
 have HQ2 := qH hq2
 obtain ⟨i0, hi0, hz0, hs0, hy0⟩ := infoP inf_nst
 obtain ⟨zz, hzz⟩ : ∃ z : List Value, z = stc ⟨fun _ => false, 0, []⟩ (.slice none 0 0) := ⟨_, rfl⟩
 have HZL := qH (show zz.length = 6 by rw [hzz]; rfl)
 have HZ0 := qH (show i0.zero = some (.agg zz.toArray) by rw [hzz]; exact hz0)
 clear h1 hzz hz0 hs0 hy0 hq1 hq2
 go_enter Tryz.func17, Tryz.ntmps17
 go_wp2_with (first
  | ((with_reducible refine atDst 1 ?_); refine wpList_box rfl 24 _ rfl [.slice A S.length cap, .int .i64 a, .int .i64 z] rfl (Below.refl w.heap.size w) (Nat.le_refl _) ?_; intro w1 hk1 hb1 hs1 _; have K1 := qH hk1; have B1 := qH hb1; have c0 := hk1.cell 0; have c1 := hk1.cell 1; clear hk1 hb1 hs1; (try simp only [Act.put, qA, qB, qC]))
  | ((with_reducible refine atDst 12 ?_); refine wpList_ldArr rfl 24 _ rfl w.heap.size rfl 24 _ _ K1.out Tryz.underlying24 rfl (size_nfa rfl) ?_; (try simp only [Act.put, qA, qB, qC])))
 refine (has_any A S.length cap a z a HLM.out w1 q1 HQ1.out).mono ?_
 rintro e w2 ⟨rfl, hb⟩
 have K2 := qH (K1.out.below hb K1.out.lt)
 have B2 := qH (B1.out.trans (hb.mono B1.out.size))
 clear hb c0 c1
 cases q1 with
 | false =>
  have HF := qH (mayNB_no (S := S) (a := a) (z := z) fun h => of_decide_eq_false HQ1.out ⟨h.a0, h.a1⟩)
  go_wp2_with fail
  go_ret
  rw [HF.out]
  exact ⟨rfl, B2.out⟩
 | true =>
  have c2 := K2.out.cell 2
  go_wp2_with ((with_reducible refine atDst 19 ?_); refine wpList_ldArr rfl 24 _ rfl w.heap.size rfl 24 _ _ K2.out Tryz.underlying24 rfl (size_nfa rfl) ?_; (try simp only [Act.put, qA, qB, qC]))
  refine (has_any A S.length cap a z z HLM.out w2 q2 HQ2.out).mono ?_
  rintro e w3 ⟨rfl, hb⟩
  have K3 := qH (K2.out.below hb K2.out.lt)
  have B3 := qH (B2.out.trans (hb.mono B2.out.size))
  have c0 := (K2.out.below hb K2.out.lt).cell 0
  clear hb c2
  cases q2 with
  | false =>
   have HF := qH (mayNB_no (S := S) (a := a) (z := z) fun h => of_decide_eq_false HQ2.out ⟨h.z0, h.z1⟩)
   go_wp2_with fail
   go_ret
   rw [HF.out]
   exact ⟨rfl, B3.out⟩
  | true =>
   have HMK := qH (show (∀ i s, S[i]? = some s → okS S.length s) → MayN S a z from fun h =>
    have h1 := of_decide_eq_true HQ1.out
    have h2 := of_decide_eq_true HQ2.out
    ⟨HN.out, h1.1, h1.2, h2.1, h2.2, fun s hs => by
     obtain ⟨i, hi, rfl⟩ := List.getElem_of_mem hs
     exact (h i _ (List.getElem?_eq_getElem hi)).1, fun s hs => by
     obtain ⟨i, hi, rfl⟩ := List.getElem_of_mem hs
     exact (h i _ (List.getElem?_eq_getElem hi)).2.1, fun s hs => by
     obtain ⟨i, hi, rfl⟩ := List.getElem_of_mem hs
     exact (h i _ (List.getElem?_eq_getElem hi)).2.2⟩)
   go_wp2_with fail
   go_loopw [28] (fun iv wl => ∃ i : Nat, i ≤ S.length ∧ iv = .int .i64 (i : Int) ∧ (∀ i' s, i' < i → S[i']? = some s → okS S.length s) ∧ Below w3.heap.size w3 wl) (fun iv _ => S.length - (intOf iv).toNat)
   case atStart => exact ⟨0, Nat.zero_le _, by simp, fun i' s h => absurd h (Nat.not_lt_zero i'), Below.refl _ _⟩
   obtain ⟨i, hi, rfl, hok, hb⟩ := hrel
   have HOK := qH hok
   have BR := qH hb
   have BW := qH (B3.out.trans (hb.mono B3.out.size))
   have KR := qH (K3.out.below hb K3.out.lt)
   obtain ⟨wq, hwq⟩ : ∃ v : World, v = wr := ⟨_, rfl⟩
   subst hwq
   clear hok hb c0
   by_cases hin : i < S.length
   ·have x1 : (i : Int) < (S.length : Int) := Int.ofNat_lt.2 hin
    have HI := qH hin
    have HMI := qH (sub_next hin)
    have e3 := wrap_one i (lt_bigN HI.out HN.out)
    have e4 := wrap_one' i (lt_bigN HI.out HN.out)
    obtain ⟨s, hs⟩ : ∃ s, S[i]? = some s := ⟨_, List.getElem?_eq_getElem hin⟩
    have HS := qH hs
    obtain ⟨b, off, Af, cf, rfl, hlt, hr, hrow⟩ := (V.out.below BW.out).whole hs
    have HR := qH hr
    have HROW := qH hrow
    clear hi hin hs hr hrow hlt
    obtain ⟨fl, hfl⟩ : ∃ n, n = s.free.length := ⟨_, rfl⟩
    have HFL := qH hfl
    obtain ⟨st, hst⟩ : ∃ l, l = stc s (.slice Af fl cf) := ⟨_, rfl⟩
    rw [← hfl] at HROW
    have HR2 := qH (show wq.rangeAt b (off + i * 6) st by rw [hst, hfl]; exact HR.out)
    have HT6 := qH (show st.length = 6 by rw [hst]; rfl)
    have HT1 := qH (show st.all (·.oneCell') = true by rw [hst]; exact stc_one _ _ _ _)
    have HT4 := qH (show st[4]? = some (.int .i64 s.to) by rw [hst]; rfl)
    have HT5 := qH (show st[5]? = some (.slice Af fl cf) by rw [hst]; rfl)
    obtain ⟨to, hto⟩ : ∃ n, n = s.to := ⟨_, rfl⟩
    have HTO := qH hto
    rw [← hto] at HT4
    clear hst hfl HR hto
    by_cases h1 : (S.length : Int) ≤ to
    ·have HT := qH (mayNB_no (S := S) (a := a) (z := z) fun h => by have h9 := (h.ok HS.out).1; rw [← HTO.out] at h9; clear e3 e4; omega)
     go_wp2_with (first
      | ((with_reducible refine atDst 31 ?_); refine wpList_load_mid rfl 55 _ rfl b (off + i * 6) rfl st _ HR2.out Tryz.underlying55 rfl (size_nst HT6.out) ?_; (try simp only [Act.put, qA, qB, qC]))
      | ((with_reducible refine atDst 4 ?_); refine wpList_new rfl 55 rfl i0 _ zz hi0 HZ0.out rfl (Below.refl wq.heap.size wq) (Nat.le_refl _) ?_; intro w4 hk hb hs ho; have K4 := qH hk; have B4 := qH hb; clear hk hb hs ho; (try simp only [Act.put, qA, qB, qC]))
      | ((with_reducible refine atStore 55 4 31 ?_); refine wpList_stBlk rfl 55 _ _ rfl wq.heap.size st rfl rfl 55 _ K4.out (size_nst HT6.out) (by rw [HZL.out, HT6.out]) HT1.out B4.out (Nat.le_refl _) ?_; intro w5 hk hb hs ho; have K5 := qH hk; have B5 := qH hb; have B5R := qH (BR.out.trans (hb.mono BR.out.size)); have BZ := qH (BW.out.trans (hb.mono BW.out.size)); have KN := qH (KR.out.below hb KR.out.lt); have c0 := (KR.out.below hb KR.out.lt).cell 0; have k4 := hk.cell 4; rw [HT4.out] at k4; have k5 := hk.cell 5; rw [HT5.out] at k5; clear hk hb hs ho; (try simp only [Act.put, qA, qB, qC])))
     go_ret
     rw [HT.out]
     exact ⟨rfl, BZ.out⟩
    by_cases h2 : 8 < fl
    ·have d1 : (8 : Int) < (fl : Int) := Int.ofNat_lt.2 h2
     have HT := qH (mayNB_no (S := S) (a := a) (z := z) fun h => by have h9 := (h.ok HS.out).2.1; rw [← HFL.out] at h9; exact Nat.not_lt.2 h9 h2)
     clear h2
     go_wp2_with (first
      | ((with_reducible refine atDst 31 ?_); refine wpList_load_mid rfl 55 _ rfl b (off + i * 6) rfl st _ HR2.out Tryz.underlying55 rfl (size_nst HT6.out) ?_; (try simp only [Act.put, qA, qB, qC]))
      | ((with_reducible refine atDst 4 ?_); refine wpList_new rfl 55 rfl i0 _ zz hi0 HZ0.out rfl (Below.refl wq.heap.size wq) (Nat.le_refl _) ?_; intro w4 hk hb hs ho; have K4 := qH hk; have B4 := qH hb; clear hk hb hs ho; (try simp only [Act.put, qA, qB, qC]))
      | ((with_reducible refine atStore 55 4 31 ?_); refine wpList_stBlk rfl 55 _ _ rfl wq.heap.size st rfl rfl 55 _ K4.out (size_nst HT6.out) (by rw [HZL.out, HT6.out]) HT1.out B4.out (Nat.le_refl _) ?_; intro w5 hk hb hs ho; have K5 := qH hk; have B5 := qH hb; have B5R := qH (BR.out.trans (hb.mono BR.out.size)); have BZ := qH (BW.out.trans (hb.mono BW.out.size)); have KN := qH (KR.out.below hb KR.out.lt); have c0 := (KR.out.below hb KR.out.lt).cell 0; have k4 := hk.cell 4; rw [HT4.out] at k4; have k5 := hk.cell 5; rw [HT5.out] at k5; clear hk hb hs ho; (try simp only [Act.put, qA, qB, qC])))
     go_ret
     rw [HT.out]
     exact ⟨rfl, BZ.out⟩
    have d1 : ¬ ((8 : Int) < (fl : Int)) := fun h => h2 (Int.ofNat_lt.1 h)
    have HF8 := qH (Nat.not_lt.1 h2)
    clear h2
    go_wp2_with (first
     | ((with_reducible refine atDst 31 ?_); refine wpList_load_mid rfl 55 _ rfl b (off + i * 6) rfl st _ HR2.out Tryz.underlying55 rfl (size_nst HT6.out) ?_; (try simp only [Act.put, qA, qB, qC]))
     | ((with_reducible refine atDst 4 ?_); refine wpList_new rfl 55 rfl i0 _ zz hi0 HZ0.out rfl (Below.refl wq.heap.size wq) (Nat.le_refl _) ?_; intro w4 hk hb hs ho; have K4 := qH hk; have B4 := qH hb; clear hk hb hs ho; (try simp only [Act.put, qA, qB, qC]))
     | ((with_reducible refine atStore 55 4 31 ?_); refine wpList_stBlk rfl 55 _ _ rfl wq.heap.size st rfl rfl 55 _ K4.out (size_nst HT6.out) (by rw [HZL.out, HT6.out]) HT1.out B4.out (Nat.le_refl _) ?_; intro w5 hk hb hs ho; have K5 := qH hk; have B5 := qH hb; have B5R := qH (BR.out.trans (hb.mono BR.out.size)); have BZ := qH (BW.out.trans (hb.mono BW.out.size)); have KN := qH (KR.out.below hb KR.out.lt); have c0 := (KR.out.below hb KR.out.lt).cell 0; have k4 := hk.cell 4; rw [HT4.out] at k4; have k5 := hk.cell 5; rw [HT5.out] at k5; clear hk hb hs ho; (try simp only [Act.put, qA, qB, qC])))
    clear k4 k5 c0
    go_loopw [47] (fun jv wl => ∃ j : Nat, j ≤ fl ∧ jv = .int .i64 (j : Int) ∧ (∀ m f, m < j → s.free[m]? = some f → 0 ≤ f ∧ f < (S.length : Int)) ∧ Below w5.heap.size w5 wl) (fun jv _ => fl - (intOf jv).toNat)
    case atStart => exact ⟨0, Nat.zero_le _, by simp, fun m f h => absurd h (Nat.not_lt_zero m), Below.refl _ _⟩
    obtain ⟨j, hj, rfl, hfr, hb⟩ := hrel
    have HFR := qH hfr
    have B5J := qH hb
    have BJ := qH (B5R.out.trans (hb.mono B5R.out.size))
    have BY := qH (BZ.out.trans (hb.mono BZ.out.size))
    have RX := qH (HROW.out.below (B5.out.trans (hb.mono B5.out.size)))
    have KJ := qH (KN.out.below hb KN.out.lt)
    clear hfr hb
    obtain ⟨wj, hwj⟩ : ∃ v : World, v = wr := ⟨_, rfl⟩
    subst hwj
    by_cases hjf : j < fl
    ·have y1 : (j : Int) < (fl : Int) := Int.ofNat_lt.2 hjf
     have HJ := qH hjf
     have HMJ := qH (sub_next hjf)
     have f3 := wrap_one j (lt_bigN HJ.out (Nat.le_trans HF8.out (by decide)))
     have f4 := wrap_one' j (lt_bigN HJ.out (Nat.le_trans HF8.out (by decide)))
     obtain ⟨f, hf⟩ : ∃ f, s.free[j]? = some f := ⟨_, List.getElem?_eq_getElem (by rw [← HFL.out]; exact hjf)⟩
     have HF := qH hf
     obtain ⟨bf, of, rfl, hbf, hcf⟩ := RX.out.at_ (by rw [nums_length, ← HFL.out]; exact Nat.lt_of_le_of_lt (Nat.zero_le _) hjf)
     have hcj := hcf j (.int .i64 f) (by simp [nums, hf])
     obtain ⟨q, hq⟩ : ∃ q, decide (0 ≤ f ∧ f < (S.length : Int)) = q := ⟨_, rfl⟩
     have HQ := qH hq
     clear hj hjf hf hcf hbf hq
     go_wp2_with ((with_reducible refine atDst 51 ?_); refine wpList_ldBlk rfl 24 _ rfl w.heap.size rfl 24 _ _ KJ.out Tryz.underlying24 rfl (size_nfa rfl) ?_; (try simp only [Act.put, qA, qB, qC]))
     refine (has_any _ S.length cap a z f HLM.out wj q HQ.out).mono ?_
     rintro e w6 ⟨rfl, hb⟩
     have B6 := qH (B5J.out.trans (hb.mono B5J.out.size))
     have BY6 := qH (BY.out.trans (hb.mono BY.out.size))
     clear hb hcj
     cases q with
     | false =>
      have HT := qH (mayNB_no (S := S) (a := a) (z := z) fun h => of_decide_eq_false HQ.out ((h.ok HS.out).2.2 f (List.mem_of_getElem? HF.out)))
      go_wp2_with fail
      go_ret
      rw [HT.out]
      exact ⟨rfl, BY6.out⟩
     | true =>
      have HNX := qH (fr_next HFR.out HF.out (of_decide_eq_true HQ.out))
      go_wp2_with fail
      exact ⟨⟨j + 1, HJ.out, by congr 1, HNX.out, B6.out⟩, by simpa [intOf] using HMJ.out⟩
    ·obtain rfl : j = fl := Nat.le_antisymm hj (Nat.not_lt.1 hjf)
     have y1 : ¬ ((j : Int) < (j : Int)) := Int.lt_irrefl _
     have HFA := qH (show okS S.length s from ⟨by rw [← HTO.out]; exact h1, by rw [← HFL.out]; exact HF8.out, fun f hf => by
      obtain ⟨m, hm, rfl⟩ := List.getElem_of_mem hf
      exact HFR.out m _ (by rw [HFL.out]; exact hm) (List.getElem?_eq_getElem hm)⟩)
     have HNX := qH (ok_next HOK.out HS.out HFA.out)
     go_wp2_with fail
     exact ⟨⟨i + 1, HI.out, by congr 1, HNX.out, BJ.out⟩, by simpa [intOf] using HMI.out⟩
   ·obtain rfl : i = S.length := Nat.le_antisymm hi (Nat.not_lt.1 hin)
    have x1 : ¬ ((S.length : Int) < (S.length : Int)) := Int.lt_irrefl _
    have HT := qH (mayNB_yes (HMK.out fun i s hs => HOK.out i s (List.getElem?_eq_some_iff.1 hs).1 hs))
    go_wp2_with fail
    go_ret
    rw [HT.out]
    exact ⟨rfl, BW.out⟩
theorem rc_ris {S : List St} {l : List Int} {t : Nat → Bool} (h : ∀ q, q < S.length → (t q = true ↔ Rc S (ofL l) q)) : risJ t S.length = clsN S l := by
 unfold clsN
 refine risJ_congr fun q hq => ?_
 rw [Bool.eq_iff_iff, rcB_iff]
 exact h q hq
theorem sd_next {S : List St} {l : List Int} {t : Nat → Bool} {j : Nat} {x : Int} (h : ∀ q, q < S.length → (t q = true ↔ sdJ l j q = true)) (hx : l[j]? = some x) : ∀ q, q < S.length → (addT S.length t x q = true ↔ sdJ l (j + 1) q = true) := fun q hq => by
 rw [addT_iff hq, h q hq, sdJ_succ hx, Bool.or_eq_true, decide_eq_true_eq]
set_option maxHeartbeats 4000000 in
set_option maxRecDepth 1000000 in
theorem tClose_any (S : List St) (a z : Int) (cs : List Value) (l : List Int) (V : Value) (w : World) (hv : NfaV w cs S a z) (hr : Row w V (nums .i64 l)) :
  Calls Tryz.prog 41 #[.agg cs.toArray, V] w fun e w' => ∃ v, e = .returned v ∧ Row w' v (nums .i64 (cloN S a z l)) ∧ Below w.heap.size w w' := by
 have N0 := qH hv
 have R0 := qH hr
 obtain ⟨A, cap, rfl, hlc, hcm, hA0⟩ := hv.len
 obtain ⟨A2, cap2, rfl, a1, a2, a0, a3⟩ := hr
 rw [nums_length] at a1 R0 ⊢
 have HLN := qH (And.intro a1 a2)
 clear a3 a0 a2 a1 hv hlc hcm hA0
 go_enter Tryz.func41, Tryz.ntmps41
 go_wp2_with (first
  | ((with_reducible refine atDst 2 ?_); refine wpList_box rfl 24 _ rfl [.slice A S.length cap, .int .i64 a, .int .i64 z] rfl (Below.refl w.heap.size w) (Nat.le_refl _) ?_; intro w1 hk1 hb1 hs1 _; have K1 := qH hk1; have B1 := qH hb1; clear hk1 hb1 hs1; (try simp only [Act.put, qA, qB, qC]))
  | ((with_reducible refine atDst 8 ?_); refine wpList_ldBlk rfl 24 _ rfl w.heap.size rfl 24 _ _ K1.out Tryz.underlying24 rfl (size_nfa rfl) ?_; (try simp only [Act.put, qA, qB, qC])))
 refine (tMay_any S a z _ w1 (N0.out.below B1.out)).mono ?_
 rintro e w2 ⟨rfl, hb2⟩
 have BW2 := qH (B1.out.trans (hb2.mono B1.out.size))
 have K2 := qH (K1.out.below hb2 K1.out.lt)
 clear hb2
 obtain ⟨m, hm⟩ : ∃ m, mayNB S a z = m := ⟨_, rfl⟩
 rw [hm]
 cases m with
 | false =>
  have HC := qH (cloN_no (l := l) hm)
  clear hm
  go_wp2_with fail
  go_ret
  rw [HC.out]
  exact ⟨_, rfl, Row.of_own (ownN w2 0 0), BW2.out⟩
 | true =>
  have HC := qH (cloN_yes (l := l) hm)
  have HM := qH (mayNB_iff.1 hm)
  clear hm
  have HN := qH HM.out.few
  have N2 := qH (N0.out.below BW2.out)
  have R2 := qH (R0.out.below BW2.out)
  go_wp2_with ((with_reducible refine atDst 11 ?_); refine wpList_ldBlk rfl 24 _ rfl w.heap.size rfl 24 _ _ K2.out Tryz.underlying24 rfl (size_nfa rfl) ?_; (try simp only [Act.put, qA, qB, qC]))
  refine (newGroup_any A S.length cap a z HN.out w2).mono ?_
  rintro e w3 ⟨g, h, rfl, hg3, hb3⟩
  have G3 := qH hg3
  have B3 := qH hb3
  clear hg3 hb3
  go_wp2_with fail
  go_loopw [15] (fun iv wl => ∃ (j : Nat) (t : Nat → Bool) (lv : Value) (L : List Int), j ≤ l.length ∧ iv = .int .i64 (j : Int) ∧ GrpV wl w2.heap.size g h A S.length cap a z t lv L ∧ Below w2.heap.size w2 wl ∧ ∀ q, q < S.length → (t q = true ↔ sdJ l j q = true)) (fun iv _ => l.length - (intOf iv).toNat)
  case atStart => exact ⟨0, _, _, _, Nat.zero_le _, by simp, G3.out, B3.out, fun q _ => by rw [sdJ_zero]⟩
  clear G3 B3
  obtain ⟨j, t, lv, L, hj, rfl, hg, hb, hsd⟩ := hrel
  have GQ := qH hg
  have BQ := qH hb
  have HSD := qH hsd
  clear hg hb hsd
  obtain ⟨wq, hwq⟩ : ∃ v : World, v = wr := ⟨_, rfl⟩
  subst hwq
  by_cases hjl : j < l.length
  ·have j1 : (j : Int) < (l.length : Int) := Int.ofNat_lt.2 hjl
   obtain ⟨x, hx⟩ : ∃ x, l[j]? = some x := ⟨_, List.getElem?_eq_getElem hjl⟩
   obtain ⟨b0, off, rfl, hb0, hcell⟩ := (R2.out.below BQ.out).at_ (by rw [nums_length]; exact Nat.lt_of_le_of_lt (Nat.zero_le _) hjl)
   have hcj := hcell j (.int .i64 x) (by simp [nums, hx])
   have HSX := qH (sd_next HSD.out hx)
   have HJ := qH hjl
   have HMJ := qH (sub_next hjl)
   have e3 := wrap_len HJ.out HLN.out.1 HLN.out.2
   have e4 := wrap_len' HJ.out HLN.out.1 HLN.out.2
   clear hcell hb0 hx hj hjl
   go_wp2_with fail
   refine (gAdd_any x wq GQ.out HN.out GQ.out.size).mono ?_
   rintro e w4 ⟨rfl, v4, hg4, hst4⟩
   have G4 := qH hg4
   have B4 := qH (BQ.out.trans (hst4.below GQ.out GQ.out.size))
   clear hg4 hst4 hcj
   go_wp2_with fail
   exact ⟨⟨j + 1, _, _, _, HJ.out, by congr 1, G4.out, B4.out, HSX.out⟩, by simpa [intOf] using HMJ.out⟩
  ·obtain rfl : j = l.length := Nat.le_antisymm hj (Nat.not_lt.1 hjl)
   have j1 : ¬ ((l.length : Int) < (l.length : Int)) := Int.lt_irrefl _
   go_wp2_with fail
   refine (gClose_any w2 S A cap a z N2.out HM.out (ofL l) (fun q hq => by rw [HSD.out q hq]; exact sdJ_all) wq GQ.out BQ.out).mono ?_
   rintro e w5 ⟨rfl, t5, v5, L5, hg5, hst5, hr5⟩
   have G5 := qH hg5
   have B5 := qH (BQ.out.trans (hst5.below GQ.out GQ.out.size))
   have HR := qH (rc_ris hr5)
   clear hg5 hst5 hr5
   go_wp2_with fail
   refine (gSorted_any w5 G5.out HN.out).mono ?_
   rintro e w6 ⟨v6, rfl, hr6, ho6⟩
   rw [HR.out, ← HC.out] at hr6
   have R6 := qH hr6
   have B6 := qH (BW2.out.trans ((B5.out.trans (ho6.below (fun k hk => G5.out.gd hk) G5.out.size)).mono BW2.out.size))
   clear hr6 ho6
   go_wp2_with fail
   go_ret
   exact ⟨_, rfl, R6.out, B6.out⟩
section
variable {w w' w2 : World} {B H g mr mn cap k : Nat} {A : Option Addr} {a z : Int} {cl : List UInt8} {sg : Value} {S : List St} {qv : Value} {Qs : List (List Int)} {Es : List Int}
theorem MkV.pushR (x : MkV w B H g mr mn A cap a z cl k sg S qv Qs Es) {s : Int} (hs : -9223372036854775808 ≤ s ∧ s ≤ 9223372036854775807)
  (h2 : MapV w2 mr (reE S Es ++ [(.int .i64 s, gkey (clsN S [s]))])) (g2 : w.grownBy w2 (some mr)) :
  MkV w2 B H g mr mn A cap a z cl k sg S qv Qs (Es ++ [s]) ∧ MStep w w2 g mr mn qv qv := by
 have hrq := x.qne x.rH
 refine ⟨{ x with blk := x.blk.grown g2 (fun e => x.gr (Option.some.inj e)), reached := by rw [reE_snoc]; exact h2, numbers := x.numbers.stay (g2.block mn x.numbers.lt (fun e => x.rn (Option.some.inj e).symm)), queue := own32_stay x.queue fun j hj => g2.block j (own4_lt x.queue j hj) (fun e => hrq (by rw [hj]; exact e)), hs := Nat.le_trans x.hs g2.size, es := ?_ }, ⟨Off.grown g2 fun j hj => .inr (.inr (.inl (Option.some.inj hj).symm)), fun j hj => .inl hj⟩⟩
 intro y hy
 rcases List.mem_append.1 hy with hy | hy
 ·exact x.es y hy
 ·obtain rfl := List.mem_singleton.1 hy
  exact hs
end
theorem mkc_n {w : World} {g : Nat} {ty : TypeId} {A : Option Addr} {n cap k mr mn : Nat} {a z : Int} {cl : List UInt8} {sg q : Value} (h : Blk w g ty (mkc (nfc A n cap a z) cl k sg mr q mn)) : w.rangeAt g 0 (nfc A n cap a z) := fun j v hv => by
 have hj : j < 3 := by have := (List.getElem?_eq_some_iff.1 hv).1; simpa [nfc] using this
 rw [Nat.zero_add, h.cell]
 unfold mkc
 rw [List.getElem?_append_left (by simp [nfc]; omega)]
 exact hv
theorem cell_mr {w : World} {B H g mr mn cap k : Nat} {A : Option Addr} {a z : Int} {cl : List UInt8} {sg : Value} {S : List St} {qv : Value} {Qs : List (List Int)} {Es : List Int} (M : MkV w B H g mr mn A cap a z cl k sg S qv Qs Es) : w.cell? ⟨g, 261, none⟩ = some (.map (some mr)) := by
 have := M.blk.cell 261
 rw [mkc_mr M.cl] at this
 exact this
theorem MStep.behind {w w' w'' : World} {g mr mn : Nat} {qv qv' : Value} (x : MStep w w' g mr mn qv qv') (hb : Below w.heap.size w' w'') : MStep w w'' g mr mn qv qv' :=
 ⟨⟨hb.os.trans x.off.os, hb.tape.trans x.off.tape, hb.output.trans x.off.output, Nat.le_trans x.off.size hb.size, fun k hk hn => (hb.block k hk).trans (x.off.block k hk hn)⟩, x.new⟩
theorem inL_memB (l : List Int) : inL l = memB l := rfl
set_option maxHeartbeats 4000000 in
set_option maxRecDepth 1000000 in
theorem mReach_any (w0 : World) {H g mr mn cap k : Nat} {A : Option Addr} {a z : Int} {cl : List UInt8} {sg : Value} {S : List St} {qv : Value} {Qs : List (List Int)} {Es : List Int} (s : Int) (w : World)
  (hv : NfaV w0 (nfc A S.length cap a z) S a z) (hmy : MayN S a z) (hb : Below w0.heap.size w0 w) (hm : MkV w w0.heap.size H g mr mn A cap a z cl k sg S qv Qs Es) (hs : -9223372036854775808 ≤ s ∧ s ≤ 9223372036854775807) :
  Calls Tryz.prog 20 #[.pointer (some ⟨g, 0, none⟩), .int .i64 s] w fun e w' => e = .returned (gkey (clsN S [s])) ∧ ∃ Es', MkV w' w0.heap.size H g mr mn A cap a z cl k sg S qv Qs Es' ∧ MStep w w' g mr mn qv qv := by
 have V := qH hv
 have HM := qH hmy
 have HB0 := qH hb
 have M0 := qH hm
 have HS := qH hs
 obtain ⟨i3, hi3, hz3, hs3, hy3⟩ := infoP inf_group
 obtain ⟨zg, hzg⟩ : ∃ zg, zg = gds (fun _ => false) := ⟨_, rfl⟩
 have HZG := qH hzg
 have HZ3 := qH (show i3.zero = some (.agg zg.toArray) by rw [hzg]; exact hz3)
 have HZL := qH (show zg.length = 32 by rw [hzg]; exact gds_length _)
 have HZ1 := qH (show zg.all (·.oneCell') = true by rw [hzg]; exact gds_all _)
 have HSZ0 := qH (show (Tryz.prog.info? 67).map (·.size) = some zg.length by rw [hzg]; exact size_group _)
 obtain ⟨gx, hgx⟩ : ∃ gx, gx = gds (memB (clsN S [s])) := ⟨_, rfl⟩
 have HGX := qH hgx
 have HKX := qH (show gkey (clsN S [s]) = .agg gx.toArray by rw [hgx]; rfl)
 have HSZ := qH (show (Tryz.prog.info? 67).map (·.size) = some gx.length by rw [hgx]; exact size_group _)
 have HGL := qH (show gx.length = 32 by rw [hgx]; exact gds_length _)
 have HG1 := qH (show gx.all (·.oneCell') = true by rw [hgx]; exact gds_all _)
 obtain ⟨i1, hi1, hy0, hy1, hy2⟩ := infoP inf_int
 rw [HKX.out]
 clear hv hmy hb hm hs hgx hzg hz3
 go_enter Tryz.func20, Tryz.ntmps20
 by_cases hin : s ∈ Es
 ·have HLK := qH (show ∀ W, MapV W mr (reE S Es) → (Instr.lookup 60 (.map (some mr)) (.int .i64 s) true).run Tryz.prog W = .ok (.tuple #[.agg gx.toArray, .bool true]) W from fun W hW => by rw [← HKX.out]; exact (lookR hW M0.out.es HS.out).1 hin)
  clear hin
  go_wp2_with (first
   | ((with_reducible refine atDst 4 ?_); refine wpList_new rfl 67 rfl i3 _ zg hi3 HZ3.out rfl (Below.refl w.heap.size w) (Nat.le_refl _) ?_; intro w1 hk1 hb1 hs1 _; have K1 := qH hk1; have B1 := qH hb1; have M1 := qH (M0.out.below hb1); have C261 := qH (cell_mr (M0.out.below hb1)); clear hk1 hb1 hs1; (try simp only [Act.put, qA, qB, qC]))
   | ((with_reducible refine atDst 11 ?_); refine wpList_plain rfl fun K hK => wp_of_run (ld_mapR (.tmp 10) rfl rfl C261.out) ?_; refine hK _ _ ?_; clear hK K; (try simp only [Act.put, qA, qB, qC]))
   | ((with_reducible refine atDst 13 ?_); refine wpList_plain rfl fun K hK => wp_of_run (ex_look (.tmp 11) (.tmp 12) rfl rfl rfl (HLK.out w1 M1.out.reached)) ?_; refine hK _ _ ?_; clear hK K; (try simp only [Act.put, qA, qB, qC]))
   | ((with_reducible refine atDst 5 ?_); refine wpList_new rfl 67 rfl i3 _ zg hi3 HZ3.out rfl (Below.refl w1.heap.size w1) (Nat.le_refl _) ?_; intro w2 hk hb hs _; have K2 := qH hk; have B2 := qH hb; clear hk hb hs; (try simp only [Act.put, qA, qB, qC]))
   | ((with_reducible refine atStore 67 5 14 ?_); refine wpList_stBlk rfl 67 _ _ rfl w1.heap.size gx rfl rfl 67 _ K2.out HSZ.out (by rw [HZL.out, HGL.out]) HG1.out B2.out (Nat.le_refl _) ?_; intro w3 hk hb hs _; have K3 := qH hk; have B3 := qH hb; have R3 := qH (K1.out.below hb K1.out.lt); clear hk hb hs; (try simp only [Act.put, qA, qB, qC]))
   | ((with_reducible refine atDst 32 ?_); refine wpList_ldArr rfl 67 _ rfl w1.heap.size rfl 67 _ _ K3.out Tryz.underlying67 rfl HSZ.out ?_; (try simp only [Act.put, qA, qB, qC]))
   | ((with_reducible refine atStore 67 4 32 ?_); refine wpList_stBlk rfl 67 _ _ rfl w.heap.size gx rfl rfl 67 _ R3.out HSZ.out (by rw [HZL.out, HGL.out]) HG1.out (B1.out.trans (B3.out.mono B1.out.size)) (Nat.le_refl _) ?_; intro w4 hk hb hs _; have K4 := qH hk; have B4 := qH hb; clear hk hb hs; (try simp only [Act.put, qA, qB, qC])))
  refine bodyPost_ret (results_blk rfl _ _ w.heap.size 67 _ _ rfl K4.out Tryz.underlying67 rfl HSZ.out) rfl ?_
  exact ⟨rfl, Es, M0.out.below B4.out, MStep.of B4.out g mr mn qv⟩
 ·have HNI := qH hin
  have HLK := qH (show ∀ W, MapV W mr (reE S Es) → (Instr.lookup 60 (.map (some mr)) (.int .i64 s) true).run Tryz.prog W = .ok (.tuple #[.agg zg.toArray, .bool false]) W from fun W hW => by rw [HZG.out]; exact (lookR hW M0.out.es HS.out).2 hin)
  clear hin
  go_wp2_with (first
   | ((with_reducible refine atDst 4 ?_); refine wpList_new rfl 67 rfl i3 _ zg hi3 HZ3.out rfl (Below.refl w.heap.size w) (Nat.le_refl _) ?_; intro w1 hk1 hb1 hs1 _; have K1 := qH hk1; have B1 := qH hb1; have M1 := qH (M0.out.below hb1); have C261 := qH (cell_mr (M0.out.below hb1)); clear hk1 hb1 hs1; (try simp only [Act.put, qA, qB, qC]))
   | ((with_reducible refine atDst 11 ?_); refine wpList_plain rfl fun K hK => wp_of_run (ld_mapR (.tmp 10) rfl rfl C261.out) ?_; refine hK _ _ ?_; clear hK K; (try simp only [Act.put, qA, qB, qC]))
   | ((with_reducible refine atDst 13 ?_); refine wpList_plain rfl fun K hK => wp_of_run (ex_look (.tmp 11) (.tmp 12) rfl rfl rfl (HLK.out w1 M1.out.reached)) ?_; refine hK _ _ ?_; clear hK K; (try simp only [Act.put, qA, qB, qC]))
   | ((with_reducible refine atDst 5 ?_); refine wpList_new rfl 67 rfl i3 _ zg hi3 HZ3.out rfl (Below.refl w1.heap.size w1) (Nat.le_refl _) ?_; intro w2 hk hb hs _; have K2 := qH hk; have B2 := qH hb; clear hk hb hs; (try simp only [Act.put, qA, qB, qC]))
   | ((with_reducible refine atStore 67 5 14 ?_); refine wpList_stBlk rfl 67 _ _ rfl w1.heap.size zg rfl rfl 67 _ K2.out HSZ0.out rfl HZ1.out B2.out (Nat.le_refl _) ?_; intro w3 hk hb hs _; have K3 := qH hk; have B3 := qH hb; have R3 := qH (K1.out.below hb K1.out.lt); have M3 := qH (M1.out.below hb); have NR3 := qH (mkc_n (M1.out.below hb).blk); clear hk hb hs; (try simp only [Act.put, qA, qB, qC]))
   | ((with_reducible refine atDst 21 ?_); refine wpList_load_mid rfl 24 _ rfl g 0 rfl (nfc A S.length cap a z) _ NR3.out Tryz.underlying24 rfl (size_nfa rfl) ?_; (try simp only [Act.put, qA, qB, qC]))
   | ((with_reducible refine atDst 23 ?_); refine wpList_plain rfl fun K hK => wp_bldI 53 3 (.tmp 22) rfl i1 Tryz.underlying53 hi1 0 hy0 hy1 s rfl ?_; intro w4 hr4 hb4; have R4 := qH hr4; have B4 := qH hb4; clear hr4 hb4; refine hK _ _ ?_; clear hK K; (try simp only [Act.put, qA, qB, qC])))
  have CL := qH (cloN_yes (l := [s]) (mayNB_yes HM.out))
  have B34 := qH (B3.out.trans (B4.out.mono B3.out.size))
  have HB4 := qH (HB0.out.trans ((B1.out.trans (B34.out.mono B1.out.size)).mono HB0.out.size))
  refine (tClose_any S a z _ [s] _ w4 (V.out.below HB4.out) R4.out).mono ?_
  rintro e w5 ⟨v5, rfl, hr5, hb5⟩
  rw [CL.out] at hr5
  have R5 := qH hr5
  have B5 := qH (B4.out.trans (hb5.mono B4.out.size))
  clear hr5 hb5
  have RIS := qH (ris_cls S [s])
  have HRG := qH (show ∀ x ∈ clsN S [s], 0 ≤ x ∧ x < 2048 from fun x hx => by
   obtain ⟨i, h1, h2⟩ := ris_rng RIS.out hx
   have := HM.out.few
   omega)
  have HLN := qH (show (clsN S [s]).length ≤ 1048576 by have h1 := ris_len RIS.out; have h2 := HM.out.few; omega)
  go_wp2_with fail
  refine (groupOf_any v5 (clsN S [s]) w5 R5.out HLN.out HRG.out).mono ?_
  rintro e w6 ⟨rfl, hb6⟩
  rw [inL_memB, ← HGX.out]
  have B6 := qH (B5.out.trans (hb6.mono B5.out.size))
  have S3 := qH (show w1.heap.size < w3.heap.size from K3.out.lt)
  have K6 := qH (K3.out.below B6.out K3.out.lt)
  have R6 := qH (R3.out.below B6.out R3.out.lt)
  have M6 := qH (M3.out.below B6.out)
  have B36 := qH (B3.out.trans (B6.out.mono (Nat.le_of_lt S3.out)))
  clear hb6
  go_wp2_with ((with_reducible refine atStore 67 5 25 ?_); refine wpList_stBlk rfl 67 _ _ rfl w1.heap.size gx rfl rfl 67 _ K6.out HSZ.out (by rw [HZL.out, HGL.out]) HG1.out B36.out (Nat.le_refl _) ?_; intro w7 hk hb hs ho; have K7 := qH hk; have B7 := qH hb; have HH7 := qH (show w7.heap.size = w6.heap.size from hs); have HO7 := qH ho; clear hk hb hs ho; (try simp only [Act.put, qA, qB, qC]))
  have HMD := qH (show ∀ j, Md g mr mn qv j → j < w.heap.size from fun j hj => M0.out.lts hj)
  have S1 := qH (show w.heap.size < w1.heap.size from K1.out.lt)
  have M7 := qH (M6.out.stay (w' := w7) (Nat.le_of_eq HH7.out.symm) fun j hj => HO7.out j (Nat.ne_of_lt (Nat.lt_trans (HMD.out j hj) S1.out)))
  have R7 := qH (show Blk w7 w.heap.size 67 zg from (HO7.out _ (Nat.ne_of_lt S1.out)).trans R6.out)
  have BW7 := qH (B1.out.trans (B7.out.mono B1.out.size))
  have HRN := qH (show ¬ w1.heap.size = mr from fun e => by have := HMD.out mr (.inr (.inl rfl)); have := S1.out; omega)
  have HRM := qH (show ¬ w.heap.size = mr from fun e => by have := HMD.out mr (.inr (.inl rfl)); omega)
  have C7 := qH (cell_mr M7.out)
  refine sg_start (fun W => Off (fun k => k = mr) w7 W) (by kernel_rfl) (Off.start _ _) (fun we hwe => ?_)
  have hX : Off (fun k => k = mr) w7 we := by rw [hwe]; exact Off.start _ _
  have RE := qH (show MapV we mr (reE S Es) by rw [hwe]; exact M7.out.reached)
  have HWE := qH hwe
  clear hwe
  obtain ⟨lx, hlx⟩ := keyOf_int HS.out
  refine sg_take (i := 0) (oi := ⟨some 26, _, _, _, _, _⟩) (v := ?_) rfl (by kernel_rfl) (by kernel_rfl) (by kernel_rfl) (fun _ _ _ h => h) rfl hX ?_ ?_; rotate_left; (intro W hW; go_simp; try with_reducible rfl); simp only [Act.put, qA, qB, qC]
  refine sg_take (i := 1) (oi := ⟨some 27, _, _, _, _, _⟩) (v := ?_) rfl (by kernel_rfl) (by kernel_rfl) (by kernel_rfl) (fun _ _ _ h => h) rfl hX ?_ ?_; rotate_left; (intro W hW; go_simp; try with_reducible rfl); simp only [Act.put, qA, qB, qC]
  refine sg_take (i := 2) (oi := ⟨some 28, _, _, _, _, _⟩) (v := ?_) rfl (by kernel_rfl) (by kernel_rfl) (by kernel_rfl) (fun _ _ _ h => h) rfl hX ?_ ?_; rotate_left; (intro W hW; go_simp; try with_reducible rfl); simp only [Act.put, qA, qB, qC]
  refine sg_take (i := 3) (oi := ⟨some 29, _, _, _, _, _⟩) (v := .map (some mr)) rfl (by kernel_rfl) (by kernel_rfl) (by kernel_rfl) (fun _ _ _ h => h) rfl hX (fun W hW => ld_mapR (.tmp 28) rfl rfl (Off.cell hW M7.out.blk.lt (fun e => M7.out.gr e) C7.out)) ?_; simp only [Act.put, qA, qB, qC]
  refine sg_take (i := 4) (oi := ⟨some 30, _, _, _, _, _⟩) (v := ?_) rfl (by kernel_rfl) (by kernel_rfl) (by kernel_rfl) (fun _ _ _ h => h) rfl hX ?_ ?_; rotate_left; (intro W hW; go_simp; try with_reducible rfl); simp only [Act.put, qA, qB, qC]
  refine sg_take (i := 5) (oi := ⟨some 31, _, _, _, _, _⟩) (v := .agg gx.toArray) rfl (by kernel_rfl) (by kernel_rfl) (by kernel_rfl) (fun _ _ _ h => h) rfl hX (fun W hW => ld_blk 67 _ rfl w1.heap.size rfl 67 gx _ (Off.blk hW HRN.out K7.out) (Off.blk hW HRN.out K7.out).lt Tryz.underlying67 rfl HSZ.out W (Below.refl _ _)) ?_; simp only [Act.put, qA, qB, qC]
  refine sg_actB (i := 6) (o := ⟨none, _, _, _, _, _⟩) rfl (by kernel_rfl) rfl hX (fun K hK => ?_)
  refine wp_putNew (.tmp 29) (.tmp 30) (.tmp 31) rfl keyed_int Tryz.underlying60 rfl RE.out rfl rfl hlx (fun p hp => by
   obtain ⟨x, hx, rfl⟩ := List.mem_map.1 hp
   exact keyOf_int (M0.out.es x hx)) (fun p hp e => by
   obtain ⟨x, hx, rfl⟩ := List.mem_map.1 hp
   injection e with _ e
   rw [e] at hx
   exact HNI.out hx) ?_
  intro w8 hn8 hg8
  have G8 := qH (show w7.grownBy w8 (some mr) by rw [HWE.out] at hg8; exact grown_undrew hg8)
  have P8 := qH (M7.out.pushR HS.out (by rw [HKX.out]; exact hn8) G8.out)
  refine hK _ _ (Off.grown G8.out fun j hj => .inr (Option.some.inj hj).symm) ?_
  clear hK K hn8 hg8 hX hlx
  (try simp only [Act.put, qA, qB, qC])
  refine wpAnyH_done (by kernel_rfl) ?_ _
  have K8 := qH (K7.out.grown G8.out (fun e => HRN.out (Option.some.inj e)))
  have R8 := qH (R7.out.grown G8.out (fun e => HRM.out (Option.some.inj e)))
  have T8 := qH ((MStep.of BW7.out g mr mn qv).trans P8.out.2)
  go_wp2_with (first
   | ((with_reducible refine atDst 32 ?_); refine wpList_ldArr rfl 67 _ rfl w1.heap.size rfl 67 _ _ K8.out Tryz.underlying67 rfl HSZ.out ?_; (try simp only [Act.put, qA, qB, qC]))
   | ((with_reducible refine atStore 67 4 32 ?_); refine wpList_stBlk rfl 67 _ _ rfl w.heap.size gx rfl rfl 67 _ R8.out HSZ.out (by rw [HZL.out, HGL.out]) HG1.out (Below.refl w.heap.size w8) (Nat.le_refl _) ?_; intro w9 hk hb hs _; have K9 := qH hk; have B9 := qH hb; clear hk hb hs; (try simp only [Act.put, qA, qB, qC])))
  refine bodyPost_ret (results_blk rfl _ _ w.heap.size 67 _ _ rfl K9.out Tryz.underlying67 rfl HSZ.out) rfl ?_
  exact ⟨rfl, _, P8.out.1.stay B9.out.size fun j hj => B9.out.block j (HMD.out j hj), T8.out.behind B9.out⟩
end Go.Proofs.YteadghoojeehlaaGreatDoor
