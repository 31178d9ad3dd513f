/-
  Texts of this proof, put together: SbG, SbN. No statement is proved here.
-/
import Derived.Test.YteadghoojeehlaaGreatDoorWJ
import Derived.Test.YteadghoojeehlaaGreatDoorWK
import Derived.Test.YteadghoojeehlaaGreatDoorWG
import Derived.Test.YteadghoojeehlaaGreatDoorWN
import Derived.Test.YteadghoojeehlaaGreatDoorWO
namespace Go.Proofs.YteadghoojeehlaaGreatDoor
open Go.RowKit
set_option linter.unusedSimpArgs false
set_option linter.unusedVariables false
theorem risJ_skip (p : Nat → Bool) (a : Nat) : ∀ d, (∀ j, j < d → p (a + j) = false) → risJ p (a + d) = risJ p a
 | 0, _ => rfl
 | d + 1, h => by
  rw [show a + (d + 1) = (a + d) + 1 from rfl, risJ_succ, h d (by omega), risJ_skip p a d fun j hj => h j (by omega)]
  rfl
theorem leftR_none (p : Nat → Bool) (i c : Nat) (hc : c ≤ 64) (h : left p i c = 0) : risJ p (64 * i + c) = risJ p (64 * (i + 1)) := by
 have := risJ_skip p (64 * i + c) (64 - c) fun j hj => by
  have := wd_zero h (c + j) (by omega)
  simpa [Nat.add_assoc] using this
 rw [← this]
 congr 1
 omega
theorem leftR_next (p : Nat → Bool) (i c k : Nat) (h0 : left p i c ≠ 0) (hk : k = Lib.ctz 64 (left p i c)) :
  k < 64 ∧ risJ p (64 * i + (k + 1)) = risJ p (64 * i + c) ++ [((64 * i + k : Nat) : Int)] ∧ left p i c &&& (left p i c - 1) = left p i (k + 1) ∧ left p i c &&& (left p i c - 1) < left p i c := by
 obtain ⟨h1, _, h3, h4⟩ := left_next p i c k h0 hk
 obtain ⟨_, h2, h5, _, _⟩ := low_word _ _ k rfl h0 hk
 simp only [Bool.and_eq_true, decide_eq_true_iff] at h2
 refine ⟨h1, ?_, h3, h4⟩
 rw [show 64 * i + (k + 1) = (64 * i + k) + 1 from rfl, risJ_succ, h2.1, if_pos rfl]
 congr 1
 have := risJ_skip p (64 * i + c) (k - c) fun j hj => by
  have := h5 (c + j) (by omega)
  simpa [Nat.add_assoc] using this
 rw [← this]
 congr 1
 omega
theorem wrap_jG (j : Nat) (h : j < 32) : IntKind.i64.wrap ((j : Int) * 64) = (j : Int) * 64 := IntWalk.i64_in _ (by omega)
theorem wrap_jG' (j : Nat) (h : j < 32) : wrap64 ((j : Int) * 64) = (j : Int) * 64 := IntWalk.wrap64_in _ (by omega)
theorem wrap_jkG (j k : Nat) (h : j < 32) (hk : k < 64) : IntKind.i64.wrap ((j : Int) * 64 + (k : Int)) = ((64 * j + k : Nat) : Int) := by
 rw [show (j : Int) * 64 + (k : Int) = ((64 * j + k : Nat) : Int) by omega]
 exact IntWalk.i64_in _ (by omega)
theorem wrap_jkG' (j k : Nat) (h : j < 32) (hk : k < 64) : wrap64 ((j : Int) * 64 + (k : Int)) = ((64 * j + k : Nat) : Int) := by
 rw [show (j : Int) * 64 + (k : Int) = ((64 * j + k : Nat) : Int) by omega]
 exact IntWalk.wrap64_in _ (by omega)
set_option maxHeartbeats 4000000 in
set_option maxRecDepth 100000 in
theorem gStates_any (t : Nat → Bool) (b off : Nat) (w : World) (hb : b < w.heap.size) (hr : w.rangeAt b off (gds t)) (hT : Tb w) :
  Calls Tryz.prog 42 #[.pointer (some ⟨b, off, none⟩)] w fun e w' => ∃ v, e = .returned v ∧ w'.ownsRow w.heap.size 3 1 v (risJ t 2048).length (nums .i64 (risJ t 2048)) ∧ Below w.heap.size w w' := by
 have HT := qH hT
 have HR := qH hr
 have HBB := qH hb
 clear hT hr hb
 obtain ⟨i1, hi1, hy0, hy1, hy2⟩ := infoP inf_int
 go_enter Tryz.func42, Tryz.ntmps42
 go_wp2_with fail
 go_loopw [2, 6] (fun v i wl => ∃ j : Nat, j ≤ 32 ∧ i = .int .i64 (j : Int) ∧ wl.ownsRow w.heap.size 3 1 v (risJ t (64 * j)).length (nums .i64 (risJ t (64 * j))) ∧ Below w.heap.size w wl) (fun _ i _ => 32 - (intOf i).toNat)
 case atStart => exact ⟨0, by omega, by simp, ownN _ _ _, Below.refl _ _⟩
 case round =>
  obtain ⟨j, hj, rfl, ho, hb⟩ := hrel
  have HO := qH ho
  have HB := qH hb
  clear ho hb
  obtain ⟨wo, hwo⟩ : ∃ wo : World, wo = wr := ⟨_, rfl⟩
  subst hwo
  by_cases hjl : j < 32
  ·have j1 : (j : Int) < 32 := by omega
   have HJ := qH hjl
   obtain ⟨x, hx⟩ : ∃ x, x = word t j := ⟨_, rfl⟩
   have HGX := qH (show wo.cell? ⟨b, off + j, none⟩ = some (.int .u64 (x : Int)) by
    rw [hx]
    exact (HB.out.cell (p := ⟨b, off + j, none⟩) HBB.out).trans (HR.out j _ (gds_get t hjl)))
   have HX := qH (show x = left t j 0 by rw [hx, left_zero])
   clear hx hj hjl
   go_wp2_with fail
   refine sx_startB (B := wo.heap.size) (w0 := wo) (by kernel_rfl) (Below.refl _ _) (fun wd hwd hX => ?_)
   have HWB := qH (Nat.lt_of_lt_of_le HBB.out HB.out.size)
   clear hwd
   refine sx_take (i := 0) (oi := ⟨some 8, _, _, _, _, _⟩) (v := ?_) rfl (by kernel_rfl) (by kernel_rfl) (by kernel_rfl) (fun _ _ _ h => h) rfl hX ?_ ?_; rotate_left; (intro W hW; go_simp; try with_reducible rfl); simp only [Act.put, qA, qB, qC]
   refine sx_take (i := 1) (oi := ⟨some 9, _, _, _, _, _⟩) (v := ?_) rfl (by kernel_rfl) (by kernel_rfl) (by kernel_rfl) (fun _ _ _ h => h) rfl hX ?_ ?_; rotate_left; (intro W hW; go_simp; try with_reducible rfl); simp only [Act.put, qA, qB, qC]
   refine sx_take (i := 2) (oi := ⟨some 10, _, _, _, _, _⟩) (v := .pointer (some ⟨b, off + j, none⟩)) rfl (by kernel_rfl) (by kernel_rfl) (by kernel_rfl) (fun _ _ _ h => h) rfl hX (fun W _ => ix_grp (.tmp 9) (.tmp 6) rfl rfl rfl HJ.out W) ?_; simp only [Act.put, qA, qB, qC]
   refine sx_take (i := 3) (oi := ⟨some 11, _, _, _, _, _⟩) (v := .int .u64 (x : Int)) rfl (by kernel_rfl) (by kernel_rfl) (by kernel_rfl) (fun _ _ _ h => h) rfl hX (fun W hW => ld_u64 (.tmp 10) rfl rfl ((hW.cell (p := ⟨b, off + j, none⟩) HWB.out).trans HGX.out)) ?_; simp only [Act.put, qA, qB, qC]
   refine sx_take (i := 4) (oi := ⟨some 3, _, _, _, _, _⟩) (v := ?_) rfl (by kernel_rfl) (by kernel_rfl) (by kernel_rfl) (fun _ _ _ h => h) rfl hX ?_ ?_; rotate_left; (intro W hW; go_simp; try with_reducible rfl); simp only [Act.put, qA, qB, qC]
   refine sx_take (i := 5) (oi := ⟨some 4, _, _, _, _, _⟩) (v := ?_) rfl (by kernel_rfl) (by kernel_rfl) (by kernel_rfl) (fun _ _ _ h => h) rfl hX ?_ ?_; rotate_left; (intro W hW; go_simp; try with_reducible rfl); simp only [Act.put, qA, qB, qC]
   refine wpAnyH_done (by kernel_rfl) ?_ _
   have HOD := qH (ownBelow HO.out hX (Nat.le_refl _))
   have HBD := qH (HB.out.trans (hX.mono HB.out.size))
   clear hX HO HB HGX HWB
   go_wp2_with fail
   go_loopw [2, 4] (fun v y wl => ∃ c : Nat, c ≤ 64 ∧ y = .int .u64 (left t j c : Int) ∧ wl.ownsRow w.heap.size 3 1 v (risJ t (64 * j + c)).length (nums .i64 (risJ t (64 * j + c))) ∧ Below w.heap.size w wl) (fun _ y _ => (intOf y).toNat)
   case atStart => exact ⟨0, by omega, by rw [HX.out], HOD.out, HBD.out⟩
   clear HOD HBD
   obtain ⟨c, hc, rfl, ho, hb⟩ := hrel
   have HO2 := qH ho
   have HB2 := qH hb
   have HC := qH hc
   clear ho hb hc
   obtain ⟨wi, hwi⟩ : ∃ v : World, v = wr := ⟨_, rfl⟩
   subst hwi
   have HLY := qH (left_lt t j c)
   have HN0 := qH (leftR_none t j c HC.out)
   have HNX := qH (leftR_next t j c)
   obtain ⟨y, hy⟩ : ∃ y, y = left t j c := ⟨_, rfl⟩
   rw [← hy] at HN0 HNX HLY ⊢
   have HY := qH hy
   clear hy
   by_cases hy0 : y = 0
   ·have hyb : ((y : Int) != 0) = false := by rw [hy0]; rfl
    have HM := qH (HN0.out hy0)
    have e3 := wrap_one j (by have := HJ.out; omega)
    have e4 := wrap_one' j (by have := HJ.out; omega)
    have HMN := qH (sub_next HJ.out)
    clear hy0
    go_wp2_with fail
    refine ⟨⟨j + 1, HJ.out, by congr 1, ?_, HB2.out⟩, by simpa [intOf] using HMN.out⟩
    rw [← HM.out]
    exact HO2.out
   ·have hyb : ((y : Int) != 0) = true := by simpa using hy0
    obtain ⟨k, hk⟩ : ∃ k, k = Lib.ctz 64 y := ⟨_, rfl⟩
    obtain ⟨k1, k2, k3, k4⟩ := HNX.out k hy0 hk
    obtain ⟨y2, hy2'⟩ : ∃ y2, y2 = y &&& (y - 1) := ⟨_, rfl⟩
    rw [← hy2'] at k3 k4
    have HTZ := qH (tz_any y HLY.out hy0 wi (HT.out.belowG HB2.out HT.out.lt))
    rw [← hk] at HTZ
    have hly := HLY.out
    have hw1 : IntKind.u64.wrap ((y : Int) - 1) = ((y - 1 : Nat) : Int) := pred_wrap y hy0 hly
    have hw2 : bits .and .u64 (y : Int) ((y - 1 : Nat) : Int) = (y2 : Int) := by
     rw [u64_and_nat y (y - 1) hly (Nat.lt_of_le_of_lt (Nat.sub_le _ _) hly), hy2']
    have hw3 := wrap_jG j HJ.out
    have hw4 := wrap_jkG j k HJ.out k1
    have hw5 := wrap_jG' j HJ.out
    have hw6 := wrap_jkG' j k HJ.out k1
    obtain ⟨s, hs⟩ : ∃ s, s = 64 * j + k := ⟨_, rfl⟩
    rw [← hs] at hw4 hw6 k2
    have HK2 := qH k2
    have HK3 := qH k3
    have HK4 := qH k4
    have HK1 := qH k1
    have HML := qH (risJ_len t (64 * j + c))
    have HJC := qH (show 64 * j + c ≤ 2048 by have := HC.out; have := HJ.out; omega)
    clear hk k1 k2 k3 k4 hy2' hs hly hy0
    go_wp2_with fail
    refine HTZ.out.mono ?_
    rintro e w4 ⟨rfl, rfl⟩
    go_wp2_with (first
     | ((with_reducible refine atDst 24 ?_); refine wpList_plain rfl fun K hK => wp_bldI 53 3 (.tmp 23) rfl i1 Tryz.underlying53 hi1 0 hy0 hy1 (s : Int) rfl ?_; intro w5 hr5 hb5; have R5 := qH hr5; have B5 := qH hb5; clear hr5 hb5; refine hK _ _ ?_; clear hK K; (try simp only [Act.put, qA, qB, qC]))
     | ((with_reducible refine atDst 25 ?_); refine wpList_appW (base := w.heap.size) rfl (.tmp 18) (.tmp 24) 53 rfl 3 i1 (.int .i64 0) 8 Tryz.underlying53 hi1 hy0 hy1 hy2 rfl _ _ _ rfl (ownBelow HO2.out B5.out (Nat.le_refl _)) _ (nums .i64 [(s : Int)]) rfl R5.out (nums_one _ _) (by have := HML.out; have := HJC.out; rw [nums_length]; simp only [List.length_singleton]; omega) (by omega) (Nat.le_trans HB2.out.size B5.out.size) ?_; intro v6 w6 ho6 hg6 _; have O6 := qH ho6; have B6 := qH (Below.grown (HB2.out.trans (B5.out.mono HB2.out.size)) hg6 (Nat.le_trans HB2.out.size B5.out.size) (own_above HO2.out)); clear ho6 hg6; (try simp only [Act.put, qA, qB, qC])))
    refine ⟨⟨k + 1, HK1.out, by rw [HK3.out], ?_, B6.out⟩, by have := HK4.out; simp [intOf] <;> omega⟩
    rw [HK2.out, nums_append, List.length_append]
    exact O6.out
  ·obtain rfl : j = 32 := by omega
   have j1 : ¬ ((32 : Int) < 32) := Int.lt_irrefl _
   clear hj hjl
   go_wp2_with fail
   go_ret
   exact ⟨_, rfl, HO.out, HB.out⟩
/-! ### plain facts -/
noncomputable def rwB (S : List St) (X : List Int) (j b i : Nat) : Bool := (X.take j).any fun x => match S[x.toNat]? with
 | some s => s.set b && memB (clsN S [s.to]) i
 | none => false
theorem rwB_zero (S : List St) (X : List Int) (b : Nat) : rwB S X 0 b = fun _ => false := by
 funext i
 simp [rwB]
theorem rwB_next {S : List St} {X : List Int} {j p : Nat} {s : St} (hx : X[j]? = some (p : Int)) (hs : S[p]? = some s) (b i : Nat) : rwB S X (j + 1) b i = (rwB S X j b i || (s.set b && memB (clsN S [s.to]) i)) := by
 obtain ⟨hj, he⟩ := List.getElem?_eq_some_iff.1 hx
 unfold rwB
 rw [List.take_succ_eq_append_getElem hj, List.any_append, he]
 simp [hs]
theorem rwB_all {S : List St} {X : List Int} (hX : Ris S.length X) (b : Nat) : rwB S X X.length b = memB (stpN S X b) := by
 funext i
 rw [Bool.eq_iff_iff, memB_stp]
 unfold rwB
 rw [List.take_length, List.any_eq_true]
 constructor
 ·rintro ⟨x, hx, h⟩
  obtain ⟨p, rfl, hp⟩ := ris_rng hX hx
  rw [Int.toNat_natCast, List.getElem?_eq_getElem hp] at h
  have h : (S[p].set b && memB (clsN S [S[p].to]) i) = true := h
  rw [Bool.and_eq_true, memB_cls] at h
  exact ⟨p, S[p], hx, List.getElem?_eq_getElem hp, h.1, h.2⟩
 ·rintro ⟨p, s, h1, h2, h3, h4⟩
  refine ⟨(p : Int), h1, ?_⟩
  rw [Int.toNat_natCast, h2]
  show (s.set b && memB (clsN S [s.to]) i) = true
  rw [Bool.and_eq_true, memB_cls]
  exact ⟨h3, h4⟩
noncomputable def tsJ (S : List St) (X : List Int) (j : Nat) : List (Nat → Bool) := (fbN S).map fun b => rwB S X j b
theorem tsJ_zero (S : List St) (X : List Int) : tsJ S X 0 = List.replicate (fbN S).length fun _ => false := by
 unfold tsJ
 rw [List.map_congr_left (g := fun _ => fun _ => false) fun b _ => rwB_zero S X b]
 exact List.map_const' ..
theorem tsJ_all {S : List St} {X : List Int} (hX : Ris S.length X) : tsJ S X X.length = (sucN S X).map memB := by
 unfold tsJ sucN
 rw [List.map_map]
 exact List.map_congr_left fun b _ => rwB_all hX b
def sgL (S : List St) (s : St) : List UInt8 := memJ (fun b => s.set b && decide (b ∈ fbN S)) 256
theorem sgL_len (S : List St) (s : St) : (sgL S s).length ≤ 256 := memJ_len _ _
theorem sgL_in {S : List St} {s : St} {c : UInt8} (h : c ∈ sgL S s) : s.set c.toNat = true ∧ c.toNat ∈ fbN S := by
 have := memJ_in h
 rw [Bool.and_eq_true, decide_eq_true_iff] at this
 exact this
theorem sgL_mem {S : List St} {s : St} {b : Nat} (hb : b ∈ fbN S) : decide (UInt8.ofNat b ∈ sgL S s) = s.set b := by
 unfold sgL
 rw [memJ_mem _ b (fbN_lt hb)]
 simp [hb]
def inSg (S : List St) (s : St) (m b : Nat) : Bool := decide (UInt8.ofNat b ∈ (sgL S s).take m)
theorem inSg_zero (S : List St) (s : St) (b : Nat) : inSg S s 0 b = false := by simp [inSg]
theorem inSg_all {S : List St} {s : St} {b : Nat} (hb : b ∈ fbN S) : inSg S s (sgL S s).length b = s.set b := by
 unfold inSg
 rw [List.take_length, sgL_mem hb]
theorem inSg_this {S : List St} {s : St} {m : Nat} {c : UInt8} (hc : (sgL S s)[m]? = some c) : inSg S s (m + 1) c.toNat = true := by
 obtain ⟨hm, hce⟩ := List.getElem?_eq_some_iff.1 hc
 refine decide_eq_true ?_
 rw [List.take_succ_eq_append_getElem hm, hce, UInt8.ofNat_toNat]
 exact List.mem_append_right _ (List.mem_singleton.2 rfl)
theorem inSg_other {S : List St} {s : St} {m b : Nat} {c : UInt8} (hc : (sgL S s)[m]? = some c) (hb : b < 256) (hne : b ≠ c.toNat) : inSg S s (m + 1) b = inSg S s m b := by
 obtain ⟨hm, hce⟩ := List.getElem?_eq_some_iff.1 hc
 refine decide_eq_decide.2 ?_
 rw [List.take_succ_eq_append_getElem hm, hce, List.mem_append, List.mem_singleton]
 refine ⟨fun h => h.resolve_right fun e => hne ?_, .inl⟩
 rw [← e, UInt8.toNat_ofNat', Nat.mod_eq_of_lt hb]
noncomputable def tsM (S : List St) (X : List Int) (j : Nat) (s : St) (m : Nat) : List (Nat → Bool) := (fbN S).map fun b i => rwB S X j b i || (inSg S s m b && memB (clsN S [s.to]) i)
theorem tsM_len (S : List St) (X : List Int) (j : Nat) (s : St) (m : Nat) : (tsM S X j s m).length = (fbN S).length := by simp [tsM]
theorem tsM_zero (S : List St) (X : List Int) (j : Nat) (s : St) : tsM S X j s 0 = tsJ S X j := by
 unfold tsM tsJ
 refine List.map_congr_left fun b _ => ?_
 funext i
 rw [inSg_zero, Bool.false_and, Bool.or_false]
theorem tsM_all {S : List St} {X : List Int} {j p : Nat} {s : St} (hx : X[j]? = some (p : Int)) (hs : S[p]? = some s) : tsM S X j s (sgL S s).length = tsJ S X (j + 1) := by
 unfold tsM tsJ
 refine List.map_congr_left fun b hb => ?_
 funext i
 rw [inSg_all hb, rwB_next hx hs]
theorem fbN_inj {S : List St} {i j b : Nat} (hi : (fbN S)[i]? = some b) (hj : (fbN S)[j]? = some b) : i = j := by rw [← clN_fb hi, ← clN_fb hj]
theorem or_or3 (x y z : Bool) : (x || y && z || z) = (x || true && z) := by cases x <;> cases y <;> cases z <;> rfl
theorem tsM_get {S : List St} {X : List Int} {j q b : Nat} {s : St} (m : Nat) (h : (fbN S)[q]? = some b) : (tsM S X j s m)[q]? = some fun i => rwB S X j b i || (inSg S s m b && memB (clsN S [s.to]) i) := by
 unfold tsM
 rw [List.getElem?_map, h]
 rfl
theorem tsM_next {S : List St} {X : List Int} {j m q : Nat} {s : St} {c : UInt8} (hc : (sgL S s)[m]? = some c) (hq : (fbN S)[q]? = some c.toNat) :
  ∃ t, (tsM S X j s m)[q]? = some t ∧ (tsM S X j s m).set q (fun i => t i || memB (clsN S [s.to]) i) = tsM S X j s (m + 1) := by
 obtain ⟨hql, hqe⟩ := List.getElem?_eq_some_iff.1 hq
 refine ⟨_, tsM_get m hq, ?_⟩
 apply List.ext_getElem?
 intro k
 by_cases hqk : q = k
 ·subst hqk
  rw [List.getElem?_set_self (by rw [tsM_len]; exact hql), tsM_get (m + 1) hq]
  refine congrArg some (funext fun i => ?_)
  rw [inSg_this hc]
  exact or_or3 _ _ _
 ·rw [List.getElem?_set_ne hqk]
  cases hk : (fbN S)[k]? with
  | none =>
   have hl := List.getElem?_eq_none_iff.1 hk
   rw [List.getElem?_eq_none (by rw [tsM_len]; exact hl), List.getElem?_eq_none (by rw [tsM_len]; exact hl)]
  | some b =>
   rw [tsM_get m hk, tsM_get (m + 1) hk]
   refine congrArg some (funext fun i => ?_)
   have hb : b < 256 := fbN_lt (List.mem_of_getElem? hk)
   rw [inSg_other hc hb fun e => hqk (fbN_inj hq (by rw [hk, e]))]
theorem sgL_cls {S : List St} {s : St} {m : Nat} {c : UInt8} (hc : (sgL S s)[m]? = some c) : (fbN S)[clN S c.toNat]? = some c.toNat := by
 have h := (sgL_in (List.mem_of_getElem? hc)).2
 obtain ⟨i, hi, he⟩ := List.getElem_of_mem h
 have h1 : (fbN S)[i]? = some c.toNat := by rw [List.getElem?_eq_getElem hi, he]
 rw [clN_fb h1]
 exact h1
/-! ### the signs in memory -/
def SgV (w : World) (H g mr mn : Nat) (sg : Value) (LL : List (List UInt8)) : Prop :=
 ∃ (A : Option Addr) (cap : Nat) (vf : Nat → Value), sg = .slice A LL.length cap ∧ (LL ≠ [] → ∃ b off, A = some ⟨b, off, none⟩ ∧ (b < H ∧ b ≠ g ∧ b ≠ mr ∧ b ≠ mn) ∧ b < w.heap.size ∧ ∀ i, i < LL.length → w.cell? ⟨b, off + i, none⟩ = some (vf i)) ∧
  ∀ i l, LL[i]? = some l → ∃ Ai ci, vf i = .slice Ai l.length ci ∧ (l ≠ [] → ∃ b off, Ai = some ⟨b, off, none⟩ ∧ (b < H ∧ b ≠ g ∧ b ≠ mr ∧ b ≠ mn) ∧ b < w.heap.size ∧ ∀ j c, l[j]? = some c → w.cell? ⟨b, off + j, none⟩ = some (bv c))
theorem SgV.stay {w w' : World} {H g mr mn : Nat} {sg : Value} {LL : List (List UInt8)} (h : SgV w H g mr mn sg LL) (hs : w.heap.size ≤ w'.heap.size) (hk : ∀ k, k < H → k ≠ g → k ≠ mr → k ≠ mn → w'.heap[k]? = w.heap[k]?) : SgV w' H g mr mn sg LL := by
 obtain ⟨A, cap, vf, h1, h2, h3⟩ := h
 have key : ∀ b o v, (b < H ∧ b ≠ g ∧ b ≠ mr ∧ b ≠ mn) → w.cell? ⟨b, o, none⟩ = some v → w'.cell? ⟨b, o, none⟩ = some v := fun b o v hb hc => by
  have := hk b hb.1 hb.2.1 hb.2.2.1 hb.2.2.2
  unfold World.cell? at hc ⊢
  simp only [this]
  exact hc
 refine ⟨A, cap, vf, h1, fun hne => ?_, fun i l hl => ?_⟩
 ·obtain ⟨b, off, e, hb, hlt, hc⟩ := h2 hne
  exact ⟨b, off, e, hb, Nat.lt_of_lt_of_le hlt hs, fun i hi => key _ _ _ hb (hc i hi)⟩
 ·obtain ⟨Ai, ci, e, h4⟩ := h3 i l hl
  refine ⟨Ai, ci, e, fun hne => ?_⟩
  obtain ⟨b, off, e, hb, hlt, hc⟩ := h4 hne
  exact ⟨b, off, e, hb, Nat.lt_of_lt_of_le hlt hs, fun j c hj => key _ _ _ hb (hc j c hj)⟩
/-! ### a run of steps -/
structure MO (D : Nat → Prop) (w w' : World) (g mr mn : Nat) (qv qv' : Value) : Prop where
 off : Off (fun k => Md g mr mn qv k ∨ D k) w w'
 new : ∀ k, qv'.ownBlock = some k → qv.ownBlock = some k ∨ w.heap.size ≤ k
section
variable {D : Nat → Prop} {w w' w'' : World} {g mr mn : Nat} {qv qv' qv'' : Value}
theorem MO.refl (D : Nat → Prop) (w : World) (g mr mn : Nat) (qv : Value) : MO D w w g mr mn qv qv := ⟨Off.refl _ _, fun k hk => .inl hk⟩
theorem MO.step (x : MO D w w' g mr mn qv qv') (y : MStep w' w'' g mr mn qv' qv'') : MO D w w'' g mr mn qv qv'' := by
 refine ⟨⟨y.off.os.trans x.off.os, y.off.tape.trans x.off.tape, y.off.output.trans x.off.output, Nat.le_trans x.off.size y.off.size, fun k hk hn => ?_⟩, fun k hk => ?_⟩
 ·refine (y.off.block k (Nat.lt_of_lt_of_le hk x.off.size) fun hd => ?_).trans (x.off.block k hk hn)
  rcases hd with e | e | e | e
  ·exact hn (.inl (.inl e))
  ·exact hn (.inl (.inr (.inl e)))
  ·exact hn (.inl (.inr (.inr (.inl e))))
  ·rcases x.new k e with e | e
   ·exact hn (.inl (.inr (.inr (.inr e))))
   ·omega
 ·rcases y.new k hk with e | e
  ·exact x.new k e
  ·exact .inr (Nat.le_trans x.off.size e)
theorem MO.put (x : MO D w w' g mr mn qv qv') {D' : Nat → Prop} (y : Off D' w' w'') (hD : ∀ k, D' k → D k ∨ w.heap.size ≤ k) : MO D w w'' g mr mn qv qv' := by
 refine ⟨⟨y.os.trans x.off.os, y.tape.trans x.off.tape, y.output.trans x.off.output, Nat.le_trans x.off.size y.size, fun k hk hn => ?_⟩, x.new⟩
 refine (y.block k (Nat.lt_of_lt_of_le hk x.off.size) fun hd => ?_).trans (x.off.block k hk hn)
 rcases hD k hd with e | e
 ·exact hn (.inr e)
 ·omega
theorem MO.then (x : MO D w w' g mr mn qv qv') (hb : Below w'.heap.size w' w'') : MO D w w'' g mr mn qv qv' := x.put (Off.new (fun _ => False) hb) fun k h => h.elim
theorem MO.trans (x : MO D w w' g mr mn qv qv') {D' : Nat → Prop} (y : MO D' w' w'' g mr mn qv' qv'') (hD : ∀ k, D' k → D k ∨ w.heap.size ≤ k) : MO D w w'' g mr mn qv qv'' := by
 refine ⟨⟨y.off.os.trans x.off.os, y.off.tape.trans x.off.tape, y.off.output.trans x.off.output, Nat.le_trans x.off.size y.off.size, fun k hk hn => ?_⟩, fun k hk => ?_⟩
 ·refine (y.off.block k (Nat.lt_of_lt_of_le hk x.off.size) fun hd => ?_).trans (x.off.block k hk hn)
  rcases hd with (e | e | e | e) | e
  ·exact hn (.inl (.inl e))
  ·exact hn (.inl (.inr (.inl e)))
  ·exact hn (.inl (.inr (.inr (.inl e))))
  ·rcases x.new k e with e | e
   ·exact hn (.inl (.inr (.inr (.inr e))))
   ·omega
  ·rcases hD k e with e | e
   ·exact hn (.inr e)
   ·omega
 ·rcases y.new k hk with e | e
  ·exact x.new k e
  ·exact .inr (Nat.le_trans x.off.size e)
theorem MO.isnt (x : MO D w w' g mr mn qv qv') {b : Nat} (hb : b < w.heap.size) (h : ¬ Md g mr mn qv b) : ¬ Md g mr mn qv' b := by
 rintro (e | e | e | e)
 ·exact h (.inl e)
 ·exact h (.inr (.inl e))
 ·exact h (.inr (.inr (.inl e)))
 ·rcases x.new b e with e | e
  ·exact h (.inr (.inr (.inr e)))
  ·omega
theorem MO.toStep (x : MO D w w' g mr mn qv qv') (hD : ∀ k, D k → w.heap.size ≤ k) : MStep w w' g mr mn qv qv' := by
 refine ⟨⟨x.off.os, x.off.tape, x.off.output, x.off.size, fun k hk hn => x.off.block k hk ?_⟩, x.new⟩
 rintro (h | h)
 ·exact hn h
 ·have := hD k h; omega
theorem MO.blk (x : MO D w w' g mr mn qv qv') {b : Nat} {t : TypeId} {cs : List Value} (hb : Blk w b t cs) (h1 : ¬ Md g mr mn qv b) (h2 : ¬ D b) : Blk w' b t cs := Off.blk x.off (fun h => h.elim h1 h2) hb
theorem MO.cell (x : MO D w w' g mr mn qv qv') {b o : Nat} {v : Value} (hb : b < w.heap.size) (h1 : ¬ Md g mr mn qv b) (h2 : ¬ D b) (hc : w.cell? ⟨b, o, none⟩ = some v) : w'.cell? ⟨b, o, none⟩ = some v := Off.cell x.off hb (fun h => h.elim h1 h2) hc
theorem SgV.mo {H : Nat} {sg : Value} {LL : List (List UInt8)} (h : SgV w H g mr mn sg LL) (x : MO D w w' g mr mn qv qv') (hH : H ≤ w.heap.size) (hq : ∀ k, qv.ownBlock = some k → H ≤ k) (hD : ∀ k, D k → H ≤ k) : SgV w' H g mr mn sg LL :=
 h.stay x.off.size fun k hk h1 h2 h3 => x.off.block k (Nat.lt_of_lt_of_le hk hH) (by
  rintro ((e | e | e | e) | e)
  ·exact h1 e
  ·exact h2 e
  ·exact h3 e
  ·have := hq k e; omega
  ·have := hD k e; omega)
end
end Go.Proofs.YteadghoojeehlaaGreatDoor
