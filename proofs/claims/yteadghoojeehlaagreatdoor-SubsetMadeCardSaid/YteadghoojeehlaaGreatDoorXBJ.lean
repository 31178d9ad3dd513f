/-
  Texts of this proof, put together: RmE, TbJ, TbKp, SbW, SbX, ScL. No statement is proved here.
-/
import Derived.Test.YteadghoojeehlaaGreatDoorXBH
import Derived.Test.YteadghoojeehlaaGreatDoorXL
import Derived.Test.YteadghoojeehlaaGreatDoorXJ
import Derived.Test.YteadghoojeehlaaGreatDoorXD
import Derived.Test.YteadghoojeehlaaGreatDoorXBI
import Derived.Lib.SlBytesConst
import Derived.Test.YteadghoojeehlaaGreatDoorXBD
import Derived.Test.YteadghoojeehlaaGreatDoorXP
import Derived.Test.YteadghoojeehlaaGreatDoorXBC
namespace Go.Proofs.YteadghoojeehlaaGreatDoor
open Go.RowKit
set_option linter.unusedSimpArgs false
set_option linter.unusedVariables false
def mayE (t : T) : Int := if 400 < t.nodes then 4 else if 30 < t.depth then 5 else if plainT t then 0 else 3
set_option maxHeartbeats 4000000 in
set_option maxRecDepth 1000000 in
theorem rxMay_any (t : T) (hM : t.nodes ≤ 1099511627776) (cs : List Value) (w : World) (hv : RxV w.heap.size w cs t) :
  Calls Tryz.prog 33 #[.agg cs.toArray] w fun e w' => e = .returned (.int .i64 (mayE t)) ∧ Below w.heap.size w w' := by
 have V := qH hv
 have HC6 := qH hv.length
 have HM := qH hM
 obtain ⟨r, hr⟩ : ∃ r, mayE t = r := ⟨_, rfl⟩
 have HR := qH hr
 rw [hr]
 clear hv hM hr
 go_enter Tryz.func33, Tryz.ntmps33
 go_wp2_with (first
  | ((with_reducible refine atDst 1 ?_); refine wpList_box rfl 46 _ rfl cs rfl (Below.refl w.heap.size w) (Nat.le_refl _) ?_; intro w1 hk1 hb1 hs1 _; have K1 := qH hk1; have B1 := qH hb1; clear hk1 hb1 hs1; (try simp only [Act.put, qA, qB, qC]))
  | ((with_reducible refine atDst 4 ?_); refine wpList_ldBlk rfl 46 _ rfl w.heap.size rfl 46 _ _ K1.out Tryz.underlying46 rfl (size_rx HC6.out) ?_; (try simp only [Act.put, qA, qB, qC])))
 refine (rxLeft_any _ t (Nat.le_refl _) HM.out 400 cs w1 (by decide) (by decide) ((V.out.stay B1.out).mono B1.out.size)).mono ?_
 rintro e w2 ⟨rfl, hb2⟩
 have B2 := qH (B1.out.trans (hb2.mono B1.out.size))
 have K2 := qH (K1.out.below hb2 K1.out.lt)
 have HLL := qH (left_long t)
 clear hb2
 obtain ⟨x, hx⟩ : ∃ x, leftT t 400 = x := ⟨_, rfl⟩
 rw [hx] at HLL ⊢
 clear hx
 by_cases h1 : x < 0
 ·have HE := qH (show r = 4 by rw [← HR.out]; unfold mayE; rw [if_pos (HLL.out.1 h1)])
  go_wp2_with fail
  go_ret
  rw [HE.out]
  exact ⟨rfl, B2.out⟩
 ·have H400 := qH (show ¬ 400 < t.nodes from fun h => h1 (HLL.out.2 h))
  go_wp2_with ((with_reducible refine atDst 8 ?_); refine wpList_ldBlk rfl 46 _ rfl w.heap.size rfl 46 _ _ K2.out Tryz.underlying46 rfl (size_rx HC6.out) ?_; (try simp only [Act.put, qA, qB, qC]))
  refine (rxDepth_any _ t (Nat.le_refl _) HM.out cs w2 ((V.out.stay B2.out).mono B2.out.size)).mono ?_
  rintro e w3 ⟨rfl, hb3⟩
  have B3 := qH (B2.out.trans (hb3.mono B2.out.size))
  have K3 := qH (K2.out.below hb3 K2.out.lt)
  clear hb3
  obtain ⟨d, hd⟩ : ∃ d, t.depth = d := ⟨_, rfl⟩
  have HD := qH hd
  rw [hd]
  clear hd
  by_cases h2 : 30 < d
  ·have d1 : (30 : Int) < (d : Int) := Int.ofNat_lt.2 h2
   have HE := qH (show r = 5 by rw [← HR.out]; unfold mayE; rw [if_neg H400.out, HD.out, if_pos h2])
   go_wp2_with fail
   go_ret
   rw [HE.out]
   exact ⟨rfl, B3.out⟩
  ·have d1 : ¬ ((30 : Int) < (d : Int)) := fun h => h2 (Int.ofNat_lt.1 h)
   have H30 := qH (show ¬ 30 < t.depth by rw [HD.out]; exact h2)
   clear h2
   go_wp2_with ((with_reducible refine atDst 12 ?_); refine wpList_ldBlk rfl 46 _ rfl w.heap.size rfl 46 _ _ K3.out Tryz.underlying46 rfl (size_rx HC6.out) ?_; (try simp only [Act.put, qA, qB, qC]))
   refine (rxPlain_any _ t (Nat.le_refl _) HM.out cs w3 ((V.out.stay B3.out).mono B3.out.size)).mono ?_
   rintro e w4 ⟨rfl, hb4⟩
   have B4 := qH (B3.out.trans (hb4.mono B3.out.size))
   clear hb4
   obtain ⟨p, hp⟩ : ∃ p, plainT t = p := ⟨_, rfl⟩
   have HP := qH hp
   rw [hp]
   clear hp
   cases p with
   | true =>
    have HE := qH (show r = 0 by rw [← HR.out]; unfold mayE; rw [if_neg H400.out, if_neg H30.out, HP.out]; rfl)
    go_wp2_with fail
    go_ret
    rw [HE.out]
    exact ⟨rfl, B4.out⟩
   | false =>
    have HE := qH (show r = 3 by rw [← HR.out]; unfold mayE; rw [if_neg H400.out, if_neg H30.out, HP.out]; rfl)
    go_wp2_with fail
    go_ret
    rw [HE.out]
    exact ⟨rfl, B4.out⟩
theorem bld_nfa {w : World} {B g : Nat} {lv : Value} {fv : Nat → Value} {S : List St} (h : Bld w B g lv fv S) (a z : Int) : NfaV w [lv, .int .i64 a, .int .i64 z] S a z := by
 rcases h.own.2 with ⟨rfl, h0⟩ | ⟨gl, cap, cur, rfl, hb, hg, hn, hm, hs, ht⟩
 ·have : S = [] := List.eq_nil_of_length_eq_zero h0
  subst this
  exact ⟨none, 0, fv, rfl, Nat.le_refl _, Nat.zero_le _, fun _ => rfl, fun h => absurd rfl h, fun i s h => by simp at h⟩
 ·refine ⟨_, cap, fv, rfl, hn, hm, fun h => (by cases h), fun _ => ⟨gl, 0, rfl, (Array.getElem?_eq_some_iff.1 hg).1, fun i s hi j v hv => ?_⟩, fun i s hi => Row.of_own (h.free i s hi)⟩
  have hj : j < 6 := by have := (List.getElem?_eq_some_iff.1 hv).1; rwa [stc_len] at this
  have h1 := cellsN_flat S fv hi hj
  rw [hv] at h1
  have := (own_cell h.own h1).1
  rw [Nat.zero_add]
  exact this
theorem mayE_ok {t : T} (h : mayE t = 0) : t.nodes ≤ 400 ∧ t.depth ≤ 30 ∧ plainT t = true := by
 unfold mayE at h
 by_cases h1 : 400 < t.nodes
 ·rw [if_pos h1] at h; cases h
 ·rw [if_neg h1] at h
  by_cases h2 : 30 < t.depth
  ·rw [if_pos h2] at h; cases h
  ·rw [if_neg h2] at h
   cases hp : plainT t with
   | true => exact ⟨by omega, by omega, rfl⟩
   | false => rw [hp] at h; cases h
def Built (w : World) (ns : List Value) (t : T) : Prop := (mayE t = 0 → NfaV w ns (fragT t 0 []) 0 1) ∧ (mayE t ≠ 0 → ns = [.slice none 0 0, .int .i64 0, .int .i64 0])
theorem Built.len {w : World} {ns : List Value} {t : T} (h : Built w ns t) : ns.length = 3 := by
 by_cases hm : mayE t = 0
 ·exact (h.1 hm).length
 ·rw [h.2 hm]; rfl
theorem Built.one {w : World} {ns : List Value} {t : T} (h : Built w ns t) : ns.all (·.oneCell') = true := by
 by_cases hm : mayE t = 0
 ·exact (h.1 hm).one
 ·rw [h.2 hm]; rfl
theorem Built.below {w w' : World} {ns : List Value} {t : T} (h : Built w ns t) (hb : Below w.heap.size w w') : Built w' ns t := ⟨fun hm => (h.1 hm).below hb, h.2⟩
theorem inf_nfa : (Tryz.prog.info? 24).map (fun i => (i.zero, i.size, i.bytes)) = some (some (.agg #[.slice none 0 0, .int .i64 0, .int .i64 0]), 3, 40) := by kernel_rfl
theorem inf_bld : (Tryz.prog.info? 83).map (fun i => (i.zero, i.size, i.bytes)) = some (some (.agg #[.slice none 0 0]), 1, 24) := by kernel_rfl
theorem builtNf0 : Tryz.prog.built 24 [] = some #[.slice none 0 0, .int .i64 0, .int .i64 0] := by kernel_rfl
theorem builtNf (A : Option Addr) (n c : Nat) (a z : Int) : Tryz.prog.built 24 [(0, .slice A n c), (1, .int .i64 a), (2, .int .i64 z)] = some #[.slice A n c, .int .i64 a, .int .i64 z] := by kernel_rfl
set_option maxHeartbeats 4000000 in
set_option maxRecDepth 1000000 in
theorem tBuild_any (t : T) (hM : t.nodes ≤ 1099511627776) (cs : List Value) (w : World) (hv : RxV w.heap.size w cs t) :
  Calls Tryz.prog 12 #[.agg cs.toArray] w fun e w' => ∃ ns, e = .returned (.tuple #[.agg ns.toArray, .int .i64 (mayE t)]) ∧ Built w' ns t ∧ Below w.heap.size w w' := by
 have V := qH hv
 have HC6 := qH hv.length
 have HM := qH hM
 obtain ⟨i0, hi0, hz0, hs0, hy0⟩ := infoP inf_nfa
 obtain ⟨i1, hi1, hz1, hs1, hy1⟩ := infoP inf_bld
 obtain ⟨zz, hzz⟩ : ∃ z : List Value, z = [.slice none 0 0, .int .i64 0, .int .i64 0] := ⟨_, rfl⟩
 have HZZ := qH hzz
 have HZL := qH (show zz.length = 3 by rw [hzz]; rfl)
 have HZ1 := qH (show zz.all (·.oneCell') = true by rw [hzz]; rfl)
 have HZ0 := qH (show i0.zero = some (.agg zz.toArray) by rw [hzz]; exact hz0)
 have HB0 := qH (show Tryz.prog.built 24 [] = some zz.toArray by rw [hzz]; exact builtNf0)
 obtain ⟨m, hm⟩ : ∃ m, mayE t = m := ⟨_, rfl⟩
 have HMM := qH hm
 rw [hm]
 clear hv hM hzz hz0 hs0 hy0 hs1 hy1 hm
 go_enter Tryz.func12, Tryz.ntmps12
 go_wp2_with (first
  | ((with_reducible refine atDst 1 ?_); refine wpList_box rfl 46 _ rfl cs rfl (Below.refl w.heap.size w) (Nat.le_refl _) ?_; intro w1 hk1 hb1 hs1 _; have K1 := qH hk1; have B1 := qH hb1; clear hk1 hb1 hs1; (try simp only [Act.put, qA, qB, qC]))
  | ((with_reducible refine atDst 2 ?_); refine wpList_new rfl 24 rfl i0 _ zz hi0 HZ0.out rfl (Below.refl w1.heap.size w1) (Nat.le_refl _) ?_; intro w2 hk2 hb2 hs2 _; have L2 := qH hk2; have B2 := qH (B1.out.trans (hb2.mono B1.out.size)); have K2 := qH (K1.out.below hb2 K1.out.lt); clear hk2 hb2 hs2; (try simp only [Act.put, qA, qB, qC]))
  | ((with_reducible refine atDst 8 ?_); refine wpList_ldBlk rfl 46 _ rfl w.heap.size rfl 46 _ _ K2.out Tryz.underlying46 rfl (size_rx HC6.out) ?_; (try simp only [Act.put, qA, qB, qC])))
 refine (rxMay_any t HM.out cs w2 ((V.out.stay B2.out).mono B2.out.size)).mono ?_
 rw [HMM.out]
 rintro e w3 ⟨rfl, hb3⟩
 have B3 := qH (B2.out.trans (hb3.mono B2.out.size))
 have L3 := qH (L2.out.below hb3 L2.out.lt)
 have K3 := qH (K2.out.below hb3 K2.out.lt)
 have HLW := qH (show w.heap.size < w1.heap.size from K1.out.lt)
 clear hb3
 by_cases h0 : m = 0
 ·have n1 : (m != 0) = false := by simp [h0]
  have OK := qH (mayE_ok (HMM.out.trans h0))
  have HM0 := qH h0
  clear h0
  go_wp2_with (first
   | ((with_reducible refine atDst 5 ?_); refine wpList_new rfl 83 rfl i1 _ [.slice none 0 0] hi1 hz1 rfl (Below.refl w3.heap.size w3) (Nat.le_refl _) ?_; intro w4 hk hb hs _; have G4 := qH hk; have B4 := qH (B3.out.trans (hb.mono B3.out.size)); have L4 := qH (L3.out.below hb L3.out.lt); have K4 := qH (K3.out.below hb K3.out.lt); clear hk hb hs; (try simp only [Act.put, qA, qB, qC]))
   | ((with_reducible refine atDst 15 ?_); refine wpList_ldBlk rfl 46 _ rfl w.heap.size rfl 46 _ _ K4.out Tryz.underlying46 rfl (size_rx HC6.out) ?_; (try simp only [Act.put, qA, qB, qC])))
  have V4 := qH (show BldV w4 w3.heap.size w3.heap.size (fun k => k = w3.heap.size) [] from
   ⟨⟨.slice none 0 0, fun _ => .slice none 0 0, ⟨G4.out, World.ownsRow_nil _ _ _ _, fun i s h => by simp at h, (fun h => by cases h), fun i h => absurd h (Nat.not_lt_zero i), fun i k h => absurd h (Nat.not_lt_zero i), fun i j k h => absurd h (Nat.not_lt_zero i)⟩, fun k hk => by
    rcases hk with hk | hk | ⟨i, hi, _⟩
    ·exact hk
    ·cases hk
    ·exact absurd hi (Nat.not_lt_zero i)⟩, fun k hk => Nat.le_of_eq hk.symm, fun k hk => by rw [hk]; exact G4.out.lt⟩)
  refine (build_any _ t (Nat.le_refl _) w3.heap.size w3.heap.size _ [] cs w4 V4.out (((V.out.stay B4.out).mono B3.out.size)) OK.out.2.2 OK.out.1 (by have := szT_nodes t; have := OK.out.1; simp; omega)).mono ?_
  rw [show (((([] : List St).length : Nat)) : Int) = 0 from rfl, show (((([] : List St).length + 1 : Nat)) : Int) = 1 from rfl]
  rintro e w5 ⟨rfl, hp5⟩
  have B5 := qH (B4.out.trans ((hp5.off.below (B := w3.heap.size) V4.out.dB hp5.sz).mono B3.out.size))
  have L5 := qH (hp5.off.blk (fun hd => by have h1 := L3.out.lt; have h2 : w1.heap.size = w3.heap.size := hd; omega) L4.out)
  obtain ⟨⟨lv, fv, hb, hd⟩, hdB, hdl⟩ := hp5.bld
  obtain ⟨A0, c0, rfl⟩ := own_form6 hb.own
  have d0 := hb.blk.cell 0
  simp only [List.getElem?_cons_zero] at d0
  have hF := bldT_frag t []
  rw [List.nil_append] at hF
  have hF2 : bldT t [] = fragT t 0 [] := hF
  rw [hF2] at hb hd
  rw [hF2] at d0
  obtain ⟨F, hFF⟩ : ∃ F, F = fragT t 0 [] := ⟨_, rfl⟩
  have HF := qH hFF
  rw [← hFF] at hb hd d0
  obtain ⟨ln, hln⟩ : ∃ n, n = F.length := ⟨_, rfl⟩
  have HLN := qH hln
  have X5 := qH hb
  have XD := qH (show ∀ k, Bd w3.heap.size (.slice A0 F.length c0) fv F.length k → k ≠ w1.heap.size from fun k hk e => by
   have h1 := hdB k (hd k hk)
   have h2 := L3.out.lt
   omega)
  rw [← hln] at d0
  obtain ⟨ns, hns⟩ : ∃ l : List Value, l = [.slice A0 ln c0, .int .i64 0, .int .i64 1] := ⟨_, rfl⟩
  have HNS := qH hns
  have HN3 := qH (show ns.length = 3 by rw [hns]; rfl)
  have HN1 := qH (show ns.all (·.oneCell') = true by rw [hns]; rfl)
  have HBN := qH (show Tryz.prog.built 24 [(0, .slice A0 ln c0), (1, .int .i64 0), (2, .int .i64 1)] = some ns.toArray by rw [hns]; exact builtNf _ _ _ _ _)
  clear hp5 hb hd hdB hdl hln hns hF hF2 hFF
  go_wp2_with (first
   | ((with_reducible refine atDst 23 ?_); refine wpList_bld rfl 24 _ rfl ns HBN.out ?_; (try simp only [Act.put, qA, qB, qC]))
   | ((with_reducible refine atStore 24 2 23 ?_); refine wpList_stBlk rfl 24 _ _ rfl w1.heap.size ns rfl rfl 24 _ L5.out (size_nfa HN3.out) (by rw [HZL.out, HN3.out]) HN1.out B5.out (Nat.le_of_lt HLW.out) ?_; intro w6 hk hb hs ho; have L6 := qH hk; have B6 := qH hb; have O6 := qH ho; have S6 := qH hs; clear hk hb hs ho; (try simp only [Act.put, qA, qB, qC])))
  refine bodyPost_ret (results_blk2 rfl _ _ w1.heap.size 24 _ _ _ rfl rfl L6.out Tryz.underlying24 rfl (size_nfa HN3.out)) rfl ?_
  refine ⟨ns, by rw [HM0.out]; rfl, ⟨fun _ => ?_, fun h => absurd (HMM.out.trans HM0.out) h⟩, B6.out⟩
  rw [← HF.out, HNS.out, HLN.out]
  exact bld_nfa (X5.out.stay fun k hk => O6.out k (XD.out k hk)) 0 1
 ·have n1 : (m != 0) = true := by simp [h0]
  have HM0 := qH h0
  clear h0
  go_wp2_with (first
   | ((with_reducible refine atDst 12 ?_); refine wpList_bld rfl 24 _ rfl zz HB0.out ?_; (try simp only [Act.put, qA, qB, qC]))
   | ((with_reducible refine atStore 24 2 12 ?_); refine wpList_stBlk rfl 24 _ _ rfl w1.heap.size zz rfl rfl 24 _ L3.out (size_nfa HZL.out) rfl HZ1.out B3.out (Nat.le_of_lt HLW.out) ?_; intro w6 hk hb hs ho; have L6 := qH hk; have B6 := qH hb; clear hk hb hs ho; (try simp only [Act.put, qA, qB, qC])))
  refine bodyPost_ret (results_blk2 rfl _ _ w1.heap.size 24 _ _ _ rfl rfl L6.out Tryz.underlying24 rfl (size_nfa HZL.out)) rfl ?_
  exact ⟨zz, rfl, ⟨fun h => absurd (HMM.out.symm.trans h) HM0.out, fun _ => HZZ.out⟩, B6.out⟩
def aS9 : Nat → Bool := listS [97]
theorem a9_shape : bytesT aS9 = .node 3 aS9 [] := by
 unfold bytesT
 rw [if_neg (by decide +kernel)]
theorem a9_nodes : (bytesT aS9).nodes = 1 := by rw [a9_shape]; rfl
theorem a9_may : mayE (bytesT aS9) = 0 := by
 have hg := good_bytes (s := aS9) (can_list (by intro x hx; simp at hx; omega))
 have hd : (bytesT aS9).depth = 1 := by rw [a9_shape]; rfl
 unfold mayE
 rw [a9_nodes, hd, if_neg (by decide), if_neg (by decide), hg.2]
 rfl
theorem row_mark9 {w : World} {g n : Nat} {t : TypeId} {cs : List Value} {m : Nat × Nat} (h : w.heap[g]? = some (.cells cs.toArray t m)) (hn : cs.length = n) (hl : n ≤ 1048576) : Row w (.slice (some ⟨g, 0, none⟩) n n) cs := by
 subst hn
 have hlt : g < w.heap.size := (Array.getElem?_eq_some_iff.1 h).1
 refine ⟨_, _, rfl, Nat.le_refl _, by unfold maxLen; omega, (fun h => by cases h), fun _ => ⟨g, 0, rfl, hlt, fun i u hu => ?_⟩⟩
 rw [Nat.zero_add, cell_of_row _ _ i cs.toArray t m h]
 simpa using hu
theorem cls_free {S : List St} (hf : ∀ s ∈ S, s.free = []) (l : List Int) : clsN S l = risJ (fun i => decide ((i : Int) ∈ l)) S.length := by
 unfold clsN
 refine risJ_congr fun i hi => ?_
 rw [Bool.eq_iff_iff, rcB_iff, decide_eq_true_iff]
 constructor
 ·intro h
  cases h with
  | base h _ => exact h
  | go _ hs hj _ => rw [hf _ (List.mem_of_getElem? hs)] at hj; cases hj
 ·exact fun h => .base h hi
def FA : List St := [⟨aS9, 1, []⟩, stF []]
theorem FA_is : fragT (bytesT aS9) 0 [] = FA := by
 rw [a9_shape]
 rfl
theorem FA_free : ∀ s ∈ FA, s.free = [] := by
 intro s hs
 simp only [FA, stF, List.mem_cons, List.not_mem_nil, or_false] at hs
 rcases hs with rfl | rfl <;> rfl
theorem FA_lo : ∀ s ∈ FA, -9223372036854775808 ≤ s.to := by
 intro s hs
 simp only [FA, stF, List.mem_cons, List.not_mem_nil, or_false] at hs
 rcases hs with rfl | rfl <;> decide
theorem fb_FA : fbN FA = [0, 97] := by decide +kernel
def sucF (X : List Int) : List (List Int) := [0, 97].map fun b => risJ (fun i => decide ((i : Int) ∈ goN FA X b)) 2
theorem suc_FA : sucN FA = sucF := by
 funext X
 unfold sucN sucF
 rw [fb_FA]
 refine List.map_congr_left fun b _ => ?_
 unfold stpN
 exact cls_free FA_free _
theorem cls_FA : clsN FA [0] = [0] := by
 rw [cls_free FA_free]
 decide +kernel
theorem LN_FA (r : Nat) : LN FA 0 r = Lq sucF [0] r := by
 unfold LN
 rw [suc_FA, cls_FA]
theorem fit_FA : FitN FA 0 3 := by
 show (LN FA 0 3).length = 3
 rw [LN_FA]
 decide +kernel
theorem one_FA : (LN FA 0 1).length = 3 := by
 rw [LN_FA]
 decide +kernel
theorem DfaV.one {w : World} {cs : List Value} {D : Dm} (h : DfaV w cs D) : cs.all (·.oneCell') = true := by
 obtain ⟨An, Ae, cn, ce, vf, _, hcs, _⟩ := h.form
 rw [hcs]
 exact dcl_one
theorem DfaV.length {w : World} {cs : List Value} {D : Dm} (h : DfaV w cs D) : cs.length = 258 := by
 obtain ⟨hl, vn, ve, vf, hcs, _⟩ := h
 rw [hcs]
 exact dcl_len hl
theorem machN_len {S : List St} {a z : Int} {n : Nat} (h : FitN S a n) : (machN S a z n).next.length = n := rowsI_len (Nat.le_of_eq (show (LN S a n).length = n from h).symm)
theorem machN_ends {S : List St} {a z : Int} {n : Nat} (h : FitN S a n) : (machN S a z n).ends.length = n := endsI_len (Nat.le_of_eq (show (LN S a n).length = n from h).symm)
set_option maxHeartbeats 8000000 in
set_option maxRecDepth 1000000 in
theorem begun10_any (w : World) (hT : Tb w) : Calls Tryz.prog 5 #[] w fun e w' => e = .returned (.bool true) ∧ Below w.heap.size w w' := by
 have HT := qH hT
 obtain ⟨q, hq⟩ : ∃ q, q = aS9 := ⟨_, rfl⟩
 have HQ := qH (show q = listS [97] from hq)
 obtain ⟨tx, htx⟩ : ∃ t, t = bytesT q := ⟨_, rfl⟩
 have HTX := qH htx
 have HM := qH (show mayE tx = 0 by rw [htx, hq]; exact a9_may)
 have HN := qH (show tx.nodes = 1 by rw [htx, hq]; exact a9_nodes)
 obtain ⟨F, hF⟩ : ∃ F, F = FA := ⟨_, rfl⟩
 have HFF := qH (show fragT tx 0 [] = F by rw [hF, htx, hq]; exact FA_is)
 have HMF := qH (show MayN F 0 1 from HFF.out ▸ (frag_may (by have := HN.out; omega)))
 have HLO := qH (show ∀ s ∈ F, -9223372036854775808 ≤ s.to by rw [hF]; exact FA_lo)
 have HFT := qH (show FitN F 0 3 by rw [hF]; exact fit_FA)
 have HK3 := qH (show mkN F 0 1 3 = (machN F 0 1 3, 0) from mkN_ok HMF.out HFT.out (by decide))
 have HK2 := qH (show mkN F 0 1 2 = (noDm, 7) from mkN_many HMF.out (r := 1) (by rw [hF, one_FA]; decide))
 obtain ⟨D, hD⟩ : ∃ D, D = machN F 0 1 3 := ⟨_, rfl⟩
 have HDN := qH (show D.next.length = 3 by rw [hD]; exact machN_len HFT.out)
 rw [← hD] at HK3
 obtain ⟨i0, hi0, hz0, hs0, hy0⟩ := infoP inf_nfa
 obtain ⟨zz, hzz⟩ : ∃ z : List Value, z = [.slice none 0 0, .int .i64 0, .int .i64 0] := ⟨_, rfl⟩
 have HZL := qH (show zz.length = 3 by rw [hzz]; rfl)
 have HZ0 := qH (show i0.zero = some (.agg zz.toArray) by rw [hzz]; exact hz0)
 obtain ⟨d0, hd0⟩ : ∃ d0, d0 = dcl (ctab [] 0) (.slice none 0 0) (.slice none 0 0) := ⟨_, rfl⟩
 have HDL := qH (show d0.length = 258 by rw [hd0]; exact dcl_len (ctab_length _ _))
 obtain ⟨id, hid, hdz⟩ := Option.map_eq_some_iff.1 inf_dfa
 rw [← hd0] at hdz
 have HDZ := qH hdz
 clear hzz hz0 hs0 hy0 hF htx hq hD hd0 hdz hT
 go_enter Tryz.func5, Tryz.ntmps5
 have kc := fun (w : World) (C : Array Value) (n c : Nat) => Lib.run_convert_bytes_const (P := Tryz.prog) w 38 5 C n c Tryz.underlying38 Tryz.underlying5
 go_wp2_with fail
 obtain ⟨w1, hw1⟩ : ∃ w1, w1 = w.alloc (.cells #[.int .u8 97] 5 (1, 2)) := ⟨_, rfl⟩
 have R1 := qH (show Row w1 (.slice (some ⟨w.heap.size, 0, none⟩) 1 1) (bvs [UInt8.ofNat 97]) from by rw [hw1]; exact row_mark9 (heap_alloc_new w _) rfl (by omega))
 have B1 := qH (show Below w.heap.size w w1 by rw [hw1]; exact (Below.refl _ _).alloc (Nat.le_refl _) _)
 rw [← hw1]
 clear hw1
 refine (refOf1 97 (by omega) _ w1 R1.out q HQ.out).mono ?_
 rintro e w2 ⟨rfl, hb⟩
 have B2 := qH (B1.out.trans (hb.mono B1.out.size))
 clear hb
 go_wp2_with fail
 refine (refBytes_any q w2).mono ?_
 rintro e w3 ⟨cs, rfl, hcs, hb⟩
 have B3 := qH (B2.out.trans (hb.mono B2.out.size))
 rw [← HTX.out] at hcs
 have D3 := qH (hcs fun k => k < w3.heap.size)
 clear hcs hb
 go_wp2_with fail
 refine (tBuild_any tx (by have := HN.out; omega) cs w3 D3.out).mono ?_
 rw [HM.out]
 rintro e w4 ⟨ns, rfl, hbt, hb⟩
 have B4 := qH (B3.out.trans (hb.mono B3.out.size))
 have N4 := qH (show NfaV w4 ns F 0 1 by rw [← HFF.out]; exact hbt.1 HM.out)
 have HN3 := qH hbt.len
 have HN1 := qH hbt.one
 clear hbt hb
 go_wp2_with (first
  | ((with_reducible refine atDst 1 ?_); refine wpList_new rfl 24 rfl i0 _ zz hi0 HZ0.out rfl (Below.refl w4.heap.size w4) (Nat.le_refl _) ?_; intro w5 hk hb hs ho; have L5 := qH hk; have B5 := qH hb; clear hk hb hs ho; (try simp only [Act.put, qA, qB, qC]))
  | ((with_reducible refine atStore 24 1 13 ?_); refine wpList_stBlk rfl 24 _ _ rfl w4.heap.size ns rfl rfl 24 _ L5.out (size_nfa HN3.out) (by rw [HZL.out, HN3.out]) HN1.out B5.out (Nat.le_refl _) ?_; intro w6 hk hb hs ho; have K6 := qH hk; have N6 := qH (N4.out.below hb); have B6 := qH (B4.out.trans (hb.mono B4.out.size)); clear hk hb hs ho; (try simp only [Act.put, qA, qB, qC]))
  | ((with_reducible refine atDst 16 ?_); refine wpList_ldArr rfl 24 _ rfl w4.heap.size rfl 24 _ _ K6.out Tryz.underlying24 rfl (size_nfa HN3.out) ?_; (try simp only [Act.put, qA, qB, qC])))
 clear kc
 have hmk := sbMake_any F 0 1 3 ns w6 N6.out HLO.out (by decide) (HT.out.belowG B6.out HT.out.lt)
 refine hmk.mono ?_
 clear hmk
 rintro e w7 ⟨c3, rfl, hd, hb⟩
 rw [HK3.out] at hd ⊢
 have V7 := qH hd
 have K7 := qH (K6.out.below hb K6.out.lt)
 have N7 := qH (N6.out.below hb)
 have B7 := qH (B6.out.trans (hb.mono B6.out.size))
 clear hd hb
 obtain ⟨An, Ae, cn, ce, vf, hl7, hc7, _⟩ := V7.out.form
 have HC7 := qH (show c3[256]? = some (.slice An 3 cn) by rw [hc7, dcl_n hl7, HDN.out])
 clear hl7 hc7
 go_wp2_with (first
  | ((with_reducible refine atDst 3 ?_); refine wpList_new rfl 31 rfl id _ d0 hid HDZ.out rfl (Below.refl w7.heap.size w7) (Nat.le_refl _) ?_; intro w8 hk hb hs ho; have L8 := qH hk; have B8 := qH hb; clear hk hb hs ho; (try simp only [Act.put, qA, qB, qC]))
  | ((with_reducible refine atStore 31 3 18 ?_); refine wpList_stBlk rfl 31 _ _ rfl w7.heap.size c3 rfl rfl 31 _ L8.out V7.out.size (by rw [HDL.out, V7.out.length]) V7.out.one B8.out (Nat.le_refl _) ?_; intro w9 hk hb hs ho; have K9 := qH hk; have N9 := qH (N7.out.below hb); have J9 := qH (K7.out.below hb K7.out.lt); have B9 := qH (B7.out.trans (hb.mono B7.out.size)); clear hk hb hs ho; (try simp only [Act.put, qA, qB, qC]))
  | ((with_reducible refine atDst 21 ?_); refine wpList_ldArr rfl 24 _ rfl w4.heap.size rfl 24 _ _ J9.out Tryz.underlying24 rfl (size_nfa HN3.out) ?_; (try simp only [Act.put, qA, qB, qC])))
 have hmk := sbMake_any F 0 1 2 ns w9 N9.out HLO.out (by decide) (HT.out.belowG B9.out HT.out.lt)
 refine hmk.mono ?_
 clear hmk
 rintro e wa ⟨c2, rfl, hd, hb⟩
 rw [HK2.out] at hd ⊢
 have Va := qH hd
 have Ka := qH (K9.out.below hb K9.out.lt)
 have Ba := qH (B9.out.trans (hb.mono B9.out.size))
 clear hd hb
 go_wp2_with (first
  | ((with_reducible refine atDst 5 ?_); refine wpList_new rfl 31 rfl id _ d0 hid HDZ.out rfl (Below.refl wa.heap.size wa) (Nat.le_refl _) ?_; intro wb hk hb hs ho; have Lb := qH hk; have Bb := qH hb; clear hk hb hs ho; (try simp only [Act.put, qA, qB, qC]))
  | ((with_reducible refine atStore 31 5 23 ?_); refine wpList_stBlk rfl 31 _ _ rfl wa.heap.size c2 rfl rfl 31 _ Lb.out Va.out.size (by rw [HDL.out, Va.out.length]) Va.out.one Bb.out (Nat.le_refl _) ?_; intro wc hk hb hs ho; have c256 := (Ka.out.below hb Ka.out.lt).cell 256; rw [HC7.out] at c256; have Bc := qH (Ba.out.trans (hb.mono Ba.out.size)); clear hk hb hs ho; (try simp only [Act.put, qA, qB, qC])))
 go_ret
 exact ⟨rfl, Bc.out⟩
theorem zero_dfa : ∃ (id : TypeInfo) (d0 : List Value), Tryz.prog.info? 31 = some id ∧ id.zero = some (.agg d0.toArray) ∧ d0.length = 258 := by
 obtain ⟨id, hid, hdz⟩ := Option.map_eq_some_iff.1 inf_dfa
 exact ⟨id, _, hid, hdz, dcl_len (ctab_length _ _)⟩
theorem machN_row {S : List St} {a z : Int} {n : Nat} (r : List Int) (h : r ∈ (machN S a z n).next) : r.length ≤ 256 := by
 obtain ⟨X, _, rfl⟩ := List.mem_map.1 (show r ∈ ((LN S a n).take n).map (fun x => rowI (LN S a n) (sucN S x)) from h)
 rw [rowI_len, sucN_len]
 exact fbN_len S
theorem mkN_small (S : List St) (a z most : Int) (hm : most ≤ 1000) : (mkN S a z most).1.ends.length ≤ 2000 ∧ (mkN S a z most).1.next.length ≤ 2000 ∧ ∀ r ∈ (mkN S a z most).1.next, r.length ≤ 2000 := by
 rcases mkN_is S a z most with ⟨_, h⟩ | ⟨_, n, h1, h2, h⟩ | ⟨_, _, h⟩
 ·rw [h]
  exact ⟨Nat.zero_le _, Nat.zero_le _, fun r hr => by cases hr⟩
 ·rw [h]
  refine ⟨?_, ?_, fun r hr => ?_⟩
  ·show (machN S a z n).ends.length ≤ 2000
   rw [machN_ends h1]; omega
  ·show (machN S a z n).next.length ≤ 2000
   rw [machN_len h1]; omega
  ·have := machN_row r hr
   omega
 ·rw [h]
  exact ⟨Nat.zero_le _, Nat.zero_le _, fun r hr => by cases hr⟩
end Go.Proofs.YteadghoojeehlaaGreatDoor
