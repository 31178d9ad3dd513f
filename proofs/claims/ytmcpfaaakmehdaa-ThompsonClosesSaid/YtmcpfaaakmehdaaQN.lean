/-
  Texts of this proof, put together: RmE, TbJ, TgA, TgB, TgC. No statement is proved here.
-/
import Derived.Test.YtmcpfaaakmehdaaQL
import Derived.Test.YtmcpfaaakmehdaaQC
import Derived.Test.YtmcpfaaakmehdaaQA
import Derived.Test.YtmcpfaaakmehdaaQB
import Derived.Test.YtmcpfaaakmehdaaQM
import Derived.Test.YtmcpfaaakmehdaaQG
import Derived.Test.YtmcpfaaakmehdaaQH
namespace Go.Proofs.Ytmcpfaaakmehdaa
open Go.RowKit
set_option linter.unusedSimpArgs false
set_option linter.unusedVariables false
def mayE (t : T) : Int := if 400 < t.nodes then 4 else if 30 < t.depth then 5 else if plainT t then 0 else 3
set_option maxHeartbeats 4000000 in
set_option maxRecDepth 1000000 in
theorem rxMay_any (t : T) (hM : t.nodes ≤ 1099511627776) (cs : List Value) (w : World) (hv : RxV w.heap.size w cs t) :
  Calls Try.prog 46 #[.agg cs.toArray] w fun e w' => e = .returned (.int .i64 (mayE t)) ∧ Below w.heap.size w w' := by
 have V := qH hv
 have HC6 := qH hv.length
 have HM := qH hM
 obtain ⟨r, hr⟩ : ∃ r, mayE t = r := ⟨_, rfl⟩
 have HR := qH hr
 rw [hr]
 clear hv hM hr
 go_enter Try.func46, Try.ntmps46
 go_wp2_with (first
  | ((with_reducible refine atDst 1 ?_); refine wpList_box rfl 40 _ rfl cs rfl (Below.refl w.heap.size w) (Nat.le_refl _) ?_; intro w1 hk1 hb1 hs1 _; have K1 := qH hk1; have B1 := qH hb1; clear hk1 hb1 hs1; (try simp only [Act.put, qA, qB, qC]))
  | ((with_reducible refine atDst 4 ?_); refine wpList_ldBlk rfl 40 _ rfl w.heap.size rfl 40 _ _ K1.out Try.underlying40 rfl (size_rx HC6.out) ?_; (try simp only [Act.put, qA, qB, qC])))
 refine (rxLeft_any _ t (Nat.le_refl _) HM.out 400 cs w1 (by decide) (by decide) ((V.out.stay B1.out).mono B1.out.size)).mono ?_
 rintro e w2 ⟨rfl, hb2⟩
 have B2 := qH (B1.out.trans (hb2.mono B1.out.size))
 have K2 := qH (K1.out.below hb2 K1.out.lt)
 have HLL := qH (left_long t)
 clear hb2
 obtain ⟨x, hx⟩ : ∃ x, leftT t 400 = x := ⟨_, rfl⟩
 rw [hx] at HLL ⊢
 clear hx
 by_cases h1 : x < 0
 ·have HE := qH (show r = 4 by rw [← HR.out]; unfold mayE; rw [if_pos (HLL.out.1 h1)])
  go_wp2_with fail
  go_ret
  rw [HE.out]
  exact ⟨rfl, B2.out⟩
 ·have H400 := qH (show ¬ 400 < t.nodes from fun h => h1 (HLL.out.2 h))
  go_wp2_with ((with_reducible refine atDst 8 ?_); refine wpList_ldBlk rfl 40 _ rfl w.heap.size rfl 40 _ _ K2.out Try.underlying40 rfl (size_rx HC6.out) ?_; (try simp only [Act.put, qA, qB, qC]))
  refine (rxDepth_any _ t (Nat.le_refl _) HM.out cs w2 ((V.out.stay B2.out).mono B2.out.size)).mono ?_
  rintro e w3 ⟨rfl, hb3⟩
  have B3 := qH (B2.out.trans (hb3.mono B2.out.size))
  have K3 := qH (K2.out.below hb3 K2.out.lt)
  clear hb3
  obtain ⟨d, hd⟩ : ∃ d, t.depth = d := ⟨_, rfl⟩
  have HD := qH hd
  rw [hd]
  clear hd
  by_cases h2 : 30 < d
  ·have d1 : (30 : Int) < (d : Int) := Int.ofNat_lt.2 h2
   have HE := qH (show r = 5 by rw [← HR.out]; unfold mayE; rw [if_neg H400.out, HD.out, if_pos h2])
   go_wp2_with fail
   go_ret
   rw [HE.out]
   exact ⟨rfl, B3.out⟩
  ·have d1 : ¬ ((30 : Int) < (d : Int)) := fun h => h2 (Int.ofNat_lt.1 h)
   have H30 := qH (show ¬ 30 < t.depth by rw [HD.out]; exact h2)
   clear h2
   go_wp2_with ((with_reducible refine atDst 12 ?_); refine wpList_ldBlk rfl 40 _ rfl w.heap.size rfl 40 _ _ K3.out Try.underlying40 rfl (size_rx HC6.out) ?_; (try simp only [Act.put, qA, qB, qC]))
   refine (rxPlain_any _ t (Nat.le_refl _) HM.out cs w3 ((V.out.stay B3.out).mono B3.out.size)).mono ?_
   rintro e w4 ⟨rfl, hb4⟩
   have B4 := qH (B3.out.trans (hb4.mono B3.out.size))
   clear hb4
   obtain ⟨p, hp⟩ : ∃ p, plainT t = p := ⟨_, rfl⟩
   have HP := qH hp
   rw [hp]
   clear hp
   cases p with
   | true =>
    have HE := qH (show r = 0 by rw [← HR.out]; unfold mayE; rw [if_neg H400.out, if_neg H30.out, HP.out]; rfl)
    go_wp2_with fail
    go_ret
    rw [HE.out]
    exact ⟨rfl, B4.out⟩
   | false =>
    have HE := qH (show r = 3 by rw [← HR.out]; unfold mayE; rw [if_neg H400.out, if_neg H30.out, HP.out]; rfl)
    go_wp2_with fail
    go_ret
    rw [HE.out]
    exact ⟨rfl, B4.out⟩
theorem bld_nfa {w : World} {B g : Nat} {lv : Value} {fv : Nat → Value} {S : List St} (h : Bld w B g lv fv S) (a z : Int) : NfaV w [lv, .int .i64 a, .int .i64 z] S a z := by
 rcases h.own.2 with ⟨rfl, h0⟩ | ⟨gl, cap, cur, rfl, hb, hg, hn, hm, hs, ht⟩
 ·have : S = [] := List.eq_nil_of_length_eq_zero h0
  subst this
  exact ⟨none, 0, fv, rfl, Nat.le_refl _, Nat.zero_le _, fun _ => rfl, fun h => absurd rfl h, fun i s h => by simp at h⟩
 ·refine ⟨_, cap, fv, rfl, hn, hm, fun h => (by cases h), fun _ => ⟨gl, 0, rfl, (Array.getElem?_eq_some_iff.1 hg).1, fun i s hi j v hv => ?_⟩, fun i s hi => Row.of_own (h.free i s hi)⟩
  have hj : j < 6 := by have := (List.getElem?_eq_some_iff.1 hv).1; rwa [stc_len] at this
  have h1 := cellsN_flat S fv hi hj
  rw [hv] at h1
  have := (own_cell h.own h1).1
  rw [Nat.zero_add]
  exact this
theorem mayE_ok {t : T} (h : mayE t = 0) : t.nodes ≤ 400 ∧ t.depth ≤ 30 ∧ plainT t = true := by
 unfold mayE at h
 by_cases h1 : 400 < t.nodes
 ·rw [if_pos h1] at h; cases h
 ·rw [if_neg h1] at h
  by_cases h2 : 30 < t.depth
  ·rw [if_pos h2] at h; cases h
  ·rw [if_neg h2] at h
   cases hp : plainT t with
   | true => exact ⟨by omega, by omega, rfl⟩
   | false => rw [hp] at h; cases h
def Built (w : World) (ns : List Value) (t : T) : Prop := (mayE t = 0 → NfaV w ns (fragT t 0 []) 0 1) ∧ (mayE t ≠ 0 → ns = [.slice none 0 0, .int .i64 0, .int .i64 0])
theorem Built.len {w : World} {ns : List Value} {t : T} (h : Built w ns t) : ns.length = 3 := by
 by_cases hm : mayE t = 0
 ·exact (h.1 hm).length
 ·rw [h.2 hm]; rfl
theorem Built.one {w : World} {ns : List Value} {t : T} (h : Built w ns t) : ns.all (·.oneCell') = true := by
 by_cases hm : mayE t = 0
 ·exact (h.1 hm).one
 ·rw [h.2 hm]; rfl
theorem Built.below {w w' : World} {ns : List Value} {t : T} (h : Built w ns t) (hb : Below w.heap.size w w') : Built w' ns t := ⟨fun hm => (h.1 hm).below hb, h.2⟩
theorem inf_nfa : (Try.prog.info? 24).map (fun i => (i.zero, i.size, i.bytes)) = some (some (.agg #[.slice none 0 0, .int .i64 0, .int .i64 0]), 3, 40) := by kernel_rfl
theorem inf_bld : (Try.prog.info? 78).map (fun i => (i.zero, i.size, i.bytes)) = some (some (.agg #[.slice none 0 0]), 1, 24) := by kernel_rfl
theorem builtNf0 : Try.prog.built 24 [] = some #[.slice none 0 0, .int .i64 0, .int .i64 0] := by kernel_rfl
theorem builtNf (A : Option Addr) (n c : Nat) (a z : Int) : Try.prog.built 24 [(0, .slice A n c), (1, .int .i64 a), (2, .int .i64 z)] = some #[.slice A n c, .int .i64 a, .int .i64 z] := by kernel_rfl
set_option maxHeartbeats 4000000 in
set_option maxRecDepth 1000000 in
theorem tBuild_any (t : T) (hM : t.nodes ≤ 1099511627776) (cs : List Value) (w : World) (hv : RxV w.heap.size w cs t) :
  Calls Try.prog 23 #[.agg cs.toArray] w fun e w' => ∃ ns, e = .returned (.tuple #[.agg ns.toArray, .int .i64 (mayE t)]) ∧ Built w' ns t ∧ Below w.heap.size w w' := by
 have V := qH hv
 have HC6 := qH hv.length
 have HM := qH hM
 obtain ⟨i0, hi0, hz0, hs0, hy0⟩ := infoP inf_nfa
 obtain ⟨i1, hi1, hz1, hs1, hy1⟩ := infoP inf_bld
 obtain ⟨zz, hzz⟩ : ∃ z : List Value, z = [.slice none 0 0, .int .i64 0, .int .i64 0] := ⟨_, rfl⟩
 have HZZ := qH hzz
 have HZL := qH (show zz.length = 3 by rw [hzz]; rfl)
 have HZ1 := qH (show zz.all (·.oneCell') = true by rw [hzz]; rfl)
 have HZ0 := qH (show i0.zero = some (.agg zz.toArray) by rw [hzz]; exact hz0)
 have HB0 := qH (show Try.prog.built 24 [] = some zz.toArray by rw [hzz]; exact builtNf0)
 obtain ⟨m, hm⟩ : ∃ m, mayE t = m := ⟨_, rfl⟩
 have HMM := qH hm
 rw [hm]
 clear hv hM hzz hz0 hs0 hy0 hs1 hy1 hm
 go_enter Try.func23, Try.ntmps23
 go_wp2_with (first
  | ((with_reducible refine atDst 1 ?_); refine wpList_box rfl 40 _ rfl cs rfl (Below.refl w.heap.size w) (Nat.le_refl _) ?_; intro w1 hk1 hb1 hs1 _; have K1 := qH hk1; have B1 := qH hb1; clear hk1 hb1 hs1; (try simp only [Act.put, qA, qB, qC]))
  | ((with_reducible refine atDst 2 ?_); refine wpList_new rfl 24 rfl i0 _ zz hi0 HZ0.out rfl (Below.refl w1.heap.size w1) (Nat.le_refl _) ?_; intro w2 hk2 hb2 hs2 _; have L2 := qH hk2; have B2 := qH (B1.out.trans (hb2.mono B1.out.size)); have K2 := qH (K1.out.below hb2 K1.out.lt); clear hk2 hb2 hs2; (try simp only [Act.put, qA, qB, qC]))
  | ((with_reducible refine atDst 8 ?_); refine wpList_ldBlk rfl 40 _ rfl w.heap.size rfl 40 _ _ K2.out Try.underlying40 rfl (size_rx HC6.out) ?_; (try simp only [Act.put, qA, qB, qC])))
 refine (rxMay_any t HM.out cs w2 ((V.out.stay B2.out).mono B2.out.size)).mono ?_
 rw [HMM.out]
 rintro e w3 ⟨rfl, hb3⟩
 have B3 := qH (B2.out.trans (hb3.mono B2.out.size))
 have L3 := qH (L2.out.below hb3 L2.out.lt)
 have K3 := qH (K2.out.below hb3 K2.out.lt)
 have HLW := qH (show w.heap.size < w1.heap.size from K1.out.lt)
 clear hb3
 by_cases h0 : m = 0
 ·have n1 : (m != 0) = false := by simp [h0]
  have OK := qH (mayE_ok (HMM.out.trans h0))
  have HM0 := qH h0
  clear h0
  go_wp2_with (first
   | ((with_reducible refine atDst 5 ?_); refine wpList_new rfl 78 rfl i1 _ [.slice none 0 0] hi1 hz1 rfl (Below.refl w3.heap.size w3) (Nat.le_refl _) ?_; intro w4 hk hb hs _; have G4 := qH hk; have B4 := qH (B3.out.trans (hb.mono B3.out.size)); have L4 := qH (L3.out.below hb L3.out.lt); have K4 := qH (K3.out.below hb K3.out.lt); clear hk hb hs; (try simp only [Act.put, qA, qB, qC]))
   | ((with_reducible refine atDst 15 ?_); refine wpList_ldBlk rfl 40 _ rfl w.heap.size rfl 40 _ _ K4.out Try.underlying40 rfl (size_rx HC6.out) ?_; (try simp only [Act.put, qA, qB, qC])))
  have V4 := qH (show BldV w4 w3.heap.size w3.heap.size (fun k => k = w3.heap.size) [] from
   ⟨⟨.slice none 0 0, fun _ => .slice none 0 0, ⟨G4.out, World.ownsRow_nil _ _ _ _, fun i s h => by simp at h, (fun h => by cases h), fun i h => absurd h (Nat.not_lt_zero i), fun i k h => absurd h (Nat.not_lt_zero i), fun i j k h => absurd h (Nat.not_lt_zero i)⟩, fun k hk => by
    rcases hk with hk | hk | ⟨i, hi, _⟩
    ·exact hk
    ·cases hk
    ·exact absurd hi (Nat.not_lt_zero i)⟩, fun k hk => Nat.le_of_eq hk.symm, fun k hk => by rw [hk]; exact G4.out.lt⟩)
  refine (build_any _ t (Nat.le_refl _) w3.heap.size w3.heap.size _ [] cs w4 V4.out (((V.out.stay B4.out).mono B3.out.size)) OK.out.2.2 OK.out.1 (by have := szT_nodes t; have := OK.out.1; simp; omega)).mono ?_
  rw [show (((([] : List St).length : Nat)) : Int) = 0 from rfl, show (((([] : List St).length + 1 : Nat)) : Int) = 1 from rfl]
  rintro e w5 ⟨rfl, hp5⟩
  have B5 := qH (B4.out.trans ((hp5.off.below (B := w3.heap.size) V4.out.dB hp5.sz).mono B3.out.size))
  have L5 := qH (hp5.off.blk (fun hd => by have h1 := L3.out.lt; have h2 : w1.heap.size = w3.heap.size := hd; omega) L4.out)
  obtain ⟨⟨lv, fv, hb, hd⟩, hdB, hdl⟩ := hp5.bld
  obtain ⟨A0, c0, rfl⟩ := own_form6 hb.own
  have d0 := hb.blk.cell 0
  simp only [List.getElem?_cons_zero] at d0
  have hF := bldT_frag t []
  rw [List.nil_append] at hF
  have hF2 : bldT t [] = fragT t 0 [] := hF
  rw [hF2] at hb hd
  rw [hF2] at d0
  obtain ⟨F, hFF⟩ : ∃ F, F = fragT t 0 [] := ⟨_, rfl⟩
  have HF := qH hFF
  rw [← hFF] at hb hd d0
  obtain ⟨ln, hln⟩ : ∃ n, n = F.length := ⟨_, rfl⟩
  have HLN := qH hln
  have X5 := qH hb
  have XD := qH (show ∀ k, Bd w3.heap.size (.slice A0 F.length c0) fv F.length k → k ≠ w1.heap.size from fun k hk e => by
   have h1 := hdB k (hd k hk)
   have h2 := L3.out.lt
   omega)
  rw [← hln] at d0
  obtain ⟨ns, hns⟩ : ∃ l : List Value, l = [.slice A0 ln c0, .int .i64 0, .int .i64 1] := ⟨_, rfl⟩
  have HNS := qH hns
  have HN3 := qH (show ns.length = 3 by rw [hns]; rfl)
  have HN1 := qH (show ns.all (·.oneCell') = true by rw [hns]; rfl)
  have HBN := qH (show Try.prog.built 24 [(0, .slice A0 ln c0), (1, .int .i64 0), (2, .int .i64 1)] = some ns.toArray by rw [hns]; exact builtNf _ _ _ _ _)
  clear hp5 hb hd hdB hdl hln hns hF hF2 hFF
  go_wp2_with (first
   | ((with_reducible refine atDst 23 ?_); refine wpList_bld rfl 24 _ rfl ns HBN.out ?_; (try simp only [Act.put, qA, qB, qC]))
   | ((with_reducible refine atStore 24 2 23 ?_); refine wpList_stBlk rfl 24 _ _ rfl w1.heap.size ns rfl rfl 24 _ L5.out (size_nfa HN3.out) (by rw [HZL.out, HN3.out]) HN1.out B5.out (Nat.le_of_lt HLW.out) ?_; intro w6 hk hb hs ho; have L6 := qH hk; have B6 := qH hb; have O6 := qH ho; have S6 := qH hs; clear hk hb hs ho; (try simp only [Act.put, qA, qB, qC])))
  refine bodyPost_ret (results_blk2 rfl _ _ w1.heap.size 24 _ _ _ rfl rfl L6.out Try.underlying24 rfl (size_nfa HN3.out)) rfl ?_
  refine ⟨ns, by rw [HM0.out]; rfl, ⟨fun _ => ?_, fun h => absurd (HMM.out.trans HM0.out) h⟩, B6.out⟩
  rw [← HF.out, HNS.out, HLN.out]
  exact bld_nfa (X5.out.stay fun k hk => O6.out k (XD.out k hk)) 0 1
 ·have n1 : (m != 0) = true := by simp [h0]
  have HM0 := qH h0
  clear h0
  go_wp2_with (first
   | ((with_reducible refine atDst 12 ?_); refine wpList_bld rfl 24 _ rfl zz HB0.out ?_; (try simp only [Act.put, qA, qB, qC]))
   | ((with_reducible refine atStore 24 2 12 ?_); refine wpList_stBlk rfl 24 _ _ rfl w1.heap.size zz rfl rfl 24 _ L3.out (size_nfa HZL.out) rfl HZ1.out B3.out (Nat.le_of_lt HLW.out) ?_; intro w6 hk hb hs ho; have L6 := qH hk; have B6 := qH hb; clear hk hb hs ho; (try simp only [Act.put, qA, qB, qC])))
  refine bodyPost_ret (results_blk2 rfl _ _ w1.heap.size 24 _ _ _ rfl rfl L6.out Try.underlying24 rfl (size_nfa HZL.out)) rfl ?_
  exact ⟨zz, rfl, ⟨fun h => absurd (HMM.out.symm.trans h) HM0.out, fun _ => HZZ.out⟩, B6.out⟩
/-! ### plain facts -/
structure GL (n : Nat) (t : Nat → Bool) (L : List Int) : Prop where
 rng : ∀ x ∈ L, 0 ≤ x ∧ x < (n : Int)
 nd : L.Nodup
 is : ∀ i : Nat, i < n → (t i = true ↔ (i : Int) ∈ L)
theorem risJ_nd (t : Nat → Bool) (n : Nat) : (risJ t n).Nodup := List.nodup_iff_pairwise_ne.2 ((risJ_rise t n).imp fun h => Int.ne_of_lt h)
theorem GL.perm {n : Nat} {t : Nat → Bool} {L : List Int} (h : GL n t L) : L.Perm (risJ t n) :=
 (List.perm_ext_iff_of_nodup h.nd (risJ_nd t n)).2 fun x => by
  rw [risJ_mem]
  constructor
  ·intro hx
   obtain ⟨h0, h1⟩ := h.rng x hx
   refine ⟨x.toNat, by omega, by omega, (h.is _ (by omega)).2 ?_⟩
   rwa [Int.toNat_of_nonneg h0]
  ·rintro ⟨i, rfl, hi, ht⟩
   exact (h.is i hi).1 ht
theorem GL.len {n : Nat} {t : Nat → Bool} {L : List Int} (h : GL n t L) : L.length ≤ n := by
 rw [h.perm.length_eq]
 exact risJ_len t n
theorem GL.nil (n : Nat) : GL n (fun _ => false) [] := ⟨fun x h => by simp at h, .nil, fun i _ => by simp⟩
theorem GL.add {n : Nat} {t : Nat → Bool} {L : List Int} (h : GL n t L) {i : Nat} (hi : i < n) (ht : t i = false) : GL n (updB t i true) (L ++ [(i : Int)]) := by
 have hn : (i : Int) ∉ L := fun hm => by have := (h.is i hi).2 hm; rw [ht] at this; cases this
 refine ⟨fun x hx => ?_, ?_, fun j hj => ?_⟩
 ·rcases List.mem_append.1 hx with hx | hx
  ·exact h.rng x hx
  ·obtain rfl := List.mem_singleton.1 hx
   exact ⟨by omega, by omega⟩
 ·refine List.nodup_append.2 ⟨h.nd, by simp, fun a ha b hb hab => ?_⟩
  obtain rfl := List.mem_singleton.1 hb
  exact hn (hab ▸ ha)
 ·unfold updB
  by_cases hji : j = i
  ·subst hji; simp
  ·rw [if_neg hji, h.is j hj, List.mem_append, List.mem_singleton]
   constructor
   ·exact .inl
   ·rintro (h1 | h1)
    ·exact h1
    ·omega
def addT (n : Nat) (t : Nat → Bool) (x : Int) : Nat → Bool := if 0 ≤ x ∧ x < (n : Int) ∧ t x.toNat = false then updB t x.toNat true else t
def addL (n : Nat) (t : Nat → Bool) (L : List Int) (x : Int) : List Int := if 0 ≤ x ∧ x < (n : Int) ∧ t x.toNat = false then L ++ [x] else L
theorem add_yes {n : Nat} {t : Nat → Bool} {i : Nat} (L : List Int) (hi : i < n) (ht : t i = false) : addT n t (i : Int) = updB t i true ∧ addL n t L (i : Int) = L ++ [(i : Int)] := by
 unfold addT addL
 rw [if_pos ⟨by omega, by omega, by simpa using ht⟩, if_pos ⟨by omega, by omega, by simpa using ht⟩, Int.toNat_natCast]
 exact ⟨rfl, rfl⟩
theorem add_no {n : Nat} {t : Nat → Bool} {x : Int} (L : List Int) (h : ¬ (0 ≤ x ∧ x < (n : Int) ∧ t x.toNat = false)) : addT n t x = t ∧ addL n t L x = L := by
 unfold addT addL
 rw [if_neg h, if_neg h]
 exact ⟨rfl, rfl⟩
theorem addT_iff {n : Nat} {t : Nat → Bool} {x : Int} {j : Nat} (hj : j < n) : addT n t x j = true ↔ t j = true ∨ x = (j : Int) := by
 unfold addT
 by_cases h : 0 ≤ x ∧ x < (n : Int) ∧ t x.toNat = false
 ·rw [if_pos h]
  unfold updB
  by_cases hji : j = x.toNat
  ·rw [if_pos hji]
   simp only [true_iff]
   right; omega
  ·rw [if_neg hji]
   constructor
   ·exact .inl
   ·rintro (h1 | h1)
    ·exact h1
    ·omega
 ·rw [if_neg h]
  constructor
  ·exact .inl
  ·rintro (h1 | h1)
   ·exact h1
   ·subst h1
    cases ht : t j with
    | true => rfl
    | false => exact absurd ⟨by omega, by omega, by simpa using ht⟩ h
theorem addL_app (n : Nat) (t : Nat → Bool) (L : List Int) (x : Int) : ∃ m, addL n t L x = L ++ m := by
 unfold addL
 split
 ·exact ⟨_, rfl⟩
 ·exact ⟨[], by simp⟩
theorem GL.put {n : Nat} {t : Nat → Bool} {L : List Int} (h : GL n t L) (x : Int) : GL n (addT n t x) (addL n t L x) := by
 by_cases hc : 0 ≤ x ∧ x < (n : Int) ∧ t x.toNat = false
 ·obtain ⟨i, rfl⟩ : ∃ i : Nat, x = (i : Int) := ⟨x.toNat, by omega⟩
  have ht : t i = false := by simpa using hc.2.2
  obtain ⟨e1, e2⟩ := add_yes (n := n) L (by omega) ht
  rw [e1, e2]
  exact h.add (by omega) ht
 ·obtain ⟨e1, e2⟩ := add_no (n := n) (t := t) L hc
  rw [e1, e2]
  exact h
/-! ### how it lies -/
def gcl (A : Option Addr) (n cap : Nat) (a z : Int) (h : Nat) (lv : Value) : List Value := [.slice A n cap, .int .i64 a, .int .i64 z, .slice (some ⟨h, 0, none⟩) n n, lv]
structure GrpV (w : World) (B g h : Nat) (A : Option Addr) (n cap : Nat) (a z : Int) (t : Nat → Bool) (lv : Value) (L : List Int) : Prop where
 blk : Blk w g 68 (gcl A n cap a z h lv)
 marks : Blk w h 4 (bcs n t)
 own : w.ownsRow B 3 1 lv L.length (nums .i64 L)
 gB : B ≤ g
 hB : B ≤ h
 gh : g ≠ h
 lg : lv.ownBlock ≠ some g
 lh : lv.ownBlock ≠ some h
 gl : GL n t L
def Gd (g h : Nat) (lv : Value) (k : Nat) : Prop := k = g ∨ k = h ∨ lv.ownBlock = some k
structure GStep (w w' : World) (g h : Nat) (lv lv' : Value) : Prop where
 off : Off (Gd g h lv) w w'
 new : ∀ k, lv'.ownBlock = some k → lv.ownBlock = some k ∨ w.heap.size ≤ k
section
variable {w w' w'' : World} {B g h n cap : Nat} {A : Option Addr} {a z : Int} {t : Nat → Bool} {lv lv' lv'' : Value} {L : List Int}
theorem GStep.refl (w : World) (g h : Nat) (lv : Value) : GStep w w g h lv lv := ⟨Off.refl _ _, fun k hk => .inl hk⟩
theorem GStep.trans (x : GStep w w' g h lv lv') (y : GStep w' w'' g h lv' lv'') : GStep w w'' g h lv lv'' := by
 refine ⟨⟨y.off.os.trans x.off.os, y.off.tape.trans x.off.tape, y.off.output.trans x.off.output, Nat.le_trans x.off.size y.off.size, fun k hk hn => ?_⟩, fun k hk => ?_⟩
 ·refine (y.off.block k (Nat.lt_of_lt_of_le hk x.off.size) fun hd => ?_).trans (x.off.block k hk hn)
  rcases hd with e | e | e
  ·exact hn (.inl e)
  ·exact hn (.inr (.inl e))
  ·rcases x.new k e with e | e
   ·exact hn (.inr (.inr e))
   ·omega
 ·rcases y.new k hk with e | e
  ·exact x.new k e
  ·exact .inr (Nat.le_trans x.off.size e)
theorem GStep.of (hb : Below w.heap.size w w') (g h : Nat) (lv : Value) : GStep w w' g h lv lv := ⟨Off.new _ hb, fun k hk => .inl hk⟩
theorem GrpV.gd (x : GrpV w B g h A n cap a z t lv L) {k : Nat} (hk : Gd g h lv k) : B ≤ k := by
 rcases hk with rfl | rfl | hk
 ·exact x.gB
 ·exact x.hB
 ·exact own_above x.own k hk
theorem GrpV.lts (x : GrpV w B g h A n cap a z t lv L) {k : Nat} (hk : Gd g h lv k) : k < w.heap.size := by
 rcases hk with rfl | rfl | hk
 ·exact x.blk.lt
 ·exact x.marks.lt
 ·exact (own6_lt x.own k hk).1
theorem GStep.below (y : GStep w w' g h lv lv') (x : GrpV w B g h A n cap a z t lv L) (hB : B ≤ w.heap.size) : Below B w w' := y.off.below (fun k hk => x.gd hk) hB
theorem GrpV.stay (x : GrpV w B g h A n cap a z t lv L) (hk : ∀ k, Gd g h lv k → w'.heap[k]? = w.heap[k]?) : GrpV w' B g h A n cap a z t lv L :=
 ⟨(hk g (.inl rfl)).trans x.blk, (hk h (.inr (.inl rfl))).trans x.marks, own6_stay x.own fun j hj => hk j (.inr (.inr hj)), x.gB, x.hB, x.gh, x.lg, x.lh, x.gl⟩
theorem GrpV.below (x : GrpV w B g h A n cap a z t lv L) (hb : Below w.heap.size w w') : GrpV w' B g h A n cap a z t lv L := x.stay fun k hk => hb.block k (x.lts hk)
end
set_option maxHeartbeats 4000000 in
set_option maxRecDepth 1000000 in
theorem has_any (A : Option Addr) (n cap : Nat) (a z x : Int) (hn : n ≤ maxLen) (w : World) (q : Bool) (hq : decide (0 ≤ x ∧ x < (n : Int)) = q) :
  Calls Try.prog 34 #[.agg #[.slice A n cap, .int .i64 a, .int .i64 z], .int .i64 x] w fun e w' => e = .returned (.bool q) ∧ Below w.heap.size w w' := by
 go_enter Try.func34, Try.ntmps34
 by_cases h0 : 0 ≤ x
 ·have h1 : x ≥ 0 := h0
  by_cases h2 : x < (n : Int)
  ·have HT := qH (show q = true by rw [← hq]; exact decide_eq_true ⟨h0, h2⟩)
   clear hq
   go_wp2_with ((with_reducible refine atDst 2 ?_); refine wpList_box rfl 24 _ rfl [.slice A n cap, .int .i64 a, .int .i64 z] rfl (Below.refl w.heap.size w) (Nat.le_refl _) ?_; intro w1 hk1 hb1 hs1 _; have K1 := qH hk1; have B1 := qH hb1; have c0 := hk1.cell 0; clear hk1 hb1 hs1; (try simp only [Act.put, qA, qB, qC]))
   go_ret
   rw [HT.out]
   exact ⟨rfl, B1.out⟩
  ·have HT := qH (show q = false by rw [← hq]; exact decide_eq_false fun h => h2 h.2)
   clear hq
   go_wp2_with ((with_reducible refine atDst 2 ?_); refine wpList_box rfl 24 _ rfl [.slice A n cap, .int .i64 a, .int .i64 z] rfl (Below.refl w.heap.size w) (Nat.le_refl _) ?_; intro w1 hk1 hb1 hs1 _; have K1 := qH hk1; have B1 := qH hb1; have c0 := hk1.cell 0; clear hk1 hb1 hs1; (try simp only [Act.put, qA, qB, qC]))
   go_ret
   rw [HT.out]
   exact ⟨rfl, B1.out⟩
 ·have h1 : ¬ (x ≥ 0) := h0
  have HT := qH (show q = false by rw [← hq]; exact decide_eq_false fun h => h0 h.1)
  clear hq
  go_wp2_with ((with_reducible refine atDst 2 ?_); refine wpList_box rfl 24 _ rfl [.slice A n cap, .int .i64 a, .int .i64 z] rfl (Below.refl w.heap.size w) (Nat.le_refl _) ?_; intro w1 hk1 hb1 hs1 _; have K1 := qH hk1; have B1 := qH hb1; have c0 := hk1.cell 0; clear hk1 hb1 hs1; (try simp only [Act.put, qA, qB, qC]))
  go_ret
  rw [HT.out]
  exact ⟨rfl, B1.out⟩
theorem gcl_range {w : World} {g : Nat} {t : TypeId} {A : Option Addr} {n cap h : Nat} {a z : Int} {lv : Value} (hb : Blk w g t (gcl A n cap a z h lv)) : w.rangeAt g 0 [.slice A n cap, .int .i64 a, .int .i64 z] := fun j v hv => by
 rw [Nat.zero_add, hb.cell]
 match j with
 | 0 => exact hv
 | 1 => exact hv
 | 2 => exact hv
 | k + 3 => simp at hv
section
variable {w w2 w4 w5 : World} {B g h n cap : Nat} {A : Option Addr} {a z : Int} {t : Nat → Bool} {lv : Value} {L : List Int}
theorem gAdd_mid (x : GrpV w2 B g h A n cap a z t lv L) (i : Nat) :
  Blk (w2.setCell ⟨h, i, none⟩ (.bool true)) g 68 (gcl A n cap a z h lv) ∧ Blk (w2.setCell ⟨h, i, none⟩ (.bool true)) h 4 (bcs n (updB t i true)) ∧
   (w2.setCell ⟨h, i, none⟩ (.bool true)).ownsRow B 3 1 lv L.length (nums .i64 L) ∧ Off (Gd g h lv) w2 (w2.setCell ⟨h, i, none⟩ (.bool true)) := by
 refine ⟨x.blk.far (p := ⟨h, i, none⟩) x.gh _, ?_, own6_stay x.own fun j hj => Below.heap_setCell w2 ⟨h, i, none⟩ _ j ?_, Off.set w2 i _ (.inr (.inl rfl))⟩
 ·have := x.marks.set i (.bool true)
  rw [bcs_set] at this
  exact this
 ·intro e
  subst e
  exact x.lh hj
theorem gAdd_end {v5 : Value} {i : Nat} (hi : i < n) (ht : t i = false) (b2 : Below w.heap.size w w2) (x : GrpV w2 B g h A n cap a z t lv L)
  (m : Blk (w2.setCell ⟨h, i, none⟩ (.bool true)) g 68 (gcl A n cap a z h lv) ∧ Blk (w2.setCell ⟨h, i, none⟩ (.bool true)) h 4 (bcs n (updB t i true)) ∧
   (w2.setCell ⟨h, i, none⟩ (.bool true)).ownsRow B 3 1 lv L.length (nums .i64 L) ∧ Off (Gd g h lv) w2 (w2.setCell ⟨h, i, none⟩ (.bool true)))
  (b4 : Below (w2.setCell ⟨h, i, none⟩ (.bool true)).heap.size (w2.setCell ⟨h, i, none⟩ (.bool true)) w4)
  (ho : w5.ownsRow B 3 1 v5 (L.length + (nums .i64 [(i : Int)]).length) (nums .i64 L ++ nums .i64 [(i : Int)])) (hg : w4.grownBy w5 lv.ownBlock) (hw : ∀ k, v5.ownBlock = some k → lv.ownBlock = some k ∨ w4.heap.size ≤ k) :
  w5.cell? ⟨g, 4, none⟩ = some lv ∧ w5.frozen? ⟨g, 4, none⟩ = false ∧ GrpV (w5.setCell ⟨g, 4, none⟩ v5) B g h A n cap a z (updB t i true) v5 (L ++ [(i : Int)]) ∧ GStep w (w5.setCell ⟨g, 4, none⟩ v5) g h lv v5 := by
 obtain ⟨m1, m2, m3, m4⟩ := m
 have hs : w2.heap.size ≤ w4.heap.size := Nat.le_trans m4.size b4.size
 have g5 : Blk w5 g 68 (gcl A n cap a z h lv) := (m1.below b4 m1.lt).grown hg fun e => x.lg e.symm
 have h5 : Blk w5 h 4 (bcs n (updB t i true)) := (m2.below b4 m2.lt).grown hg fun e => x.lh e.symm
 have n5g : v5.ownBlock ≠ some g := fun e => by
  rcases hw g e with e | e
  ·exact x.lg e
  ·have := x.blk.lt; omega
 have n5h : v5.ownBlock ≠ some h := fun e => by
  rcases hw h e with e | e
  ·exact x.lh e
  ·have := x.marks.lt; omega
 have hoff : Off (Gd g h lv) w2 w5 := (m4.trans (Off.new _ b4)).trans (Off.grown hg fun k hk => .inr (.inr (.inr hk)))
 refine ⟨g5.cell 4, g5.frozen 4, ⟨g5.set 4 v5, h5.far (p := ⟨g, 4, none⟩) x.gh.symm _, ?_, x.gB, x.hB, x.gh, n5g, n5h, x.gl.add hi ht⟩, ⟨(Off.new _ b2).trans (hoff.trans (Off.set w5 4 v5 (.inl rfl))), fun k hk => ?_⟩⟩
 ·rw [List.length_append, nums_append]
  exact own6_stay ho fun j hj => Below.heap_setCell w5 ⟨g, 4, none⟩ _ j (by rintro rfl; exact n5g hj)
 ·rcases hw k hk with e | e
  ·exact .inl e
  ·exact .inr (by have := b2.size; omega)
end
set_option maxHeartbeats 4000000 in
set_option maxRecDepth 1000000 in
theorem gAdd_any {B g h n cap : Nat} {A : Option Addr} {a z : Int} {t : Nat → Bool} {lv : Value} {L : List Int} (x : Int) (w : World) (hg : GrpV w B g h A n cap a z t lv L) (hn : n ≤ 2000) (hB : B ≤ w.heap.size) :
  Calls Try.prog 36 #[.pointer (some ⟨g, 0, none⟩), .int .i64 x] w fun e w' => e = .returned (.tuple #[]) ∧ ∃ lv', GrpV w' B g h A n cap a z (addT n t x) lv' (addL n t L x) ∧ GStep w w' g h lv lv' := by
 have G := qH hg
 have HN := qH hn
 have HB := qH hB
 have HRG := qH (gcl_range hg.blk)
 obtain ⟨i1, hi1, hy0, hy1, hy2⟩ := infoP inf_int
 clear hg hn hB
 go_enter Try.func36, Try.ntmps36
 go_wp2_with ((with_reducible refine atDst 7 ?_); refine wpList_load_mid rfl 24 _ rfl g 0 rfl [.slice A n cap, .int .i64 a, .int .i64 z] _ HRG.out Try.underlying24 rfl (size_nfa rfl) ?_; (try simp only [Act.put, qA, qB, qC]))
 obtain ⟨q, hq⟩ : ∃ q, decide (0 ≤ x ∧ x < (n : Int)) = q := ⟨_, rfl⟩
 have HQ := qH hq
 refine (has_any A n cap a z x (by have := HN.out; unfold maxLen; omega) w q hq).mono ?_
 rintro e w2 ⟨rfl, hb⟩
 have B2 := qH hb
 have G2 := qH (G.out.below hb)
 have c3 := G2.out.blk.cell 3
 have c4 := G2.out.blk.cell 4
 have fz := G2.out.blk.frozen 4
 clear hb hq
 simp only [gcl] at c3 c4
 cases q with
 | false =>
  have HA := qH (add_no (n := n) (t := t) L fun h => by have := of_decide_eq_false HQ.out; exact this ⟨h.1, h.2.1⟩)
  go_wp2_with fail
  go_end0
  rw [HA.out.1, HA.out.2]
  exact ⟨rfl, _, G2.out, GStep.of B2.out _ _ _⟩
 | true =>
  have hx := of_decide_eq_true HQ.out
  obtain ⟨i, rfl⟩ : ∃ i : Nat, x = (i : Int) := ⟨x.toNat, by omega⟩
  have HI := qH (show i < n by omega)
  have i1' : (i : Int) < (n : Int) := by have := HI.out; omega
  have cm := G2.out.marks.cell i
  rw [bcs_get _ HI.out] at cm
  obtain ⟨b, hb⟩ : ∃ b, t i = b := ⟨_, rfl⟩
  rw [hb] at cm
  have HT := qH hb
  clear hx hb
  cases b with
  | true =>
   have HA := qH (add_no (n := n) (t := t) (x := (i : Int)) L fun h => by have h9 := h.2.2; rw [Int.toNat_natCast, HT.out] at h9; cases h9)
   go_wp2_with fail
   go_end0
   rw [HA.out.1, HA.out.2]
   exact ⟨rfl, _, G2.out, GStep.of B2.out _ _ _⟩
  | false =>
   have HA := qH (add_yes L HI.out HT.out)
   have fm := G2.out.marks.frozen i
   have M3 := qH (gAdd_mid G2.out i)
   have d4 := M3.out.1.cell 4
   simp only [gcl, List.getElem?_cons_succ, List.getElem?_cons_zero] at d4
   have HLN := qH G2.out.gl.len
   have HBS := qH (show B ≤ (w2.setCell ⟨h, i, none⟩ (.bool true)).heap.size by have := HB.out; have := B2.out.size; simp; omega)
   go_wp2_with (first
    | ((with_reducible refine atDst 32 ?_); refine wpList_plain rfl fun K hK => wp_bldI 25 3 (.tmp 31) rfl i1 Try.underlying25 hi1 0 hy0 hy1 (i : Int) rfl ?_; intro w4 hr4 hb4; have R4 := qH hr4; have B4 := qH hb4; clear hr4 hb4; refine hK _ _ ?_; clear hK K; (try simp only [Act.put, qA, qB, qC]))
    | ((with_reducible refine atDst 33 ?_); refine wpList_appW rfl (.tmp 30) (.tmp 32) 25 rfl 3 i1 (.int .i64 0) 8 Try.underlying25 hi1 hy0 hy1 hy2 rfl lv L.length (nums .i64 L) rfl (ownBelow M3.out.2.2.1 B4.out (Nat.le_refl _)) _ (nums .i64 [(i : Int)]) rfl R4.out (nums_one _ _) (by have := HLN.out; have := HN.out; rw [nums_length .i64 [(i : Int)]]; simp only [List.length_singleton]; omega) (by omega) (Nat.le_trans HBS.out B4.out.size) ?_; intro v5 w5 ho5 hg5 hw5; obtain ⟨A5, c5, rfl, _⟩ := Row.of_own ho5; generalize (nums .i64 L ++ nums .i64 [(i : Int)]).length = n5 at ho5 hg5 hw5 ⊢; have O5 := qH (gAdd_end HI.out HT.out B2.out G2.out M3.out B4.out ho5 hg5 hw5); have e5 := O5.out.1; have f5 := O5.out.2.1; clear ho5 hg5 hw5; (try simp only [Act.put, qA, qB, qC])))
   go_end0
   rw [HA.out.1, HA.out.2]
   exact ⟨rfl, _, O5.out.2.2⟩
section
variable {P : Program} {o : Oper} {a : Act} {w : World} {K : Act → World → Prop} {Q : Exit → Act → World → Prop}
theorem wp_mk (l c : Operand) (t : TypeId) (hop : o.op = Op.makeSlice t l c)
  (e : TypeId) (i : TypeInfo) (z : Value) (h1 : P.underlying t = some (.slice e)) (h2 : P.info? e = some i) (h3 : i.zero = some z) (h4 : i.size = 1) (hz : z.cells = #[z])
  (n : Nat) (hl : a.eval l = .int .i64 (n : Int)) (hc : a.eval c = .int .i64 (n : Int)) (b2 : i.bytes * n ≤ 281474976710656) (b3 : n ≤ 9223372036854775807)
  (hK : ∀ w', Blk w' w.heap.size e (List.replicate n z) → Below w.heap.size w w' → w.heap.size < w'.heap.size → K (a.put o.dst (.slice (some ⟨w.heap.size, 0, none⟩) n n)) w') : o.wp P a w K Q := by
 have hb : (i.bytes : Int) * (n : Int) ≤ 281474976710656 := by
  have h : ((i.bytes * n : Nat) : Int) ≤ 281474976710656 := by omega
  rwa [Int.natCast_mul] at h
 have hrun := run_make (P := P) w t e i z h1 h2 h3 .i64 .i64 n n (by omega) (Int.le_refl _) hb (by omega)
 simp only [Int.toNat_natCast, h4, Nat.mul_one] at hrun
 unfold Oper.wp
 simp [execOp, hop, hl, hc, hrun, Result.andThen]
 refine hK _ ?_ ((Below.refl _ _).alloc (Nat.le_refl _) _) (by simp)
 have he : madeCells z.cells n = (List.replicate n z).toArray := by
  apply Array.ext'
  rw [hz]
  simp only [madeCells, Array.toList_map, Array.toList_range]
  apply List.ext_getElem
  ·simp
  ·intro j h1 h2
   simp [Nat.mod_one]
 rw [he]
 exact Blk.new w e _
theorem wp_box (ty : TypeId) (x : Operand) (ho : o.op = .box ty x) (cs : List Value) (hx : a.eval x = .agg cs.toArray)
  (h : ∀ w', Blk w' w.heap.size ty cs → Below w.heap.size w w' → w'.heap.size = w.heap.size + 1 → K (a.put o.dst (.pointer (some ⟨w.heap.size, 0, none⟩))) w') : o.wp P a w K Q := by
 unfold Oper.wp
 have hrun : (Instr.box ty (.agg cs.toArray)).run P w = .ok (.pointer (some ⟨w.heap.size, 0, none⟩)) (w.alloc (.cells cs.toArray ty)) := by
  simp [Instr.box, newVar, Value.cells, run_newRow_blk]
 simp only [execOp, ho, hx, hrun, Sem.run_bind, Result.andThen_ok, Sem.run_pure]
 exact h _ (Blk.new w ty cs) ((Below.refl _ _).alloc (Nat.le_refl _) _) (by simp)
end
set_option maxHeartbeats 4000000 in
set_option maxRecDepth 1000000 in
theorem newGroup_any (A : Option Addr) (n cap : Nat) (a z : Int) (hn : n ≤ 2000) (w : World) :
  Calls Try.prog 35 #[.agg #[.slice A n cap, .int .i64 a, .int .i64 z]] w fun e w' => ∃ g h, e = .returned (.pointer (some ⟨g, 0, none⟩)) ∧ GrpV w' w.heap.size g h A n cap a z (fun _ => false) (.slice none 0 0) [] ∧ Below w.heap.size w w' := by
 have HN := qH hn
 obtain ⟨i2, hi2, hz2, hs2, hy2⟩ := infoP inf_bool
 have HY2 := qH (show i2.bytes * n ≤ 281474976710656 by rw [hy2]; omega)
 have HN3 := qH (show n ≤ 9223372036854775807 by omega)
 clear hn hy2
 go_enter Try.func35, Try.ntmps35
 go_wp2_with ((with_reducible refine atDst 1 ?_); refine wpList_box rfl 24 _ rfl [.slice A n cap, .int .i64 a, .int .i64 z] rfl (Below.refl w.heap.size w) (Nat.le_refl _) ?_; intro w1 hk1 hb1 hs1 _; have K1 := qH hk1; have B1 := qH hb1; clear hk1 hb1 hs1; (try simp only [Act.put, qA, qB, qC]))
 have HC0 := qH (K1.out.cell 0)
 have HKL := qH K1.out.lt
 refine sx_startB (B := w1.heap.size) (w0 := w1) (by kernel_rfl) (Below.refl _ _) (fun wd hwd hX => ?_)
 clear hwd
 refine sx_take (i := 0) (oi := ⟨some 3, _, _, _, _, _⟩) (v := .agg #[.slice A n cap, .int .i64 a, .int .i64 z]) rfl (by kernel_rfl) (by kernel_rfl) (by kernel_rfl) (fun _ _ _ h => h) rfl hX (ld_blk 24 _ rfl w.heap.size rfl 24 [.slice A n cap, .int .i64 a, .int .i64 z] _ K1.out K1.out.lt Try.underlying24 rfl (size_nfa rfl)) ?_; simp only [Act.put, qA, qB, qC]
 refine sx_take (i := 1) (oi := ⟨some 4, _, _, _, _, _⟩) (v := ?_) rfl (by kernel_rfl) (by kernel_rfl) (by kernel_rfl) (fun _ _ _ h => h) rfl hX ?_ ?_; rotate_left; (intro W hW; go_simp; try with_reducible rfl); simp only [Act.put, qA, qB, qC]
 refine sx_take (i := 2) (oi := ⟨some 5, _, _, _, _, _⟩) (v := .slice A n cap) rfl (by kernel_rfl) (by kernel_rfl) (by kernel_rfl) (fun _ _ _ h => h) rfl hX (fun W hW => ld_sts (.tmp 4) rfl rfl ((hW.cell (p := ⟨w.heap.size, 0, none⟩) HKL.out).trans HC0.out)) ?_; simp only [Act.put, qA, qB, qC]
 refine sx_take (i := 3) (oi := ⟨some 6, _, _, _, _, _⟩) (v := ?_) rfl (by kernel_rfl) (by kernel_rfl) (by kernel_rfl) (fun _ _ _ h => h) rfl hX ?_ ?_; rotate_left; (intro W hW; go_simp; try with_reducible rfl); simp only [Act.put, qA, qB, qC]
 refine sx_actB (i := 4) (o := ⟨some 7, _, _, _, _, _⟩) rfl (by kernel_rfl) rfl hX (fun K hK => ?_)
 refine wp_mk _ _ 66 rfl 4 i2 (.bool false) Try.underlying66 hi2 hz2 hs2 rfl n rfl rfl HY2.out HN3.out ?_
 intro w3 hk hb hs
 have T3 := qH hk
 have B3 := qH hb
 refine hK _ _ (hb.mono hX.size) ?_
 clear hK K
 (try simp only [Act.put, qA, qB, qC])
 have HXW := qH hX
 replace hX := hX.trans (hb.mono hX.size)
 clear hk hb hs
 refine sx_take (i := 5) (oi := ⟨some 8, _, _, _, _, _⟩) (v := .agg (gcl A n cap a z wd.heap.size (.slice none 0 0)).toArray) rfl (by kernel_rfl) (by kernel_rfl) (by kernel_rfl) (fun _ _ _ h => h) rfl hX (fun W _ => by (go_simp; try rfl)) ?_; simp only [Act.put, qA, qB, qC]
 refine sx_actB (i := 6) (o := ⟨some 9, _, _, _, _, _⟩) rfl (by kernel_rfl) rfl hX (fun K hK => ?_)
 refine wp_box 68 _ rfl (gcl A n cap a z wd.heap.size (.slice none 0 0)) rfl ?_
 intro w4 hk hb hs
 have K4 := qH hk
 have B4 := qH hb
 refine hK _ _ (hb.mono hX.size) ?_
 clear hK K
 (try simp only [Act.put, qA, qB, qC])
 replace hX := hX.trans (hb.mono hX.size)
 have GE := qH (show GrpV w4 w.heap.size w3.heap.size wd.heap.size A n cap a z (fun _ => false) (.slice none 0 0) [] from
  ⟨hk, by rw [← bcs_no]; exact (T3.out.below hb T3.out.lt), ownN _ _ _, by have := HKL.out; have := HXW.out.size; have := B3.out.size; omega, by have := HKL.out; have := HXW.out.size; omega, by have := T3.out.lt; omega, (fun h => by cases h), (fun h => by cases h), GL.nil n⟩)
 have BE := qH (B1.out.trans (hX.mono B1.out.size))
 clear hk hb hs
 refine sx_take (i := 7) (oi := ⟨some 2, _, _, _, _, _⟩) (v := ?_) rfl (by kernel_rfl) (by kernel_rfl) (by kernel_rfl) (fun _ _ _ h => h) rfl hX ?_ ?_; rotate_left; (intro W hW; go_simp; try with_reducible rfl); simp only [Act.put, qA, qB, qC]
 refine wpAnyH_done (by kernel_rfl) ?_ _
 clear hX
 go_wp2_with fail
 go_ret
 exact ⟨_, _, rfl, GE.out, BE.out⟩
end Go.Proofs.Ytmcpfaaakmehdaa
