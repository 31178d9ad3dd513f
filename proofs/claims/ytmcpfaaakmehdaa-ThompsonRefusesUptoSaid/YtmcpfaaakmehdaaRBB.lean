/-
  Texts of this proof, put together: TbK, LiG, RmF, ThV, TbL. No statement is proved here.
-/
import Derived.Test.YtmcpfaaakmehdaaRY
import Derived.Test.YtmcpfaaakmehdaaRBA
import Derived.Lib.SlBytesConst
import Derived.Test.YtmcpfaaakmehdaaRC
import Derived.Test.YtmcpfaaakmehdaaRD
import Derived.Test.YtmcpfaaakmehdaaRA
import Derived.Test.YtmcpfaaakmehdaaRR
namespace Go.Proofs.Ytmcpfaaakmehdaa
open Go.RowKit
set_option linter.unusedSimpArgs false
set_option linter.unusedVariables false
def aS9 : Nat → Bool := listS [97]
theorem a9_shape : bytesT aS9 = .node 3 aS9 [] := by
 unfold bytesT
 rw [if_neg (by decide +kernel)]
theorem a9_nodes : (bytesT aS9).nodes = 1 := by rw [a9_shape]; rfl
theorem a9_may : mayE (bytesT aS9) = 0 := by
 have hg := good_bytes (s := aS9) (can_list (by intro x hx; simp at hx; omega))
 have hd : (bytesT aS9).depth = 1 := by rw [a9_shape]; rfl
 unfold mayE
 rw [a9_nodes, hd, if_neg (by decide), if_neg (by decide), hg.2]
 rfl
theorem a9_yes : runN (fragT (bytesT aS9) 0 []) 0 1 [UInt8.ofNat 97] = true := by
 have hok := mayE_ok a9_may
 exact (frag_runB hok.1 hok.2.2 _).2 ((lg_bytes _ _).2 ⟨97, rfl, by decide +kernel⟩)
theorem a9_no : runN (fragT (bytesT aS9) 0 []) 0 1 [] = false := by
 have hok := mayE_ok a9_may
 cases h : runN (fragT (bytesT aS9) 0 []) 0 1 [] with
 | false => rfl
 | true =>
  obtain ⟨b, hb, _⟩ := (lg_bytes _ _).1 ((frag_runB hok.1 hok.2.2 _).1 h)
  cases hb
theorem row_mark9 {w : World} {g n : Nat} {t : TypeId} {cs : List Value} {m : Nat × Nat} (h : w.heap[g]? = some (.cells cs.toArray t m)) (hn : cs.length = n) (hl : n ≤ 1048576) : Row w (.slice (some ⟨g, 0, none⟩) n n) cs := by
 subst hn
 have hlt : g < w.heap.size := (Array.getElem?_eq_some_iff.1 h).1
 refine ⟨_, _, rfl, Nat.le_refl _, by unfold maxLen; omega, (fun h => by cases h), fun _ => ⟨g, 0, rfl, hlt, fun i u hu => ?_⟩⟩
 rw [Nat.zero_add, cell_of_row _ _ i cs.toArray t m h]
 simpa using hu
theorem cls_pos {S : List St} {a : Nat} (h : a < S.length) : 0 < (clsN S [(a : Int)]).length := by
 have : (a : Int) ∈ clsN S [(a : Int)] := clsN_mem.2 (.base (by unfold ofL; simp) h)
 exact List.length_pos_of_mem this
set_option maxHeartbeats 4000000 in
set_option maxRecDepth 1000000 in
theorem begun_any (w : World) : Calls Try.prog 9 #[] w fun e w' => e = .returned (.bool true) ∧ Below w.heap.size w w' := by
 obtain ⟨q, hq⟩ : ∃ q, q = aS9 := ⟨_, rfl⟩
 have HQ := qH (show q = listS [97] from hq)
 obtain ⟨tx, htx⟩ : ∃ t, t = bytesT q := ⟨_, rfl⟩
 have HTX := qH htx
 have HM := qH (show mayE tx = 0 by rw [htx, hq]; exact a9_may)
 have HN := qH (show tx.nodes = 1 by rw [htx, hq]; exact a9_nodes)
 obtain ⟨F, hF⟩ : ∃ F, F = fragT tx 0 [] := ⟨_, rfl⟩
 have HFF := qH hF
 have HMF := qH (show mayNB F 0 1 = true by rw [hF]; exact mayNB_yes (frag_may (by have := HN.out; omega)))
 have HR1 := qH (show runB F 0 1 [UInt8.ofNat 97] = true by unfold runB; rw [HMF.out, hF, htx, hq, a9_yes]; rfl)
 have HR0 := qH (show runB F 0 1 [] = false by unfold runB; rw [hF, htx, hq, a9_no]; simp)
 have HC := qH (show 0 < (cloN F 0 1 [0]).length by
  rw [cloN_yes HMF.out]
  exact cls_pos (a := 0) (by have := (mayNB_iff.1 HMF.out).a1; omega))
 obtain ⟨i0, hi0, hz0, hs0, hy0⟩ := infoP inf_nfa
 obtain ⟨i1, hi1, hy1, hy2, hy3⟩ := infoP inf_int
 obtain ⟨zz, hzz⟩ : ∃ z : List Value, z = [.slice none 0 0, .int .i64 0, .int .i64 0] := ⟨_, rfl⟩
 have HZL := qH (show zz.length = 3 by rw [hzz]; rfl)
 have HZ0 := qH (show i0.zero = some (.agg zz.toArray) by rw [hzz]; exact hz0)
 clear hzz hz0 hs0 hy0 hF htx hq
 go_enter Try.func9, Try.ntmps9
 have kc := fun (w : World) (C : Array Value) (n c : Nat) => Lib.run_convert_bytes_const (P := Try.prog) w 26 5 C n c Try.underlying26 Try.underlying5
 go_wp2_with fail
 obtain ⟨w1, hw1⟩ : ∃ w1, w1 = w.alloc (.cells #[.int .u8 97] 5 (1, 2)) := ⟨_, rfl⟩
 have R1 := qH (show Row w1 (.slice (some ⟨w.heap.size, 0, none⟩) 1 1) (bvs [UInt8.ofNat 97]) from by rw [hw1]; exact row_mark9 (heap_alloc_new w _) rfl (by omega))
 have B1 := qH (show Below w.heap.size w w1 by rw [hw1]; exact (Below.refl _ _).alloc (Nat.le_refl _) _)
 rw [← hw1]
 clear hw1
 refine (refOf1 97 (by omega) _ w1 R1.out q HQ.out).mono ?_
 rintro e w2 ⟨rfl, hb⟩
 have B2 := qH (B1.out.trans (hb.mono B1.out.size))
 clear hb
 go_wp2_with fail
 refine (refBytes_any q w2).mono ?_
 rintro e w3 ⟨cs, rfl, hcs, hb⟩
 have B3 := qH (B2.out.trans (hb.mono B2.out.size))
 rw [← HTX.out] at hcs
 have D3 := qH (hcs fun k => k < w3.heap.size)
 clear hcs hb
 go_wp2_with fail
 refine (tBuild_any tx (by have := HN.out; omega) cs w3 D3.out).mono ?_
 rw [HM.out]
 rintro e w4 ⟨ns, rfl, hbt, hb⟩
 have B4 := qH (B3.out.trans (hb.mono B3.out.size))
 have N4 := qH (show NfaV w4 ns F 0 1 by rw [HFF.out]; exact hbt.1 HM.out)
 have HN3 := qH hbt.len
 have HN1 := qH hbt.one
 obtain ⟨Af, cf, hns, _⟩ := N4.out.len
 have C1 := qH (show ns[1]? = some (.int .i64 0) by rw [hns]; rfl)
 clear hbt hb hns
 go_wp2_with (first
  | ((with_reducible refine atDst 1 ?_); refine wpList_new rfl 24 rfl i0 _ zz hi0 HZ0.out rfl (Below.refl w4.heap.size w4) (Nat.le_refl _) ?_; intro w5 hk hb hs ho; have L5 := qH hk; have B5 := qH hb; clear hk hb hs ho; (try simp only [Act.put, qA, qB, qC]))
  | ((with_reducible refine atStore 24 1 9 ?_); refine wpList_stBlk rfl 24 _ _ rfl w4.heap.size ns rfl rfl 24 _ L5.out (size_nfa HN3.out) (by rw [HZL.out, HN3.out]) HN1.out B5.out (Nat.le_refl _) ?_; intro w6 hk hb hs ho; have K6 := qH hk; have N6 := qH (N4.out.below hb); have B6 := qH (B4.out.trans (hb.mono B4.out.size)); clear hk hb hs ho; (try simp only [Act.put, qA, qB, qC]))
  | ((with_reducible refine atDst 14 ?_); refine wpList_ldArr rfl 24 _ rfl w4.heap.size rfl 24 _ _ K6.out Try.underlying24 rfl (size_nfa HN3.out) ?_; (try simp only [Act.put, qA, qB, qC])))
 refine (tMay_any F 0 1 ns w6 N6.out).mono ?_
 rw [HMF.out]
 rintro e w7 ⟨rfl, hb⟩
 have K7 := qH (K6.out.below hb K6.out.lt)
 have N7 := qH (N6.out.below hb)
 have B7 := qH (B6.out.trans (hb.mono B6.out.size))
 clear hb
 go_wp2_with ((with_reducible refine atDst 18 ?_); refine wpList_ldArr rfl 24 _ rfl w4.heap.size rfl 24 _ _ K7.out Try.underlying24 rfl (size_nfa HN3.out) ?_; (try simp only [Act.put, qA, qB, qC]))
 clear kc
 obtain ⟨w8, hw8⟩ : ∃ w1, w1 = w7.alloc (.cells #[.int .u8 97] 5 (1, 2)) := ⟨_, rfl⟩
 have R8 := qH (show Row w8 (.slice (some ⟨w7.heap.size, 0, none⟩) 1 1) (bvs [UInt8.ofNat 97]) from by rw [hw8]; exact row_mark9 (heap_alloc_new w7 _) rfl (by omega))
 have X8 := qH (show Below w7.heap.size w7 w8 by rw [hw8]; exact (Below.refl _ _).alloc (Nat.le_refl _) _)
 rw [← hw8]
 clear hw8
 refine (tRun_any F 0 1 ns [UInt8.ofNat 97] _ w8 (N7.out.below X8.out) R8.out).mono ?_
 rw [HR1.out]
 rintro e w9 ⟨rfl, hb⟩
 have X9 := qH (X8.out.trans (hb.mono X8.out.size))
 have K9 := qH (K7.out.below X9.out K7.out.lt)
 have N9 := qH (N7.out.below X9.out)
 have B9 := qH (B7.out.trans (X9.out.mono B7.out.size))
 clear hb
 go_wp2_with ((with_reducible refine atDst 24 ?_); refine wpList_ldArr rfl 24 _ rfl w4.heap.size rfl 24 _ _ K9.out Try.underlying24 rfl (size_nfa HN3.out) ?_; (try simp only [Act.put, qA, qB, qC]))
 refine (tRun_any F 0 1 ns [] _ w9 N9.out (Row.nil _)).mono ?_
 rw [HR0.out]
 rintro e wA ⟨rfl, hb⟩
 have KA := qH (K9.out.below hb K9.out.lt)
 have NA := qH (N9.out.below hb)
 have BA := qH (B9.out.trans (hb.mono B9.out.size))
 have k1 := (K9.out.below hb K9.out.lt).cell 1
 rw [C1.out] at k1
 clear hb
 go_wp2_with (first
  | ((with_reducible refine atDst 29 ?_); refine wpList_ldArr rfl 24 _ rfl w4.heap.size rfl 24 _ _ KA.out Try.underlying24 rfl (size_nfa HN3.out) ?_; (try simp only [Act.put, qA, qB, qC]))
  | ((with_reducible refine atDst 32 ?_); refine BigFrame.wpList_want rfl fun K hK => wp_bldI 25 3 (.tmp 31) rfl i1 Try.underlying25 hi1 0 hy1 hy2 0 rfl ?_; intro wB hr hb; have RB := qH hr; have NB := qH (NA.out.below hb); have BB := qH (BA.out.trans (hb.mono BA.out.size)); clear hr hb; refine hK _ _ ?_; clear hK K; (try simp only [Act.put, qA, qB, qC])))
 refine (tClose_any F 0 1 ns [0] _ wB NB.out RB.out).mono ?_
 rintro e wC ⟨v, rfl, hr, hb⟩
 obtain ⟨cl, hcl⟩ : ∃ l, cloN F 0 1 [0] = l := ⟨_, rfl⟩
 rw [hcl] at hr HC
 obtain ⟨AC, cC, rfl, _⟩ := hr
 rw [nums_length]
 have BC := qH (BB.out.trans (hb.mono BB.out.size))
 have c0 : (0 : Int) < (cl.length : Int) := Int.natCast_pos.2 HC.out
 clear hb hcl
 have HCN := qH (show decide (0 < cl.length) = true from decide_eq_true HC.out)
 go_wp2_with fail
 go_ret
 exact ⟨congrArg (fun b => Ending.returned (.bool b)) HCN.out, BC.out⟩
set_option maxHeartbeats 4000000 in
set_option maxRecDepth 1000000 in
theorem light_any (t : T) (m : Nat) (hM : t.nodes ≤ 1099511627776) (cs : List Value) (w : World) (hv : RxV w.heap.size w cs t) (b : Bool) (hb : (decide (t.nodes ≤ m) && decide (t.depth ≤ 60)) = b) :
  Calls Try.prog 28 #[.agg cs.toArray, .int .i64 (m : Int)] w fun e w' => e = .returned (.bool b) ∧ Below w.heap.size w w' := by
 have V := qH hv
 have HC6 := qH hv.length
 have HM := qH hM
 obtain ⟨a, ha⟩ : ∃ a, a = t.nodes := ⟨_, rfl⟩
 obtain ⟨d, hd⟩ : ∃ d, d = t.depth := ⟨_, rfl⟩
 rw [← ha, ← hd] at hb
 have HA := qH ha
 have HD := qH hd
 have HB := qH hb
 clear hv hM ha hd hb
 by_cases h1 : a ≤ m
 ·have d1 : (a : Int) ≤ (m : Int) := by omega
  by_cases h2 : d ≤ 60
  ·have d2 : (d : Int) ≤ 60 := by omega
   have HR := qH (show b = true by rw [← HB.out, decide_eq_true h1, decide_eq_true h2]; rfl)
   clear h1 h2
   go_enter Try.func28, Try.ntmps28
   go_wp2_with (first
    | ((with_reducible refine atDst 2 ?_); refine wpList_box rfl 40 _ rfl cs rfl (Below.refl w.heap.size w) (Nat.le_refl _) ?_; intro w1 hk1 hb1 hs1 _; have K1 := qH hk1; have B1 := qH hb1; clear hk1 hb1 hs1; (try simp only [Act.put, qA, qB, qC]))
    | ((with_reducible refine atDst 5 ?_); refine wpList_ldArr rfl 40 _ rfl w.heap.size rfl 40 _ _ K1.out Try.underlying40 rfl (size_rx HC6.out) ?_; (try simp only [Act.put, qA, qB, qC])))
   refine (refNodes_any _ t (Nat.le_refl _) HM.out cs w1 ((V.out.stay B1.out).mono B1.out.size)).mono ?_
   rintro e w2 ⟨rfl, hb⟩
   rw [← HA.out]
   have B2 := qH (B1.out.trans (hb.mono B1.out.size))
   have K2 := qH (K1.out.below hb K1.out.lt)
   clear hb
   go_wp2_with ((with_reducible refine atDst 10 ?_); refine wpList_ldMidG rfl 40 _ rfl w.heap.size 0 rfl cs _ (fun i u hu => by have := K2.out.cell (0 + i); rw [this]; simpa using hu) Try.underlying40 rfl (size_rx HC6.out) ?_; (try simp only [Act.put, qA, qB, qC]))
   refine (refDepth_any _ t (Nat.le_refl _) HM.out cs w2 ((V.out.stay B2.out).mono B2.out.size)).mono ?_
   rintro e w3 ⟨rfl, hb⟩
   rw [← HD.out]
   have B3 := qH (B2.out.trans (hb.mono B2.out.size))
   clear hb
   go_wp2_with fail
   go_ret
   rw [HR.out]
   exact ⟨rfl, B3.out⟩
  ·have d2 : ¬ ((d : Int) ≤ 60) := by omega
   have HR := qH (show b = false by rw [← HB.out, decide_eq_false h2]; simp)
   have HD2 := qH d2
   clear h1 h2
   go_enter Try.func28, Try.ntmps28
   go_wp2_with (first
    | ((with_reducible refine atDst 2 ?_); refine wpList_box rfl 40 _ rfl cs rfl (Below.refl w.heap.size w) (Nat.le_refl _) ?_; intro w1 hk1 hb1 hs1 _; have K1 := qH hk1; have B1 := qH hb1; clear hk1 hb1 hs1; (try simp only [Act.put, qA, qB, qC]))
    | ((with_reducible refine atDst 5 ?_); refine wpList_ldArr rfl 40 _ rfl w.heap.size rfl 40 _ _ K1.out Try.underlying40 rfl (size_rx HC6.out) ?_; (try simp only [Act.put, qA, qB, qC])))
   refine (refNodes_any _ t (Nat.le_refl _) HM.out cs w1 ((V.out.stay B1.out).mono B1.out.size)).mono ?_
   rintro e w2 ⟨rfl, hb⟩
   rw [← HA.out]
   have B2 := qH (B1.out.trans (hb.mono B1.out.size))
   have K2 := qH (K1.out.below hb K1.out.lt)
   clear hb
   go_wp2_with ((with_reducible refine atDst 10 ?_); refine wpList_ldMidG rfl 40 _ rfl w.heap.size 0 rfl cs _ (fun i u hu => by have := K2.out.cell (0 + i); rw [this]; simpa using hu) Try.underlying40 rfl (size_rx HC6.out) ?_; (try simp only [Act.put, qA, qB, qC]))
   refine (refDepth_any _ t (Nat.le_refl _) HM.out cs w2 ((V.out.stay B2.out).mono B2.out.size)).mono ?_
   rintro e w3 ⟨rfl, hb⟩
   rw [← HD.out]
   have B3 := qH (B2.out.trans (hb.mono B2.out.size))
   clear hb
   go_wp2_with fail
   go_ret
   rw [HR.out]
   refine ⟨?_, B3.out⟩
   show Ending.returned (Value.bool (decide ((d : Int) ≤ 60))) = _
   rw [decide_eq_false (show ¬ ((d : Int) ≤ 60) from by have := HD2.out; omega)]
 ·have d1 : ¬ ((a : Int) ≤ (m : Int)) := by omega
  have HR := qH (show b = false by rw [← HB.out, decide_eq_false h1]; simp)
  clear h1
  go_enter Try.func28, Try.ntmps28
  go_wp2_with (first
   | ((with_reducible refine atDst 2 ?_); refine wpList_box rfl 40 _ rfl cs rfl (Below.refl w.heap.size w) (Nat.le_refl _) ?_; intro w1 hk1 hb1 hs1 _; have K1 := qH hk1; have B1 := qH hb1; clear hk1 hb1 hs1; (try simp only [Act.put, qA, qB, qC]))
   | ((with_reducible refine atDst 5 ?_); refine wpList_ldArr rfl 40 _ rfl w.heap.size rfl 40 _ _ K1.out Try.underlying40 rfl (size_rx HC6.out) ?_; (try simp only [Act.put, qA, qB, qC])))
  refine (refNodes_any _ t (Nat.le_refl _) HM.out cs w1 ((V.out.stay B1.out).mono B1.out.size)).mono ?_
  rintro e w2 ⟨rfl, hb⟩
  rw [← HA.out]
  have B2 := qH (B1.out.trans (hb.mono B1.out.size))
  have K2 := qH (K1.out.below hb K1.out.lt)
  clear hb
  go_wp2_with fail
  go_ret
  rw [HR.out]
  exact ⟨rfl, B2.out⟩
set_option maxHeartbeats 4000000 in
set_option maxRecDepth 1000000 in
theorem refMay5_any (t : T) (hM : t.nodes ≤ 274877906944) (hc : canT t) (cs : List Value) (w : World) (hv : RxV w.heap.size w cs t) :
  Calls Try.prog 24 #[.agg cs.toArray] w fun e w' => e = .returned (.int .i64 (mayE t)) ∧ Below w.heap.size w w' := by
 have V := qH hv
 have HC6 := qH hv.length
 have HM := qH hM
 have HCT := qH hc
 have HM2 := qH (Nat.le_trans hM (by decide : 274877906944 ≤ 1099511627776))
 obtain ⟨r, hr⟩ : ∃ r, mayE t = r := ⟨_, rfl⟩
 have HR := qH hr
 rw [hr]
 clear hv hM hr hc
 go_enter Try.func24, Try.ntmps24
 go_wp2_with (first
  | ((with_reducible refine atDst 1 ?_); refine wpList_box rfl 40 _ rfl cs rfl (Below.refl w.heap.size w) (Nat.le_refl _) ?_; intro w1 hk1 hb1 hs1 _; have K1 := qH hk1; have B1 := qH hb1; clear hk1 hb1 hs1; (try simp only [Act.put, qA, qB, qC]))
  | ((with_reducible refine atDst 4 ?_); refine wpList_ldBlk rfl 40 _ rfl w.heap.size rfl 40 _ _ K1.out Try.underlying40 rfl (size_rx HC6.out) ?_; (try simp only [Act.put, qA, qB, qC])))
 refine (refNodes_any _ t (Nat.le_refl _) HM2.out cs w1 ((V.out.stay B1.out).mono B1.out.size)).mono ?_
 rintro e w2 ⟨rfl, hb2⟩
 have B2 := qH (B1.out.trans (hb2.mono B1.out.size))
 have K2 := qH (K1.out.below hb2 K1.out.lt)
 clear hb2
 obtain ⟨x, hx⟩ : ∃ x, t.nodes = x := ⟨_, rfl⟩
 have HX := qH hx
 rw [hx]
 clear hx
 by_cases h1 : 400 < x
 ·have c1 : (400 : Int) < (x : Int) := Int.ofNat_lt.2 h1
  have HE := qH (show r = 4 by rw [← HR.out]; unfold mayE; rw [HX.out, if_pos h1])
  go_wp2_with fail
  go_ret
  rw [HE.out]
  exact ⟨rfl, B2.out⟩
 ·have c1 : ¬ ((400 : Int) < (x : Int)) := fun h => h1 (Int.ofNat_lt.1 h)
  have H400 := qH (show ¬ 400 < t.nodes by rw [HX.out]; exact h1)
  clear h1
  go_wp2_with ((with_reducible refine atDst 8 ?_); refine wpList_ldBlk rfl 40 _ rfl w.heap.size rfl 40 _ _ K2.out Try.underlying40 rfl (size_rx HC6.out) ?_; (try simp only [Act.put, qA, qB, qC]))
  refine (refDepth_any _ t (Nat.le_refl _) HM2.out cs w2 ((V.out.stay B2.out).mono B2.out.size)).mono ?_
  rintro e w3 ⟨rfl, hb3⟩
  have B3 := qH (B2.out.trans (hb3.mono B2.out.size))
  have K3 := qH (K2.out.below hb3 K2.out.lt)
  clear hb3
  obtain ⟨d, hd⟩ : ∃ d, t.depth = d := ⟨_, rfl⟩
  have HD := qH hd
  rw [hd]
  clear hd
  by_cases h2 : 30 < d
  ·have d1 : (30 : Int) < (d : Int) := Int.ofNat_lt.2 h2
   have HE := qH (show r = 5 by rw [← HR.out]; unfold mayE; rw [if_neg H400.out, HD.out, if_pos h2])
   go_wp2_with fail
   go_ret
   rw [HE.out]
   exact ⟨rfl, B3.out⟩
  ·have d1 : ¬ ((30 : Int) < (d : Int)) := fun h => h2 (Int.ofNat_lt.1 h)
   have H30 := qH (show ¬ 30 < t.depth by rw [HD.out]; exact h2)
   clear h2
   go_wp2_with ((with_reducible refine atDst 12 ?_); refine wpList_ldBlk rfl 40 _ rfl w.heap.size rfl 40 _ _ K3.out Try.underlying40 rfl (size_rx HC6.out) ?_; (try simp only [Act.put, qA, qB, qC]))
   refine (refPlain_any _ t (Nat.le_refl _) HM.out HCT.out cs w3 ((V.out.stay B3.out).mono B3.out.size)).mono ?_
   rintro e w4 ⟨rfl, hb4⟩
   have B4 := qH (B3.out.trans (hb4.mono B3.out.size))
   clear hb4
   obtain ⟨p, hp⟩ : ∃ p, plainT t = p := ⟨_, rfl⟩
   have HP := qH hp
   rw [hp]
   clear hp
   cases p with
   | true =>
    have HE := qH (show r = 0 by rw [← HR.out]; unfold mayE; rw [if_neg H400.out, if_neg H30.out, HP.out]; rfl)
    go_wp2_with fail
    go_ret
    rw [HE.out]
    exact ⟨rfl, B4.out⟩
   | false =>
    have HE := qH (show r = 3 by rw [← HR.out]; unfold mayE; rw [if_neg H400.out, if_neg H30.out, HP.out]; rfl)
    go_wp2_with fail
    go_ret
    rw [HE.out]
    exact ⟨rfl, B4.out⟩
set_option maxHeartbeats 8000000 in
set_option maxRecDepth 1000000 in
theorem refuses_walk (t : T) (hM : t.nodes ≤ 1048576) (hct : canT t) (cs : List Value) (w : World) (hv : RxV w.heap.size w cs t) :
  Calls Try.prog 5 #[.agg cs.toArray] w fun e w' => e = .returned (.bool true) ∧ Below w.heap.size w w' := by
 have V := qH hv
 have HC6 := qH hv.length
 have HM := qH hM
 have HCT := qH hct
 obtain ⟨b, hb⟩ : ∃ b, (decide (t.nodes ≤ 600) && decide (t.depth ≤ 60)) = b := ⟨_, rfl⟩
 have HB := qH hb
 obtain ⟨i0, hi0, hz0, hs0, hy0⟩ := infoP inf_nfa
 obtain ⟨zz, hzz⟩ : ∃ z : List Value, z = [.slice none 0 0, .int .i64 0, .int .i64 0] := ⟨_, rfl⟩
 have HZL := qH (show zz.length = 3 by rw [hzz]; rfl)
 have HZ0 := qH (show i0.zero = some (.agg zz.toArray) by rw [hzz]; exact hz0)
 clear hv hM hct hb hzz hz0 hs0 hy0
 go_enter Try.func5, Try.ntmps5
 go_wp2_with ((with_reducible refine atDst 1 ?_); refine wpList_box rfl 40 _ rfl cs rfl (Below.refl w.heap.size w) (Nat.le_refl _) ?_; intro w1 hk1 hb1 hs1 _; have K1 := qH hk1; have B1 := qH hb1; clear hk1 hb1 hs1; (try simp only [Act.put, qA, qB, qC]))
 refine (begun_any w1).mono ?_
 rintro e w2 ⟨rfl, hb⟩
 have K2 := qH (K1.out.below hb K1.out.lt)
 have B2 := qH (B1.out.trans (hb.mono B1.out.size))
 clear hb
 go_wp2_with ((with_reducible refine atDst 7 ?_); refine wpList_ldBlk rfl 40 _ rfl w.heap.size rfl 40 _ _ K2.out Try.underlying40 rfl (size_rx HC6.out) ?_; (try simp only [Act.put, qA, qB, qC]))
 refine (light_any t 600 (Nat.le_trans HM.out (by decide)) cs w2 ((V.out.stay B2.out).mono B2.out.size) b HB.out).mono ?_
 rintro e w3 ⟨rfl, hb⟩
 have K3 := qH (K2.out.below hb K2.out.lt)
 have B3 := qH (B2.out.trans (hb.mono B2.out.size))
 clear hb
 cases b with
 | false =>
  go_wp2_with fail
  go_ret
  exact ⟨rfl, B3.out⟩
 | true =>
  go_wp2_with ((with_reducible refine atDst 11 ?_); refine wpList_ldBlk rfl 40 _ rfl w.heap.size rfl 40 _ _ K3.out Try.underlying40 rfl (size_rx HC6.out) ?_; (try simp only [Act.put, qA, qB, qC]))
  refine (tBuild_any t (Nat.le_trans HM.out (by decide)) cs w3 ((V.out.stay B3.out).mono B3.out.size)).mono ?_
  obtain ⟨m, hm⟩ : ∃ m, mayE t = m := ⟨_, rfl⟩
  have HMM := qH hm
  rw [hm]
  clear hm
  rintro e w4 ⟨ns, rfl, hbt, hb⟩
  have B4 := qH (B3.out.trans (hb.mono B3.out.size))
  have K4 := qH (K3.out.below hb K3.out.lt)
  have HN3 := qH hbt.len
  have HN1 := qH hbt.one
  have HBT := qH hbt
  clear hbt hb
  go_wp2_with (first
   | ((with_reducible refine atDst 3 ?_); refine wpList_new rfl 24 rfl i0 _ zz hi0 HZ0.out rfl (Below.refl w4.heap.size w4) (Nat.le_refl _) ?_; intro w5 hk hb hs ho; have L5 := qH hk; have B5 := qH hb; clear hk hb hs ho; (try simp only [Act.put, qA, qB, qC]))
   | ((with_reducible refine atStore 24 3 13 ?_); refine wpList_stBlk rfl 24 _ _ rfl w4.heap.size ns rfl rfl 24 _ L5.out (size_nfa HN3.out) (by rw [HZL.out, HN3.out]) HN1.out B5.out (Nat.le_refl _) ?_; intro w6 hk hb hs ho; have L6 := qH hk; have K6 := qH (K4.out.below hb K4.out.lt); have B6 := qH (B4.out.trans (hb.mono B4.out.size)); clear hk hb hs ho; (try simp only [Act.put, qA, qB, qC]))
   | ((with_reducible refine atDst 16 ?_); refine wpList_ldBlk rfl 40 _ rfl w.heap.size rfl 40 _ _ K6.out Try.underlying40 rfl (size_rx HC6.out) ?_; (try simp only [Act.put, qA, qB, qC])))
  refine (refMay5_any t (Nat.le_trans HM.out (by decide)) HCT.out cs w6 ((V.out.stay B6.out).mono B6.out.size)).mono ?_
  rw [HMM.out]
  rintro e w7 ⟨rfl, hb⟩
  have B7 := qH (B6.out.trans (hb.mono B6.out.size))
  have L7 := qH (L6.out.below hb L6.out.lt)
  clear hb
  have mm : (m == m) = true := by simp
  by_cases h0 : m = 0
  ·have n1 : (m == 0) = true := by simp [h0]
   clear h0
   go_wp2_with fail
   go_ret
   exact ⟨rfl, B7.out⟩
  ·have n1 : (m == 0) = false := by simp [h0]
   have HNS := qH (HBT.out.2 (by rw [HMM.out]; exact h0))
   have c0 := L7.out.cell 0
   have c1 := L7.out.cell 1
   have c2 := L7.out.cell 2
   rw [HNS.out] at c0 c1 c2
   clear h0
   go_wp2_with fail
   go_ret
   exact ⟨rfl, B7.out⟩
theorem cnt_next {l : List T} {j : Nat} {u : T} (h : l[j]? = some u) : l.length - j + nodesL (l.take j) + (u.nodes - 1) = l.length - (j + 1) + nodesL (l.take (j + 1)) := by
 have hj := (List.getElem?_eq_some_iff.1 h).1
 have := nodes_pos u
 rw [nodesL_next l j u h]
 omega
set_option maxHeartbeats 4000000 in
set_option maxRecDepth 1000000 in
theorem count_any : ∀ (N : Nat) (t : T), t.nodes ≤ N → t.nodes ≤ 1099511627776 → ∀ (cs : List Value) (w : World), RxV w.heap.size w cs t →
  Calls Try.prog 25 #[.agg cs.toArray] w fun e w' => e = .returned (.int .i64 ((t.nodes - 1 : Nat) : Int)) ∧ Below w.heap.size w w' := by
 intro N
 induction N with
 | zero => intro t h; have := nodes_pos t; omega
 | succ N ih =>
  rintro ⟨k, s, l⟩ hN hM cs w hv
  have IH := qH ih
  clear ih
  obtain ⟨A, cap, f, rfl, h1, h2, h0, h3, h4⟩ := hv.opened
  have H3 := qH h3
  have H4 := qH h4
  have HNN := qH (show T.nodes (.node k s l) = 1 + nodesL l by simp only [T.nodes])
  have HRE := qH (show T.nodes (.node k s l) - 1 = nodesL l by rw [HNN.out]; omega)
  rw [HNN.out] at hN hM
  have HN := qH hN
  have HM := qH hM
  have HCM := qH h2
  have HCL := qH h1
  have HLL := qH (len_nodes l)
  obtain ⟨cs, hcs⟩ : ∃ cs, cs = Value.int .i64 k :: (wds s ++ [.slice A l.length cap]) := ⟨_, rfl⟩
  have HC5 := qH (show cs[5]? = some (.slice A l.length cap) by rw [hcs]; rfl)
  rw [← hcs, HRE.out]
  clear hv h1 h2 h0 h3 h4 hcs hN hM
  go_enter Try.func25, Try.ntmps25
  go_wp2_with ((with_reducible refine atDst 1 ?_); refine wpList_box rfl 40 _ rfl cs rfl (Below.refl w.heap.size w) (Nat.le_refl _) ?_; intro w1 hk1 hb1 hs1 _; have K1 := qH hk1; have B1 := qH hb1; have k5 := hk1.cell 5; rw [HC5.out] at k5; clear hk1 hb1 hs1; (try simp only [Act.put, qA, qB, qC]))
  go_loopw [3, 4] (fun n iv wl => ∃ j : Nat, j ≤ l.length ∧ iv = .int .i64 (j : Int) ∧ n = .int .i64 ((l.length - j + nodesL (l.take j) : Nat) : Int) ∧ Below w1.heap.size w1 wl) (fun _ iv _ => l.length - (intOf iv).toNat)
  case atStart => exact ⟨0, Nat.zero_le _, by simp, by simp [nodesL], Below.refl _ _⟩
  clear k5
  obtain ⟨j, hj, rfl, rfl, hb⟩ := hrel
  have HB := qH hb
  have BW := qH (B1.out.trans (hb.mono B1.out.size))
  have k5 := (K1.out.below hb K1.out.lt).cell 5
  rw [HC5.out] at k5
  clear hb
  obtain ⟨wq, hwq⟩ : ∃ v : World, v = wr := ⟨_, rfl⟩
  subst hwq
  obtain ⟨c, hc⟩ : ∃ c, c = l.length - j + nodesL (l.take j) := ⟨_, rfl⟩
  rw [← hc]
  by_cases hjl : j < l.length
  ·have j1 : (j : Int) < (l.length : Int) := Int.ofNat_lt.2 hjl
   obtain ⟨b, off, rfl, hb, hrng⟩ := H3.out (by rintro rfl; simp at hjl)
   obtain ⟨u, hu⟩ : ∃ u, l[j]? = some u := ⟨_, List.getElem?_eq_getElem hjl⟩
   have HV := qH (RxV.part H4.out BW.out BW.out.size hu)
   have HV6 := qH HV.out.length
   have HRG := qH (range_below (hrng j hjl) BW.out hb)
   have HUN := qH (show u.nodes ≤ N by have h1 := nodes_mem (List.mem_of_getElem? hu); have := HN.out; omega)
   have HUM := qH (show u.nodes ≤ 1099511627776 by have h1 := nodes_mem (List.mem_of_getElem? hu); have := HM.out; omega)
   have HJ1 := qH hjl
   have e3 := wrap_len hjl HCL.out HCM.out
   have e4 := wrap_len' hjl HCL.out HCM.out
   obtain ⟨d, hd⟩ : ∃ d, d = u.nodes - 1 := ⟨_, rfl⟩
   have HD := qH hd
   have HS := qH (show c + d = l.length - (j + 1) + nodesL (l.take (j + 1)) by rw [hc, hd]; exact cnt_next hu)
   have hle : c + d ≤ 4611686018427387904 := by rw [HS.out]; have h1 := nodesL_take l (j + 1); have h2 := HM.out; have h3 := HLL.out; clear e3 e4; omega
   have e5 := wrap_sum c d hle
   have e6 := wrap_sum' c d hle
   clear hrng hu hb hj hjl hd hc hle
   go_wp2_with ((with_reducible refine atDst 20 ?_); refine wpList_load_mid rfl 40 _ rfl b (off + j * 6) rfl (f j) _ HRG.out Try.underlying40 rfl (size_rx HV6.out) ?_; (try simp only [Act.put, qA, qB, qC]))
   refine (IH.out u HUN.out HUM.out (f j) wq HV.out).mono ?_
   rw [← HD.out]
   rintro e w6 ⟨rfl, hb6⟩
   have B6 := qH (HB.out.trans (hb6.mono HB.out.size))
   clear hb6
   go_wp2_with fail
   exact ⟨⟨j + 1, HJ1.out, by congr 1, by rw [← HS.out]; congr 1, B6.out⟩, by simpa [intOf] using sub_next HJ1.out⟩
  ·obtain rfl : j = l.length := Nat.le_antisymm hj (Nat.not_lt.1 hjl)
   have j1 : ¬ ((l.length : Int) < (l.length : Int)) := Int.lt_irrefl _
   rw [Nat.sub_self, Nat.zero_add, List.take_length] at hc
   subst hc
   go_wp2_with fail
   go_ret
   exact ⟨rfl, BW.out⟩
end Go.Proofs.Ytmcpfaaakmehdaa
