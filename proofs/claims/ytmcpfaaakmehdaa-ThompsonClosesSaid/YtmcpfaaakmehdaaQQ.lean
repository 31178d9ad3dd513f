/-
  Texts of this proof, put together: TbK, ThS. No statement is proved here.
-/
import Derived.Test.YtmcpfaaakmehdaaQN
import Derived.Test.YtmcpfaaakmehdaaQP
import Derived.Lib.SlBytesConst
import Derived.Test.YtmcpfaaakmehdaaQG
import Derived.Test.YtmcpfaaakmehdaaQL
namespace Go.Proofs.Ytmcpfaaakmehdaa
open Go.RowKit
set_option linter.unusedSimpArgs false
set_option linter.unusedVariables false
def aS9 : Nat → Bool := listS [97]
theorem a9_shape : bytesT aS9 = .node 3 aS9 [] := by
 unfold bytesT
 rw [if_neg (by decide +kernel)]
theorem a9_nodes : (bytesT aS9).nodes = 1 := by rw [a9_shape]; rfl
theorem a9_may : mayE (bytesT aS9) = 0 := by
 have hg := good_bytes (s := aS9) (can_list (by intro x hx; simp at hx; omega))
 have hd : (bytesT aS9).depth = 1 := by rw [a9_shape]; rfl
 unfold mayE
 rw [a9_nodes, hd, if_neg (by decide), if_neg (by decide), hg.2]
 rfl
theorem a9_yes : runN (fragT (bytesT aS9) 0 []) 0 1 [UInt8.ofNat 97] = true := by
 have hok := mayE_ok a9_may
 exact (frag_runB hok.1 hok.2.2 _).2 ((lg_bytes _ _).2 ⟨97, rfl, by decide +kernel⟩)
theorem a9_no : runN (fragT (bytesT aS9) 0 []) 0 1 [] = false := by
 have hok := mayE_ok a9_may
 cases h : runN (fragT (bytesT aS9) 0 []) 0 1 [] with
 | false => rfl
 | true =>
  obtain ⟨b, hb, _⟩ := (lg_bytes _ _).1 ((frag_runB hok.1 hok.2.2 _).1 h)
  cases hb
theorem row_mark9 {w : World} {g n : Nat} {t : TypeId} {cs : List Value} {m : Nat × Nat} (h : w.heap[g]? = some (.cells cs.toArray t m)) (hn : cs.length = n) (hl : n ≤ 1048576) : Row w (.slice (some ⟨g, 0, none⟩) n n) cs := by
 subst hn
 have hlt : g < w.heap.size := (Array.getElem?_eq_some_iff.1 h).1
 refine ⟨_, _, rfl, Nat.le_refl _, by unfold maxLen; omega, (fun h => by cases h), fun _ => ⟨g, 0, rfl, hlt, fun i u hu => ?_⟩⟩
 rw [Nat.zero_add, cell_of_row _ _ i cs.toArray t m h]
 simpa using hu
theorem cls_pos {S : List St} {a : Nat} (h : a < S.length) : 0 < (clsN S [(a : Int)]).length := by
 have : (a : Int) ∈ clsN S [(a : Int)] := clsN_mem.2 (.base (by unfold ofL; simp) h)
 exact List.length_pos_of_mem this
set_option maxHeartbeats 4000000 in
set_option maxRecDepth 1000000 in
theorem begun_any (w : World) : Calls Try.prog 9 #[] w fun e w' => e = .returned (.bool true) ∧ Below w.heap.size w w' := by
 obtain ⟨q, hq⟩ : ∃ q, q = aS9 := ⟨_, rfl⟩
 have HQ := qH (show q = listS [97] from hq)
 obtain ⟨tx, htx⟩ : ∃ t, t = bytesT q := ⟨_, rfl⟩
 have HTX := qH htx
 have HM := qH (show mayE tx = 0 by rw [htx, hq]; exact a9_may)
 have HN := qH (show tx.nodes = 1 by rw [htx, hq]; exact a9_nodes)
 obtain ⟨F, hF⟩ : ∃ F, F = fragT tx 0 [] := ⟨_, rfl⟩
 have HFF := qH hF
 have HMF := qH (show mayNB F 0 1 = true by rw [hF]; exact mayNB_yes (frag_may (by have := HN.out; omega)))
 have HR1 := qH (show runB F 0 1 [UInt8.ofNat 97] = true by unfold runB; rw [HMF.out, hF, htx, hq, a9_yes]; rfl)
 have HR0 := qH (show runB F 0 1 [] = false by unfold runB; rw [hF, htx, hq, a9_no]; simp)
 have HC := qH (show 0 < (cloN F 0 1 [0]).length by
  rw [cloN_yes HMF.out]
  exact cls_pos (a := 0) (by have := (mayNB_iff.1 HMF.out).a1; omega))
 obtain ⟨i0, hi0, hz0, hs0, hy0⟩ := infoP inf_nfa
 obtain ⟨i1, hi1, hy1, hy2, hy3⟩ := infoP inf_int
 obtain ⟨zz, hzz⟩ : ∃ z : List Value, z = [.slice none 0 0, .int .i64 0, .int .i64 0] := ⟨_, rfl⟩
 have HZL := qH (show zz.length = 3 by rw [hzz]; rfl)
 have HZ0 := qH (show i0.zero = some (.agg zz.toArray) by rw [hzz]; exact hz0)
 clear hzz hz0 hs0 hy0 hF htx hq
 go_enter Try.func9, Try.ntmps9
 have kc := fun (w : World) (C : Array Value) (n c : Nat) => Lib.run_convert_bytes_const (P := Try.prog) w 26 5 C n c Try.underlying26 Try.underlying5
 go_wp2_with fail
 obtain ⟨w1, hw1⟩ : ∃ w1, w1 = w.alloc (.cells #[.int .u8 97] 5 (1, 2)) := ⟨_, rfl⟩
 have R1 := qH (show Row w1 (.slice (some ⟨w.heap.size, 0, none⟩) 1 1) (bvs [UInt8.ofNat 97]) from by rw [hw1]; exact row_mark9 (heap_alloc_new w _) rfl (by omega))
 have B1 := qH (show Below w.heap.size w w1 by rw [hw1]; exact (Below.refl _ _).alloc (Nat.le_refl _) _)
 rw [← hw1]
 clear hw1
 refine (refOf1 97 (by omega) _ w1 R1.out q HQ.out).mono ?_
 rintro e w2 ⟨rfl, hb⟩
 have B2 := qH (B1.out.trans (hb.mono B1.out.size))
 clear hb
 go_wp2_with fail
 refine (refBytes_any q w2).mono ?_
 rintro e w3 ⟨cs, rfl, hcs, hb⟩
 have B3 := qH (B2.out.trans (hb.mono B2.out.size))
 rw [← HTX.out] at hcs
 have D3 := qH (hcs fun k => k < w3.heap.size)
 clear hcs hb
 go_wp2_with fail
 refine (tBuild_any tx (by have := HN.out; omega) cs w3 D3.out).mono ?_
 rw [HM.out]
 rintro e w4 ⟨ns, rfl, hbt, hb⟩
 have B4 := qH (B3.out.trans (hb.mono B3.out.size))
 have N4 := qH (show NfaV w4 ns F 0 1 by rw [HFF.out]; exact hbt.1 HM.out)
 have HN3 := qH hbt.len
 have HN1 := qH hbt.one
 obtain ⟨Af, cf, hns, _⟩ := N4.out.len
 have C1 := qH (show ns[1]? = some (.int .i64 0) by rw [hns]; rfl)
 clear hbt hb hns
 go_wp2_with (first
  | ((with_reducible refine atDst 1 ?_); refine wpList_new rfl 24 rfl i0 _ zz hi0 HZ0.out rfl (Below.refl w4.heap.size w4) (Nat.le_refl _) ?_; intro w5 hk hb hs ho; have L5 := qH hk; have B5 := qH hb; clear hk hb hs ho; (try simp only [Act.put, qA, qB, qC]))
  | ((with_reducible refine atStore 24 1 9 ?_); refine wpList_stBlk rfl 24 _ _ rfl w4.heap.size ns rfl rfl 24 _ L5.out (size_nfa HN3.out) (by rw [HZL.out, HN3.out]) HN1.out B5.out (Nat.le_refl _) ?_; intro w6 hk hb hs ho; have K6 := qH hk; have N6 := qH (N4.out.below hb); have B6 := qH (B4.out.trans (hb.mono B4.out.size)); clear hk hb hs ho; (try simp only [Act.put, qA, qB, qC]))
  | ((with_reducible refine atDst 14 ?_); refine wpList_ldArr rfl 24 _ rfl w4.heap.size rfl 24 _ _ K6.out Try.underlying24 rfl (size_nfa HN3.out) ?_; (try simp only [Act.put, qA, qB, qC])))
 refine (tMay_any F 0 1 ns w6 N6.out).mono ?_
 rw [HMF.out]
 rintro e w7 ⟨rfl, hb⟩
 have K7 := qH (K6.out.below hb K6.out.lt)
 have N7 := qH (N6.out.below hb)
 have B7 := qH (B6.out.trans (hb.mono B6.out.size))
 clear hb
 go_wp2_with ((with_reducible refine atDst 18 ?_); refine wpList_ldArr rfl 24 _ rfl w4.heap.size rfl 24 _ _ K7.out Try.underlying24 rfl (size_nfa HN3.out) ?_; (try simp only [Act.put, qA, qB, qC]))
 clear kc
 obtain ⟨w8, hw8⟩ : ∃ w1, w1 = w7.alloc (.cells #[.int .u8 97] 5 (1, 2)) := ⟨_, rfl⟩
 have R8 := qH (show Row w8 (.slice (some ⟨w7.heap.size, 0, none⟩) 1 1) (bvs [UInt8.ofNat 97]) from by rw [hw8]; exact row_mark9 (heap_alloc_new w7 _) rfl (by omega))
 have X8 := qH (show Below w7.heap.size w7 w8 by rw [hw8]; exact (Below.refl _ _).alloc (Nat.le_refl _) _)
 rw [← hw8]
 clear hw8
 refine (tRun_any F 0 1 ns [UInt8.ofNat 97] _ w8 (N7.out.below X8.out) R8.out).mono ?_
 rw [HR1.out]
 rintro e w9 ⟨rfl, hb⟩
 have X9 := qH (X8.out.trans (hb.mono X8.out.size))
 have K9 := qH (K7.out.below X9.out K7.out.lt)
 have N9 := qH (N7.out.below X9.out)
 have B9 := qH (B7.out.trans (X9.out.mono B7.out.size))
 clear hb
 go_wp2_with ((with_reducible refine atDst 24 ?_); refine wpList_ldArr rfl 24 _ rfl w4.heap.size rfl 24 _ _ K9.out Try.underlying24 rfl (size_nfa HN3.out) ?_; (try simp only [Act.put, qA, qB, qC]))
 refine (tRun_any F 0 1 ns [] _ w9 N9.out (Row.nil _)).mono ?_
 rw [HR0.out]
 rintro e wA ⟨rfl, hb⟩
 have KA := qH (K9.out.below hb K9.out.lt)
 have NA := qH (N9.out.below hb)
 have BA := qH (B9.out.trans (hb.mono B9.out.size))
 have k1 := (K9.out.below hb K9.out.lt).cell 1
 rw [C1.out] at k1
 clear hb
 go_wp2_with (first
  | ((with_reducible refine atDst 29 ?_); refine wpList_ldArr rfl 24 _ rfl w4.heap.size rfl 24 _ _ KA.out Try.underlying24 rfl (size_nfa HN3.out) ?_; (try simp only [Act.put, qA, qB, qC]))
  | ((with_reducible refine atDst 32 ?_); refine BigFrame.wpList_want rfl fun K hK => wp_bldI 25 3 (.tmp 31) rfl i1 Try.underlying25 hi1 0 hy1 hy2 0 rfl ?_; intro wB hr hb; have RB := qH hr; have NB := qH (NA.out.below hb); have BB := qH (BA.out.trans (hb.mono BA.out.size)); clear hr hb; refine hK _ _ ?_; clear hK K; (try simp only [Act.put, qA, qB, qC])))
 refine (tClose_any F 0 1 ns [0] _ wB NB.out RB.out).mono ?_
 rintro e wC ⟨v, rfl, hr, hb⟩
 obtain ⟨cl, hcl⟩ : ∃ l, cloN F 0 1 [0] = l := ⟨_, rfl⟩
 rw [hcl] at hr HC
 obtain ⟨AC, cC, rfl, _⟩ := hr
 rw [nums_length]
 have BC := qH (BB.out.trans (hb.mono BB.out.size))
 have c0 : (0 : Int) < (cl.length : Int) := Int.natCast_pos.2 HC.out
 clear hb hcl
 have HCN := qH (show decide (0 < cl.length) = true from decide_eq_true HC.out)
 go_wp2_with fail
 go_ret
 exact ⟨congrArg (fun b => Ending.returned (.bool b)) HCN.out, BC.out⟩
theorem cloN_sub {S : List St} {a z : Int} {l m : List Int} {x : Int} (h : x ∈ cloN S a z l) : x ∈ cloN S a z (l ++ m) := by
 cases hm : mayNB S a z with
 | false => rw [cloN_no hm] at h; cases h
 | true =>
  rw [cloN_yes hm] at h ⊢
  obtain ⟨i, rfl, _, _⟩ := risJ_mem.1 h
  exact clsN_mem.2 ((clsN_mem.1 h).mono fun i hi => List.mem_append_left _ hi)
theorem cloN_rise (S : List St) (a z : Int) (l : List Int) : (cloN S a z l).Pairwise (· < ·) := by
 cases hm : mayNB S a z with
 | false => rw [cloN_no hm]; exact .nil
 | true => rw [cloN_yes hm]; exact risJ_rise _ _
theorem cloN_twice (S : List St) (a z : Int) (l : List Int) : cloN S a z (cloN S a z l) = cloN S a z l := by
 cases hm : mayNB S a z with
 | false => rw [cloN_no hm, cloN_no hm]
 | true => rw [cloN_yes hm, cloN_yes hm, clsN_twice]
theorem cloN_len (S : List St) (a z : Int) (l : List Int) : (cloN S a z l).length ≤ 2000 := by
 cases hm : mayNB S a z with
 | false => rw [cloN_no hm]; simp
 | true =>
  rw [cloN_yes hm]
  have h1 := clsN_len S l
  have h2 := (mayNB_iff.1 hm).few
  omega
theorem rise_at {X : List Int} (h : X.Pairwise (· < ·)) {p : Nat} {x y : Int} (hx : X[p]? = some x) (hy : X[p + 1]? = some y) : x < y := by
 obtain ⟨h1, rfl⟩ := List.getElem?_eq_some_iff.1 hx
 obtain ⟨h2, rfl⟩ := List.getElem?_eq_some_iff.1 hy
 exact List.pairwise_iff_getElem.1 h p (p + 1) h1 h2 (by omega)
theorem take_has {Y : List Int} {k : Nat} {x y : Int} (h : Y[k]? = some y) : decide (x ∈ Y.take (k + 1)) = (decide (x ∈ Y.take k) || decide (x = y)) := by
 rw [List.take_add_one, h, Bool.eq_iff_iff]
 simp
theorem ex_gt {ev : Operand → Value} {o : Oper} (x : Operand) (ho : o.op = .binOp .gtr 3 x (.const (.int .i64 0)) 3) {k : Int} (hx : ev x = .int .i64 k) (hc : ev (.const (.int .i64 0)) = .int .i64 0) {b : Bool} (hm : decide (0 < k) = b) (W : World) : (execOp ev o).run Try.prog W = .ok (.value (.bool b)) W := by
 subst hm
 simp only [execOp, ho, hx, hc]
 go_simp
theorem ex_ge {ev : Operand → Value} {o : Oper} (x y : Operand) (ho : o.op = .binOp .geq 3 x y 3) {k m : Int} (hx : ev x = .int .i64 k) (hy : ev y = .int .i64 m) (hm : k < m) (W : World) : (execOp ev o).run Try.prog W = .ok (.value (.bool false)) W := by
 have h : ¬ (k ≥ m) := by omega
 simp only [execOp, ho, hx, hy]
 go_simp
set_option maxHeartbeats 8000000 in
set_option maxRecDepth 1000000 in
theorem closes_walk (T : ThC) (hbg : ∀ w, Calls Try.prog 9 #[] w fun e w' => e = .returned (.bool true) ∧ Below w.heap.size w w')
  (S : List St) (a z : Int) (cs : List Value) (l m : List Int) (V U : Value) (w : World) (hv : NfaV w cs S a z) (hl : Row w V (nums .i64 l)) (hw : Row w U (nums .i64 m)) :
  Calls Try.prog 6 #[.agg cs.toArray, V, U] w fun e w' => e = .returned (.bool true) ∧ Below w.heap.size w w' := by
 have N0 := qH hv
 have L0 := qH hl
 have M0 := qH hw
 have HT := qH T
 obtain ⟨A, cap, rfl, hlc, hcm, hA0⟩ := hv.len
 obtain ⟨A1, cap1, rfl, _⟩ := hl
 obtain ⟨A2, cap2, rfl, _⟩ := hw
 rw [nums_length] at L0 M0 ⊢
 rw [nums_length]
 clear hv hlc hcm hA0 T
 obtain ⟨i1, hi1, hy0, hy1, hy2⟩ := infoP inf_int
 go_enter Try.func6, Try.ntmps6
 go_wp2_with ((with_reducible refine atDst 3 ?_); refine wpList_box rfl 24 _ rfl [.slice A S.length cap, .int .i64 a, .int .i64 z] rfl (Below.refl w.heap.size w) (Nat.le_refl _) ?_; intro w1 hk1 hb1 hs1 _; have K1 := qH hk1; have B1 := qH hb1; clear hk1 hb1 hs1; (try simp only [Act.put, qA, qB, qC]))
 refine (hbg w1).mono ?_
 rintro e w2 ⟨rfl, hb⟩
 have K2 := qH (K1.out.below hb K1.out.lt)
 have B2 := qH (B1.out.trans (hb.mono B1.out.size))
 clear hb hbg
 go_wp2_with ((with_reducible refine atDst 14 ?_); refine wpList_ldBlk rfl 24 _ rfl w.heap.size rfl 24 _ _ K2.out Try.underlying24 rfl (size_nfa rfl) ?_; (try simp only [Act.put, qA, qB, qC]))
 refine (lightN_any S a z 40 _ w2 (N0.out.below B2.out)).mono ?_
 rintro e w3 ⟨rfl, hb⟩
 have K3 := qH (K2.out.below hb K2.out.lt)
 have B3 := qH (B2.out.trans (hb.mono B2.out.size))
 have N3 := qH (N0.out.below B3.out)
 have L3 := qH (L0.out.below B3.out)
 have M3 := qH (M0.out.below B3.out)
 clear hb
 obtain ⟨lt, hlt⟩ : ∃ m, lightB S 40 = m := ⟨_, rfl⟩
 rw [hlt]
 clear hlt
 cases lt with
 | false =>
  go_wp2_with fail
  go_ret
  exact ⟨rfl, B3.out⟩
 | true =>
  by_cases hl40 : (40 : Int) < (l.length : Int)
  ·go_wp2_with fail
   go_ret
   exact ⟨rfl, B3.out⟩
  by_cases hm40 : (40 : Int) < (m.length : Int)
  ·go_wp2_with fail
   go_ret
   exact ⟨rfl, B3.out⟩
  have HL := qH (show l.length ≤ 40 by omega)
  have HM := qH (show m.length ≤ 40 by omega)
  go_wp2_with ((with_reducible refine atDst 27 ?_); refine wpList_ldBlk rfl 24 _ rfl w.heap.size rfl 24 _ _ K3.out Try.underlying24 rfl (size_nfa rfl) ?_; (try simp only [Act.put, qA, qB, qC]))
  refine (HT.out.close S a z _ l _ w3 N3.out L3.out (by have := HL.out; omega)).mono ?_
  rintro e w4 ⟨vX, rfl, hrx, hb⟩
  obtain ⟨X, hX'⟩ : ∃ X, X = cloN S a z l := ⟨_, rfl⟩
  rw [← hX'] at hrx
  have HX := qH hX'
  have QX := qH hrx
  have K4 := qH (K3.out.below hb K3.out.lt)
  have B4 := qH (B3.out.trans (hb.mono B3.out.size))
  have N4 := qH (N3.out.below hb)
  have L4 := qH (L3.out.below hb)
  have M4 := qH (M3.out.below hb)
  clear hb hrx hl40 hm40 hX'
  go_wp2_with fail
  refine sx_startB (B := w4.heap.size) (w0 := w4) (by kernel_rfl) (Below.refl _ _) (fun wd hwd hX => ?_)
  clear hwd
  refine sx_take (i := 0) (oi := ⟨some 30, _, _, _, _, _⟩) (v := .agg #[.slice A S.length cap, .int .i64 a, .int .i64 z]) rfl (by kernel_rfl) (by kernel_rfl) (by kernel_rfl) (fun _ _ _ h => h) rfl hX (ld_blk 24 _ rfl w.heap.size rfl 24 [.slice A S.length cap, .int .i64 a, .int .i64 z] _ K4.out K4.out.lt Try.underlying24 rfl (size_nfa rfl)) ?_; simp only [Act.put, qA, qB, qC]
  refine sx_take (i := 2) (oi := ⟨some 32, _, _, _, _, _⟩) (v := ?_) rfl (by kernel_rfl) (by kernel_rfl) (by kernel_rfl) (fun _ _ _ h => h) rfl hX ?_ ?_; rotate_left; (intro W hW; go_simp; try with_reducible rfl); simp only [Act.put, qA, qB, qC]
  refine sx_take (i := 4) (oi := ⟨some 34, _, _, _, _, _⟩) (v := ?_) rfl (by kernel_rfl) (by kernel_rfl) (by kernel_rfl) (fun _ _ _ h => h) rfl hX ?_ ?_; rotate_left; (intro W hW; go_simp; try with_reducible rfl); simp only [Act.put, qA, qB, qC]
  refine sx_actB (i := 1) (o := ⟨some 31, _, _, _, _, _⟩) rfl (by kernel_rfl) rfl hX (fun K hK => ?_)
  have AS := qH (show Below wd.heap.size wd (wd.alloc (.cells #[] 3)) from (Below.refl _ _).alloc (Nat.le_refl _) _)
  have OS := qH (World.ownsRow_made (base := wd.heap.size) (e := 3) (size := 1) wd #[] 0 (Nat.le_refl _) (by unfold maxLen; omega) (by simp))
  have LD := qH (L4.out.below hX)
  have MD := qH (M4.out.below hX)
  have ND := qH (N4.out.below hX)
  have XD := qH (QX.out.below hX)
  have BD := qH (B4.out.trans (hX.mono B4.out.size))
  go_wp2_with fail
  refine hK _ _ (AS.out.mono hX.size) ?_
  clear hK K
  (try simp only [Act.put, qA, qB, qC])
  have SD := qH hX.size
  replace hX := hX.trans (AS.out.mono hX.size)
  refine sx_actB (i := 3) (o := ⟨some 33, _, _, _, _, _⟩) rfl (by kernel_rfl) rfl hX (fun K hK => ?_)
  refine wp_appR (w0 := wd) (.tmp 31) (.tmp 32) 25 rfl 3 i1 (.int .i64 0) 8 Try.underlying25 hi1 hy0 hy1 hy2 rfl _ _ _ rfl OS.out _ (nums .i64 l) rfl (LD.out.below AS.out) (nums_one _ _) (by have := HL.out; rw [nums_length]; omega) (by omega) AS.out ?_
  intro v5 w5 ho5 _ hb5 hg5
  have hY5 := (Below.refl w4.heap.size _).grown hg5 hX.size (fun q hq => Nat.le_trans SD.out (own_above OS.out q hq))
  refine hK _ _ hY5 ?_
  clear hK K
  (try simp only [Act.put, qA, qB, qC])
  replace hX := hX.trans hY5
  have O5 := qH ho5
  have B5 := qH hb5
  clear ho5 hb5 hg5 hY5
  refine sx_actB (i := 5) (o := ⟨some 35, _, _, _, _, _⟩) rfl (by kernel_rfl) rfl hX (fun K hK => ?_)
  refine wp_appR (w0 := wd) (.tmp 33) (.tmp 34) 25 rfl 3 i1 (.int .i64 0) 8 Try.underlying25 hi1 hy0 hy1 hy2 rfl _ _ _ rfl O5.out _ (nums .i64 m) rfl (MD.out.below B5.out) (nums_one _ _) (by have := HL.out; have := HM.out; rw [nums_length, nums_length]; omega) (by omega) B5.out ?_
  intro v6 w6 _ hr6 hb6 hg6
  have hY6 := (Below.refl w4.heap.size _).grown hg6 hX.size (fun q hq => Nat.le_trans SD.out (own_above O5.out q hq))
  refine hK _ _ hY6 ?_
  clear hK K
  (try simp only [Act.put, qA, qB, qC])
  replace hX := hX.trans hY6
  have R6 := qH (show Row w6 v6 (nums .i64 (l ++ m)) by rw [nums_append]; exact hr6)
  have B6 := qH hb6
  clear hr6 hb6 hg6 hY6
  refine sx_actB (i := 6) (o := ⟨some 36, _, _, _, _, _⟩) rfl (by kernel_rfl) rfl hX (fun K hK => ?_)
  go_wp2_with fail
  refine (HT.out.close S a z _ (l ++ m) _ w6 (ND.out.below B6.out) R6.out (by have := HL.out; have := HM.out; rw [List.length_append]; omega)).mono ?_
  rintro e w7 ⟨vY, rfl, hry, hb⟩
  go_wp2_with fail
  refine hK _ _ (hb.mono hX.size) ?_
  clear hK K
  (try simp only [Act.put, qA, qB, qC])
  replace hX := hX.trans (hb.mono hX.size)
  obtain ⟨Y, hY'⟩ : ∃ Y, Y = cloN S a z (l ++ m) := ⟨_, rfl⟩
  rw [← hY'] at hry
  have HXY := qH (show ∀ x ∈ X, x ∈ Y by rw [hY', HX.out]; exact fun x h => cloN_sub h)
  have HXL := qH (show X.length ≤ 2000 by rw [HX.out]; exact cloN_len _ _ _ _)
  have HYL := qH (show Y.length ≤ 2000 by rw [hY']; exact cloN_len _ _ _ _)
  have HXR := qH (show X.Pairwise (· < ·) by rw [HX.out]; exact cloN_rise _ _ _ _)
  have QY := qH hry
  have BX := qH hX
  have K7 := qH (K4.out.below hX K4.out.lt)
  have B7 := qH (B4.out.trans (hX.mono B4.out.size))
  have N7 := qH (N4.out.below hX)
  have X7 := qH (QX.out.below hX)
  clear hb hry hY'
  refine sx_take (i := 7) (oi := ⟨some 8, _, _, _, _, _⟩) (v := ?_) rfl (by kernel_rfl) (by kernel_rfl) (by kernel_rfl) (fun _ _ _ h => h) rfl hX ?_ ?_; rotate_left; (intro W hW; go_simp; try with_reducible rfl); simp only [Act.put, qA, qB, qC]
  refine wpAnyH_done (by kernel_rfl) ?_ _
  clear hX
  obtain ⟨AX, cX, rfl, _⟩ := QX.out
  obtain ⟨AY, cY, rfl, _⟩ := QY.out
  rw [nums_length] at QX QY X7
  rw [nums_length, nums_length]
  clear QX XD
  go_wp2_with fail
  go_loopw [9] (fun iv wl => ∃ i : Nat, i ≤ X.length ∧ iv = .int .i64 (i : Int) ∧ Below w7.heap.size w7 wl) (fun iv _ => X.length - (intOf iv).toNat)
  case atStart => exact ⟨0, Nat.zero_le _, by simp, Below.refl _ _⟩
  obtain ⟨i, hi, rfl, hb⟩ := hrel
  have BQ := qH hb
  clear hb
  obtain ⟨wi, hwi⟩ : ∃ v : World, v = wr := ⟨_, rfl⟩
  subst hwi
  by_cases hin : i < X.length
  ·have x1 : (i : Int) < (X.length : Int) := Int.ofNat_lt.2 hin
   have HI := qH hin
   have HMI := qH (sub_next hin)
   have e3 := wrap_one i (lt_bigN HI.out HXL.out)
   have e4 := wrap_one' i (lt_bigN HI.out HXL.out)
   obtain ⟨x, hx⟩ : ∃ x, X[i]? = some x := ⟨_, List.getElem?_eq_getElem hin⟩
   have HXI := qH hx
   obtain ⟨bx, ox, rfl, hbx, hcx⟩ := X7.out.at_ (by rw [nums_length]; exact Nat.lt_of_le_of_lt (Nat.zero_le _) hin)
   have HBX := qH hbx
   have HCX := qH (fun k y (h : X[k]? = some y) => hcx k (.int .i64 y) (by simp [nums, h]))
   clear hi hin hx hbx hcx
   go_wp2_with fail
   go_loopw [10, 11] (fun bv' kv wl => ∃ k : Nat, k ≤ Y.length ∧ kv = .int .i64 (k : Int) ∧ bv' = .bool (decide (x ∈ Y.take k)) ∧ Below w7.heap.size w7 wl) (fun _ kv _ => Y.length - (intOf kv).toNat)
   case atStart => exact ⟨0, Nat.zero_le _, by simp, by simp, BQ.out⟩
   clear BQ
   obtain ⟨k, hk, rfl, rfl, hb⟩ := hrel
   have BR := qH hb
   clear hb
   by_cases hkl : k < Y.length
   ·have y1 : (k : Int) < (Y.length : Int) := Int.ofNat_lt.2 hkl
    have HK := qH hkl
    have HMK := qH (sub_next hkl)
    have f3 := wrap_one k (lt_bigN HK.out HYL.out)
    have f4 := wrap_one' k (lt_bigN HK.out HYL.out)
    obtain ⟨y, hy⟩ : ∃ y, Y[k]? = some y := ⟨_, List.getElem?_eq_getElem hkl⟩
    obtain ⟨by', oy, rfl, hby, hcy⟩ := QY.out.at_ (by rw [nums_length]; exact Nat.lt_of_le_of_lt (Nat.zero_le _) hkl)
    have HBY := qH hby
    have HCY := qH (hcy k (.int .i64 y) (by simp [nums, hy]))
    have HTH := qH (take_has (x := x) hy)
    clear hk hkl hy hby hcy
    obtain ⟨q, hq⟩ : ∃ q, decide (x ∈ Y.take k) = q := ⟨_, rfl⟩
    rw [hq] at HTH ⊢
    clear hq
    cases q with
    | true =>
     go_wp2_with fail
     refine sx_startB (B := w7.heap.size) (w0 := w7) (by kernel_rfl) BR.out (fun wd hwd hX => ?_)
     clear hwd
     refine sx_take (i := 0) (oi := ⟨some 49, _, _, _, _, _⟩) (v := ?_) rfl (by kernel_rfl) (by kernel_rfl) (by kernel_rfl) (fun _ _ _ h => h) rfl hX ?_ ?_; rotate_left; (intro W hW; go_simp; try with_reducible rfl); simp only [Act.put, qA, qB, qC]
     refine sx_take (i := 1) (oi := ⟨some 50, _, _, _, _, _⟩) (v := ?_) rfl (by kernel_rfl) (by kernel_rfl) (by kernel_rfl) (fun _ _ _ h => h) rfl hX ?_ ?_; rotate_left; (intro W hW; go_simp; try with_reducible rfl); simp only [Act.put, qA, qB, qC]
     refine sx_skip (i := 2) (oi := ⟨some 51, _, _, _, _, _⟩) rfl (by kernel_rfl) (by kernel_rfl) (by kernel_rfl) (fun _ _ _ h => h) rfl hX ?_; simp only [Act.put, qA, qB, qC]
     refine sx_skip (i := 3) (oi := ⟨some 52, _, _, _, _, _⟩) rfl (by kernel_rfl) (by kernel_rfl) (by kernel_rfl) (fun _ _ _ h => h) rfl hX ?_; simp only [Act.put, qA, qB, qC]
     refine sx_skip (i := 4) (oi := ⟨some 53, _, _, _, _, _⟩) rfl (by kernel_rfl) (by kernel_rfl) (by kernel_rfl) (fun _ _ _ h => h) rfl hX ?_; simp only [Act.put, qA, qB, qC]
     refine sx_skip (i := 5) (oi := ⟨some 54, _, _, _, _, _⟩) rfl (by kernel_rfl) (by kernel_rfl) (by kernel_rfl) (fun _ _ _ h => h) rfl hX ?_; simp only [Act.put, qA, qB, qC]
     refine sx_skip (i := 6) (oi := ⟨some 55, _, _, _, _, _⟩) rfl (by kernel_rfl) (by kernel_rfl) (by kernel_rfl) (fun _ _ _ h => h) rfl hX ?_; simp only [Act.put, qA, qB, qC]
     refine sx_skip (i := 7) (oi := ⟨some 56, _, _, _, _, _⟩) rfl (by kernel_rfl) (by kernel_rfl) (by kernel_rfl) (fun _ _ _ h => h) rfl hX ?_; simp only [Act.put, qA, qB, qC]
     refine sx_skip (i := 8) (oi := ⟨some 57, _, _, _, _, _⟩) rfl (by kernel_rfl) (by kernel_rfl) (by kernel_rfl) (fun _ _ _ h => h) rfl hX ?_; simp only [Act.put, qA, qB, qC]
     refine sx_skip (i := 9) (oi := ⟨some 58, _, _, _, _, _⟩) rfl (by kernel_rfl) (by kernel_rfl) (by kernel_rfl) (fun _ _ _ h => h) rfl hX ?_; simp only [Act.put, qA, qB, qC]
     refine sx_skip (i := 10) (oi := ⟨some 59, _, _, _, _, _⟩) rfl (by kernel_rfl) (by kernel_rfl) (by kernel_rfl) (fun _ _ _ h => h) rfl hX ?_; simp only [Act.put, qA, qB, qC]
     refine sx_take (i := 11) (oi := ⟨some 60, _, _, _, _, _⟩) (v := ?_) rfl (by kernel_rfl) (by kernel_rfl) (by kernel_rfl) (fun _ _ _ h => h) rfl hX ?_ ?_; rotate_left; (intro W hW; go_simp; try with_reducible rfl); simp only [Act.put, qA, qB, qC]
     refine sx_take (i := 12) (oi := ⟨some 10, _, _, _, _, _⟩) (v := ?_) rfl (by kernel_rfl) (by kernel_rfl) (by kernel_rfl) (fun _ _ _ h => h) rfl hX ?_ ?_; rotate_left; (intro W hW; go_simp; try with_reducible rfl); simp only [Act.put, qA, qB, qC]
     refine wpAnyH_done (by kernel_rfl) ?_ _
     have BE := qH hX
     clear hX
     go_wp2_with fail
     exact ⟨⟨k + 1, HK.out, by congr 1, by rw [HTH.out]; rfl, BE.out⟩, by simpa [intOf] using HMK.out⟩
    | false =>
     go_wp2_with fail
     refine sx_startB (B := w7.heap.size) (w0 := w7) (by kernel_rfl) BR.out (fun wd hwd hX => ?_)
     clear hwd
     refine sx_take (i := 0) (oi := ⟨some 49, _, _, _, _, _⟩) (v := ?_) rfl (by kernel_rfl) (by kernel_rfl) (by kernel_rfl) (fun _ _ _ h => h) rfl hX ?_ ?_; rotate_left; (intro W hW; go_simp; try with_reducible rfl); simp only [Act.put, qA, qB, qC]
     refine sx_take (i := 1) (oi := ⟨some 50, _, _, _, _, _⟩) (v := ?_) rfl (by kernel_rfl) (by kernel_rfl) (by kernel_rfl) (fun _ _ _ h => h) rfl hX ?_ ?_; rotate_left; (intro W hW; go_simp; try with_reducible rfl); simp only [Act.put, qA, qB, qC]
     refine sx_take (i := 2) (oi := ⟨some 51, _, _, _, _, _⟩) (v := ?_) rfl (by kernel_rfl) (by kernel_rfl) (by kernel_rfl) (fun _ _ _ h => h) rfl hX ?_ ?_; rotate_left; (intro W hW; go_simp; try with_reducible rfl); simp only [Act.put, qA, qB, qC]
     refine sx_take (i := 3) (oi := ⟨some 52, _, _, _, _, _⟩) (v := ?_) rfl (by kernel_rfl) (by kernel_rfl) (by kernel_rfl) (fun _ _ _ h => h) rfl hX ?_ ?_; rotate_left; (intro W hW; go_simp; try with_reducible rfl); simp only [Act.put, qA, qB, qC]
     refine sx_take (i := 4) (oi := ⟨some 53, _, _, _, _, _⟩) (v := ?_) rfl (by kernel_rfl) (by kernel_rfl) (by kernel_rfl) (fun _ _ _ h => h) rfl hX ?_ ?_; rotate_left; (intro W hW; go_simp; try with_reducible rfl); simp only [Act.put, qA, qB, qC]
     refine sx_take (i := 5) (oi := ⟨some 54, _, _, _, _, _⟩) (v := .int .i64 x) rfl (by kernel_rfl) (by kernel_rfl) (by kernel_rfl) (fun _ _ _ h => h) rfl hX (fun V hV => ld_int9 (.tmp 53) rfl rfl ((hV.cell (p := ⟨bx, ox + i, none⟩) HBX.out).trans (HCX.out i x HXI.out))) ?_; simp only [Act.put, qA, qB, qC]
     refine sx_take (i := 6) (oi := ⟨some 55, _, _, _, _, _⟩) (v := ?_) rfl (by kernel_rfl) (by kernel_rfl) (by kernel_rfl) (fun _ _ _ h => h) rfl hX ?_ ?_; rotate_left; (intro W hW; go_simp; try with_reducible rfl); simp only [Act.put, qA, qB, qC]
     refine sx_take (i := 7) (oi := ⟨some 56, _, _, _, _, _⟩) (v := ?_) rfl (by kernel_rfl) (by kernel_rfl) (by kernel_rfl) (fun _ _ _ h => h) rfl hX ?_ ?_; rotate_left; (intro W hW; go_simp; try with_reducible rfl); simp only [Act.put, qA, qB, qC]
     refine sx_take (i := 8) (oi := ⟨some 57, _, _, _, _, _⟩) (v := ?_) rfl (by kernel_rfl) (by kernel_rfl) (by kernel_rfl) (fun _ _ _ h => h) rfl hX ?_ ?_; rotate_left; (intro W hW; go_simp; try with_reducible rfl); simp only [Act.put, qA, qB, qC]
     refine sx_take (i := 9) (oi := ⟨some 58, _, _, _, _, _⟩) (v := .int .i64 y) rfl (by kernel_rfl) (by kernel_rfl) (by kernel_rfl) (fun _ _ _ h => h) rfl hX (fun V hV => ld_int9 (.tmp 57) rfl rfl ((hV.cell (p := ⟨by', oy + k, none⟩) HBY.out).trans HCY.out)) ?_; simp only [Act.put, qA, qB, qC]
     refine sx_take (i := 10) (oi := ⟨some 59, _, _, _, _, _⟩) (v := .bool (decide (x = y))) rfl (by kernel_rfl) (by kernel_rfl) (by kernel_rfl) (fun _ _ _ h => h) rfl hX (fun V _ => by (go_simp; try rfl)) ?_; simp only [Act.put, qA, qB, qC]
     refine sx_take (i := 11) (oi := ⟨some 60, _, _, _, _, _⟩) (v := ?_) rfl (by kernel_rfl) (by kernel_rfl) (by kernel_rfl) (fun _ _ _ h => h) rfl hX ?_ ?_; rotate_left; (intro W hW; go_simp; try with_reducible rfl); simp only [Act.put, qA, qB, qC]
     refine sx_take (i := 12) (oi := ⟨some 10, _, _, _, _, _⟩) (v := ?_) rfl (by kernel_rfl) (by kernel_rfl) (by kernel_rfl) (fun _ _ _ h => h) rfl hX ?_ ?_; rotate_left; (intro W hW; go_simp; try with_reducible rfl); simp only [Act.put, qA, qB, qC]
     refine wpAnyH_done (by kernel_rfl) ?_ _
     have BE := qH hX
     clear hX
     go_wp2_with fail
     exact ⟨⟨k + 1, HK.out, by congr 1, by rw [HTH.out]; rfl, BE.out⟩, by simpa [intOf] using HMK.out⟩
   ·obtain rfl : k = Y.length := Nat.le_antisymm hk (Nat.not_lt.1 hkl)
    have y1 : ¬ ((Y.length : Int) < (Y.length : Int)) := Int.lt_irrefl _
    rw [List.take_length, decide_eq_true (HXY.out x (List.mem_of_getElem? HXI.out))]
    have hci : i = 0 ∨ ∃ p, i = p + 1 := by
     cases i with
     | zero => exact .inl rfl
     | succ p => exact .inr ⟨p, rfl⟩
    rcases hci with hi0 | ⟨p, hip⟩
    ·have n0 : ¬ ((0 : Int) < (i : Int)) := by rw [hi0]; decide
     have HN0 := qH (show decide ((0 : Int) < (i : Int)) = false from decide_eq_false n0)
     clear hi0
     go_wp2_with fail
     refine sx_startB (B := w7.heap.size) (w0 := w7) (by kernel_rfl) BR.out (fun wd hwd hX => ?_)
     clear hwd n0
     refine sx_take (i := 0) (oi := ⟨some 61, _, _, _, _, _⟩) (v := ?_) rfl (by kernel_rfl) (by kernel_rfl) (by kernel_rfl) (fun _ _ _ h => h) rfl hX ?_ ?_; rotate_left; (intro W hW; go_simp; try with_reducible rfl); simp only [Act.put, qA, qB, qC]
     refine sx_take (i := 1) (oi := ⟨some 62, _, _, _, _, _⟩) (v := ?_) rfl (by kernel_rfl) (by kernel_rfl) (by kernel_rfl) (fun _ _ _ h => h) rfl hX ?_ ?_; rotate_left; (intro W hW; go_simp; try with_reducible rfl); simp only [Act.put, qA, qB, qC]
     refine sx_take (i := 2) (oi := ⟨some 63, _, _, _, _, _⟩) (v := ?_) rfl (by kernel_rfl) (by kernel_rfl) (by kernel_rfl) (fun _ _ _ h => h) rfl hX ?_ ?_; rotate_left; (intro W hW; go_simp; try with_reducible rfl); simp only [Act.put, qA, qB, qC]
     refine sx_take (i := 3) (oi := ⟨some 64, _, _, _, _, _⟩) (v := ?_) rfl (by kernel_rfl) (by kernel_rfl) (by kernel_rfl) (fun _ _ _ h => h) rfl hX ?_ ?_; rotate_left; (intro W hW; go_simp; try with_reducible rfl); simp only [Act.put, qA, qB, qC]
     refine sx_take (i := 4) (oi := ⟨some 65, _, _, _, _, _⟩) (v := .bool false) rfl (by kernel_rfl) (by kernel_rfl) (by kernel_rfl) (fun _ _ _ h => h) rfl hX (fun V _ => ex_gt (.tmp 64) rfl rfl rfl HN0.out V) ?_; simp only [Act.put, qA, qB, qC]
     refine sx_take (i := 5) (oi := ⟨some 66, _, _, _, _, _⟩) (v := ?_) rfl (by kernel_rfl) (by kernel_rfl) (by kernel_rfl) (fun _ _ _ h => h) rfl hX ?_ ?_; rotate_left; (intro W hW; go_simp; try with_reducible rfl); simp only [Act.put, qA, qB, qC]
     refine sx_skip (i := 6) (oi := ⟨some 67, _, _, _, _, _⟩) rfl (by kernel_rfl) (by kernel_rfl) (by kernel_rfl) (fun _ _ _ h => h) rfl hX ?_; simp only [Act.put, qA, qB, qC]
     refine sx_skip (i := 7) (oi := ⟨some 68, _, _, _, _, _⟩) rfl (by kernel_rfl) (by kernel_rfl) (by kernel_rfl) (fun _ _ _ h => h) rfl hX ?_; simp only [Act.put, qA, qB, qC]
     refine sx_skip (i := 8) (oi := ⟨some 69, _, _, _, _, _⟩) rfl (by kernel_rfl) (by kernel_rfl) (by kernel_rfl) (fun _ _ _ h => h) rfl hX ?_; simp only [Act.put, qA, qB, qC]
     refine sx_skip (i := 9) (oi := ⟨some 70, _, _, _, _, _⟩) rfl (by kernel_rfl) (by kernel_rfl) (by kernel_rfl) (fun _ _ _ h => h) rfl hX ?_; simp only [Act.put, qA, qB, qC]
     refine sx_skip (i := 10) (oi := ⟨some 71, _, _, _, _, _⟩) rfl (by kernel_rfl) (by kernel_rfl) (by kernel_rfl) (fun _ _ _ h => h) rfl hX ?_; simp only [Act.put, qA, qB, qC]
     refine sx_skip (i := 11) (oi := ⟨some 72, _, _, _, _, _⟩) rfl (by kernel_rfl) (by kernel_rfl) (by kernel_rfl) (fun _ _ _ h => h) rfl hX ?_; simp only [Act.put, qA, qB, qC]
     refine sx_skip (i := 12) (oi := ⟨some 73, _, _, _, _, _⟩) rfl (by kernel_rfl) (by kernel_rfl) (by kernel_rfl) (fun _ _ _ h => h) rfl hX ?_; simp only [Act.put, qA, qB, qC]
     refine sx_skip (i := 13) (oi := ⟨some 74, _, _, _, _, _⟩) rfl (by kernel_rfl) (by kernel_rfl) (by kernel_rfl) (fun _ _ _ h => h) rfl hX ?_; simp only [Act.put, qA, qB, qC]
     refine sx_skip (i := 14) (oi := ⟨some 75, _, _, _, _, _⟩) rfl (by kernel_rfl) (by kernel_rfl) (by kernel_rfl) (fun _ _ _ h => h) rfl hX ?_; simp only [Act.put, qA, qB, qC]
     refine sx_skip (i := 15) (oi := ⟨some 76, _, _, _, _, _⟩) rfl (by kernel_rfl) (by kernel_rfl) (by kernel_rfl) (fun _ _ _ h => h) rfl hX ?_; simp only [Act.put, qA, qB, qC]
     refine sx_take (i := 16) (oi := ⟨some 77, _, _, _, _, _⟩) (v := ?_) rfl (by kernel_rfl) (by kernel_rfl) (by kernel_rfl) (fun _ _ _ h => h) rfl hX ?_ ?_; rotate_left; (intro W hW; go_simp; try with_reducible rfl); simp only [Act.put, qA, qB, qC]
     refine sx_take (i := 17) (oi := ⟨some 78, _, _, _, _, _⟩) (v := ?_) rfl (by kernel_rfl) (by kernel_rfl) (by kernel_rfl) (fun _ _ _ h => h) rfl hX ?_ ?_; rotate_left; (intro W hW; go_simp; try with_reducible rfl); simp only [Act.put, qA, qB, qC]
     refine wpAnyH_done (by kernel_rfl) ?_ _
     have BE := qH hX
     clear hX
     go_wp2_with fail
     exact ⟨⟨i + 1, HI.out, by congr 1, BE.out⟩, by simpa [intOf] using HMI.out⟩
    ·have hpx : p < X.length := by have := HI.out; rw [hip] at this; exact Nat.lt_of_succ_lt this
     obtain ⟨x', hx'⟩ : ∃ y, X[p]? = some y := ⟨_, List.getElem?_eq_getElem hpx⟩
     have HXP := qH hx'
     have HLT := qH (rise_at HXR.out hx' (by rw [← hip]; exact HXI.out))
     have HN0 := qH (show decide ((0 : Int) < (i : Int)) = true from decide_eq_true (by rw [hip]; exact Int.natCast_pos.2 (Nat.succ_pos p)))
     have HPW := qH (show IntKind.i64.wrap ((i : Int) - 1) = (p : Int) by rw [hip]; exact pred_wrap hpx (Nat.le_refl _) (by have := HXL.out; unfold maxLen; omega))
     have p3 : (p : Int) < (X.length : Int) := Int.ofNat_lt.2 hpx
     clear hx' hip hpx
     go_wp2_with fail
     refine sx_startB (B := w7.heap.size) (w0 := w7) (by kernel_rfl) BR.out (fun wd hwd hX => ?_)
     clear hwd
     refine sx_take (i := 0) (oi := ⟨some 61, _, _, _, _, _⟩) (v := ?_) rfl (by kernel_rfl) (by kernel_rfl) (by kernel_rfl) (fun _ _ _ h => h) rfl hX ?_ ?_; rotate_left; (intro W hW; go_simp; try with_reducible rfl); simp only [Act.put, qA, qB, qC]
     refine sx_take (i := 1) (oi := ⟨some 62, _, _, _, _, _⟩) (v := ?_) rfl (by kernel_rfl) (by kernel_rfl) (by kernel_rfl) (fun _ _ _ h => h) rfl hX ?_ ?_; rotate_left; (intro W hW; go_simp; try with_reducible rfl); simp only [Act.put, qA, qB, qC]
     refine sx_take (i := 2) (oi := ⟨some 63, _, _, _, _, _⟩) (v := ?_) rfl (by kernel_rfl) (by kernel_rfl) (by kernel_rfl) (fun _ _ _ h => h) rfl hX ?_ ?_; rotate_left; (intro W hW; go_simp; try with_reducible rfl); simp only [Act.put, qA, qB, qC]
     refine sx_take (i := 3) (oi := ⟨some 64, _, _, _, _, _⟩) (v := ?_) rfl (by kernel_rfl) (by kernel_rfl) (by kernel_rfl) (fun _ _ _ h => h) rfl hX ?_ ?_; rotate_left; (intro W hW; go_simp; try with_reducible rfl); simp only [Act.put, qA, qB, qC]
     refine sx_take (i := 4) (oi := ⟨some 65, _, _, _, _, _⟩) (v := .bool true) rfl (by kernel_rfl) (by kernel_rfl) (by kernel_rfl) (fun _ _ _ h => h) rfl hX (fun V _ => ex_gt (.tmp 64) rfl rfl rfl HN0.out V) ?_; simp only [Act.put, qA, qB, qC]
     refine sx_take (i := 5) (oi := ⟨some 66, _, _, _, _, _⟩) (v := ?_) rfl (by kernel_rfl) (by kernel_rfl) (by kernel_rfl) (fun _ _ _ h => h) rfl hX ?_ ?_; rotate_left; (intro W hW; go_simp; try with_reducible rfl); simp only [Act.put, qA, qB, qC]
     refine sx_take (i := 6) (oi := ⟨some 67, _, _, _, _, _⟩) (v := ?_) rfl (by kernel_rfl) (by kernel_rfl) (by kernel_rfl) (fun _ _ _ h => h) rfl hX ?_ ?_; rotate_left; (intro W hW; go_simp; try with_reducible rfl); simp only [Act.put, qA, qB, qC]
     refine sx_take (i := 7) (oi := ⟨some 68, _, _, _, _, _⟩) (v := ?_) rfl (by kernel_rfl) (by kernel_rfl) (by kernel_rfl) (fun _ _ _ h => h) rfl hX ?_ ?_; rotate_left; (intro W hW; go_simp; try with_reducible rfl); simp only [Act.put, qA, qB, qC]
     refine sx_take (i := 8) (oi := ⟨some 69, _, _, _, _, _⟩) (v := .int .i64 (p : Int)) rfl (by kernel_rfl) (by kernel_rfl) (by kernel_rfl) (fun _ _ _ h => h) rfl hX (fun V _ => ex_pred (.tmp 68) rfl rfl rfl HPW.out V) ?_; simp only [Act.put, qA, qB, qC]
     refine sx_take (i := 9) (oi := ⟨some 70, _, _, _, _, _⟩) (v := ?_) rfl (by kernel_rfl) (by kernel_rfl) (by kernel_rfl) (fun _ _ _ h => h) rfl hX ?_ ?_; rotate_left; (intro W hW; go_simp; try with_reducible rfl); simp only [Act.put, qA, qB, qC]
     refine sx_take (i := 10) (oi := ⟨some 71, _, _, _, _, _⟩) (v := .int .i64 x') rfl (by kernel_rfl) (by kernel_rfl) (by kernel_rfl) (fun _ _ _ h => h) rfl hX (fun V hV => ld_int9 (.tmp 70) rfl rfl ((hV.cell (p := ⟨bx, ox + p, none⟩) HBX.out).trans (HCX.out p x' HXP.out))) ?_; simp only [Act.put, qA, qB, qC]
     refine sx_take (i := 11) (oi := ⟨some 72, _, _, _, _, _⟩) (v := ?_) rfl (by kernel_rfl) (by kernel_rfl) (by kernel_rfl) (fun _ _ _ h => h) rfl hX ?_ ?_; rotate_left; (intro W hW; go_simp; try with_reducible rfl); simp only [Act.put, qA, qB, qC]
     refine sx_take (i := 12) (oi := ⟨some 73, _, _, _, _, _⟩) (v := ?_) rfl (by kernel_rfl) (by kernel_rfl) (by kernel_rfl) (fun _ _ _ h => h) rfl hX ?_ ?_; rotate_left; (intro W hW; go_simp; try with_reducible rfl); simp only [Act.put, qA, qB, qC]
     refine sx_take (i := 13) (oi := ⟨some 74, _, _, _, _, _⟩) (v := ?_) rfl (by kernel_rfl) (by kernel_rfl) (by kernel_rfl) (fun _ _ _ h => h) rfl hX ?_ ?_; rotate_left; (intro W hW; go_simp; try with_reducible rfl); simp only [Act.put, qA, qB, qC]
     refine sx_take (i := 14) (oi := ⟨some 75, _, _, _, _, _⟩) (v := .int .i64 x) rfl (by kernel_rfl) (by kernel_rfl) (by kernel_rfl) (fun _ _ _ h => h) rfl hX (fun V hV => ld_int9 (.tmp 74) rfl rfl ((hV.cell (p := ⟨bx, ox + i, none⟩) HBX.out).trans (HCX.out i x HXI.out))) ?_; simp only [Act.put, qA, qB, qC]
     refine sx_take (i := 15) (oi := ⟨some 76, _, _, _, _, _⟩) (v := .bool false) rfl (by kernel_rfl) (by kernel_rfl) (by kernel_rfl) (fun _ _ _ h => h) rfl hX (fun V _ => ex_ge (.tmp 71) (.tmp 75) rfl rfl rfl HLT.out V) ?_; simp only [Act.put, qA, qB, qC]
     refine sx_take (i := 16) (oi := ⟨some 77, _, _, _, _, _⟩) (v := ?_) rfl (by kernel_rfl) (by kernel_rfl) (by kernel_rfl) (fun _ _ _ h => h) rfl hX ?_ ?_; rotate_left; (intro W hW; go_simp; try with_reducible rfl); simp only [Act.put, qA, qB, qC]
     refine sx_take (i := 17) (oi := ⟨some 78, _, _, _, _, _⟩) (v := ?_) rfl (by kernel_rfl) (by kernel_rfl) (by kernel_rfl) (fun _ _ _ h => h) rfl hX ?_ ?_; rotate_left; (intro W hW; go_simp; try with_reducible rfl); simp only [Act.put, qA, qB, qC]
     refine wpAnyH_done (by kernel_rfl) ?_ _
     have BE := qH hX
     clear hX
     go_wp2_with fail
     exact ⟨⟨i + 1, HI.out, by congr 1, BE.out⟩, by simpa [intOf] using HMI.out⟩
  ·obtain rfl : i = X.length := Nat.le_antisymm hi (Nat.not_lt.1 hin)
   have x1 : ¬ ((X.length : Int) < (X.length : Int)) := Int.lt_irrefl _
   have K9 := qH (K7.out.below BQ.out K7.out.lt)
   have N9 := qH (N7.out.below BQ.out)
   have X9 := qH (X7.out.below BQ.out)
   have B9 := qH (B7.out.trans (BQ.out.mono B7.out.size))
   have HTW := qH (show cloN S a z X = X by rw [HX.out]; exact cloN_twice S a z l)
   go_wp2_with ((with_reducible refine atDst 79 ?_); refine wpList_ldBlk rfl 24 _ rfl w.heap.size rfl 24 _ _ K9.out Try.underlying24 rfl (size_nfa rfl) ?_; (try simp only [Act.put, qA, qB, qC]))
   refine (HT.out.close S a z _ X _ wi N9.out X9.out (by have := HXL.out; omega)).mono ?_
   rintro e wA ⟨vZ, rfl, hrz, hb⟩
   rw [HTW.out] at hrz
   have QZ := qH hrz
   have XA := qH (X9.out.below hb)
   have BA := qH (B9.out.trans (hb.mono B9.out.size))
   clear hrz hb
   go_wp2_with fail
   refine (sameN_self X _ _ wA QZ.out XA.out).mono ?_
   rintro e wB ⟨rfl, hb⟩
   have BB := qH (BA.out.trans (hb.mono BA.out.size))
   clear hb
   go_wp2_with fail
   go_ret
   exact ⟨rfl, BB.out⟩
end Go.Proofs.Ytmcpfaaakmehdaa
