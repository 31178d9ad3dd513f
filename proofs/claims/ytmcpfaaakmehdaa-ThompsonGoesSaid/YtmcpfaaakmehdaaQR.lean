/-
  Texts of this proof, put together: ThU. No statement is proved here.
-/
import Derived.Test.YtmcpfaaakmehdaaQQ
import Derived.Test.YtmcpfaaakmehdaaQH
namespace Go.Proofs.Ytmcpfaaakmehdaa
open Go.RowKit
set_option linter.unusedSimpArgs false
set_option linter.unusedVariables false
theorem cls_four {S : List St} {a z : Int} (h : MayN S a z) : clsN S [a, -1, (S.length : Int), 1099511627776] = clsN S [a] := clsN_congr fun i hi => by
  have := h.few
  simp only [List.mem_cons, List.mem_nil_iff, or_false]
  constructor
  · rintro (h1 | h1 | h1 | h1)
    · exact h1
    · omega
    · omega
    · omega
  · exact .inl
theorem stp_two (S : List St) (l : List Int) (b : Nat) : stpN S ([-5, ((S.length + 9 : Nat) : Int)] ++ l) b = stpN S l b := by
  unfold stpN
  congr 1
  unfold goN
  simp only [List.cons_append, List.nil_append, List.filterMap_cons]
  have h2 : S[(((S.length + 9 : Nat) : Int)).toNat]? = none := List.getElem?_eq_none (by omega)
  rw [if_neg (by omega), if_pos (by omega), h2]
  rfl
theorem cls_rng {S : List St} {l : List Int} : ∀ x ∈ clsN S l, 0 ≤ x ∧ x < (S.length : Int) := fun x hx => by
  obtain ⟨i, rfl, hi, _⟩ := risJ_mem.1 hx
  omega
theorem beh_rng {S : List St} : ∀ (W : List UInt8) (l : List Int), (∀ x ∈ l, 0 ≤ x ∧ x < (S.length : Int)) → ∀ x ∈ behN S l W, 0 ≤ x ∧ x < (S.length : Int)
  | [], l, h => h
  | b :: W, l, _ => beh_rng W _ cls_rng
theorem ex_lt {ev : Operand → Value} {o : Oper} (x : Operand) (ho : o.op = .binOp .lss 3 x (.const (.int .i64 0)) 3) {k : Int} (hx : ev x = .int .i64 k) (hc : ev (.const (.int .i64 0)) = .int .i64 0) (hm : 0 ≤ k) (W : World) : (execOp ev o).run Try.prog W = .ok (.value (.bool false)) W := by
  have h : ¬ (k < 0) := by omega
  simp only [execOp, ho, hx, hc]
  go_simp
theorem ex_add9 {ev : Operand → Value} {o : Oper} (x : Operand) (ho : o.op = .binOp .add 3 x (.const (.int .i64 9)) 3) {k m : Int} (hx : ev x = .int .i64 k) (hc : ev (.const (.int .i64 9)) = .int .i64 9) (hm : IntKind.i64.wrap (k + 9) = m) (W : World) : (execOp ev o).run Try.prog W = .ok (.value (.int .i64 m)) W := by
  subst hm
  simp only [execOp, ho, hx, hc]
  go_simp
theorem ex_eq {ev : Operand → Value} {o : Oper} (x y : Operand) (ho : o.op = .binOp .eql 3 x y 3) {k m : Int} (hx : ev x = .int .i64 k) (hy : ev y = .int .i64 m) (W : World) : (execOp ev o).run Try.prog W = .ok (.value (.bool (decide (k = m)))) W := by
  simp only [execOp, ho, hx, hy]
  go_simp
  try rfl
section
variable {P : Program} {o : Oper} {a : Act} {w : World} {K : Act → World → Prop} {Q : Exit → Act → World → Prop}
theorem wp_bldI2 (t e : TypeId) (x y : Operand) (ho : o.op = .buildSlice t 2 #[(0, x), (1, y)]) (i : TypeInfo) (ht : P.underlying t = some (.slice e)) (hi : P.info? e = some i) (z : Int) (hz : i.zero = some (.int .i64 z)) (hs : i.size = 1) (p q : Int) (hx : a.eval x = .int .i64 p) (hy : a.eval y = .int .i64 q)
    (h : ∀ w', Blk w' w.heap.size e (nums .i64 [p, q]) → Below w.heap.size w w' → K (a.put o.dst (.slice (some ⟨w.heap.size, 0, none⟩) 2 2)) w') : o.wp P a w K Q := by
  have hzv : (zeroValue e).run P w = .ok (.int .i64 z) w := by simp [zeroValue, typeInfo, hi, hz]
  have hrun : (Instr.buildSlice t 2 #[(0, .int .i64 p), (1, .int .i64 q)]).run P w = .ok (.slice (some ⟨w.heap.size, 0, none⟩) 2 2) (w.alloc (.cells (nums .i64 [p, q]).toArray e)) := by
    simp [Instr.buildSlice, run_underlying ht, sizeOf, typeInfo, hi, hs, hzv, Value.cells, Instr.fill, Array.range_succ, Array.range_zero', newRow, nums]
  unfold Oper.wp
  simp only [execOp, ho, List.map_toArray, List.map_cons, List.map_nil, hx, hy, hrun, Sem.run_bind, Result.andThen_ok, Sem.run_pure]
  exact h _ (Blk.new w e _) ((Below.refl _ _).alloc (Nat.le_refl _) _)
theorem wp_bldI4 (t e : TypeId) (x y u v : Operand) (ho : o.op = .buildSlice t 4 #[(0, x), (1, y), (2, u), (3, v)]) (i : TypeInfo) (ht : P.underlying t = some (.slice e)) (hi : P.info? e = some i) (z : Int) (hz : i.zero = some (.int .i64 z)) (hs : i.size = 1) (p q r s : Int) (hx : a.eval x = .int .i64 p) (hy : a.eval y = .int .i64 q) (hu : a.eval u = .int .i64 r) (hv : a.eval v = .int .i64 s)
    (h : ∀ w', Row w' (.slice (some ⟨w.heap.size, 0, none⟩) 4 4) (nums .i64 [p, q, r, s]) → Below w.heap.size w w' → K (a.put o.dst (.slice (some ⟨w.heap.size, 0, none⟩) 4 4)) w') : o.wp P a w K Q := by
  have hzv : (zeroValue e).run P w = .ok (.int .i64 z) w := by simp [zeroValue, typeInfo, hi, hz]
  have hrun : (Instr.buildSlice t 4 #[(0, .int .i64 p), (1, .int .i64 q), (2, .int .i64 r), (3, .int .i64 s)]).run P w = .ok (.slice (some ⟨w.heap.size, 0, none⟩) 4 4) (w.alloc (.cells (nums .i64 [p, q, r, s]).toArray e)) := by
    simp [Instr.buildSlice, run_underlying ht, sizeOf, typeInfo, hi, hs, hzv, Value.cells, Instr.fill, Array.range_succ, Array.range_zero', newRow, nums]
  unfold Oper.wp
  simp only [execOp, ho, List.map_toArray, List.map_cons, List.map_nil, hx, hy, hu, hv, hrun, Sem.run_bind, Result.andThen_ok, Sem.run_pure]
  exact h _ (rowB (Blk.new w e (nums .i64 [p, q, r, s])) rfl (by omega)) ((Below.refl _ _).alloc (Nat.le_refl _) _)
end
set_option maxHeartbeats 8000000 in
set_option maxRecDepth 1000000 in
theorem goes_walk (T : ThC) (hbg : ∀ w, Calls Try.prog 9 #[] w fun e w' => e = .returned (.bool true) ∧ Below w.heap.size w w')
    (S : List St) (a z : Int) (cs : List Value) (W : List UInt8) (U : Value) (w : World) (hv : NfaV w cs S a z) (hw : Row w U (bvs W)) :
    Calls Try.prog 7 #[.agg cs.toArray, U] w fun e w' => e = .returned (.bool true) ∧ Below w.heap.size w w' := by
  have N0 := qH hv
  have W0 := qH hw
  have HT := qH T
  obtain ⟨A, cap, rfl, hlc, hcm, hA0⟩ := hv.len
  obtain ⟨A2, cap2, rfl, a1, a2, _⟩ := hw
  rw [bvs_length] at W0 a1 ⊢
  have HLN := qH (And.intro a1 a2)
  clear hv hlc hcm hA0 T a1 a2
  obtain ⟨i1, hi1, hy0, hy1, hy2⟩ := infoP inf_int
  go_enter Try.func7, Try.ntmps7
  go_wp2_with ((with_reducible refine atDst 2 ?_); refine wpList_box rfl 24 _ rfl [.slice A S.length cap, .int .i64 a, .int .i64 z] rfl (Below.refl w.heap.size w) (Nat.le_refl _) ?_; intro w1 hk1 hb1 hs1 _; have K1 := qH hk1; have B1 := qH hb1; clear hk1 hb1 hs1; (try simp only [Act.put, qA, qB, qC]))
  refine (hbg w1).mono ?_
  rintro e w2 ⟨rfl, hb⟩
  have K2 := qH (K1.out.below hb K1.out.lt)
  have B2 := qH (B1.out.trans (hb.mono B1.out.size))
  clear hb hbg
  go_wp2_with ((with_reducible refine atDst 11 ?_); refine wpList_ldBlk rfl 24 _ rfl w.heap.size rfl 24 _ _ K2.out Try.underlying24 rfl (size_nfa rfl) ?_; (try simp only [Act.put, qA, qB, qC]))
  refine (lightN_any S a z 40 _ w2 (N0.out.below B2.out)).mono ?_
  rintro e w3 ⟨rfl, hb⟩
  have K3 := qH (K2.out.below hb K2.out.lt)
  have B3 := qH (B2.out.trans (hb.mono B2.out.size))
  have N3 := qH (N0.out.below B3.out)
  have W3 := qH (W0.out.below B3.out)
  clear hb
  obtain ⟨lt, hlt⟩ : ∃ m, lightB S 40 = m := ⟨_, rfl⟩
  rw [hlt]
  clear hlt
  cases lt with
  | false => go_wp2_with fail
             go_ret
             exact ⟨rfl, B3.out⟩
  | true =>
    by_cases hw20 : (20 : Int) < (W.length : Int)
    · go_wp2_with fail
      go_ret
      exact ⟨rfl, B3.out⟩
    have hd20 : decide ((20 : Int) < (W.length : Int)) = false := decide_eq_false hw20
    clear hw20
    go_wp2_with ((with_reducible refine atDst 20 ?_); refine wpList_ldArr rfl 24 _ rfl w.heap.size rfl 24 _ _ K3.out Try.underlying24 rfl (size_nfa rfl) ?_; (try simp only [Act.put, qA, qB, qC]))
    refine (HT.out.may S a z _ w3 N3.out).mono ?_
    rintro e w4 ⟨rfl, hb⟩
    have K4 := qH (K3.out.below hb K3.out.lt)
    have B4 := qH (B3.out.trans (hb.mono B3.out.size))
    have N4 := qH (N3.out.below hb)
    have W4 := qH (W3.out.below hb)
    clear hb hd20
    obtain ⟨my, hmy⟩ : ∃ m, mayNB S a z = m := ⟨_, rfl⟩
    rw [hmy]
    cases my with
    | false => go_wp2_with fail
               go_ret
               exact ⟨rfl, B4.out⟩
    | true =>
      have HM := qH (mayNB_iff.1 hmy)
      have HCY := qH (show ∀ l, cloN S a z l = clsN S l from fun l => cloN_yes hmy)
      have HSY := qH (show ∀ l b, steN S a z l b = stpN S l b from fun l b => (steN_yes hmy).trans (cloN_yes hmy))
      have HRY := qH (runB_yes (W := W) hmy)
      have HN := qH HM.out.few
      have c0 := K4.out.cell 0
      have c1 := K4.out.cell 1
      clear hmy
      go_wp2_with (first
        | ((with_reducible refine atDst 24 ?_); refine wpList_ldBlk rfl 24 _ rfl w.heap.size rfl 24 _ _ K4.out Try.underlying24 rfl (size_nfa rfl) ?_; (try simp only [Act.put, qA, qB, qC]))
        | ((with_reducible refine atDst 30 ?_); refine wpList_plain rfl fun K hK => wp_bldI4 25 3 (.tmp 26) _ (.tmp 29) _ rfl i1 Try.underlying25 hi1 0 hy0 hy1 a (-1) (S.length : Int) 1099511627776 rfl rfl rfl rfl ?_; intro w5 hr hb; have R5 := qH hr; have X5 := qH hb; clear hr hb; refine hK _ _ ?_; clear hK K; (try simp only [Act.put, qA, qB, qC])))
      refine (HT.out.close S a z _ _ _ w5 (N4.out.below X5.out) R5.out (by simp)).mono ?_
      rintro e w6 ⟨v6, rfl, hr, hb⟩
      rw [HCY.out, cls_four HM.out] at hr
      have R6 := qH hr
      have B6 := qH (X5.out.trans (hb.mono X5.out.size))
      clear hr hb c0 c1
      go_wp2_with fail
      go_loopw [5, 6] (fun v iv wl => ∃ j : Nat, j ≤ W.length ∧ iv = .int .i64 (j : Int) ∧ Row wl v (nums .i64 (behN S (clsN S [a]) (W.take j))) ∧ Below w4.heap.size w4 wl) (fun _ iv _ => W.length - (intOf iv).toNat)
      case atStart => exact ⟨0, Nat.zero_le _, by simp, R6.out, B6.out⟩
      clear R6 B6
      obtain ⟨j, hj, rfl, ho, hb⟩ := hrel
      have HO := qH ho
      have BQ := qH hb
      have K9 := qH (K4.out.below hb K4.out.lt)
      have N9 := qH (N4.out.below hb)
      clear ho hb
      obtain ⟨wq, hwq⟩ : ∃ v : World, v = wr := ⟨_, rfl⟩
      subst hwq
      obtain ⟨A9, c9, rfl, _⟩ := HO.out
      rw [nums_length] at HO ⊢
      by_cases hjl : j < W.length
      · have j1 : (j : Int) < (W.length : Int) := Int.ofNat_lt.2 hjl
        obtain ⟨b, hx⟩ : ∃ x, W[j]? = some x := ⟨_, List.getElem?_eq_getElem hjl⟩
        obtain ⟨bl, ol, rfl, hbl, hcell⟩ := (W4.out.below BQ.out).at_ (by rw [bvs_length]; exact Nat.lt_of_le_of_lt (Nat.zero_le _) hjl)
        have HCJ := qH (show wq.cell? ⟨bl, ol + j, none⟩ = some (.int .u8 (b.toNat : Int)) from hcell j _ (bvs_get W j b hx))
        have HBL := qH hbl
        have HJ := qH hjl
        have HMJ := qH (sub_next hjl)
        have e3 := wrap_len HJ.out HLN.out.1 HLN.out.2
        have e4 := wrap_len' HJ.out HLN.out.1 HLN.out.2
        have HBE := qH (behN_take (S := S) (l := clsN S [a]) hx)
        have HBN := qH (show b.toNat < 256 from b.toNat_lt)
        obtain ⟨n, hn⟩ : ∃ n, n = b.toNat := ⟨_, rfl⟩
        rw [← hn] at HCJ HBE HBN
        obtain ⟨M, hM⟩ : ∃ M, M = behN S (clsN S [a]) (W.take j) := ⟨_, rfl⟩
        have HML := qH (show M.length ≤ 2000 by
          have h1 := behN_len S (W.take j) _ (clsN_len S [a])
          have h2 := HN.out
          rw [hM]; clear e3 e4; omega)
        rw [← hM] at HO HBE ⊢
        have HC0 := qH (K9.out.cell 0)
        have HKL := qH K9.out.lt
        have HW9 := qH (show IntKind.i64.wrap ((S.length : Int) + 9) = ((S.length + 9 : Nat) : Int) from IntWalk.i64_in _ (by have := HN.out; clear e3 e4; omega))
        clear hcell hbl hx hj hjl hn hM
        go_wp2_with fail
        refine sx_startB (B := wq.heap.size) (w0 := wq) (by kernel_rfl) (Below.refl _ _) (fun wd hwd hX => ?_)
        clear hwd
        refine sx_take (i := 0) (oi := ⟨some 38, _, _, _, _, _⟩) (v := .agg #[.slice A S.length cap, .int .i64 a, .int .i64 z]) rfl (by kernel_rfl) (by kernel_rfl) (by kernel_rfl) (fun _ _ _ h => h) rfl hX (ld_blk 24 _ rfl w.heap.size rfl 24 [.slice A S.length cap, .int .i64 a, .int .i64 z] _ K9.out K9.out.lt Try.underlying24 rfl (size_nfa rfl)) ?_; simp only [Act.put, qA, qB, qC]
        refine sx_take (i := 1) (oi := ⟨some 39, _, _, _, _, _⟩) (v := ?_) rfl (by kernel_rfl) (by kernel_rfl) (by kernel_rfl) (fun _ _ _ h => h) rfl hX ?_ ?_; rotate_left; (intro W hW; go_simp; try with_reducible rfl); simp only [Act.put, qA, qB, qC]
        refine sx_take (i := 2) (oi := ⟨some 40, _, _, _, _, _⟩) (v := .slice A S.length cap) rfl (by kernel_rfl) (by kernel_rfl) (by kernel_rfl) (fun _ _ _ h => h) rfl hX (fun V hV => ld_sts (.tmp 39) rfl rfl ((hV.cell (p := ⟨w.heap.size, 0, none⟩) HKL.out).trans HC0.out)) ?_; simp only [Act.put, qA, qB, qC]
        refine sx_take (i := 3) (oi := ⟨some 41, _, _, _, _, _⟩) (v := ?_) rfl (by kernel_rfl) (by kernel_rfl) (by kernel_rfl) (fun _ _ _ h => h) rfl hX ?_ ?_; rotate_left; (intro W hW; go_simp; try with_reducible rfl); simp only [Act.put, qA, qB, qC]
        refine sx_take (i := 4) (oi := ⟨some 42, _, _, _, _, _⟩) (v := .int .i64 ((S.length + 9 : Nat) : Int)) rfl (by kernel_rfl) (by kernel_rfl) (by kernel_rfl) (fun _ _ _ h => h) rfl hX (fun V _ => ex_add9 (.tmp 41) rfl rfl rfl HW9.out V) ?_; simp only [Act.put, qA, qB, qC]
        refine sx_take (i := 6) (oi := ⟨some 44, _, _, _, _, _⟩) (v := ?_) rfl (by kernel_rfl) (by kernel_rfl) (by kernel_rfl) (fun _ _ _ h => h) rfl hX ?_ ?_; rotate_left; (intro W hW; go_simp; try with_reducible rfl); simp only [Act.put, qA, qB, qC]
        refine sx_take (i := 8) (oi := ⟨some 46, _, _, _, _, _⟩) (v := ?_) rfl (by kernel_rfl) (by kernel_rfl) (by kernel_rfl) (fun _ _ _ h => h) rfl hX ?_ ?_; rotate_left; (intro W hW; go_simp; try with_reducible rfl); simp only [Act.put, qA, qB, qC]
        refine sx_take (i := 9) (oi := ⟨some 47, _, _, _, _, _⟩) (v := ?_) rfl (by kernel_rfl) (by kernel_rfl) (by kernel_rfl) (fun _ _ _ h => h) rfl hX ?_ ?_; rotate_left; (intro W hW; go_simp; try with_reducible rfl); simp only [Act.put, qA, qB, qC]
        refine sx_take (i := 10) (oi := ⟨some 48, _, _, _, _, _⟩) (v := ?_) rfl (by kernel_rfl) (by kernel_rfl) (by kernel_rfl) (fun _ _ _ h => h) rfl hX ?_ ?_; rotate_left; (intro W hW; go_simp; try with_reducible rfl); simp only [Act.put, qA, qB, qC]
        refine sx_take (i := 11) (oi := ⟨some 49, _, _, _, _, _⟩) (v := .int .u8 (n : Int)) rfl (by kernel_rfl) (by kernel_rfl) (by kernel_rfl) (fun _ _ _ h => h) rfl hX (fun V hV => ld_u9 (.tmp 48) rfl rfl ((hV.cell (p := ⟨bl, ol + j, none⟩) HBL.out).trans HCJ.out)) ?_; simp only [Act.put, qA, qB, qC]
        refine sx_actB (i := 5) (o := ⟨some 43, _, _, _, _, _⟩) rfl (by kernel_rfl) rfl hX (fun K hK => ?_)
        have OD := qH (HO.out.below hX)
        have SD := qH hX.size
        refine wp_bldI2 25 3 _ (.tmp 42) rfl i1 Try.underlying25 hi1 0 hy0 hy1 (-5) ((S.length + 9 : Nat) : Int) rfl rfl ?_
        intro w5 hk5 hb5
        have K5 := qH hk5
        have X5 := qH hb5
        refine hK _ _ (hb5.mono hX.size) ?_
        clear hK K
        (try simp only [Act.put, qA, qB, qC])
        replace hX := hX.trans (hb5.mono hX.size)
        have H5 := qH hX
        clear hk5 hb5
        refine sx_actB (i := 7) (o := ⟨some 45, _, _, _, _, _⟩) rfl (by kernel_rfl) rfl hX (fun K hK => ?_)
        refine wp_appW (base := wq.heap.size) (.tmp 43) (.tmp 44) 25 rfl 3 i1 (.int .i64 0) 8 Try.underlying25 hi1 hy0 hy1 hy2 rfl (.slice (some ⟨wd.heap.size, 0, none⟩) 2 2) 2 (nums .i64 [-5, ((S.length + 9 : Nat) : Int)]) rfl (K5.out.own SD.out (by unfold maxLen; simp [nums])) _ (nums .i64 M) rfl (OD.out.below X5.out) (nums_one _ _) (by have := HML.out; rw [nums_length]; omega) (by omega) hX.size ?_
        intro v6 w6 ho6 hg6 hw6
        have hY := (Below.refl wq.heap.size w5).grown hg6 hX.size (fun q hq => by
          have h3 : some wd.heap.size = some q := hq
          injection h3 with h3
          rw [← h3]
          exact SD.out)
        have RM := qH (show Row w6 v6 (nums .i64 ([-5, ((S.length + 9 : Nat) : Int)] ++ M)) by rw [nums_append]; exact Row.of_own ho6)
        refine hK _ _ hY ?_
        clear hK K
        (try simp only [Act.put, qA, qB, qC])
        replace hX := hX.trans hY
        clear ho6 hg6 hw6 hY
        refine sx_actB (i := 12) (o := ⟨some 50, _, _, _, _, _⟩) rfl (by kernel_rfl) rfl hX (fun K hK => ?_)
        go_wp2_with fail
        refine (HT.out.step S a z _ _ _ n w6 (N9.out.below hX) RM.out (by have := HML.out; simp; omega) HBN.out).mono ?_
        rintro e w7 ⟨v7, rfl, hr7, hb7⟩
        rw [HSY.out, stp_two, ← HBE.out] at hr7
        go_wp2_with fail
        refine hK _ _ (hb7.mono hX.size) ?_
        clear hK K
        (try simp only [Act.put, qA, qB, qC])
        replace hX := hX.trans (hb7.mono hX.size)
        have R7 := qH hr7
        have B7 := qH (BQ.out.trans (hX.mono BQ.out.size))
        clear hr7 hb7
        refine sx_take (i := 13) (oi := ⟨some 5, _, _, _, _, _⟩) (v := ?_) rfl (by kernel_rfl) (by kernel_rfl) (by kernel_rfl) (fun _ _ _ h => h) rfl hX ?_ ?_; rotate_left; (intro W hW; go_simp; try with_reducible rfl); simp only [Act.put, qA, qB, qC]
        refine wpAnyH_done (by kernel_rfl) ?_ _
        clear hX
        go_wp2_with fail
        exact ⟨⟨j + 1, HJ.out, by congr 1, R7.out, B7.out⟩, by simpa [intOf] using HMJ.out⟩
      · obtain rfl : j = W.length := Nat.le_antisymm hj (Nat.not_lt.1 hjl)
        have j1 : ¬ ((W.length : Int) < (W.length : Int)) := Int.lt_irrefl _
        obtain ⟨M, hM⟩ : ∃ M, M = behN S (clsN S [a]) (W.take W.length) := ⟨_, rfl⟩
        rw [← hM] at HO HRY ⊢
        have HMR := qH (show ∀ x ∈ M, 0 ≤ x ∧ x < (S.length : Int) by rw [hM]; exact beh_rng _ _ cls_rng)
        have HML := qH (show M.length ≤ 2000 by
          have h1 := behN_len S (W.take W.length) _ (clsN_len S [a])
          have h2 := HN.out
          rw [hM]; omega)
        obtain ⟨A8, c8, h8⟩ : ∃ A c, A9 = A ∧ c9 = c := ⟨_, _, rfl, rfl⟩
        clear hM h8
        go_wp2_with fail
        go_loopw [7, 8] (fun bv' kv wl => ∃ k : Nat, k ≤ M.length ∧ kv = .int .i64 (k : Int) ∧ bv' = .bool (decide (z ∈ M.take k)) ∧ Below wq.heap.size wq wl) (fun _ kv _ => M.length - (intOf kv).toNat)
        case atStart => exact ⟨0, Nat.zero_le _, by simp, by simp, Below.refl _ _⟩
        obtain ⟨k, hk, rfl, rfl, hb⟩ := hrel
        have BR := qH hb
        have K7 := qH (K9.out.below hb K9.out.lt)
        clear hb
        obtain ⟨wk, hwk⟩ : ∃ v : World, v = wr := ⟨_, rfl⟩
        subst hwk
        by_cases hkl : k < M.length
        · have y1 : (k : Int) < (M.length : Int) := Int.ofNat_lt.2 hkl
          have HK := qH hkl
          have HMK := qH (sub_next hkl)
          have f3 := wrap_one k (lt_bigN HK.out HML.out)
          have f4 := wrap_one' k (lt_bigN HK.out HML.out)
          obtain ⟨y, hy⟩ : ∃ y, M[k]? = some y := ⟨_, List.getElem?_eq_getElem hkl⟩
          obtain ⟨by', oy, rfl, hby, hcy⟩ := (HO.out.below BR.out).at_ (by rw [nums_length]; exact Nat.lt_of_le_of_lt (Nat.zero_le _) hkl)
          have HBY := qH hby
          have HCY2 := qH (hcy k (.int .i64 y) (by simp [nums, hy]))
          have HTH := qH (take_has (x := z) hy)
          have HYR := qH (HMR.out y (List.mem_of_getElem? hy))
          have HC0 := qH (K7.out.cell 0)
          have HC2 := qH (K7.out.cell 2)
          have HKL := qH K7.out.lt
          clear hk hkl hy hby hcy
          obtain ⟨q, hq⟩ : ∃ q, decide (z ∈ M.take k) = q := ⟨_, rfl⟩
          rw [hq] at HTH ⊢
          clear hq
          cases q with
          | true =>
            go_wp2_with fail
            refine sx_startB (B := wk.heap.size) (w0 := wk) (by kernel_rfl) (Below.refl _ _) (fun wd hwd hX => ?_)
            clear hwd
            refine sx_take (i := 0) (oi := ⟨some 57, _, _, _, _, _⟩) (v := ?_) rfl (by kernel_rfl) (by kernel_rfl) (by kernel_rfl) (fun _ _ _ h => h) rfl hX ?_ ?_; rotate_left; (intro W hW; go_simp; try with_reducible rfl); simp only [Act.put, qA, qB, qC]
            refine sx_take (i := 1) (oi := ⟨some 58, _, _, _, _, _⟩) (v := ?_) rfl (by kernel_rfl) (by kernel_rfl) (by kernel_rfl) (fun _ _ _ h => h) rfl hX ?_ ?_; rotate_left; (intro W hW; go_simp; try with_reducible rfl); simp only [Act.put, qA, qB, qC]
            refine sx_skip (i := 2) (oi := ⟨some 59, _, _, _, _, _⟩) rfl (by kernel_rfl) (by kernel_rfl) (by kernel_rfl) (fun _ _ _ h => h) rfl hX ?_; simp only [Act.put, qA, qB, qC]
            refine sx_skip (i := 3) (oi := ⟨some 60, _, _, _, _, _⟩) rfl (by kernel_rfl) (by kernel_rfl) (by kernel_rfl) (fun _ _ _ h => h) rfl hX ?_; simp only [Act.put, qA, qB, qC]
            refine sx_skip (i := 4) (oi := ⟨some 61, _, _, _, _, _⟩) rfl (by kernel_rfl) (by kernel_rfl) (by kernel_rfl) (fun _ _ _ h => h) rfl hX ?_; simp only [Act.put, qA, qB, qC]
            refine sx_skip (i := 5) (oi := ⟨some 62, _, _, _, _, _⟩) rfl (by kernel_rfl) (by kernel_rfl) (by kernel_rfl) (fun _ _ _ h => h) rfl hX ?_; simp only [Act.put, qA, qB, qC]
            refine sx_skip (i := 6) (oi := ⟨some 63, _, _, _, _, _⟩) rfl (by kernel_rfl) (by kernel_rfl) (by kernel_rfl) (fun _ _ _ h => h) rfl hX ?_; simp only [Act.put, qA, qB, qC]
            refine sx_skip (i := 7) (oi := ⟨some 64, _, _, _, _, _⟩) rfl (by kernel_rfl) (by kernel_rfl) (by kernel_rfl) (fun _ _ _ h => h) rfl hX ?_; simp only [Act.put, qA, qB, qC]
            refine sx_skip (i := 8) (oi := ⟨some 65, _, _, _, _, _⟩) rfl (by kernel_rfl) (by kernel_rfl) (by kernel_rfl) (fun _ _ _ h => h) rfl hX ?_; simp only [Act.put, qA, qB, qC]
            refine sx_take (i := 9) (oi := ⟨some 66, _, _, _, _, _⟩) (v := ?_) rfl (by kernel_rfl) (by kernel_rfl) (by kernel_rfl) (fun _ _ _ h => h) rfl hX ?_ ?_; rotate_left; (intro W hW; go_simp; try with_reducible rfl); simp only [Act.put, qA, qB, qC]
            refine sx_take (i := 10) (oi := ⟨some 7, _, _, _, _, _⟩) (v := ?_) rfl (by kernel_rfl) (by kernel_rfl) (by kernel_rfl) (fun _ _ _ h => h) rfl hX ?_ ?_; rotate_left; (intro W hW; go_simp; try with_reducible rfl); simp only [Act.put, qA, qB, qC]
            refine wpAnyH_done (by kernel_rfl) ?_ _
            have BE := qH hX
            have BE2 := qH (BR.out.trans (hX.mono BR.out.size))
            have HC0 := qH ((BE.out.cell (p := ⟨w.heap.size, 0, none⟩) HKL.out).trans HC0.out)
            have HCY2 := qH ((BE.out.cell (p := ⟨by', oy + k, none⟩) HBY.out).trans HCY2.out)
            have HKL := qH (Nat.lt_of_lt_of_le HKL.out BE.out.size)
            have HBY := qH (Nat.lt_of_lt_of_le HBY.out BE.out.size)
            clear hX
            go_wp2_with fail
            obtain ⟨we, hwe⟩ : ∃ v : World, v = wd := ⟨_, rfl⟩
            subst hwe
            refine sx_startB (B := we.heap.size) (w0 := we) (by kernel_rfl) (Below.refl _ _) (fun wd hwd hX => ?_)
            clear hwd
            refine sx_take (i := 0) (oi := ⟨some 67, _, _, _, _, _⟩) (v := ?_) rfl (by kernel_rfl) (by kernel_rfl) (by kernel_rfl) (fun _ _ _ h => h) rfl hX ?_ ?_; rotate_left; (intro W hW; go_simp; try with_reducible rfl); simp only [Act.put, qA, qB, qC]
            refine sx_take (i := 1) (oi := ⟨some 68, _, _, _, _, _⟩) (v := ?_) rfl (by kernel_rfl) (by kernel_rfl) (by kernel_rfl) (fun _ _ _ h => h) rfl hX ?_ ?_; rotate_left; (intro W hW; go_simp; try with_reducible rfl); simp only [Act.put, qA, qB, qC]
            refine sx_take (i := 2) (oi := ⟨some 69, _, _, _, _, _⟩) (v := ?_) rfl (by kernel_rfl) (by kernel_rfl) (by kernel_rfl) (fun _ _ _ h => h) rfl hX ?_ ?_; rotate_left; (intro W hW; go_simp; try with_reducible rfl); simp only [Act.put, qA, qB, qC]
            refine sx_take (i := 3) (oi := ⟨some 70, _, _, _, _, _⟩) (v := .int .i64 y) rfl (by kernel_rfl) (by kernel_rfl) (by kernel_rfl) (fun _ _ _ h => h) rfl hX (fun V hV => ld_int9 (.tmp 69) rfl rfl ((hV.cell (p := ⟨by', oy + k, none⟩) HBY.out).trans HCY2.out)) ?_; simp only [Act.put, qA, qB, qC]
            refine sx_take (i := 4) (oi := ⟨some 71, _, _, _, _, _⟩) (v := .bool false) rfl (by kernel_rfl) (by kernel_rfl) (by kernel_rfl) (fun _ _ _ h => h) rfl hX (fun V _ => ex_lt (.tmp 70) rfl rfl rfl HYR.out.1 V) ?_; simp only [Act.put, qA, qB, qC]
            refine sx_take (i := 5) (oi := ⟨some 72, _, _, _, _, _⟩) (v := ?_) rfl (by kernel_rfl) (by kernel_rfl) (by kernel_rfl) (fun _ _ _ h => h) rfl hX ?_ ?_; rotate_left; (intro W hW; go_simp; try with_reducible rfl); simp only [Act.put, qA, qB, qC]
            refine sx_take (i := 6) (oi := ⟨some 73, _, _, _, _, _⟩) (v := ?_) rfl (by kernel_rfl) (by kernel_rfl) (by kernel_rfl) (fun _ _ _ h => h) rfl hX ?_ ?_; rotate_left; (intro W hW; go_simp; try with_reducible rfl); simp only [Act.put, qA, qB, qC]
            refine sx_take (i := 7) (oi := ⟨some 74, _, _, _, _, _⟩) (v := ?_) rfl (by kernel_rfl) (by kernel_rfl) (by kernel_rfl) (fun _ _ _ h => h) rfl hX ?_ ?_; rotate_left; (intro W hW; go_simp; try with_reducible rfl); simp only [Act.put, qA, qB, qC]
            refine sx_take (i := 8) (oi := ⟨some 75, _, _, _, _, _⟩) (v := ?_) rfl (by kernel_rfl) (by kernel_rfl) (by kernel_rfl) (fun _ _ _ h => h) rfl hX ?_ ?_; rotate_left; (intro W hW; go_simp; try with_reducible rfl); simp only [Act.put, qA, qB, qC]
            refine sx_take (i := 9) (oi := ⟨some 76, _, _, _, _, _⟩) (v := .int .i64 y) rfl (by kernel_rfl) (by kernel_rfl) (by kernel_rfl) (fun _ _ _ h => h) rfl hX (fun V hV => ld_int9 (.tmp 75) rfl rfl ((hV.cell (p := ⟨by', oy + k, none⟩) HBY.out).trans HCY2.out)) ?_; simp only [Act.put, qA, qB, qC]
            refine sx_take (i := 10) (oi := ⟨some 77, _, _, _, _, _⟩) (v := ?_) rfl (by kernel_rfl) (by kernel_rfl) (by kernel_rfl) (fun _ _ _ h => h) rfl hX ?_ ?_; rotate_left; (intro W hW; go_simp; try with_reducible rfl); simp only [Act.put, qA, qB, qC]
            refine sx_take (i := 11) (oi := ⟨some 78, _, _, _, _, _⟩) (v := .slice A S.length cap) rfl (by kernel_rfl) (by kernel_rfl) (by kernel_rfl) (fun _ _ _ h => h) rfl hX (fun V hV => ld_sts (.tmp 77) rfl rfl ((hV.cell (p := ⟨w.heap.size, 0, none⟩) HKL.out).trans HC0.out)) ?_; simp only [Act.put, qA, qB, qC]
            refine sx_take (i := 12) (oi := ⟨some 79, _, _, _, _, _⟩) (v := ?_) rfl (by kernel_rfl) (by kernel_rfl) (by kernel_rfl) (fun _ _ _ h => h) rfl hX ?_ ?_; rotate_left; (intro W hW; go_simp; try with_reducible rfl); simp only [Act.put, qA, qB, qC]
            refine sx_take (i := 13) (oi := ⟨some 80, _, _, _, _, _⟩) (v := .bool false) rfl (by kernel_rfl) (by kernel_rfl) (by kernel_rfl) (fun _ _ _ h => h) rfl hX (fun V _ => ex_ge (.tmp 76) (.tmp 79) rfl rfl rfl HYR.out.2 V) ?_; simp only [Act.put, qA, qB, qC]
            refine sx_take (i := 14) (oi := ⟨some 81, _, _, _, _, _⟩) (v := ?_) rfl (by kernel_rfl) (by kernel_rfl) (by kernel_rfl) (fun _ _ _ h => h) rfl hX ?_ ?_; rotate_left; (intro W hW; go_simp; try with_reducible rfl); simp only [Act.put, qA, qB, qC]
            refine wpAnyH_done (by kernel_rfl) ?_ _
            have BE3 := qH (BE2.out.trans (hX.mono BE2.out.size))
            clear hX
            go_wp2_with fail
            exact ⟨⟨k + 1, HK.out, by congr 1, by rw [HTH.out]; rfl, BE3.out⟩, by simpa [intOf] using HMK.out⟩
          | false =>
            go_wp2_with fail
            refine sx_startB (B := wk.heap.size) (w0 := wk) (by kernel_rfl) (Below.refl _ _) (fun wd hwd hX => ?_)
            clear hwd
            refine sx_take (i := 0) (oi := ⟨some 57, _, _, _, _, _⟩) (v := ?_) rfl (by kernel_rfl) (by kernel_rfl) (by kernel_rfl) (fun _ _ _ h => h) rfl hX ?_ ?_; rotate_left; (intro W hW; go_simp; try with_reducible rfl); simp only [Act.put, qA, qB, qC]
            refine sx_take (i := 1) (oi := ⟨some 58, _, _, _, _, _⟩) (v := ?_) rfl (by kernel_rfl) (by kernel_rfl) (by kernel_rfl) (fun _ _ _ h => h) rfl hX ?_ ?_; rotate_left; (intro W hW; go_simp; try with_reducible rfl); simp only [Act.put, qA, qB, qC]
            refine sx_take (i := 2) (oi := ⟨some 59, _, _, _, _, _⟩) (v := ?_) rfl (by kernel_rfl) (by kernel_rfl) (by kernel_rfl) (fun _ _ _ h => h) rfl hX ?_ ?_; rotate_left; (intro W hW; go_simp; try with_reducible rfl); simp only [Act.put, qA, qB, qC]
            refine sx_take (i := 3) (oi := ⟨some 60, _, _, _, _, _⟩) (v := ?_) rfl (by kernel_rfl) (by kernel_rfl) (by kernel_rfl) (fun _ _ _ h => h) rfl hX ?_ ?_; rotate_left; (intro W hW; go_simp; try with_reducible rfl); simp only [Act.put, qA, qB, qC]
            refine sx_take (i := 4) (oi := ⟨some 61, _, _, _, _, _⟩) (v := ?_) rfl (by kernel_rfl) (by kernel_rfl) (by kernel_rfl) (fun _ _ _ h => h) rfl hX ?_ ?_; rotate_left; (intro W hW; go_simp; try with_reducible rfl); simp only [Act.put, qA, qB, qC]
            refine sx_take (i := 5) (oi := ⟨some 62, _, _, _, _, _⟩) (v := .int .i64 y) rfl (by kernel_rfl) (by kernel_rfl) (by kernel_rfl) (fun _ _ _ h => h) rfl hX (fun V hV => ld_int9 (.tmp 61) rfl rfl ((hV.cell (p := ⟨by', oy + k, none⟩) HBY.out).trans HCY2.out)) ?_; simp only [Act.put, qA, qB, qC]
            refine sx_take (i := 6) (oi := ⟨some 63, _, _, _, _, _⟩) (v := ?_) rfl (by kernel_rfl) (by kernel_rfl) (by kernel_rfl) (fun _ _ _ h => h) rfl hX ?_ ?_; rotate_left; (intro W hW; go_simp; try with_reducible rfl); simp only [Act.put, qA, qB, qC]
            refine sx_take (i := 7) (oi := ⟨some 64, _, _, _, _, _⟩) (v := .int .i64 z) rfl (by kernel_rfl) (by kernel_rfl) (by kernel_rfl) (fun _ _ _ h => h) rfl hX (fun V hV => ld_int9 (.tmp 63) rfl rfl ((hV.cell (p := ⟨w.heap.size, 2, none⟩) HKL.out).trans HC2.out)) ?_; simp only [Act.put, qA, qB, qC]
            refine sx_take (i := 8) (oi := ⟨some 65, _, _, _, _, _⟩) (v := .bool (decide (z = y))) rfl (by kernel_rfl) (by kernel_rfl) (by kernel_rfl) (fun _ _ _ h => h) rfl hX (fun V _ => by rw [show decide (z = y) = decide (y = z) from by simp [eq_comm]]; exact ex_eq (.tmp 62) (.tmp 64) rfl rfl rfl V) ?_; simp only [Act.put, qA, qB, qC]
            refine sx_take (i := 9) (oi := ⟨some 66, _, _, _, _, _⟩) (v := ?_) rfl (by kernel_rfl) (by kernel_rfl) (by kernel_rfl) (fun _ _ _ h => h) rfl hX ?_ ?_; rotate_left; (intro W hW; go_simp; try with_reducible rfl); simp only [Act.put, qA, qB, qC]
            refine sx_take (i := 10) (oi := ⟨some 7, _, _, _, _, _⟩) (v := ?_) rfl (by kernel_rfl) (by kernel_rfl) (by kernel_rfl) (fun _ _ _ h => h) rfl hX ?_ ?_; rotate_left; (intro W hW; go_simp; try with_reducible rfl); simp only [Act.put, qA, qB, qC]
            refine wpAnyH_done (by kernel_rfl) ?_ _
            have BE := qH hX
            have BE2 := qH (BR.out.trans (hX.mono BR.out.size))
            have HC0 := qH ((BE.out.cell (p := ⟨w.heap.size, 0, none⟩) HKL.out).trans HC0.out)
            have HCY2 := qH ((BE.out.cell (p := ⟨by', oy + k, none⟩) HBY.out).trans HCY2.out)
            have HKL := qH (Nat.lt_of_lt_of_le HKL.out BE.out.size)
            have HBY := qH (Nat.lt_of_lt_of_le HBY.out BE.out.size)
            clear hX
            go_wp2_with fail
            obtain ⟨we, hwe⟩ : ∃ v : World, v = wd := ⟨_, rfl⟩
            subst hwe
            refine sx_startB (B := we.heap.size) (w0 := we) (by kernel_rfl) (Below.refl _ _) (fun wd hwd hX => ?_)
            clear hwd
            refine sx_take (i := 0) (oi := ⟨some 67, _, _, _, _, _⟩) (v := ?_) rfl (by kernel_rfl) (by kernel_rfl) (by kernel_rfl) (fun _ _ _ h => h) rfl hX ?_ ?_; rotate_left; (intro W hW; go_simp; try with_reducible rfl); simp only [Act.put, qA, qB, qC]
            refine sx_take (i := 1) (oi := ⟨some 68, _, _, _, _, _⟩) (v := ?_) rfl (by kernel_rfl) (by kernel_rfl) (by kernel_rfl) (fun _ _ _ h => h) rfl hX ?_ ?_; rotate_left; (intro W hW; go_simp; try with_reducible rfl); simp only [Act.put, qA, qB, qC]
            refine sx_take (i := 2) (oi := ⟨some 69, _, _, _, _, _⟩) (v := ?_) rfl (by kernel_rfl) (by kernel_rfl) (by kernel_rfl) (fun _ _ _ h => h) rfl hX ?_ ?_; rotate_left; (intro W hW; go_simp; try with_reducible rfl); simp only [Act.put, qA, qB, qC]
            refine sx_take (i := 3) (oi := ⟨some 70, _, _, _, _, _⟩) (v := .int .i64 y) rfl (by kernel_rfl) (by kernel_rfl) (by kernel_rfl) (fun _ _ _ h => h) rfl hX (fun V hV => ld_int9 (.tmp 69) rfl rfl ((hV.cell (p := ⟨by', oy + k, none⟩) HBY.out).trans HCY2.out)) ?_; simp only [Act.put, qA, qB, qC]
            refine sx_take (i := 4) (oi := ⟨some 71, _, _, _, _, _⟩) (v := .bool false) rfl (by kernel_rfl) (by kernel_rfl) (by kernel_rfl) (fun _ _ _ h => h) rfl hX (fun V _ => ex_lt (.tmp 70) rfl rfl rfl HYR.out.1 V) ?_; simp only [Act.put, qA, qB, qC]
            refine sx_take (i := 5) (oi := ⟨some 72, _, _, _, _, _⟩) (v := ?_) rfl (by kernel_rfl) (by kernel_rfl) (by kernel_rfl) (fun _ _ _ h => h) rfl hX ?_ ?_; rotate_left; (intro W hW; go_simp; try with_reducible rfl); simp only [Act.put, qA, qB, qC]
            refine sx_take (i := 6) (oi := ⟨some 73, _, _, _, _, _⟩) (v := ?_) rfl (by kernel_rfl) (by kernel_rfl) (by kernel_rfl) (fun _ _ _ h => h) rfl hX ?_ ?_; rotate_left; (intro W hW; go_simp; try with_reducible rfl); simp only [Act.put, qA, qB, qC]
            refine sx_take (i := 7) (oi := ⟨some 74, _, _, _, _, _⟩) (v := ?_) rfl (by kernel_rfl) (by kernel_rfl) (by kernel_rfl) (fun _ _ _ h => h) rfl hX ?_ ?_; rotate_left; (intro W hW; go_simp; try with_reducible rfl); simp only [Act.put, qA, qB, qC]
            refine sx_take (i := 8) (oi := ⟨some 75, _, _, _, _, _⟩) (v := ?_) rfl (by kernel_rfl) (by kernel_rfl) (by kernel_rfl) (fun _ _ _ h => h) rfl hX ?_ ?_; rotate_left; (intro W hW; go_simp; try with_reducible rfl); simp only [Act.put, qA, qB, qC]
            refine sx_take (i := 9) (oi := ⟨some 76, _, _, _, _, _⟩) (v := .int .i64 y) rfl (by kernel_rfl) (by kernel_rfl) (by kernel_rfl) (fun _ _ _ h => h) rfl hX (fun V hV => ld_int9 (.tmp 75) rfl rfl ((hV.cell (p := ⟨by', oy + k, none⟩) HBY.out).trans HCY2.out)) ?_; simp only [Act.put, qA, qB, qC]
            refine sx_take (i := 10) (oi := ⟨some 77, _, _, _, _, _⟩) (v := ?_) rfl (by kernel_rfl) (by kernel_rfl) (by kernel_rfl) (fun _ _ _ h => h) rfl hX ?_ ?_; rotate_left; (intro W hW; go_simp; try with_reducible rfl); simp only [Act.put, qA, qB, qC]
            refine sx_take (i := 11) (oi := ⟨some 78, _, _, _, _, _⟩) (v := .slice A S.length cap) rfl (by kernel_rfl) (by kernel_rfl) (by kernel_rfl) (fun _ _ _ h => h) rfl hX (fun V hV => ld_sts (.tmp 77) rfl rfl ((hV.cell (p := ⟨w.heap.size, 0, none⟩) HKL.out).trans HC0.out)) ?_; simp only [Act.put, qA, qB, qC]
            refine sx_take (i := 12) (oi := ⟨some 79, _, _, _, _, _⟩) (v := ?_) rfl (by kernel_rfl) (by kernel_rfl) (by kernel_rfl) (fun _ _ _ h => h) rfl hX ?_ ?_; rotate_left; (intro W hW; go_simp; try with_reducible rfl); simp only [Act.put, qA, qB, qC]
            refine sx_take (i := 13) (oi := ⟨some 80, _, _, _, _, _⟩) (v := .bool false) rfl (by kernel_rfl) (by kernel_rfl) (by kernel_rfl) (fun _ _ _ h => h) rfl hX (fun V _ => ex_ge (.tmp 76) (.tmp 79) rfl rfl rfl HYR.out.2 V) ?_; simp only [Act.put, qA, qB, qC]
            refine sx_take (i := 14) (oi := ⟨some 81, _, _, _, _, _⟩) (v := ?_) rfl (by kernel_rfl) (by kernel_rfl) (by kernel_rfl) (fun _ _ _ h => h) rfl hX ?_ ?_; rotate_left; (intro W hW; go_simp; try with_reducible rfl); simp only [Act.put, qA, qB, qC]
            refine wpAnyH_done (by kernel_rfl) ?_ _
            have BE3 := qH (BE2.out.trans (hX.mono BE2.out.size))
            clear hX
            go_wp2_with fail
            exact ⟨⟨k + 1, HK.out, by congr 1, by rw [HTH.out]; rfl, BE3.out⟩, by simpa [intOf] using HMK.out⟩
        · obtain rfl : k = M.length := Nat.le_antisymm hk (Nat.not_lt.1 hkl)
          have y1 : ¬ ((M.length : Int) < (M.length : Int)) := Int.lt_irrefl _
          have N7 := qH (N9.out.below BR.out)
          have W7 := qH ((W4.out.below BQ.out).below BR.out)
          have BE := qH (B4.out.trans ((BQ.out.trans (BR.out.mono BQ.out.size)).mono B4.out.size))
          rw [List.take_length]
          obtain ⟨q, hq⟩ : ∃ q, decide (z ∈ M) = q := ⟨_, rfl⟩
          have HRR := qH (HRY.out.trans hq)
          rw [hq]
          clear hq
          go_wp2_with ((with_reducible refine atDst 82 ?_); refine wpList_ldBlk rfl 24 _ rfl w.heap.size rfl 24 _ _ K7.out Try.underlying24 rfl (size_nfa rfl) ?_; (try simp only [Act.put, qA, qB, qC]))
          refine (HT.out.run S a z _ W _ wk N7.out W7.out).mono ?_
          rw [HRR.out]
          rintro e w8 ⟨rfl, hb⟩
          have B8 := qH (BE.out.trans (hb.mono BE.out.size))
          clear hb
          cases q with
          | true => go_wp2_with fail
                    go_ret
                    exact ⟨rfl, B8.out⟩
          | false => go_wp2_with fail
                     go_ret
                     exact ⟨rfl, B8.out⟩
end Go.Proofs.Ytmcpfaaakmehdaa
