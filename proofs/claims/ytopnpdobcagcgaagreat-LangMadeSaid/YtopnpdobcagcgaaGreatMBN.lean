/-
  Texts of this proof, put together: RfS. No statement is proved here.
-/
import Derived.Test.YtopnpdobcagcgaaGreatMZ
import Derived.Test.YtopnpdobcagcgaaGreatMO
namespace Go.Proofs.YtopnpdobcagcgaaGreat
open Go.RowKit
set_option linter.unusedSimpArgs false
set_option linter.unusedVariables false
def RStepC (N : Nat) : Prop := ∀ t : T, t.nodes ≤ N → t.nodes ≤ 2000 → good t → ∀ (b : UInt8) (cs : List Value) (w : World), RxV w.heap.size w cs t →
  Calls Tryz.prog 18 #[.agg cs.toArray, bv b] w fun e w' => ∃ ds, e = .returned (.agg ds.toArray) ∧ RxD (fun k => w.heap.size ≤ k ∧ k < w'.heap.size) w' ds (stepT t b.toNat) ∧ Below w.heap.size w w'
def Fr (B : Nat) (w : World) (cs : List Value) (t : T) : Prop := RxD (fun k => B ≤ k ∧ k < w.heap.size) w cs t
theorem Fr.keep {B : Nat} {w w' : World} {cs : List Value} {t : T} (h : Fr B w cs t) (hb : Below w.heap.size w w') : Fr B w' cs t :=
 RxD.mono (RxD.stay h fun k hk => hb.block k hk.2) fun k hk => ⟨hk.1, Nat.lt_of_lt_of_le hk.2 hb.size⟩
theorem Fr.v {B : Nat} {w : World} {cs : List Value} {t : T} (h : Fr B w cs t) : RxV w.heap.size w cs t := RxD.mono h fun k hk => hk.2
theorem Fr.of {B : Nat} {w w' : World} {cs : List Value} {t : T} (h : RxD (fun k => w.heap.size ≤ k ∧ k < w'.heap.size) w' cs t) (hB : B ≤ w.heap.size) : Fr B w' cs t := RxD.mono h fun k hk => ⟨Nat.le_trans hB hk.1, hk.2⟩
theorem Fr.put {B g : Nat} {w w' : World} {cs : List Value} {t : T} (h : Fr B w cs t) (ho : ∀ k, k ≠ g → w'.heap[k]? = w.heap[k]?) (hs : w'.heap.size = w.heap.size) (hg : g < B) : Fr B w' cs t :=
 RxD.mono (RxD.stay h fun k hk => ho k (by have := hk.1; omega)) fun k hk => ⟨hk.1, by rw [hs]; exact hk.2⟩
section
variable {P : Program} {w : World} {ops : Array Oper} {rest : List Oper} {o : Oper} {a : Act} {Q : Exit → Act → World → Prop} {K : Act → World → Prop}
theorem wpList_rd (hg : o.guard = none) {v : Value} (h1 : (execOp a.eval o).run P w = .ok (.value v) w) (h : wpList P ops Q rest (a.put o.dst v) w) : wpList P ops Q (o :: rest) a w := by
 refine wpList_plain hg fun K hK => ?_
 unfold Oper.wp
 simp only [h1]
 exact hK _ _ h
end
theorem size_rxB : ∀ w, (sizeOf 29).run Tryz.prog w = .ok 6 w := by
 intro w
 have h : (Tryz.prog.info? 29).map (·.size) = some 6 := by kernel_rfl
 cases hi : Tryz.prog.info? 29 with
 | none => rw [hi] at h; cases h
 | some i =>
  rw [hi] at h
  have h' : i.size = 6 := by simpa using h
  simp [sizeOf, typeInfo, hi, h']
theorem sl_rx1 {a : Act} {o : Oper} (x : Operand) (ho : o.op = .slice 27 x (some (.const (.int .i64 1))) none none) {b off n c : Nat} (hx : a.eval x = .slice (some ⟨b, off, none⟩) n c) (hk : 1 ≤ n) (W : World) :
  (execOp a.eval o).run Tryz.prog W = .ok (.value (.slice (if c = 0 + 1 then some ⟨b, off, none⟩ else some ⟨b, off + (0 + 1) * 6, none⟩) (n - (0 + 1)) (c - (0 + 1)))) W := by
 have h1 : (1 : Int) ≤ (n : Int) := by omega
 have hc : a.eval (.const (.int .i64 1)) = .int .i64 1 := rfl
 simp [execOp, ho, hx, hc, Instr.sliceAt, Instr.slice, run_underlying Tryz.underlying27, Instr.sliceBounds, Instr.sliceBound, asIntOf, h1, size_rxB, Addr.add]
-- the answer lies in ds, at world $1 (Below w2: $2; Fr: $3), the result's cell still as it was; slot $4; $5 the world's name without dots
/-! ### sets and others -/
set_option maxHeartbeats 8000000 in
set_option maxRecDepth 1000000 in
theorem rstep_k3 (N : Nat) (s : Nat → Bool) (l : List T) (hN : (T.node 3 s l).nodes ≤ N + 1) (hM : (T.node 3 s l).nodes ≤ 2000) (hg : good (.node 3 s l)) (b : UInt8) (cs : List Value) (w : World) (hv : RxV w.heap.size w cs (.node 3 s l)) :
  Calls Tryz.prog 18 #[.agg cs.toArray, bv b] w fun e w' => ∃ ds, e = .returned (.agg ds.toArray) ∧ RxD (fun k => w.heap.size ≤ k ∧ k < w'.heap.size) w' ds (stepT (.node 3 s l) b.toNat) ∧ Below w.heap.size w w' := by
 have X := qH hv
 have HC6 := qH hv.length
 obtain ⟨A, cap, f, hcs, h1, h2, h0, h3, h4⟩ := hv.opened
 have H3 := qH h3
 have H4 := qH h4
 have HCL := qH h1
 have HCM := qH h2
 have HTM := qH hM
 have HNN := qH (show T.nodes (.node 3 s l) = 1 + nodesL l by simp only [T.nodes])
 rw [HNN.out] at hN hM
 have HN := qH (show nodesL l ≤ N by omega)
 have HM := qH (show nodesL l ≤ 2000 by omega)
 have HG := qH hg
 have HGL := qH (good_node.1 hg).2.1
 have HC0 := qH (show cs[0]? = some (.int .i64 3) by rw [hcs]; rfl)
 have HC5 := qH (show cs[5]? = some (.slice A l.length cap) by rw [hcs]; rfl)
 have HCS := qH hcs
 have HBT := qH (show b.toNat < 256 from b.toNat_lt)
 obtain ⟨i0, hi0, hz0, hz1, hz2⟩ := inf_rx'
 obtain ⟨z, hz⟩ : ∃ z, z = rxc 0 zeroS (.slice none 0 0) := ⟨_, rfl⟩
 have HZL := qH (show z.length = 6 by rw [hz]; rfl)
 have HZ0 := qH (show i0.zero = some (.agg z.toArray) by rw [hz]; exact hz0)
 have HZ1 := qH hz0
 clear hz hz0
 clear hv h1 h2 h0 h3 h4 hcs hN hM hg
 obtain ⟨q, hq⟩ : ∃ q, q = s b.toNat := ⟨_, rfl⟩
 have HQ := qH hq
 clear hq
 go_enter Tryz.func18, Tryz.ntmps18
 go_wp2_with (first
  | ((with_reducible refine atDst 2 ?_); refine wpList_box rfl 29 _ rfl cs rfl (Below.refl w.heap.size w) (Nat.le_refl _) ?_; intro w1 hk1 hb1 hs1 _; have L1 := qH hk1; have B1 := qH hb1; clear hk1 hb1 hs1; (try simp only [Act.put, qA, qB, qC]))
  | ((with_reducible refine atDst 4 ?_); refine wpList_new rfl 29 rfl i0 _ z hi0 HZ0.out rfl B1.out B1.out.size ?_; intro w2 hk2 hb2 hs2 ho2; have K2 := qH hk2; have B2 := qH hb2; have L2 := qH (show Blk w2 w.heap.size 29 cs from (ho2 _ L1.out.lt).trans L1.out); have c0 := L2.out.cell 0; rw [HC0.out] at c0; have c5 := L2.out.cell 5; rw [HC5.out] at c5; have RS := qH (set_range' HCS.out L2.out); clear hk2 hb2 hs2 ho2; (try simp only [Act.put, qA, qB, qC]))
  | ((with_reducible refine atDst 14 ?_); refine wpList_ldMidG rfl 26 _ rfl w.heap.size 1 rfl (wds s) _ RS.out Tryz.underlying26 rfl (size_set s) ?_; (try simp only [Act.put, qA, qB, qC])))
 refine (refHas_any s b.toNat HBT.out w2).mono ?_
 rintro e w3 ⟨rfl, hb3⟩
 rw [← HQ.out]
 have C3 := qH hb3
 clear hb3
 cases q with
 | true =>
  have HR := qH (show stepT (.node 3 s l) b.toNat = emptyT by rw [step_set, ← HQ.out]; rfl)
  go_wp2_with fail
  refine (refEmpty_any w3).mono ?_
  rintro e w6 ⟨ds, rfl, hd6', hb6⟩
  have F6 := qH (show Fr w2.heap.size w6 ds emptyT from hd6' _)
  have C6 := qH (C3.out.trans (hb6.mono C3.out.size))
  clear hd6' hb6
  have D6 := qH F6.out.v.length
  have D1 := qH (show ds.all (·.oneCell') = true from List.all_eq_true.2 (RxD.one F6.out))
  have B6 := qH (B2.out.trans (C6.out.mono B2.out.size))
  have K6 := qH (K2.out.below C6.out K2.out.lt)
  have HK6 := qH K2.out.lt
  go_wp2_with (first

   | ((with_reducible refine atStore 29 4 17 ?_); refine wpList_stBlk rfl 29 _ _ rfl w1.heap.size ds rfl rfl 29 _ K6.out (size_rx D6.out) (by rw [HZL.out, D6.out]) D1.out B6.out B1.out.size ?_; intro w7 hk7 hb7 hs7 ho7; have K7 := qH hk7; have B7 := qH hb7; have V7 := qH (F6.out.put ho7 hs7 HK6.out); clear hk7 hb7 hs7 ho7; (try simp only [Act.put, qA, qB, qC])))
  refine bodyPost_ret (results_blk rfl _ _ w1.heap.size 29 _ _ rfl K7.out Tryz.underlying29 rfl (size_rx D6.out)) rfl ?_
  have W7 := qH (show RxD (fun k => w.heap.size ≤ k ∧ k < w7.heap.size) w7 ds _ from RxD.mono V7.out fun k hk => ⟨Nat.le_trans B2.out.size hk.1, hk.2⟩)
  exact ⟨ds, rfl, by rw [HR.out]; exact W7.out, B7.out⟩
 | false =>
  have HR := qH (show stepT (.node 3 s l) b.toNat = noneT by rw [step_set, ← HQ.out]; rfl)
  go_wp2_with fail
  refine (refNone_any w3).mono ?_
  rintro e w6 ⟨ds, rfl, hd6', hb6⟩
  have F6 := qH (show Fr w2.heap.size w6 ds noneT from hd6' _)
  have C6 := qH (C3.out.trans (hb6.mono C3.out.size))
  clear hd6' hb6
  have D6 := qH F6.out.v.length
  have D1 := qH (show ds.all (·.oneCell') = true from List.all_eq_true.2 (RxD.one F6.out))
  have B6 := qH (B2.out.trans (C6.out.mono B2.out.size))
  have K6 := qH (K2.out.below C6.out K2.out.lt)
  have HK6 := qH K2.out.lt
  go_wp2_with (first

   | ((with_reducible refine atStore 29 4 77 ?_); refine wpList_stBlk rfl 29 _ _ rfl w1.heap.size ds rfl rfl 29 _ K6.out (size_rx D6.out) (by rw [HZL.out, D6.out]) D1.out B6.out B1.out.size ?_; intro w7 hk7 hb7 hs7 ho7; have K7 := qH hk7; have B7 := qH hb7; have V7 := qH (F6.out.put ho7 hs7 HK6.out); clear hk7 hb7 hs7 ho7; (try simp only [Act.put, qA, qB, qC])))
  refine bodyPost_ret (results_blk rfl _ _ w1.heap.size 29 _ _ rfl K7.out Tryz.underlying29 rfl (size_rx D6.out)) rfl ?_
  have W7 := qH (show RxD (fun k => w.heap.size ≤ k ∧ k < w7.heap.size) w7 ds _ from RxD.mono V7.out fun k hk => ⟨Nat.le_trans B2.out.size hk.1, hk.2⟩)
  exact ⟨ds, rfl, by rw [HR.out]; exact W7.out, B7.out⟩
set_option maxHeartbeats 8000000 in
set_option maxRecDepth 1000000 in
theorem rstep_no (N : Nat) (k : Int) (s : Nat → Bool) (l : List T) (k3 : k ≠ 3) (k4 : k ≠ 4) (k5 : k ≠ 5) (k6 : k ≠ 6) (hN : (T.node k s l).nodes ≤ N + 1) (hM : (T.node k s l).nodes ≤ 2000) (hg : good (.node k s l)) (b : UInt8) (cs : List Value) (w : World) (hv : RxV w.heap.size w cs (.node k s l)) :
  Calls Tryz.prog 18 #[.agg cs.toArray, bv b] w fun e w' => ∃ ds, e = .returned (.agg ds.toArray) ∧ RxD (fun k => w.heap.size ≤ k ∧ k < w'.heap.size) w' ds (stepT (.node k s l) b.toNat) ∧ Below w.heap.size w w' := by
 have X := qH hv
 have HC6 := qH hv.length
 obtain ⟨A, cap, f, hcs, h1, h2, h0, h3, h4⟩ := hv.opened
 have H3 := qH h3
 have H4 := qH h4
 have HCL := qH h1
 have HCM := qH h2
 have HTM := qH hM
 have HNN := qH (show T.nodes (.node k s l) = 1 + nodesL l by simp only [T.nodes])
 rw [HNN.out] at hN hM
 have HN := qH (show nodesL l ≤ N by omega)
 have HM := qH (show nodesL l ≤ 2000 by omega)
 have HG := qH hg
 have HGL := qH (good_node.1 hg).2.1
 have HC0 := qH (show cs[0]? = some (.int .i64 k) by rw [hcs]; rfl)
 have HC5 := qH (show cs[5]? = some (.slice A l.length cap) by rw [hcs]; rfl)
 have HCS := qH hcs
 have HBT := qH (show b.toNat < 256 from b.toNat_lt)
 obtain ⟨i0, hi0, hz0, hz1, hz2⟩ := inf_rx'
 obtain ⟨z, hz⟩ : ∃ z, z = rxc 0 zeroS (.slice none 0 0) := ⟨_, rfl⟩
 have HZL := qH (show z.length = 6 by rw [hz]; rfl)
 have HZ0 := qH (show i0.zero = some (.agg z.toArray) by rw [hz]; exact hz0)
 have HZ1 := qH hz0
 clear hz hz0
 clear hv h1 h2 h0 h3 h4 hcs hN hM hg
 have HR := qH (step_no (s := s) (l := l) k3 k4 k5 k6 b.toNat)
 have z3 : (k == 3) = false := by simpa using k3
 have z4 : (k == 4) = false := by simpa using k4
 have z5 : (k == 5) = false := by simpa using k5
 have z6 : (k == 6) = false := by simpa using k6
 clear k3 k4 k5 k6
 go_enter Tryz.func18, Tryz.ntmps18
 go_wp2_with (first
  | ((with_reducible refine atDst 2 ?_); refine wpList_box rfl 29 _ rfl cs rfl (Below.refl w.heap.size w) (Nat.le_refl _) ?_; intro w1 hk1 hb1 hs1 _; have L1 := qH hk1; have B1 := qH hb1; clear hk1 hb1 hs1; (try simp only [Act.put, qA, qB, qC]))
  | ((with_reducible refine atDst 4 ?_); refine wpList_new rfl 29 rfl i0 _ z hi0 HZ0.out rfl B1.out B1.out.size ?_; intro w2 hk2 hb2 hs2 ho2; have K2 := qH hk2; have B2 := qH hb2; have L2 := qH (show Blk w2 w.heap.size 29 cs from (ho2 _ L1.out.lt).trans L1.out); have c0 := L2.out.cell 0; rw [HC0.out] at c0; have c5 := L2.out.cell 5; rw [HC5.out] at c5; have RS := qH (set_range' HCS.out L2.out); clear hk2 hb2 hs2 ho2; (try simp only [Act.put, qA, qB, qC]))
  )
 refine (refNone_any w2).mono ?_
 rintro e w6 ⟨ds, rfl, hd6', hb6⟩
 have F6 := qH (show Fr w2.heap.size w6 ds noneT from hd6' _)
 have C6 := qH hb6
 clear hd6' hb6
 have D6 := qH F6.out.v.length
 have D1 := qH (show ds.all (·.oneCell') = true from List.all_eq_true.2 (RxD.one F6.out))
 have B6 := qH (B2.out.trans (C6.out.mono B2.out.size))
 have K6 := qH (K2.out.below C6.out K2.out.lt)
 have HK6 := qH K2.out.lt
 go_wp2_with (first

  | ((with_reducible refine atStore 29 4 77 ?_); refine wpList_stBlk rfl 29 _ _ rfl w1.heap.size ds rfl rfl 29 _ K6.out (size_rx D6.out) (by rw [HZL.out, D6.out]) D1.out B6.out B1.out.size ?_; intro w7 hk7 hb7 hs7 ho7; have K7 := qH hk7; have B7 := qH hb7; have V7 := qH (F6.out.put ho7 hs7 HK6.out); clear hk7 hb7 hs7 ho7; (try simp only [Act.put, qA, qB, qC])))
 refine bodyPost_ret (results_blk rfl _ _ w1.heap.size 29 _ _ rfl K7.out Tryz.underlying29 rfl (size_rx D6.out)) rfl ?_
 have W7 := qH (show RxD (fun k => w.heap.size ≤ k ∧ k < w7.heap.size) w7 ds _ from RxD.mono V7.out fun k hk => ⟨Nat.le_trans B2.out.size hk.1, hk.2⟩)
 exact ⟨ds, rfl, by rw [HR.out]; exact W7.out, B7.out⟩
/-! ### alternatives -/
set_option maxHeartbeats 8000000 in
set_option maxRecDepth 1000000 in
theorem rstep_k5 (N : Nat) (ih : RStepC N) (s : Nat → Bool) (l : List T) (hN : (T.node 5 s l).nodes ≤ N + 1) (hM : (T.node 5 s l).nodes ≤ 2000) (hg : good (.node 5 s l)) (b : UInt8) (cs : List Value) (w : World) (hv : RxV w.heap.size w cs (.node 5 s l)) :
  Calls Tryz.prog 18 #[.agg cs.toArray, bv b] w fun e w' => ∃ ds, e = .returned (.agg ds.toArray) ∧ RxD (fun k => w.heap.size ≤ k ∧ k < w'.heap.size) w' ds (stepT (.node 5 s l) b.toNat) ∧ Below w.heap.size w w' := by
 have IH := qH ih
 clear ih
 have X := qH hv
 have HC6 := qH hv.length
 obtain ⟨A, cap, f, hcs, h1, h2, h0, h3, h4⟩ := hv.opened
 have H3 := qH h3
 have H4 := qH h4
 have HCL := qH h1
 have HCM := qH h2
 have HTM := qH hM
 have HNN := qH (show T.nodes (.node 5 s l) = 1 + nodesL l by simp only [T.nodes])
 rw [HNN.out] at hN hM
 have HN := qH (show nodesL l ≤ N by omega)
 have HM := qH (show nodesL l ≤ 2000 by omega)
 have HG := qH hg
 have HGL := qH (good_node.1 hg).2.1
 have HC0 := qH (show cs[0]? = some (.int .i64 5) by rw [hcs]; rfl)
 have HC5 := qH (show cs[5]? = some (.slice A l.length cap) by rw [hcs]; rfl)
 have HCS := qH hcs
 have HBT := qH (show b.toNat < 256 from b.toNat_lt)
 obtain ⟨i0, hi0, hz0, hz1, hz2⟩ := inf_rx'
 obtain ⟨z, hz⟩ : ∃ z, z = rxc 0 zeroS (.slice none 0 0) := ⟨_, rfl⟩
 have HZL := qH (show z.length = 6 by rw [hz]; rfl)
 have HZ0 := qH (show i0.zero = some (.agg z.toArray) by rw [hz]; exact hz0)
 have HZ1 := qH hz0
 clear hz hz0
 clear hv h1 h2 h0 h3 h4 hcs hN hM hg
 have HR := qH (step_alt HG.out b)
 have HLL := qH (len_nodes l)
 go_enter Tryz.func18, Tryz.ntmps18
 go_wp2_with (first
  | ((with_reducible refine atDst 2 ?_); refine wpList_box rfl 29 _ rfl cs rfl (Below.refl w.heap.size w) (Nat.le_refl _) ?_; intro w1 hk1 hb1 hs1 _; have L1 := qH hk1; have B1 := qH hb1; clear hk1 hb1 hs1; (try simp only [Act.put, qA, qB, qC]))
  | ((with_reducible refine atDst 4 ?_); refine wpList_new rfl 29 rfl i0 _ z hi0 HZ0.out rfl B1.out B1.out.size ?_; intro w2 hk2 hb2 hs2 ho2; have K2 := qH hk2; have B2 := qH hb2; have L2 := qH (show Blk w2 w.heap.size 29 cs from (ho2 _ L1.out.lt).trans L1.out); have c0 := L2.out.cell 0; rw [HC0.out] at c0; have c5 := L2.out.cell 5; rw [HC5.out] at c5; have RS := qH (set_range' HCS.out L2.out); clear hk2 hb2 hs2 ho2; (try simp only [Act.put, qA, qB, qC]))
  )
 go_loopw [5, 6] (fun v i wl => ∃ (v1 : Value) (j : Nat), v1 = v ∧ j ≤ l.length ∧ i = .int .i64 (j : Int) ∧ OwnT (fun q => w2.heap.size ≤ q) w2.heap.size wl v1 ((l.take j).map fun x => stepT x b.toNat) ∧ Below w2.heap.size w2 wl) (fun _ i _ => l.length - (intOf i).toNat)
 case atStart => exact ⟨_, 0, rfl, by omega, by simp, OwnT.nil _ _ _, Below.refl _ _⟩
 obtain ⟨v1, j, rfl, hj, rfl, ho, hb⟩ := hrel
 have HO := qH ho
 have HB := qH hb
 have BR := qH (B2.out.trans (hb.mono B2.out.size))
 clear ho hb c0 c5
 have c5 := (L2.out.below HB.out L2.out.lt).cell 5
 rw [HC5.out] at c5
 by_cases hjl : j < l.length
 ·have j1 : (j : Int) < (l.length : Int) := Int.ofNat_lt.2 hjl
  obtain ⟨bb, off, rfl, hb, hrng⟩ := H3.out (by rintro rfl; simp at hjl)
  obtain ⟨u, hu⟩ : ∃ u, l[j]? = some u := ⟨_, List.getElem?_eq_getElem hjl⟩
  have HV := qH (RxV.part H4.out BR.out BR.out.size hu)
  have HV6 := qH HV.out.length
  have HRG := qH (range_below (hrng j hjl) BR.out hb)
  have HU := qH hu
  have HUN := qH (show u.nodes ≤ N by have h1 := nodes_mem (List.mem_of_getElem? hu); have := HN.out; omega)
  have HUM := qH (show u.nodes ≤ 2000 by have h1 := nodes_mem (List.mem_of_getElem? hu); have := HM.out; omega)
  have HUG := qH (HGL.out u (List.mem_of_getElem? hu))
  have HJ1 := qH hjl
  have HLE := qH (show j + 1 ≤ 1099511627776 by have := HM.out; have := HLL.out; omega)
  have e3 := wrap_len hjl HCL.out HCM.out
  have e4 := wrap_len' hjl HCL.out HCM.out
  clear hrng hu hb hj hjl
  go_wp2_with ((with_reducible refine atDst 32 ?_); refine wpList_load_mid rfl 29 _ rfl bb (off + j * 6) rfl (f j) _ HRG.out Tryz.underlying29 rfl (size_rx HV6.out) ?_; (try simp only [Act.put, qA, qB, qC]))
  refine (IH.out u HUN.out HUM.out HUG.out b (f j) wr HV.out).mono ?_
  rintro e w6 ⟨ds, rfl, hds, hb6⟩
  have HDS := qH hds
  have HD6 := qH hds.length
  have O6 := qH (HO.out.stay hb6)
  have B6 := qH (HB.out.trans (hb6.mono HB.out.size))
  have S56 := qH HB.out.size
  have HLT := qH (fun q (hq : v1.ownBlock = some q) => HO.out.lt q hq)
  have HTK := qH (show (l.take (j + 1)).map (fun x => stepT x b.toNat) = (l.take j).map (fun x => stepT x b.toNat) ++ [stepT u b.toNat] by
   obtain ⟨hi, rfl⟩ := List.getElem?_eq_some_iff.1 HU.out
   rw [List.take_succ_eq_append_getElem hi, List.map_append]
   rfl)
  have HLM := qH (show ((l.take j).map fun x => stepT x b.toNat).length + 1 ≤ 1099511627776 by rw [List.length_map, List.length_take]; have := HLE.out; omega)
  clear hds hb6
  go_wp2_with (first
   | ((with_reducible refine atDst 35 ?_); refine wpList_bldT1 rfl 27 29 (.tmp 34) rfl i0 Tryz.underlying27 hi0 HZ1.out hz1 ds HD6.out rfl ?_; intro w7 hk7 hb7 hs7; have K7 := qH hk7; have O7 := qH (O6.out.stay hb7); have B7 := qH (B6.out.trans (hb7.mono B6.out.size)); have D7 := qH (RxD.mono (HDS.out.stay (w' := w7) fun q hq => hb7.block q hq.2) (D' := fun q => w2.heap.size ≤ q ∧ q < w7.heap.size ∧ some q ≠ v1.ownBlock) fun q hq => ⟨Nat.le_trans S56.out hq.1, Nat.lt_of_lt_of_le hq.2 hb7.size, fun he => by have h1 := HLT.out q he.symm; have h2 := hq.1; omega⟩); clear hk7 hb7 hs7; (try simp only [Act.put, qA, qB, qC]))
   | ((with_reducible refine atDst 36 ?_); refine wpList_appT (D := fun q => w2.heap.size ≤ q) (base := w2.heap.size) rfl (.tmp 27) (.tmp 35) rfl i0 hi0 HZ1.out hz1 hz2 v1 _ rfl O7.out w6.heap.size 1 29 ds (stepT u b.toNat) rfl K7.out D7.out HLM.out B7.out.size ?_; intro v8 w8 ho8 hg8; have O8 := qH ho8; have B8 := qH (B7.out.grown hg8 B7.out.size (fun q hq => O7.out.ge q hq)); clear ho8 hg8; (try simp only [Act.put, qA, qB, qC])))
  refine ⟨⟨_, j + 1, rfl, HJ1.out, by congr 1, by rw [HTK.out]; exact O8.out, B8.out⟩, by simpa [intOf] using sub_next HJ1.out⟩
 obtain rfl : j = l.length := by omega
 have j1 : ¬ ((l.length : Int) < (l.length : Int)) := by omega
 have ho := HO.out
 rw [List.take_length] at ho
 have O9 := qH ho
 have HNM := qH (show nodesL (l.map fun x => stepT x b.toNat) ≤ 549755813887 by have := alts_few HGL.out b HM.out; omega)
 clear ho HO
 go_wp2_with fail
 refine (refAlt_any _ _ wr (O9.out.rowD.mono (D' := fun k => k < wr.heap.size) fun k hk => hk.2) HNM.out).mono ?_
 rintro e w6 ⟨ds, rfl, hd6', hb6⟩
 have F6 := qH (Fr.of hd6' HB.out.size)
 have C6 := qH (HB.out.trans (hb6.mono HB.out.size))
 clear hd6' hb6
 have D6 := qH F6.out.v.length
 have D1 := qH (show ds.all (·.oneCell') = true from List.all_eq_true.2 (RxD.one F6.out))
 have B6 := qH (B2.out.trans (C6.out.mono B2.out.size))
 have K6 := qH (K2.out.below C6.out K2.out.lt)
 have HK6 := qH K2.out.lt
 go_wp2_with (first

  | ((with_reducible refine atStore 29 4 38 ?_); refine wpList_stBlk rfl 29 _ _ rfl w1.heap.size ds rfl rfl 29 _ K6.out (size_rx D6.out) (by rw [HZL.out, D6.out]) D1.out B6.out B1.out.size ?_; intro w7 hk7 hb7 hs7 ho7; have K7 := qH hk7; have B7 := qH hb7; have V7 := qH (F6.out.put ho7 hs7 HK6.out); clear hk7 hb7 hs7 ho7; (try simp only [Act.put, qA, qB, qC])))
 refine bodyPost_ret (results_blk rfl _ _ w1.heap.size 29 _ _ rfl K7.out Tryz.underlying29 rfl (size_rx D6.out)) rfl ?_
 have W7 := qH (show RxD (fun k => w.heap.size ≤ k ∧ k < w7.heap.size) w7 ds _ from RxD.mono V7.out fun k hk => ⟨Nat.le_trans B2.out.size hk.1, hk.2⟩)
 exact ⟨ds, rfl, by rw [HR.out]; exact W7.out, B7.out⟩
end Go.Proofs.YtopnpdobcagcgaaGreat
