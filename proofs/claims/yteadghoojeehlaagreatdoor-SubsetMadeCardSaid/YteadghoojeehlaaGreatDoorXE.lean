/-
  Texts of this proof, put together: RxEp, RxIp, RxW, SetO, RxA, RxJp, RxMp. No statement is proved here.
-/
import Derived.Test.YteadghoojeehlaaGreatDoorXD
import Derived.Test.YteadghoojeehlaaGreatDoorXC
import Derived.Deep.MidRow
namespace Go.Proofs.YteadghoojeehlaaGreatDoor
open Go.RowKit
set_option linter.unusedSimpArgs false
set_option linter.unusedVariables false
def zeroS : Nat → Bool := fun _ => false
def rxc (k : Int) (s : Nat → Bool) (v : Value) : List Value := Value.int .i64 k :: (wds s ++ [v])
theorem rx_leaf (D : Nat → Prop) (w : World) (k : Int) (s : Nat → Bool) : RxD D w (rxc k s (.slice none 0 0)) (.node k s []) :=
 .node (l := []) (fun _ => []) (Nat.le_refl _) (Nat.zero_le _) (fun _ => rfl) (fun h => absurd rfl h) (fun i t h => by simp at h)
def noneT : T := .node 1 zeroS []
def emptyT : T := .node 2 zeroS []
def bytesT (s : Nat → Bool) : T := if eqS s zeroS then noneT else .node 3 s []
theorem inf_rx' : ∃ i, Tryz.prog.info? 46 = some i ∧ i.zero = some (.agg (rxc 0 zeroS (.slice none 0 0)).toArray) ∧ i.size = 6 ∧ i.bytes = 64 := infoP inf_rx
theorem built0 (k : Int) : Tryz.prog.built 46 [(0, .int .i64 k)] = some (rxc k zeroS (.slice none 0 0)).toArray := by kernel_rfl
theorem built01 (k : Int) (s : Nat → Bool) : Tryz.prog.built 46 [(0, .int .i64 k), (1, .agg (wds s).toArray)] = some (rxc k s (.slice none 0 0)).toArray := by kernel_rfl
theorem built02 (k : Int) (v : Value) (A : Option Addr) (n c : Nat) (hv : v = .slice A n c) : Tryz.prog.built 46 [(0, .int .i64 k), (2, v)] = some (rxc k zeroS v).toArray := by subst hv; kernel_rfl
theorem builtS : Tryz.prog.built 43 [] = some (wds zeroS).toArray := by kernel_rfl
set_option maxHeartbeats 2000000 in
set_option maxRecDepth 100000 in
theorem refNone_any (w : World) : Calls Tryz.prog 36 #[] w fun e w' => ∃ ds, e = .returned (.agg ds.toArray) ∧ (∀ D, RxD D w' ds noneT) ∧ Below w.heap.size w w' := by
 obtain ⟨i0, hi0, hz0, hz1, hz2⟩ := inf_rx'
 obtain ⟨z, hz⟩ : ∃ z, z = rxc 0 zeroS (.slice none 0 0) := ⟨_, rfl⟩
 have HZL := qH (show z.length = 6 by rw [hz]; rfl)
 have HZ0 := qH (show i0.zero = some (.agg z.toArray) by rw [hz]; exact hz0)
 obtain ⟨c, hc⟩ : ∃ c, c = rxc 1 zeroS (.slice none 0 0) := ⟨_, rfl⟩
 have HCB := qH (show Tryz.prog.built 46 [(0, .int .i64 1)] = some c.toArray by rw [hc]; exact built0 1)
 have HC6 := qH (show c.length = 6 by rw [hc]; rfl)
 have HC1 := qH (show c.all (·.oneCell') = true by rw [hc]; rfl)
 have HC := qH hc
 clear hz hz0 hz1 hz2 hc
 go_enter Tryz.func36, Tryz.ntmps36
 go_wp2_with (first
  | ((with_reducible refine atDst 0 ?_); refine wpList_new rfl 46 rfl i0 _ z hi0 HZ0.out rfl (Below.refl w.heap.size w) (Nat.le_refl _) ?_; intro w1 hk1 hb1 hs1 _; have K1 := qH hk1; have B1 := qH hb1; clear hk1 hb1 hs1)
  | ((with_reducible refine atDst 1 ?_); refine wpList_bld rfl 46 _ rfl c HCB.out ?_)
  | ((with_reducible refine atStore 46 0 1 ?_); refine wpList_stBlk rfl 46 _ _ rfl w.heap.size c rfl rfl 46 _ K1.out (size_rx HC6.out) (by rw [HZL.out, HC6.out]) HC1.out B1.out (Nat.le_refl _) ?_; intro w2 hk2 hb2 hs2 _; have K2 := qH hk2; have B2 := qH hb2; clear hk2 hb2 hs2))
 refine bodyPost_ret (results_blk rfl _ _ w.heap.size 46 _ _ rfl K2.out Tryz.underlying46 rfl (size_rx HC6.out)) rfl ?_
 exact ⟨c, rfl, fun D => by rw [HC.out]; exact rx_leaf D _ _ _, B2.out⟩
set_option maxHeartbeats 2000000 in
set_option maxRecDepth 100000 in
theorem refEmpty_any (w : World) : Calls Tryz.prog 64 #[] w fun e w' => ∃ ds, e = .returned (.agg ds.toArray) ∧ (∀ D, RxD D w' ds emptyT) ∧ Below w.heap.size w w' := by
 obtain ⟨i0, hi0, hz0, hz1, hz2⟩ := inf_rx'
 obtain ⟨z, hz⟩ : ∃ z, z = rxc 0 zeroS (.slice none 0 0) := ⟨_, rfl⟩
 have HZL := qH (show z.length = 6 by rw [hz]; rfl)
 have HZ0 := qH (show i0.zero = some (.agg z.toArray) by rw [hz]; exact hz0)
 obtain ⟨c, hc⟩ : ∃ c, c = rxc 2 zeroS (.slice none 0 0) := ⟨_, rfl⟩
 have HCB := qH (show Tryz.prog.built 46 [(0, .int .i64 2)] = some c.toArray by rw [hc]; exact built0 2)
 have HC6 := qH (show c.length = 6 by rw [hc]; rfl)
 have HC1 := qH (show c.all (·.oneCell') = true by rw [hc]; rfl)
 have HC := qH hc
 clear hz hz0 hz1 hz2 hc
 go_enter Tryz.func64, Tryz.ntmps64
 go_wp2_with (first
  | ((with_reducible refine atDst 0 ?_); refine wpList_new rfl 46 rfl i0 _ z hi0 HZ0.out rfl (Below.refl w.heap.size w) (Nat.le_refl _) ?_; intro w1 hk1 hb1 hs1 _; have K1 := qH hk1; have B1 := qH hb1; clear hk1 hb1 hs1)
  | ((with_reducible refine atDst 1 ?_); refine wpList_bld rfl 46 _ rfl c HCB.out ?_)
  | ((with_reducible refine atStore 46 0 1 ?_); refine wpList_stBlk rfl 46 _ _ rfl w.heap.size c rfl rfl 46 _ K1.out (size_rx HC6.out) (by rw [HZL.out, HC6.out]) HC1.out B1.out (Nat.le_refl _) ?_; intro w2 hk2 hb2 hs2 _; have K2 := qH hk2; have B2 := qH hb2; clear hk2 hb2 hs2))
 refine bodyPost_ret (results_blk rfl _ _ w.heap.size 46 _ _ rfl K2.out Tryz.underlying46 rfl (size_rx HC6.out)) rfl ?_
 exact ⟨c, rfl, fun D => by rw [HC.out]; exact rx_leaf D _ _ _, B2.out⟩
set_option maxHeartbeats 2000000 in
set_option maxRecDepth 100000 in
theorem refBytes_any (s : Nat → Bool) (w : World) : Calls Tryz.prog 15 #[.agg (wds s).toArray] w fun e w' => ∃ ds, e = .returned (.agg ds.toArray) ∧ (∀ D, RxD D w' ds (bytesT s)) ∧ Below w.heap.size w w' := by
 obtain ⟨i0, hi0, hz0, hz1, hz2⟩ := inf_rx'
 obtain ⟨z, hz⟩ : ∃ z, z = rxc 0 zeroS (.slice none 0 0) := ⟨_, rfl⟩
 have HZL := qH (show z.length = 6 by rw [hz]; rfl)
 have HZ0 := qH (show i0.zero = some (.agg z.toArray) by rw [hz]; exact hz0)
 obtain ⟨c, hc⟩ : ∃ c, c = rxc 3 s (.slice none 0 0) := ⟨_, rfl⟩
 have HCB := qH (show Tryz.prog.built 46 [(0, .int .i64 3), (1, .agg (wds s).toArray)] = some c.toArray by rw [hc]; exact built01 3 s)
 have HC6 := qH (show c.length = 6 by rw [hc]; rfl)
 have HC1 := qH (show c.all (·.oneCell') = true by rw [hc]; rfl)
 have HC := qH hc
 have HBS := qH builtS
 obtain ⟨zs, hzs⟩ : ∃ zs, zs = zeroS := ⟨_, rfl⟩
 have HZS := qH hzs
 rw [← hzs] at HBS
 clear hz hz0 hz1 hz2 hc hzs
 cases hs : eqS s zs with
 | true =>
  have HEQ := qH hs
  have HF := qH (show bytesT s = noneT by unfold bytesT; rw [← HZS.out, hs]; rfl)
  clear hs
  go_enter Tryz.func15, Tryz.ntmps15
  go_wp2_with (first
   | ((with_reducible refine atDst 1 ?_); refine wpList_box rfl 43 _ rfl (wds s) rfl (Below.refl w.heap.size w) (Nat.le_refl _) ?_; intro w1 hk1 hb1 hs1 _; have K1 := qH hk1; have B1 := qH hb1; clear hk1 hb1 hs1)
   | ((with_reducible refine atDst 2 ?_); refine wpList_new rfl 46 rfl i0 _ z hi0 HZ0.out rfl B1.out B1.out.size ?_; intro w2 hk2 hb2 hs2 ho2; have L2 := qH hk2; have B2 := qH hb2; have K2 := qH (show Blk w2 w.heap.size 43 (wds s) from (ho2 _ K1.out.lt).trans K1.out); have G12 := qH K1.out.lt; clear hk2 hb2 hs2 ho2)
   | ((with_reducible refine atDst 3 ?_); refine wpList_ldArr rfl 43 _ rfl w.heap.size rfl 43 _ _ K2.out Tryz.underlying43 rfl (size_set s) ?_; (try simp only [Act.put, qA, qB, qC]))
   | ((with_reducible refine atDst 4 ?_); refine wpList_bld rfl 43 _ rfl (wds zs) HBS.out ?_; (try simp only [Act.put, qA, qB, qC]))
   | ((with_reducible refine atDst 5 ?_); refine wpList_eqSet_is rfl HEQ.out 43 41 (.tmp 3) (.tmp 4) 43 rfl guardSet Tryz.underlying43 Tryz.underlying41 sizeU64 rfl rfl ?_; (try simp only [Act.put, qA, qB, qC])))
  refine (refNone_any w2).mono ?_
  rintro e w3 ⟨ds, rfl, hds, hb3⟩
  have D6 := qH (hds (fun _ => False)).length
  have DA := qH hds
  have D1 := qH (show ds.all (·.oneCell') = true from List.all_eq_true.2 (hds (fun _ => False)).one)
  have L3 := qH (L2.out.below hb3 L2.out.lt)
  have B3 := qH (B2.out.trans (hb3.mono B2.out.size))
  clear hds hb3
  go_wp2_with ((with_reducible refine atStore 46 2 6 ?_); refine wpList_stBlk rfl 46 _ _ rfl w1.heap.size ds rfl rfl 46 _ L3.out (size_rx D6.out) (by rw [HZL.out, D6.out]) D1.out B3.out (Nat.le_of_lt G12.out) ?_; intro w4 hk4 hb4 hs4 ho4; have K4 := qH hk4; have B4 := qH hb4; have D4 := qH (fun D => ((DA.out (fun _ => False)).stay (w' := w4) fun k hk => absurd hk id).mono (D' := D) fun k hk => absurd hk id); clear hk4 hb4 hs4 ho4)
  refine bodyPost_ret (results_blk rfl _ _ w1.heap.size 46 _ _ rfl K4.out Tryz.underlying46 rfl (size_rx D6.out)) rfl ?_
  exact ⟨ds, rfl, by rw [HF.out]; exact D4.out, B4.out⟩
 | false =>
  have HEQ := qH hs
  have HF := qH (show bytesT s = .node 3 s [] by unfold bytesT; rw [← HZS.out, hs]; rfl)
  clear hs
  go_enter Tryz.func15, Tryz.ntmps15
  go_wp2_with (first
   | ((with_reducible refine atDst 1 ?_); refine wpList_box rfl 43 _ rfl (wds s) rfl (Below.refl w.heap.size w) (Nat.le_refl _) ?_; intro w1 hk1 hb1 hs1 _; have K1 := qH hk1; have B1 := qH hb1; clear hk1 hb1 hs1)
   | ((with_reducible refine atDst 2 ?_); refine wpList_new rfl 46 rfl i0 _ z hi0 HZ0.out rfl B1.out B1.out.size ?_; intro w2 hk2 hb2 hs2 ho2; have L2 := qH hk2; have B2 := qH hb2; have K2 := qH (show Blk w2 w.heap.size 43 (wds s) from (ho2 _ K1.out.lt).trans K1.out); have G12 := qH K1.out.lt; clear hk2 hb2 hs2 ho2)
   | ((with_reducible refine atDst 3 ?_); refine wpList_ldArr rfl 43 _ rfl w.heap.size rfl 43 _ _ K2.out Tryz.underlying43 rfl (size_set s) ?_; (try simp only [Act.put, qA, qB, qC]))
   | ((with_reducible refine atDst 4 ?_); refine wpList_bld rfl 43 _ rfl (wds zs) HBS.out ?_; (try simp only [Act.put, qA, qB, qC]))
   | ((with_reducible refine atDst 5 ?_); refine wpList_eqSet_is rfl HEQ.out 43 41 (.tmp 3) (.tmp 4) 43 rfl guardSet Tryz.underlying43 Tryz.underlying41 sizeU64 rfl rfl ?_; (try simp only [Act.put, qA, qB, qC]))
   | ((with_reducible refine atDst 7 ?_); refine wpList_ldArr rfl 43 _ rfl w.heap.size rfl 43 _ _ K2.out Tryz.underlying43 rfl (size_set s) ?_; (try simp only [Act.put, qA, qB, qC]))
   | ((with_reducible refine atDst 8 ?_); refine wpList_bld rfl 46 _ rfl c HCB.out ?_; (try simp only [Act.put, qA, qB, qC]))
   | ((with_reducible refine atStore 46 2 8 ?_); refine wpList_stBlk rfl 46 _ _ rfl w1.heap.size c rfl rfl 46 _ L2.out (size_rx HC6.out) (by rw [HZL.out, HC6.out]) HC1.out B2.out (Nat.le_of_lt G12.out) ?_; intro w4 hk4 hb4 hs4 ho4; have K4 := qH hk4; have B4 := qH hb4; clear hk4 hb4 hs4 ho4))
  refine bodyPost_ret (results_blk rfl _ _ w1.heap.size 46 _ _ rfl K4.out Tryz.underlying46 rfl (size_rx HC6.out)) rfl ?_
  exact ⟨c, rfl, fun D => by rw [HF.out, HC.out]; exact rx_leaf D _ _ _, B4.out⟩
theorem flatT_take (k : Int) (l : List T) (j : Nat) : (flatT k (l.take j)).length ≤ nodesL l := Nat.le_trans (flatT_len k _) (nodesL_take l j)
theorem RxD.split {D : Nat → Prop} {w : World} {cs : List Value} {t : T} (h : RxD D w cs t) : ∃ A cap, cs = rxc t.kind t.set (.slice A t.args.length cap) ∧ RowD D w (.slice A t.args.length cap) t.args := by
 cases t with
 | node k s l =>
  obtain ⟨v, rfl, hr⟩ := RxD.row h
  have hr' := hr
  obtain ⟨A, cap, f, rfl, _⟩ := hr
  exact ⟨A, cap, rfl, hr'⟩
def withoutT (k : Int) (l : List T) : List T := l.filter fun t => decide (t.kind ≠ k)
theorem withoutT_next (k : Int) (l : List T) (j : Nat) (t : T) (h : l[j]? = some t) : withoutT k (l.take (j + 1)) = withoutT k (l.take j) ++ if t.kind = k then [] else [t] := by
 obtain ⟨hi, rfl⟩ := List.getElem?_eq_some_iff.1 h
 unfold withoutT
 rw [List.take_succ_eq_append_getElem hi, List.filter_append]
 congr 1
 by_cases hk : l[j].kind = k
 ·rw [if_pos hk]; simp [hk]
 ·rw [if_neg hk]; simp [hk]
theorem withoutT_len (k : Int) (l : List T) : (withoutT k l).length ≤ l.length := List.length_filter_le _ _
theorem withoutT_nodes (k : Int) : ∀ l : List T, nodesL (withoutT k l) ≤ nodesL l
 | [] => Nat.le_refl _
 | t :: r => by
  have ih := withoutT_nodes k r
  unfold withoutT at *
  by_cases hk : t.kind = k
  ·rw [List.filter_cons_of_neg (by simp [hk])]
   simp only [nodesL]; omega
  ·rw [List.filter_cons_of_pos (by simp [hk])]
   simp only [nodesL]; omega
theorem flatT_nodes (k : Int) : ∀ l : List T, nodesL (flatT k l) ≤ nodesL l
 | [] => Nat.le_refl _
 | t :: r => by
  have ih := flatT_nodes k r
  have e : flatT k (t :: r) = (if t.kind = k then t.args else [t]) ++ flatT k r := by simp [flatT]
  rw [e, nodesL_append]
  cases t with
  | node k' s l =>
   by_cases hk : (T.node k' s l).kind = k
   ·rw [if_pos hk]
    simp only [nodesL, T.nodes, T.args]
    omega
   ·rw [if_neg hk]
    simp only [nodesL, T.nodes]
    omega
section
variable {w : World} {o : Oper} {a : Act} {K : Act → World → Prop} {Q : Exit → Act → World → Prop}
theorem wp_appT {D : Nat → Prop} {base : Nat} (s x : Operand)
  (ho : o.op = .call { callee := .builtin .append, args := #[s, x], argTypes := #[44, 44] })
  (i : TypeInfo) (hi : Tryz.prog.info? 46 = some i) (hz : i.zero = some (.agg (Value.int .i64 0 :: (wds (fun _ => false) ++ [.slice none 0 0])).toArray))
  (hsize : i.size = 6) (hby : i.bytes = 64)
  (v : Value) (l : List T) (hs : a.eval s = v) (hown : OwnT D base w v l)
  (g cap : Nat) (tg : TypeId) (c : List Value) (t : T) (hx : a.eval x = .slice (some ⟨g, 0, none⟩) 1 cap) (hr : Blk w g tg c) (hel : RxD (fun k => D k ∧ k < w.heap.size ∧ some k ≠ v.ownBlock) w c t)
  (hlen : l.length + 1 ≤ 1099511627776) (hb : base ≤ w.heap.size)
  (h : ∀ v' w', OwnT D base w' v' (l ++ [t]) → w.grownBy w' v.ownBlock → K (a.put o.dst v') w') : o.wp Tryz.prog a w K Q := by
 obtain ⟨cells, h1, h2, h3, h4⟩ := hown
 have hc6 : c.length = 6 := hel.length
 have hnews : ∀ j u, c[j]? = some u → w.cell? ((⟨g, 0, none⟩ : Addr).add j) = some u := fun j u hj => by
  rw [Addr.add_lit, Nat.zero_add, hr.cell j]
  exact hj
 obtain ⟨v', w', hrun, hown', hgr, _⟩ := run_append_own (P := Tryz.prog) w base 44 o.type 46 i _ 6 64 Tryz.underlying44 hi hz hsize hby (by simp [Value.cells, wds]) (by omega) v l.length cells.flatten h3 ⟨g, 0, none⟩ 1 cap c (by omega) hnews hel.one (by unfold maxLen; omega) (by omega) hb
 have hwh := append_where (P := Tryz.prog) (w := w) base 44 o.type 46 i _ 6 64 Tryz.underlying44 hi hz hsize hby (by omega) v l.length cells.flatten h3 ⟨g, 0, none⟩ 1 cap c (by omega) hnews hel.one (by unfold maxLen; omega) (by omega) hrun
 unfold Oper.wp execOp
 simp only [ho, resolve, invoke, builtin, Sem.run_bind, Sem.run_pure, Result.andThen_ok, List.map_toArray, List.map_cons, List.map_nil, hs, hx, hrun]
 refine h v' w' ⟨cells ++ [c], by simp [h1], fun d hd => ?_, ?_, fun j d u hd hu => ?_⟩ hgr
 ·rcases List.mem_append.1 hd with hd | hd
  ·exact h2 d hd
  ·obtain rfl := List.mem_singleton.1 hd
   exact hc6
 ·rw [List.flatten_append, List.length_append]
  simpa using hown'
 ·have key : RxD (fun k => D k ∧ k < w.heap.size ∧ some k ≠ v.ownBlock) w d u := by
   by_cases hj : j < l.length
   ·rw [List.getElem?_append_left (by omega)] at hd hu
    exact h4 j d u hd hu
   ·have hjl : j = l.length := by
     have := (List.getElem?_eq_some_iff.1 hu).1
     simp at this
     omega
    subst hjl
    rw [List.getElem?_append_right (by omega)] at hd hu
    simp [h1] at hd hu
    rw [← hd, ← hu]
    exact hel
  refine (key.stay fun k hk => hgr.block k hk.2.1 hk.2.2).mono fun k hk => ⟨hk.1, Nat.lt_of_lt_of_le hk.2.1 hgr.size, fun he => ?_⟩
  rcases hwh k he.symm with h | h
  ·exact hk.2.2 h.symm
  ·have := hk.2.1
   omega
set_option maxRecDepth 100000 in
theorem wp_appTs {D D' : Nat → Prop} {base : Nat} (s x : Operand)
  (ho : o.op = .call { callee := .builtin .append, args := #[s, x], argTypes := #[44, 44] })
  (i : TypeInfo) (hi : Tryz.prog.info? 46 = some i) (hz : i.zero = some (.agg (Value.int .i64 0 :: (wds (fun _ => false) ++ [.slice none 0 0])).toArray))
  (hsize : i.size = 6) (hby : i.bytes = 64)
  (v : Value) (l : List T) (hs : a.eval s = v) (hown : OwnT D base w v l)
  (u : Value) (m : List T) (hx : a.eval x = u) (hr : RowD D' w u m) (hD : ∀ k, D' k → D k ∧ k < w.heap.size ∧ some k ≠ v.ownBlock)
  (hlen : l.length + m.length ≤ 1099511627776) (hb : base ≤ w.heap.size)
  (h : ∀ v' w', OwnT D base w' v' (l ++ m) → w.grownBy w' v.ownBlock → K (a.put o.dst v') w') : o.wp Tryz.prog a w K Q := by
 obtain ⟨A, cap, f, rfl, r1, r2, r0, r3, r4⟩ := hr
 cases A with
 | none =>
  have hcap : cap = 0 := r0 rfl
  subst hcap
  have hn : m = [] := List.eq_nil_of_length_eq_zero (by omega)
  subst hn
  obtain ⟨cells, h1, h2, h3, h4⟩ := hown
  have hrun := run_append_owned_none (P := Tryz.prog) (w := w) base 44 o.type 46 i 6 Tryz.underlying44 hi v _ _ h3
  unfold Oper.wp
  simp at hx
  simp [execOp, ho, resolve, invoke, builtin, hs, hx, hrun, Result.andThen]
  exact h v w (by simpa using ⟨cells, h1, h2, h3, h4⟩) (World.grownBy.refl _ _)
 | some ad =>
  obtain ⟨cells, h1, h2, h3, h4⟩ := hown
  obtain ⟨ms, hms⟩ : ∃ ms, ms = (List.range m.length).map f := ⟨_, rfl⟩
  have hml : ms.length = m.length := by rw [hms]; simp
  have hmi : ∀ (j : Nat) (c : List Value), ms[j]? = some c → j < m.length ∧ c = f j := fun j c hc => by
   have hj : j < m.length := by have := (List.getElem?_eq_some_iff.1 hc).1; omega
   rw [hms, List.getElem?_map, List.getElem?_range hj] at hc
   exact ⟨hj, by simpa using hc.symm⟩
  have hel : ∀ (j : Nat) (c : List Value) (t : T), ms[j]? = some c → m[j]? = some t → RxD D' w c t := fun j c t hc ht => by
   obtain ⟨_, rfl⟩ := hmi j c hc
   exact r4 j t ht
  have hm6 : ∀ c ∈ ms, c.length = 6 := fun c hc => by
   obtain ⟨j, hj⟩ := List.getElem?_of_mem hc
   exact (hel j c (m[j]'((hmi j c hj).1)) hj (List.getElem?_eq_getElem _)).length
  have hone : ∀ x ∈ ms.flatten, x.oneCell' = true := fun x hx => by
   obtain ⟨c, hc, hxc⟩ := List.mem_flatten.1 hx
   obtain ⟨j, hj⟩ := List.getElem?_of_mem hc
   exact RxD.one (hel j c (m[j]'((hmi j c hj).1)) hj (List.getElem?_eq_getElem _)) x hxc
  have hfl := flat6_len hm6
  have hnews : ∀ j x, ms.flatten[j]? = some x → w.cell? (ad.add j) = some x := fun j x hj => by
   have hlt : j < ms.length * 6 := by rw [← hfl]; exact (List.getElem?_eq_some_iff.1 hj).1
   have hk : j / 6 < ms.length := by omega
   have hg := flat6_get hm6 (List.getElem?_eq_getElem hk) (j % 6) (Nat.mod_lt _ (by omega))
   rw [show j / 6 * 6 + j % 6 = j by omega, hj] at hg
   obtain ⟨b, off, hA, _, hcell⟩ := r3 (fun he => by rw [he] at hml; simp only [List.length_nil] at hml; omega)
   injection hA with hA
   subst hA
   have hf := (hmi (j / 6) ms[j / 6] (List.getElem?_eq_getElem hk)).2
   rw [hf] at hg
   have := hcell (j / 6) (by omega) (j % 6) x hg.symm
   rw [show off + j / 6 * 6 + j % 6 = off + j by omega] at this
   rw [Addr.add_lit]
   exact this
  obtain ⟨v', w', hrun, hown', hgr, _⟩ := run_append_own (P := Tryz.prog) w base 44 o.type 46 i _ 6 64 Tryz.underlying44 hi hz hsize hby (by simp [Value.cells, wds]) (by omega) v l.length cells.flatten h3 ad m.length cap ms.flatten (by rw [hfl, hml]) hnews hone (by unfold maxLen; omega) (by omega) hb
  have hwh := append_where (P := Tryz.prog) (w := w) base 44 o.type 46 i _ 6 64 Tryz.underlying44 hi hz hsize hby (by omega) v l.length cells.flatten h3 ad m.length cap ms.flatten (by rw [hfl, hml]) hnews hone (by unfold maxLen; omega) (by omega) hrun
  unfold Oper.wp execOp
  simp only [ho, resolve, invoke, builtin, Sem.run_bind, Sem.run_pure, Result.andThen_ok, List.map_toArray, List.map_cons, List.map_nil, hs, hx, hrun]
  refine h v' w' ⟨cells ++ ms, by simp [h1, hml], fun d hd => ?_, ?_, fun j d t hd ht => ?_⟩ hgr
  ·rcases List.mem_append.1 hd with hd | hd
   ·exact h2 d hd
   ·exact hm6 d hd
  ·rw [List.flatten_append, List.length_append]
   exact hown'
  ·have key : RxD (fun k => D k ∧ k < w.heap.size ∧ some k ≠ v.ownBlock) w d t := by
    by_cases hj : j < l.length
    ·rw [List.getElem?_append_left (by omega)] at hd ht
     exact h4 j d t hd ht
    ·rw [List.getElem?_append_right (by omega)] at hd ht
     rw [h1] at hd
     exact RxD.mono (hel _ d t hd ht) fun k hk => hD k hk
   refine (key.stay fun k hk => hgr.block k hk.2.1 hk.2.2).mono fun k hk => ⟨hk.1, Nat.lt_of_lt_of_le hk.2.1 hgr.size, fun he => ?_⟩
   rcases hwh k he.symm with h | h
   ·exact hk.2.2 h.symm
   ·have := hk.2.1
    omega
end
section
variable {P : Program} {w : World} {o : Oper} {a : Act} {K : Act → World → Prop} {Q : Exit → Act → World → Prop}
theorem wp_bldT1 (t e : TypeId) (x : Operand) (ho : o.op = .buildSlice t 1 #[(0, x)]) (i : TypeInfo) (ht : P.underlying t = some (.slice e)) (hi : P.info? e = some i) (hz : i.zero = some (.agg (Value.int .i64 0 :: (wds (fun _ => false) ++ [.slice none 0 0])).toArray)) (hs : i.size = 6) (ds : List Value) (hl : ds.length = 6)
  (hx : a.eval x = .agg ds.toArray)
  (h : ∀ w', Blk w' w.heap.size e ds → Below w.heap.size w w' → w'.heap.size = w.heap.size + 1 → K (a.put o.dst (.slice (some ⟨w.heap.size, 0, none⟩) 1 1)) w') : o.wp P a w K Q := by
 have hrun := run_bldT1 (P := P) (w := w) t e i ht hi hz hs ds hl
 unfold Oper.wp
 simp only [execOp, ho, List.map_toArray, List.map_cons, List.map_nil, hx, hrun, Sem.run_bind, Result.andThen_ok, Sem.run_pure]
 exact (h _ (Blk.new w e _) ((Below.refl _ _).alloc (Nat.le_refl _) _) (by simp))
end
section
variable {w : World} {o : Oper} {a : Act} {K : Act → World → Prop} {Q : Exit → Act → World → Prop}
theorem wp_bldT0 (ho : o.op = .buildSlice 44 0 #[])
  (h : ∀ v' w', (∀ D, OwnT D w.heap.size w' v' []) → Below w.heap.size w w' → K (a.put o.dst v') w') : o.wp Tryz.prog a w K Q := by
 obtain ⟨i, hi, hz, hsz, hby⟩ := inf_rx'
 have hrun : (Instr.buildSlice 44 0 #[]).run Tryz.prog w = .ok (.slice (some ⟨w.heap.size, 0, none⟩) 0 0) (w.alloc (.cells #[] 46)) := by
  simp [Instr.buildSlice, run_underlying Tryz.underlying44, sizeOf, typeInfo, hi, hsz, Instr.fill, newRow, Array.range_zero']
 unfold Oper.wp
 simp only [execOp, ho, List.map_toArray, List.map_nil, hrun, Sem.run_bind, Result.andThen_ok, Sem.run_pure]
 exact h _ _ (fun D => ⟨[], rfl, by simp, ⟨by simp, .inr ⟨w.heap.size, 0, #[], rfl, Nat.le_refl _, heap_alloc_new w _, Nat.le_refl _, Nat.zero_le _, rfl, rfl⟩⟩, fun i c t h => by simp at h⟩) ((Below.refl _ _).alloc (Nat.le_refl _) _)
end
theorem RowD.take {D : Nat → Prop} {w : World} {A : Option Addr} {n cap : Nat} {l : List T} (h : RowD D w (.slice A n cap) l) (k : Nat) (hk : k ≤ l.length) : RowD D w (.slice A k cap) (l.take k) := by
 obtain ⟨A', cap', f, he, h1, h2, h0, h3, h4⟩ := h
 injection he with hA hn hc
 subst hA
 subst hc
 have hl : (l.take k).length = k := by rw [List.length_take]; omega
 refine ⟨A, cap, f, by rw [hl], by omega, h2, h0, fun hne => ?_, fun i t ht => ?_⟩
 ·obtain ⟨b, off, hA, hb, hr⟩ := h3 (fun e => hne (by rw [e]; simp))
  exact ⟨b, off, hA, hb, fun i hi => hr i (by omega)⟩
 ·have hi : i < k := by have := (List.getElem?_eq_some_iff.1 ht).1; omega
  rw [List.getElem?_take, if_pos hi] at ht
  exact h4 i t ht
theorem RowD.drop {D : Nat → Prop} {w : World} {A : Option Addr} {n cap : Nat} {l : List T} (h : RowD D w (.slice A n cap) l) (k : Nat) (hk : k < l.length) :
  ∃ b off, A = some ⟨b, off, none⟩ ∧ RowD D w (.slice (some ⟨b, off + k * 6, none⟩) (n - k) (cap - k)) (l.drop k) := by
 obtain ⟨A', cap', f, he, h1, h2, h0, h3, h4⟩ := h
 injection he with hA hn hc
 subst hA
 subst hc
 subst hn
 obtain ⟨b, off, rfl, hb, hr⟩ := h3 (fun e => by rw [e] at hk; simp at hk)
 refine ⟨b, off, rfl, some ⟨b, off + k * 6, none⟩, cap - k, fun i => f (k + i), by rw [List.length_drop], by rw [List.length_drop]; omega, by omega, (fun h => by cases h), fun _ => ⟨b, off + k * 6, rfl, hb, fun i hi => ?_⟩, fun i t ht => ?_⟩
 ·rw [List.length_drop] at hi
  have := hr (k + i) (by omega)
  rw [show off + k * 6 + i * 6 = off + (k + i) * 6 by omega]
  exact this
 ·rw [List.getElem?_drop] at ht
  exact h4 (k + i) t ht
theorem lessS_iff (p q : Nat → Bool) : lessS p q = true ↔ ∃ j, j < 256 ∧ (∀ b, b < j → p b = q b) ∧ p j = true ∧ q j = false := by
 constructor
 ·intro h
  unfold lessS at h
  cases hf : (List.range 256).find? fun b => p b != q b with
  | none => rw [hf] at h; cases h
  | some j =>
   rw [hf] at h
   obtain ⟨h1, h2, h3⟩ := List.find?_range_eq_some.1 hf
   have hp : p j = true := h
   refine ⟨j, List.mem_range.1 h2, fun b hb => by simpa using h3 b hb, hp, ?_⟩
   rw [hp] at h1
   simpa using h1
 ·rintro ⟨j, hj, h1, h2, h3⟩
  rw [lessS_at hj h1 (by rw [h2, h3]; decide)]
  exact h2
theorem lessS_trans {p q r : Nat → Bool} (h : lessS p q = true) (k : lessS q r = true) : lessS p r = true := by
 obtain ⟨i, hi, a1, a2, a3⟩ := (lessS_iff p q).1 h
 obtain ⟨j, hj, b1, b2, b3⟩ := (lessS_iff q r).1 k
 rcases Nat.lt_trichotomy i j with hl | rfl | hl
 ·exact (lessS_iff p r).2 ⟨i, hi, fun b hb => (a1 b hb).trans (b1 b (by omega)), a2, by rw [← b1 i hl]; exact a3⟩
 ·rw [a3] at b2; cases b2
 ·exact (lessS_iff p r).2 ⟨j, hj, fun b hb => (a1 b (by omega)).trans (b1 b hb), by rw [a1 j hl]; exact b2, b3⟩
theorem lessS_ne {p q : Nat → Bool} (h : lessS p q = true) : eqS p q = false := by
 obtain ⟨i, hi, a1, a2, a3⟩ := (lessS_iff p q).1 h
 rw [Bool.eq_false_iff]
 intro he
 have := (eqS_iff p q).1 he i hi
 rw [a2, a3] at this
 cases this
theorem lessS_not {p q : Nat → Bool} (h : lessS p q = false) : eqS p q = !lessS q p := by
 cases hk : lessS q p with
 | true =>
  obtain ⟨i, hi, a1, a2, a3⟩ := (lessS_iff q p).1 hk
  rw [Bool.not_true, Bool.eq_false_iff]
  intro he
  have := (eqS_iff p q).1 he i hi
  rw [a2, a3] at this
  cases this
 | false =>
  rw [Bool.not_false]
  refine (eqS_iff p q).2 ?_
  have : ∀ j, j ≤ 256 → ∀ b, b < j → p b = q b := by
   intro j
   induction j with
   | zero => intro _ b hb; omega
   | succ j ih =>
    intro hj b hb
    rcases Nat.lt_or_ge b j with h' | h'
    ·exact ih (by omega) b h'
    ·obtain rfl : b = j := by omega
     by_cases hne : p b = q b
     ·exact hne
     ·have e1 := lessS_at (p := p) (q := q) (by omega) (ih (by omega)) hne
      have e2 := lessS_at (p := q) (q := p) (by omega) (fun c hc => (ih (by omega) c hc).symm) (fun e => hne e.symm)
      rw [← e1, ← e2, h, hk]
  exact this 256 (Nat.le_refl _)
theorem lessS_irrefl (p : Nat → Bool) : lessS p p = false := lessS_none fun _ _ => rfl
theorem lessS_congr {p p' q q' : Nat → Bool} (h : ∀ b, b < 256 → p b = p' b) (k : ∀ b, b < 256 → q b = q' b) : lessS p q = lessS p' q' := by
 rw [Bool.eq_iff_iff, lessS_iff, lessS_iff]
 constructor
 ·rintro ⟨j, hj, h1, h2, h3⟩
  exact ⟨j, hj, fun b hb => by rw [← h b (by omega), ← k b (by omega)]; exact h1 b hb, by rw [← h j hj]; exact h2, by rw [← k j hj]; exact h3⟩
 ·rintro ⟨j, hj, h1, h2, h3⟩
  exact ⟨j, hj, fun b hb => by rw [h b (by omega), k b (by omega)]; exact h1 b hb, by rw [h j hj]; exact h2, by rw [k j hj]; exact h3⟩
/-! ### their line -/
theorem eqS_comm (p q : Nat → Bool) : eqS q p = eqS p q := by
 rw [Bool.eq_iff_iff, eqS_iff, eqS_iff]
 exact ⟨fun h b hb => (h b hb).symm, fun h b hb => (h b hb).symm⟩
mutual
theorem cmpT_self : ∀ t : T, cmpT t t = 0
 | .node k s l => by
  simp only [cmpT, eqS_self, cmpL_self l]
  simp
theorem cmpL_self : ∀ l : List T, cmpL l l = 0
 | [] => rfl
 | t :: r => by simp only [cmpL, cmpT_self t, cmpL_self r, if_true]
end
mutual
theorem cmpT_flip : ∀ t u : T, cmpT u t = - cmpT t u
 | .node k s l, .node k' s' l' => by
  by_cases hk : k = k'
  ·subst hk
   simp only [cmpT, if_true, eqS_comm s s']
   by_cases h3 : k = 3 ∧ eqS s s' = false
   ·rw [if_pos h3, if_pos h3]
    cases h : lessS s s' with
    | true =>
     have : lessS s' s = false := by
      cases h2 : lessS s' s with
      | false => rfl
      | true =>
       have := lessS_trans h h2
       rw [lessS_irrefl] at this
       cases this
     rw [this]; rfl
    | false =>
     have := lessS_not h
     rw [h3.2] at this
     cases h2 : lessS s' s with
     | true => rfl
     | false => rw [h2] at this; cases this
   ·rw [if_neg h3, if_neg h3]
    exact cmpL_flip l l'
  ·have hk' : ¬ k' = k := fun e => hk e.symm
   simp only [cmpT, if_neg hk, if_neg hk']
   by_cases h1 : k < k'
   ·rw [if_pos h1, if_neg (by omega)]; rfl
   ·rw [if_neg h1, if_pos (by omega)]
theorem cmpL_flip : ∀ l m : List T, cmpL m l = - cmpL l m
 | [], [] => rfl
 | [], _ :: _ => rfl
 | _ :: _, [] => rfl
 | a :: r, b :: s => by
  have h1 := cmpT_flip a b
  have h2 := cmpL_flip r s
  simp only [cmpL, h1, h2]
  by_cases h : cmpT a b = 0
  ·rw [if_pos h, if_pos (by omega)]
  ·rw [if_neg h, if_neg (by omega)]
end
mutual
theorem cmpT_three : ∀ t u : T, cmpT t u = -1 ∨ cmpT t u = 0 ∨ cmpT t u = 1
 | .node k s l, .node k' s' l' => by
  simp only [cmpT]
  by_cases hk : k = k'
  ·rw [if_pos hk]
   by_cases h3 : k = 3 ∧ eqS s s' = false
   ·rw [if_pos h3]
    cases lessS s s' <;> simp
   ·rw [if_neg h3]
    exact cmpL_three l l'
  ·rw [if_neg hk]
   by_cases h1 : k < k'
   ·rw [if_pos h1]; exact .inl rfl
   ·rw [if_neg h1]; exact .inr (.inr rfl)
theorem cmpL_three : ∀ l m : List T, cmpL l m = -1 ∨ cmpL l m = 0 ∨ cmpL l m = 1
 | [], [] => .inr (.inl rfl)
 | [], _ :: _ => .inl rfl
 | _ :: _, [] => .inr (.inr rfl)
 | a :: r, b :: s => by
  simp only [cmpL]
  by_cases h : cmpT a b = 0
  ·rw [if_pos h]; exact cmpL_three r s
  ·rw [if_neg h]; exact cmpT_three a b
end
def Chn (x y z : Int) : Prop := x ≤ 0 → y ≤ 0 → z ≤ 0 ∧ (z = 0 → x = 0 ∧ y = 0)
theorem chn_sets (s s' s'' : Nat → Bool) : Chn (if eqS s s' = false then (if lessS s s' then -1 else 1) else 0) (if eqS s' s'' = false then (if lessS s' s'' then -1 else 1) else 0) (if eqS s s'' = false then (if lessS s s'' then -1 else 1) else 0) := by
 intro hx hy
 cases e1 : eqS s s' with
 | true =>
  have h1 := (eqS_iff s s').1 e1
  have a1 : eqS s s'' = eqS s' s'' := by
   rw [Bool.eq_iff_iff, eqS_iff, eqS_iff]
   exact ⟨fun h b hb => (h1 b hb).symm.trans (h b hb), fun h b hb => (h1 b hb).trans (h b hb)⟩
  have a2 : lessS s s'' = lessS s' s'' := lessS_congr h1 fun _ _ => rfl
  rw [a1, a2]
  exact ⟨hy, fun h => ⟨rfl, h⟩⟩
 | false =>
  rw [e1, if_pos rfl] at hx
  have l1 : lessS s s' = true := by
   cases h : lessS s s' with
   | true => rfl
   | false => rw [h] at hx; simp at hx
  cases e2 : eqS s' s'' with
  | true =>
   have h2 := (eqS_iff s' s'').1 e2
   have a2 : lessS s s'' = true := by rw [← lessS_congr (fun _ _ => rfl) h2]; exact l1
   rw [lessS_ne a2, a2]
   exact ⟨by decide, fun h => by simp at h⟩
  | false =>
   rw [e2, if_pos rfl] at hy
   have l2 : lessS s' s'' = true := by
    cases h : lessS s' s'' with
    | true => rfl
    | false => rw [h] at hy; simp at hy
   have a2 := lessS_trans l1 l2
   rw [lessS_ne a2, a2]
   exact ⟨by decide, fun h => by simp at h⟩
def lex (d l : Int) : Int := if d = 0 then l else d
theorem chn_lex {d1 d2 d3 l1 l2 l3 : Int} (hd : Chn d1 d2 d3) (hl : Chn l1 l2 l3) : Chn (lex d1 l1) (lex d2 l2) (lex d3 l3) := by
 unfold lex
 intro hx hy
 have x0 : d1 ≤ 0 := by
  by_cases e : d1 = 0
  ·omega
  ·rw [if_neg e] at hx; exact hx
 have y0 : d2 ≤ 0 := by
  by_cases e : d2 = 0
  ·omega
  ·rw [if_neg e] at hy; exact hy
 have hz := hd x0 y0
 by_cases ez : d3 = 0
 ·obtain ⟨ex, ey⟩ := hz.2 ez
  rw [if_pos ex] at hx ⊢
  rw [if_pos ey] at hy ⊢
  rw [if_pos ez]
  exact hl hx hy
 ·rw [if_neg ez]
  exact ⟨hz.1, fun h0 => absurd h0 ez⟩
def kindD (k k' : Int) : Int := if k = k' then 0 else if k < k' then -1 else 1
def setD (k : Int) (s s' : Nat → Bool) : Int := if k = 3 then (if eqS s s' = false then (if lessS s s' then -1 else 1) else 0) else 0
theorem chn_kind (a b c : Int) : Chn (kindD a b) (kindD b c) (kindD a c) := by
 intro hx hy
 unfold kindD at *
 have h1 : a ≤ b := by
  by_cases h : a = b
  ·omega
  ·rw [if_neg h] at hx
   by_cases h' : a < b
   ·omega
   ·rw [if_neg h'] at hx; simp at hx
 have h2 : b ≤ c := by
  by_cases h : b = c
  ·omega
  ·rw [if_neg h] at hy
   by_cases h' : b < c
   ·omega
   ·rw [if_neg h'] at hy; simp at hy
 by_cases h : a = c
 ·rw [if_pos h, if_pos (by omega), if_pos (by omega)]
  exact ⟨by decide, fun _ => ⟨rfl, rfl⟩⟩
 ·rw [if_neg h, if_pos (by omega)]
  exact ⟨by decide, fun h0 => by simp at h0⟩
theorem chn_setD (k : Int) (s s' s'' : Nat → Bool) : Chn (setD k s s') (setD k s' s'') (setD k s s'') := by
 unfold setD
 by_cases h : k = 3
 ·rw [if_pos h, if_pos h, if_pos h]
  exact chn_sets s s' s''
 ·rw [if_neg h, if_neg h, if_neg h]
  exact fun _ _ => ⟨by decide, fun _ => ⟨rfl, rfl⟩⟩
theorem lex_zero (l : Int) : lex 0 l = l := rfl
theorem lex_ne {d : Int} (l : Int) (h : d ≠ 0) : lex d l = d := if_neg h
theorem cmpT_lex (k k' : Int) (s s' : Nat → Bool) (l l' : List T) : cmpT (.node k s l) (.node k' s' l') = lex (kindD k k') (lex (setD k s s') (cmpL l l')) := by
 simp only [cmpT]
 by_cases hk : k = k'
 ·have e1 : kindD k k' = 0 := if_pos hk
  rw [if_pos hk, e1, lex_zero]
  by_cases h3 : k = 3
  ·cases e : eqS s s' with
   | true =>
    have e2 : setD k s s' = 0 := by unfold setD; rw [if_pos h3, e]; rfl
    rw [if_neg (by rintro ⟨_, h⟩; cases h), e2, lex_zero]
   | false =>
    have e2 : setD k s s' = if lessS s s' then -1 else 1 := by unfold setD; rw [if_pos h3, e]; rfl
    rw [if_pos ⟨h3, rfl⟩, e2, lex_ne]
    cases lessS s s' <;> decide
  ·have e2 : setD k s s' = 0 := if_neg h3
   rw [if_neg (fun h => h3 h.1), e2, lex_zero]
 ·have e1 : kindD k k' = if k < k' then -1 else 1 := if_neg hk
  rw [if_neg hk, e1, lex_ne]
  by_cases h : k < k'
  ·rw [if_pos h]; decide
  ·rw [if_neg h]; decide
mutual
theorem cmpT_chain : ∀ t u v : T, Chn (cmpT t u) (cmpT u v) (cmpT t v)
 | .node k s l, .node k' s' l', .node k'' s'' l'' => by
  have hl := cmpL_chain l l' l''
  rw [cmpT_lex, cmpT_lex, cmpT_lex]
  intro hx hy
  have hk := chn_kind k k' k''
  by_cases h1 : k = k'
  ·subst h1
   exact chn_lex hk (chn_lex (chn_setD k s s' s'') hl) hx hy
  ·have hx0 : kindD k k' ≠ 0 := by
    unfold kindD
    rw [if_neg h1]
    split <;> decide
   have hx1 : kindD k k' ≤ 0 := by
    unfold lex at hx
    rw [if_neg hx0] at hx
    exact hx
   have hy1 : kindD k' k'' ≤ 0 := by
    unfold lex at hy
    by_cases e : kindD k' k'' = 0
    ·omega
    ·rw [if_neg e] at hy; exact hy
   have hz := hk hx1 hy1
   have ez : kindD k k'' ≠ 0 := fun h => hx0 (hz.2 h).1
   have e : lex (kindD k k'') (lex (setD k s s'') (cmpL l l'')) = kindD k k'' := by unfold lex; rw [if_neg ez]
   rw [e]
   exact ⟨hz.1, fun h => absurd h ez⟩
theorem cmpL_chain : ∀ l m n : List T, Chn (cmpL l m) (cmpL m n) (cmpL l n)
 | [], [], n => fun hx hy => ⟨hy, fun h => ⟨rfl, h⟩⟩
 | [], _ :: _, [] => fun _ hy => by simp [cmpL] at hy
 | [], _ :: _, _ :: _ => fun _ _ => ⟨by simp [cmpL], fun h => by simp [cmpL] at h⟩
 | _ :: _, [], _ => fun hx _ => by simp [cmpL] at hx
 | _ :: _, _ :: _, [] => fun _ hy => by simp [cmpL] at hy
 | a :: r, b :: s, c :: t => by
  have h := cmpT_chain a b c
  have hr := cmpL_chain r s t
  have := chn_lex h hr
  unfold lex at this
  simp only [cmpL]
  exact this
end
theorem cmpT_trans {t u v : T} (h : cmpT t u < 0) (k : cmpT u v ≤ 0) : cmpT t v < 0 := by
 have := cmpT_chain t u v (by omega) k
 rcases cmpT_three t v with h1 | h1 | h1
 ·omega
 ·have := (this.2 h1).1; omega
 ·omega
theorem OwnT.rowD {D : Nat → Prop} {base : Nat} {w : World} {v : Value} {l : List T} (h : OwnT D base w v l) : RowD (fun b => (D b ∨ base ≤ b) ∧ b < w.heap.size) w v l := by
 obtain ⟨v', he, hr⟩ := (h.rx 0 zeroS).row
 have : v' = v := by
  simp only [List.cons.injEq, true_and] at he
  have := List.append_cancel_left he
  simpa using this.symm
 rwa [this] at hr
def wrapT (k : Int) (n : T) : List T → T
 | [] => n
 | [t] => t
 | a :: b :: r => .node k zeroS (a :: b :: r)
theorem wrapT_many (k : Int) (n : T) (l : List T) (h : 2 ≤ l.length) : wrapT k n l = .node k zeroS l := by
 match l, h with
 | a :: b :: r, _ => rfl
def anyK (k : Int) (l : List T) : Bool := l.any fun t => decide (t.kind = k)
def catT (l : List T) : T := if anyK 1 (flatT 4 l) then noneT else wrapT 4 emptyT (withoutT 2 (flatT 4 l))
theorem wrapT_nodes (k : Int) (n : T) : ∀ l : List T, (wrapT k n l).nodes ≤ 1 + n.nodes + nodesL l
 | [] => by simp only [wrapT, nodesL]; omega
 | [t] => by simp only [wrapT, nodesL]; omega
 | a :: b :: r => by
  rw [wrapT_many k n _ (by simp)]
  simp only [T.nodes]
  omega
theorem catT_nodes (l : List T) : (catT l).nodes ≤ 2 + nodesL l := by
 unfold catT
 have h1 := wrapT_nodes 4 emptyT (withoutT 2 (flatT 4 l))
 have h2 := withoutT_nodes 2 (flatT 4 l)
 have h3 := flatT_nodes 4 l
 have h4 : emptyT.nodes = 1 := rfl
 have h5 : noneT.nodes = 1 := rfl
 split <;> omega
def nthT (l : List T) (i : Nat) : T := l.getD i noneT
theorem nthT_some {l : List T} {i : Nat} (h : i < l.length) : l[i]? = some (nthT l i) := by
 unfold nthT
 rw [List.getD_eq_getElem?_getD, List.getElem?_eq_getElem h]
 rfl
def ThereT (w : World) (g n : Nat) : Prop := ∀ j, j < n → w.there g (j * 6) 6
theorem grown_setCells {w w' : World} {g : Nat} (h : w.grownBy w' (some g)) (o : Nat) (vs : List Value) : w.grownBy (w'.setCells g o vs) (some g) := by
 induction vs generalizing o w' with
 | nil => exact h
 | cons v r ih =>
  refine ih (w' := w'.setCell ⟨g, o, none⟩ v) ⟨h.os, h.tape, h.output, ?_, fun k hk hne => ?_⟩ (o + 1)
  ·have := h.size
   simpa [World.setCell] using this
  ·rw [← h.block k hk hne]
   exact Below.heap_setCell w' ⟨g, o, none⟩ v k fun e => hne (by rw [e])
theorem ThereT.all {w : World} {g n : Nat} (h : ThereT w g n) (o m : Nat) (hm : o + m ≤ n * 6) : w.there g o m := fun j hj => by
 have hk : (o + j) / 6 < n := by omega
 have := h ((o + j) / 6) hk ((o + j) % 6) (Nat.mod_lt _ (by omega))
 rw [show (o + j) / 6 * 6 + (o + j) % 6 = o + j by omega] at this
 exact this
theorem grown_below {w w1 w2 : World} {g B : Nat} (h : w.grownBy w1 (some g)) (hb : Below B w1 w2) (hB : w1.heap.size ≤ B) : w.grownBy w2 (some g) :=
 ⟨hb.os.trans h.os, hb.tape.trans h.tape, hb.output.trans h.output, Nat.le_trans h.size hb.size, fun k hk hne => (hb.block k (by have := h.size; omega)).trans (h.block k hk hne)⟩
section
variable {w : World} {ops : Array Oper} {rest : List Oper} {o : Oper} {a : Act} {Q : Exit → Act → World → Prop}
end
theorem sub_next {m q : Nat} (h : q < m) : m - (q + 1) < m - q := by omega
theorem lt_of_ne {j a : Nat} (h : j < a + 1) (hne : j ≠ a) : j < a := by omega
theorem OwnT.mid {D : Nat → Prop} {base : Nat} {w : World} {v : Value} {l : List T} (h : OwnT D base w v l) (hne : 0 < l.length) :
  ∃ (g cap : Nat) (f : Nat → List Value), v = .slice (some ⟨g, 0, none⟩) l.length cap ∧ base ≤ g ∧ g < w.heap.size ∧ l.length ≤ cap ∧ cap ≤ maxLen ∧ ThereT w g l.length ∧ (∀ i, i < l.length → w.rangeAt g (i * 6) (f i)) ∧
   ∀ i t, l[i]? = some t → RxD (fun k => D k ∧ k < w.heap.size ∧ k ≠ g) w (f i) t := by
 obtain ⟨cells, h1, h2, h3, h4⟩ := h
 rcases h3.2 with ⟨_, h0⟩ | ⟨g, cap, cur, rfl, hb, hg, hn, hm, hs, ht⟩
 ·omega
 have hlt : g < w.heap.size := (Array.getElem?_eq_some_iff.1 hg).1
 refine ⟨g, cap, fun i => cells.getD i [], rfl, hb, hlt, hn, hm, fun j hj i hi => ⟨?_, by simp [World.frozen?, hg]⟩, fun i hi j u hu => ?_, fun i t hti => ?_⟩
 ·have hji : j * 6 + i < cur.size := by omega
  rw [cell_of_row w g (j * 6 + i) cur _ (0, 0) hg, Array.getElem?_eq_getElem hji]
  rfl
 ·have hic : i < cells.length := by omega
  have hci : cells[i]? = some cells[i] := List.getElem?_eq_getElem hic
  have e0 : cells.getD i [] = cells[i] := by simp [List.getD, hci]
  have hu : (cells.getD i [])[j]? = some u := hu
  rw [e0] at hu
  have hj : j < 6 := by rw [← h2 cells[i] (List.getElem_mem hic)]; exact (List.getElem?_eq_some_iff.1 hu).1
  have e1 := flat6_get h2 hci j hj
  rw [hu, ← ht, List.getElem?_take, if_pos (by omega), Array.getElem?_toList] at e1
  rw [cell_of_row w g _ cur _ (0, 0) hg, e1]
 ·have hic : i < cells.length := by rw [h1]; exact (List.getElem?_eq_some_iff.1 hti).1
  have hci : cells[i]? = some cells[i] := List.getElem?_eq_getElem hic
  have e0 : cells.getD i [] = cells[i] := by simp [List.getD, hci]
  show RxD _ w (cells.getD i []) t
  rw [e0]
  exact (h4 i cells[i] t hci hti).mono fun k hk => ⟨hk.1, hk.2.1, fun e => hk.2.2 (by rw [e]; rfl)⟩
end Go.Proofs.YteadghoojeehlaaGreatDoor
