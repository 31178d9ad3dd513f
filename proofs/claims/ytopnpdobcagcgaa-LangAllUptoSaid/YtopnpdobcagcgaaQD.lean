/-
  Texts of this proof, put together: (RxF) Rows of expressions put behind each other; what the document's answer to rx (flat) answers and leaves. No statement is proved here. (RxEp) What the document's answer to rx (None, Empty, Bytes) answers and leaves. No statement is proved here. (RxIp) Plain facts of rows of expressions: flat, without. No statement is proved here. (RxJp) Plain facts of rows of expressions: cat. No statement is proved here. (RxMp) Rows of expressions whose cells may be written; those that are not level with the one ahead. No statement is proved here. (RxB) Facts of expressions as trees: what is plain; rising lists; what alternatives come to. No statement is proved here. (RxPp) Plain facts of rows of expressions: alternatives. No statement is proved here.
-/
import Derived.Test.YtopnpdobcagcgaaQC
import Derived.Deep.MidRow
namespace Go.Proofs.Ytopnpdobcagcgaa
open Go.RowKit
set_option linter.unusedSimpArgs false
set_option linter.unusedVariables false
section
variable {w : World} {ops : Array Oper} {rest : List Oper} {o : Oper} {a : Act} {Q : Exit → Act → World → Prop}
set_option maxRecDepth 100000 in
theorem wpList_appTs {D D' : Nat → Prop} {base : Nat} (hgd : o.guard = none) (s x : Operand)
  (ho : o.op = .call { callee := .builtin .append, args := #[s, x], argTypes := #[25, 25] })
  (i : TypeInfo) (hi : Try.prog.info? 27 = some i) (hz : i.zero = some (.agg (Value.int .i64 0 :: (wds (fun _ => false) ++ [.slice none 0 0])).toArray))
  (hsize : i.size = 6) (hby : i.bytes = 64)
  (v : Value) (l : List T) (hs : a.eval s = v) (hown : OwnT D base w v l)
  (u : Value) (m : List T) (hx : a.eval x = u) (hr : RowD D' w u m) (hD : ∀ k, D' k → D k ∧ k < w.heap.size ∧ some k ≠ v.ownBlock)
  (hlen : l.length + m.length ≤ 1099511627776) (hb : base ≤ w.heap.size)
  (h : ∀ v' w', OwnT D base w' v' (l ++ m) → w.grownBy w' v.ownBlock → wpList Try.prog ops Q rest (a.put o.dst v') w') : wpList Try.prog ops Q (o :: rest) a w := by
 obtain ⟨A, cap, f, rfl, r1, r2, r0, r3, r4⟩ := hr
 cases A with
 | none =>
  have hcap : cap = 0 := r0 rfl
  subst hcap
  have hn : m = [] := List.eq_nil_of_length_eq_zero (by omega)
  subst hn
  obtain ⟨cells, h1, h2, h3, h4⟩ := hown
  have hrun := run_append_owned_none (P := Try.prog) (w := w) base 25 o.type 27 i 6 Try.underlying25 hi v _ _ h3
  refine wpList_plain hgd fun K hK => ?_
  unfold Oper.wp
  simp at hx
  simp [execOp, ho, resolve, invoke, builtin, hs, hx, hrun, Result.andThen]
  exact hK _ _ (h v w (by simpa using ⟨cells, h1, h2, h3, h4⟩) (World.grownBy.refl _ _))
 | some ad =>
  obtain ⟨cells, h1, h2, h3, h4⟩ := hown
  obtain ⟨ms, hms⟩ : ∃ ms, ms = (List.range m.length).map f := ⟨_, rfl⟩
  have hml : ms.length = m.length := by rw [hms]; simp
  have hmi : ∀ (j : Nat) (c : List Value), ms[j]? = some c → j < m.length ∧ c = f j := fun j c hc => by
   have hj : j < m.length := by have := (List.getElem?_eq_some_iff.1 hc).1; omega
   rw [hms, List.getElem?_map, List.getElem?_range hj] at hc
   exact ⟨hj, by simpa using hc.symm⟩
  have hel : ∀ (j : Nat) (c : List Value) (t : T), ms[j]? = some c → m[j]? = some t → RxD D' w c t := fun j c t hc ht => by
   obtain ⟨_, rfl⟩ := hmi j c hc
   exact r4 j t ht
  have hm6 : ∀ c ∈ ms, c.length = 6 := fun c hc => by
   obtain ⟨j, hj⟩ := List.getElem?_of_mem hc
   exact (hel j c (m[j]'((hmi j c hj).1)) hj (List.getElem?_eq_getElem _)).length
  have hone : ∀ x ∈ ms.flatten, x.oneCell' = true := fun x hx => by
   obtain ⟨c, hc, hxc⟩ := List.mem_flatten.1 hx
   obtain ⟨j, hj⟩ := List.getElem?_of_mem hc
   exact RxD.one (hel j c (m[j]'((hmi j c hj).1)) hj (List.getElem?_eq_getElem _)) x hxc
  have hfl := flat6_len hm6
  have hnews : ∀ j x, ms.flatten[j]? = some x → w.cell? (ad.add j) = some x := fun j x hj => by
   have hlt : j < ms.length * 6 := by rw [← hfl]; exact (List.getElem?_eq_some_iff.1 hj).1
   have hk : j / 6 < ms.length := by omega
   have hg := flat6_get hm6 (List.getElem?_eq_getElem hk) (j % 6) (Nat.mod_lt _ (by omega))
   rw [show j / 6 * 6 + j % 6 = j by omega, hj] at hg
   obtain ⟨b, off, hA, _, hcell⟩ := r3 (fun he => by rw [he] at hml; simp only [List.length_nil] at hml; omega)
   injection hA with hA
   subst hA
   have hf := (hmi (j / 6) ms[j / 6] (List.getElem?_eq_getElem hk)).2
   rw [hf] at hg
   have := hcell (j / 6) (by omega) (j % 6) x hg.symm
   rw [show off + j / 6 * 6 + j % 6 = off + j by omega] at this
   rw [Addr.add_lit]
   exact this
  obtain ⟨v', w', hrun, hown', hgr, _⟩ := run_append_own (P := Try.prog) w base 25 o.type 27 i _ 6 64 Try.underlying25 hi hz hsize hby (by simp [Value.cells, wds]) (by omega) v l.length cells.flatten h3 ad m.length cap ms.flatten (by rw [hfl, hml]) hnews hone (by unfold maxLen; omega) (by omega) hb
  have hwh := append_where (P := Try.prog) (w := w) base 25 o.type 27 i _ 6 64 Try.underlying25 hi hz hsize hby (by omega) v l.length cells.flatten h3 ad m.length cap ms.flatten (by rw [hfl, hml]) hnews hone (by unfold maxLen; omega) (by omega) hrun
  refine wpList_plain hgd fun K hK => ?_
  unfold Oper.wp execOp
  simp only [ho, resolve, invoke, builtin, Sem.run_bind, Sem.run_pure, Result.andThen_ok, List.map_toArray, List.map_cons, List.map_nil, hs, hx, hrun]
  refine hK _ _ (h v' w' ⟨cells ++ ms, by simp [h1, hml], fun d hd => ?_, ?_, fun j d t hd ht => ?_⟩ hgr)
  ·rcases List.mem_append.1 hd with hd | hd
   ·exact h2 d hd
   ·exact hm6 d hd
  ·rw [List.flatten_append, List.length_append]
   exact hown'
  ·have key : RxD (fun k => D k ∧ k < w.heap.size ∧ some k ≠ v.ownBlock) w d t := by
    by_cases hj : j < l.length
    ·rw [List.getElem?_append_left (by omega)] at hd ht
     exact h4 j d t hd ht
    ·rw [List.getElem?_append_right (by omega)] at hd ht
     rw [h1] at hd
     exact RxD.mono (hel _ d t hd ht) fun k hk => hD k hk
   refine (key.stay fun k hk => hgr.block k hk.2.1 hk.2.2).mono fun k hk => ⟨hk.1, Nat.lt_of_lt_of_le hk.2.1 hgr.size, fun he => ?_⟩
   rcases hwh k he.symm with h | h
   ·exact hk.2.2 h.symm
   ·have := hk.2.1
    omega
end
def flatT (k : Int) (l : List T) : List T := l.flatMap fun t => if t.kind = k then t.args else [t]
theorem flatT_next (k : Int) (l : List T) (j : Nat) (t : T) (h : l[j]? = some t) : flatT k (l.take (j + 1)) = flatT k (l.take j) ++ if t.kind = k then t.args else [t] := by
 obtain ⟨hi, rfl⟩ := List.getElem?_eq_some_iff.1 h
 unfold flatT
 rw [List.take_succ_eq_append_getElem hi, List.flatMap_append, List.flatMap_cons, List.flatMap_nil, List.append_nil]
theorem flatT_len (k : Int) : ∀ l : List T, (flatT k l).length ≤ nodesL l
 | [] => Nat.le_refl _
 | t :: r => by
  have ih := flatT_len k r
  have e : flatT k (t :: r) = (if t.kind = k then t.args else [t]) ++ flatT k r := by simp [flatT]
  rw [e, List.length_append]
  cases t with
  | node k' s l =>
   have h1 := len_nodes l
   by_cases hk : (T.node k' s l).kind = k
   ·rw [if_pos hk]
    simp only [nodesL, T.nodes, T.args]
    omega
   ·rw [if_neg hk]
    simp only [nodesL, T.nodes, List.length_cons, List.length_nil]
    omega
end Go.Proofs.Ytopnpdobcagcgaa
namespace Go.Proofs.Ytopnpdobcagcgaa
open Go.RowKit
set_option linter.unusedSimpArgs false
set_option linter.unusedVariables false
def zeroS : Nat → Bool := fun _ => false
def rxc (k : Int) (s : Nat → Bool) (v : Value) : List Value := Value.int .i64 k :: (wds s ++ [v])
theorem rx_leaf (D : Nat → Prop) (w : World) (k : Int) (s : Nat → Bool) : RxD D w (rxc k s (.slice none 0 0)) (.node k s []) :=
 .node (l := []) (fun _ => []) (Nat.le_refl _) (Nat.zero_le _) (fun _ => rfl) (fun h => absurd rfl h) (fun i t h => by simp at h)
def noneT : T := .node 1 zeroS []
def emptyT : T := .node 2 zeroS []
def bytesT (s : Nat → Bool) : T := if eqS s zeroS then noneT else .node 3 s []
theorem inf_rx' : ∃ i, Try.prog.info? 27 = some i ∧ i.zero = some (.agg (rxc 0 zeroS (.slice none 0 0)).toArray) ∧ i.size = 6 ∧ i.bytes = 64 := infoP inf_rx
theorem built0 (k : Int) : Try.prog.built 27 [(0, .int .i64 k)] = some (rxc k zeroS (.slice none 0 0)).toArray := by kernel_rfl
theorem built01 (k : Int) (s : Nat → Bool) : Try.prog.built 27 [(0, .int .i64 k), (1, .agg (wds s).toArray)] = some (rxc k s (.slice none 0 0)).toArray := by kernel_rfl
theorem built02 (k : Int) (v : Value) (A : Option Addr) (n c : Nat) (hv : v = .slice A n c) : Try.prog.built 27 [(0, .int .i64 k), (2, v)] = some (rxc k zeroS v).toArray := by subst hv; kernel_rfl
theorem builtS : Try.prog.built 24 [] = some (wds zeroS).toArray := by kernel_rfl
set_option maxHeartbeats 2000000 in
set_option maxRecDepth 100000 in
theorem refNone_any (w : World) : Calls Try.prog 42 #[] w fun e w' => ∃ ds, e = .returned (.agg ds.toArray) ∧ (∀ D, RxD D w' ds noneT) ∧ Below w.heap.size w w' := by
 obtain ⟨i0, hi0, hz0, hz1, hz2⟩ := inf_rx'
 obtain ⟨z, hz⟩ : ∃ z, z = rxc 0 zeroS (.slice none 0 0) := ⟨_, rfl⟩
 have HZL := Lib.hid (show z.length = 6 by rw [hz]; rfl)
 have HZ0 := Lib.hid (show i0.zero = some (.agg z.toArray) by rw [hz]; exact hz0)
 obtain ⟨c, hc⟩ : ∃ c, c = rxc 1 zeroS (.slice none 0 0) := ⟨_, rfl⟩
 have HCB := Lib.hid (show Try.prog.built 27 [(0, .int .i64 1)] = some c.toArray by rw [hc]; exact built0 1)
 have HC6 := Lib.hid (show c.length = 6 by rw [hc]; rfl)
 have HC1 := Lib.hid (show c.all (·.oneCell') = true by rw [hc]; rfl)
 have HC := Lib.hid hc
 clear hz hz0 hz1 hz2 hc
 go_enter Try.func42, Try.ntmps42
 go_wp2_with (first
  | ((with_reducible refine atDst 0 ?_); refine wpList_new rfl 27 rfl i0 _ z hi0 HZ0.out rfl (Below.refl w.heap.size w) (Nat.le_refl _) ?_; intro w1 hk1 hb1 hs1 _; have K1 := Lib.hid hk1; have B1 := Lib.hid hb1; clear hk1 hb1 hs1)
  | ((with_reducible refine atDst 1 ?_); refine wpList_bld rfl 27 _ rfl c HCB.out ?_)
  | ((with_reducible refine atStore 27 0 1 ?_); refine wpList_stBlk rfl 27 _ _ rfl w.heap.size c rfl rfl 27 _ K1.out (size_rx HC6.out) (by rw [HZL.out, HC6.out]) HC1.out B1.out (Nat.le_refl _) ?_; intro w2 hk2 hb2 hs2 _; have K2 := Lib.hid hk2; have B2 := Lib.hid hb2; clear hk2 hb2 hs2))
 refine bodyPost_ret (results_blk rfl _ _ w.heap.size 27 _ _ rfl K2.out Try.underlying27 rfl (size_rx HC6.out)) rfl ?_
 exact ⟨c, rfl, fun D => by rw [HC.out]; exact rx_leaf D _ _ _, B2.out⟩
set_option maxHeartbeats 2000000 in
set_option maxRecDepth 100000 in
theorem refEmpty_any (w : World) : Calls Try.prog 40 #[] w fun e w' => ∃ ds, e = .returned (.agg ds.toArray) ∧ (∀ D, RxD D w' ds emptyT) ∧ Below w.heap.size w w' := by
 obtain ⟨i0, hi0, hz0, hz1, hz2⟩ := inf_rx'
 obtain ⟨z, hz⟩ : ∃ z, z = rxc 0 zeroS (.slice none 0 0) := ⟨_, rfl⟩
 have HZL := Lib.hid (show z.length = 6 by rw [hz]; rfl)
 have HZ0 := Lib.hid (show i0.zero = some (.agg z.toArray) by rw [hz]; exact hz0)
 obtain ⟨c, hc⟩ : ∃ c, c = rxc 2 zeroS (.slice none 0 0) := ⟨_, rfl⟩
 have HCB := Lib.hid (show Try.prog.built 27 [(0, .int .i64 2)] = some c.toArray by rw [hc]; exact built0 2)
 have HC6 := Lib.hid (show c.length = 6 by rw [hc]; rfl)
 have HC1 := Lib.hid (show c.all (·.oneCell') = true by rw [hc]; rfl)
 have HC := Lib.hid hc
 clear hz hz0 hz1 hz2 hc
 go_enter Try.func40, Try.ntmps40
 go_wp2_with (first
  | ((with_reducible refine atDst 0 ?_); refine wpList_new rfl 27 rfl i0 _ z hi0 HZ0.out rfl (Below.refl w.heap.size w) (Nat.le_refl _) ?_; intro w1 hk1 hb1 hs1 _; have K1 := Lib.hid hk1; have B1 := Lib.hid hb1; clear hk1 hb1 hs1)
  | ((with_reducible refine atDst 1 ?_); refine wpList_bld rfl 27 _ rfl c HCB.out ?_)
  | ((with_reducible refine atStore 27 0 1 ?_); refine wpList_stBlk rfl 27 _ _ rfl w.heap.size c rfl rfl 27 _ K1.out (size_rx HC6.out) (by rw [HZL.out, HC6.out]) HC1.out B1.out (Nat.le_refl _) ?_; intro w2 hk2 hb2 hs2 _; have K2 := Lib.hid hk2; have B2 := Lib.hid hb2; clear hk2 hb2 hs2))
 refine bodyPost_ret (results_blk rfl _ _ w.heap.size 27 _ _ rfl K2.out Try.underlying27 rfl (size_rx HC6.out)) rfl ?_
 exact ⟨c, rfl, fun D => by rw [HC.out]; exact rx_leaf D _ _ _, B2.out⟩
set_option maxHeartbeats 2000000 in
set_option maxRecDepth 100000 in
theorem refBytes_any (s : Nat → Bool) (w : World) : Calls Try.prog 22 #[.agg (wds s).toArray] w fun e w' => ∃ ds, e = .returned (.agg ds.toArray) ∧ (∀ D, RxD D w' ds (bytesT s)) ∧ Below w.heap.size w w' := by
 obtain ⟨i0, hi0, hz0, hz1, hz2⟩ := inf_rx'
 obtain ⟨z, hz⟩ : ∃ z, z = rxc 0 zeroS (.slice none 0 0) := ⟨_, rfl⟩
 have HZL := Lib.hid (show z.length = 6 by rw [hz]; rfl)
 have HZ0 := Lib.hid (show i0.zero = some (.agg z.toArray) by rw [hz]; exact hz0)
 obtain ⟨c, hc⟩ : ∃ c, c = rxc 3 s (.slice none 0 0) := ⟨_, rfl⟩
 have HCB := Lib.hid (show Try.prog.built 27 [(0, .int .i64 3), (1, .agg (wds s).toArray)] = some c.toArray by rw [hc]; exact built01 3 s)
 have HC6 := Lib.hid (show c.length = 6 by rw [hc]; rfl)
 have HC1 := Lib.hid (show c.all (·.oneCell') = true by rw [hc]; rfl)
 have HC := Lib.hid hc
 have HBS := Lib.hid builtS
 obtain ⟨zs, hzs⟩ : ∃ zs, zs = zeroS := ⟨_, rfl⟩
 have HZS := Lib.hid hzs
 rw [← hzs] at HBS
 clear hz hz0 hz1 hz2 hc hzs
 cases hs : eqS s zs with
 | true =>
  have HEQ := Lib.hid hs
  have HF := Lib.hid (show bytesT s = noneT by unfold bytesT; rw [← HZS.out, hs]; rfl)
  clear hs
  go_enter Try.func22, Try.ntmps22
  go_wp2_with (first
   | ((with_reducible refine atDst 1 ?_); refine wpList_box rfl 24 _ rfl (wds s) rfl (Below.refl w.heap.size w) (Nat.le_refl _) ?_; intro w1 hk1 hb1 hs1 _; have K1 := Lib.hid hk1; have B1 := Lib.hid hb1; clear hk1 hb1 hs1)
   | ((with_reducible refine atDst 2 ?_); refine wpList_new rfl 27 rfl i0 _ z hi0 HZ0.out rfl B1.out B1.out.size ?_; intro w2 hk2 hb2 hs2 ho2; have L2 := Lib.hid hk2; have B2 := Lib.hid hb2; have K2 := Lib.hid (show Blk w2 w.heap.size 24 (wds s) from (ho2 _ K1.out.lt).trans K1.out); have G12 := Lib.hid K1.out.lt; clear hk2 hb2 hs2 ho2)
   | ((with_reducible refine atDst 3 ?_); refine wpList_ldArr rfl 24 _ rfl w.heap.size rfl 24 _ _ K2.out Try.underlying24 rfl (size_set s) ?_; (try simp only [Act.put, qA, qB, qC]))
   | ((with_reducible refine atDst 4 ?_); refine wpList_bld rfl 24 _ rfl (wds zs) HBS.out ?_; (try simp only [Act.put, qA, qB, qC]))
   | ((with_reducible refine atDst 5 ?_); refine wpList_eqSet_is rfl HEQ.out 24 22 (.tmp 3) (.tmp 4) 24 rfl guardSet Try.underlying24 Try.underlying22 sizeU64 rfl rfl ?_; (try simp only [Act.put, qA, qB, qC])))
  refine (refNone_any w2).mono ?_
  rintro e w3 ⟨ds, rfl, hds, hb3⟩
  have D6 := Lib.hid (hds (fun _ => False)).length
  have DA := Lib.hid hds
  have D1 := Lib.hid (show ds.all (·.oneCell') = true from List.all_eq_true.2 (hds (fun _ => False)).one)
  have L3 := Lib.hid (L2.out.below hb3 L2.out.lt)
  have B3 := Lib.hid (B2.out.trans (hb3.mono B2.out.size))
  clear hds hb3
  go_wp2_with ((with_reducible refine atStore 27 2 6 ?_); refine wpList_stBlk rfl 27 _ _ rfl w1.heap.size ds rfl rfl 27 _ L3.out (size_rx D6.out) (by rw [HZL.out, D6.out]) D1.out B3.out (Nat.le_of_lt G12.out) ?_; intro w4 hk4 hb4 hs4 ho4; have K4 := Lib.hid hk4; have B4 := Lib.hid hb4; have D4 := Lib.hid (fun D => ((DA.out (fun _ => False)).stay (w' := w4) fun k hk => absurd hk id).mono (D' := D) fun k hk => absurd hk id); clear hk4 hb4 hs4 ho4)
  refine bodyPost_ret (results_blk rfl _ _ w1.heap.size 27 _ _ rfl K4.out Try.underlying27 rfl (size_rx D6.out)) rfl ?_
  exact ⟨ds, rfl, by rw [HF.out]; exact D4.out, B4.out⟩
 | false =>
  have HEQ := Lib.hid hs
  have HF := Lib.hid (show bytesT s = .node 3 s [] by unfold bytesT; rw [← HZS.out, hs]; rfl)
  clear hs
  go_enter Try.func22, Try.ntmps22
  go_wp2_with (first
   | ((with_reducible refine atDst 1 ?_); refine wpList_box rfl 24 _ rfl (wds s) rfl (Below.refl w.heap.size w) (Nat.le_refl _) ?_; intro w1 hk1 hb1 hs1 _; have K1 := Lib.hid hk1; have B1 := Lib.hid hb1; clear hk1 hb1 hs1)
   | ((with_reducible refine atDst 2 ?_); refine wpList_new rfl 27 rfl i0 _ z hi0 HZ0.out rfl B1.out B1.out.size ?_; intro w2 hk2 hb2 hs2 ho2; have L2 := Lib.hid hk2; have B2 := Lib.hid hb2; have K2 := Lib.hid (show Blk w2 w.heap.size 24 (wds s) from (ho2 _ K1.out.lt).trans K1.out); have G12 := Lib.hid K1.out.lt; clear hk2 hb2 hs2 ho2)
   | ((with_reducible refine atDst 3 ?_); refine wpList_ldArr rfl 24 _ rfl w.heap.size rfl 24 _ _ K2.out Try.underlying24 rfl (size_set s) ?_; (try simp only [Act.put, qA, qB, qC]))
   | ((with_reducible refine atDst 4 ?_); refine wpList_bld rfl 24 _ rfl (wds zs) HBS.out ?_; (try simp only [Act.put, qA, qB, qC]))
   | ((with_reducible refine atDst 5 ?_); refine wpList_eqSet_is rfl HEQ.out 24 22 (.tmp 3) (.tmp 4) 24 rfl guardSet Try.underlying24 Try.underlying22 sizeU64 rfl rfl ?_; (try simp only [Act.put, qA, qB, qC]))
   | ((with_reducible refine atDst 7 ?_); refine wpList_ldArr rfl 24 _ rfl w.heap.size rfl 24 _ _ K2.out Try.underlying24 rfl (size_set s) ?_; (try simp only [Act.put, qA, qB, qC]))
   | ((with_reducible refine atDst 8 ?_); refine wpList_bld rfl 27 _ rfl c HCB.out ?_; (try simp only [Act.put, qA, qB, qC]))
   | ((with_reducible refine atStore 27 2 8 ?_); refine wpList_stBlk rfl 27 _ _ rfl w1.heap.size c rfl rfl 27 _ L2.out (size_rx HC6.out) (by rw [HZL.out, HC6.out]) HC1.out B2.out (Nat.le_of_lt G12.out) ?_; intro w4 hk4 hb4 hs4 ho4; have K4 := Lib.hid hk4; have B4 := Lib.hid hb4; clear hk4 hb4 hs4 ho4))
  refine bodyPost_ret (results_blk rfl _ _ w1.heap.size 27 _ _ rfl K4.out Try.underlying27 rfl (size_rx HC6.out)) rfl ?_
  exact ⟨c, rfl, fun D => by rw [HF.out, HC.out]; exact rx_leaf D _ _ _, B4.out⟩
end Go.Proofs.Ytopnpdobcagcgaa
namespace Go.Proofs.Ytopnpdobcagcgaa
open Go.RowKit
set_option linter.unusedSimpArgs false
set_option linter.unusedVariables false
theorem flatT_take (k : Int) (l : List T) (j : Nat) : (flatT k (l.take j)).length ≤ nodesL l := Nat.le_trans (flatT_len k _) (nodesL_take l j)
theorem RxD.split {D : Nat → Prop} {w : World} {cs : List Value} {t : T} (h : RxD D w cs t) : ∃ A cap, cs = rxc t.kind t.set (.slice A t.args.length cap) ∧ RowD D w (.slice A t.args.length cap) t.args := by
 cases t with
 | node k s l =>
  obtain ⟨v, rfl, hr⟩ := RxD.row h
  have hr' := hr
  obtain ⟨A, cap, f, rfl, _⟩ := hr
  exact ⟨A, cap, rfl, hr'⟩
def withoutT (k : Int) (l : List T) : List T := l.filter fun t => decide (t.kind ≠ k)
theorem withoutT_next (k : Int) (l : List T) (j : Nat) (t : T) (h : l[j]? = some t) : withoutT k (l.take (j + 1)) = withoutT k (l.take j) ++ if t.kind = k then [] else [t] := by
 obtain ⟨hi, rfl⟩ := List.getElem?_eq_some_iff.1 h
 unfold withoutT
 rw [List.take_succ_eq_append_getElem hi, List.filter_append]
 congr 1
 by_cases hk : l[j].kind = k
 ·rw [if_pos hk]; simp [hk]
 ·rw [if_neg hk]; simp [hk]
theorem withoutT_len (k : Int) (l : List T) : (withoutT k l).length ≤ l.length := List.length_filter_le _ _
theorem withoutT_nodes (k : Int) : ∀ l : List T, nodesL (withoutT k l) ≤ nodesL l
 | [] => Nat.le_refl _
 | t :: r => by
  have ih := withoutT_nodes k r
  unfold withoutT at *
  by_cases hk : t.kind = k
  ·rw [List.filter_cons_of_neg (by simp [hk])]
   simp only [nodesL]; omega
  ·rw [List.filter_cons_of_pos (by simp [hk])]
   simp only [nodesL]; omega
theorem flatT_nodes (k : Int) : ∀ l : List T, nodesL (flatT k l) ≤ nodesL l
 | [] => Nat.le_refl _
 | t :: r => by
  have ih := flatT_nodes k r
  have e : flatT k (t :: r) = (if t.kind = k then t.args else [t]) ++ flatT k r := by simp [flatT]
  rw [e, nodesL_append]
  cases t with
  | node k' s l =>
   by_cases hk : (T.node k' s l).kind = k
   ·rw [if_pos hk]
    simp only [nodesL, T.nodes, T.args]
    omega
   ·rw [if_neg hk]
    simp only [nodesL, T.nodes]
    omega
end Go.Proofs.Ytopnpdobcagcgaa
namespace Go.Proofs.Ytopnpdobcagcgaa
open Go.RowKit
set_option linter.unusedSimpArgs false
set_option linter.unusedVariables false
theorem OwnT.rowD {D : Nat → Prop} {base : Nat} {w : World} {v : Value} {l : List T} (h : OwnT D base w v l) : RowD (fun b => (D b ∨ base ≤ b) ∧ b < w.heap.size) w v l := by
 obtain ⟨v', he, hr⟩ := (h.rx 0 zeroS).row
 have : v' = v := by
  simp only [List.cons.injEq, true_and] at he
  have := List.append_cancel_left he
  simpa using this.symm
 rwa [this] at hr
def wrapT (k : Int) (n : T) : List T → T
 | [] => n
 | [t] => t
 | a :: b :: r => .node k zeroS (a :: b :: r)
theorem wrapT_many (k : Int) (n : T) (l : List T) (h : 2 ≤ l.length) : wrapT k n l = .node k zeroS l := by
 match l, h with
 | a :: b :: r, _ => rfl
def anyK (k : Int) (l : List T) : Bool := l.any fun t => decide (t.kind = k)
def catT (l : List T) : T := if anyK 1 (flatT 4 l) then noneT else wrapT 4 emptyT (withoutT 2 (flatT 4 l))
theorem wrapT_nodes (k : Int) (n : T) : ∀ l : List T, (wrapT k n l).nodes ≤ 1 + n.nodes + nodesL l
 | [] => by simp only [wrapT, nodesL]; omega
 | [t] => by simp only [wrapT, nodesL]; omega
 | a :: b :: r => by
  rw [wrapT_many k n _ (by simp)]
  simp only [T.nodes]
  omega
theorem catT_nodes (l : List T) : (catT l).nodes ≤ 2 + nodesL l := by
 unfold catT
 have h1 := wrapT_nodes 4 emptyT (withoutT 2 (flatT 4 l))
 have h2 := withoutT_nodes 2 (flatT 4 l)
 have h3 := flatT_nodes 4 l
 have h4 : emptyT.nodes = 1 := rfl
 have h5 : noneT.nodes = 1 := rfl
 split <;> omega
end Go.Proofs.Ytopnpdobcagcgaa
namespace Go.Proofs.Ytopnpdobcagcgaa
open Go.RowKit
set_option linter.unusedSimpArgs false
set_option linter.unusedVariables false
def nthT (l : List T) (i : Nat) : T := l.getD i noneT
theorem nthT_some {l : List T} {i : Nat} (h : i < l.length) : l[i]? = some (nthT l i) := by
 unfold nthT
 rw [List.getD_eq_getElem?_getD, List.getElem?_eq_getElem h]
 rfl
def ddU (l : List T) (i : Nat) : List T := (List.range i).filterMap fun j => if j = 0 ∨ cmpT (nthT l j) (nthT l (j - 1)) ≠ 0 then some (nthT l j) else none
theorem ddU_next (l : List T) (i : Nat) : ddU l (i + 1) = ddU l i ++ if i = 0 ∨ cmpT (nthT l i) (nthT l (i - 1)) ≠ 0 then [nthT l i] else [] := by
 unfold ddU
 rw [List.range_succ, List.filterMap_append]
 congr 1
 by_cases h : i = 0 ∨ cmpT (nthT l i) (nthT l (i - 1)) ≠ 0
 ·simp only [List.filterMap_cons, if_pos h, List.filterMap_nil]
 ·simp only [List.filterMap_cons, if_neg h, List.filterMap_nil]
theorem ddU_all (l : List T) : ∀ i, i ≤ l.length → (∀ j, 0 < j → j < i → cmpT (nthT l j) (nthT l (j - 1)) ≠ 0) → ddU l i = l.take i
 | 0, _, _ => by simp [ddU]
 | i + 1, hi, h => by
  have ih := ddU_all l i (by omega) fun j h0 hj => h j h0 (by omega)
  rw [ddU_next, ih, if_pos, List.take_succ_eq_append_getElem (by omega)]
  ·congr 2
   have := nthT_some (l := l) (i := i) (by omega)
   rw [List.getElem?_eq_getElem (by omega)] at this
   exact (Option.some.inj this).symm
  ·rcases Nat.eq_zero_or_pos i with h0 | h0
   ·exact .inl h0
   ·exact .inr (h i h0 (by omega))
def ThereT (w : World) (g n : Nat) : Prop := ∀ j, j < n → w.there g (j * 6) 6
theorem grown_setCells {w w' : World} {g : Nat} (h : w.grownBy w' (some g)) (o : Nat) (vs : List Value) : w.grownBy (w'.setCells g o vs) (some g) := by
 induction vs generalizing o w' with
 | nil => exact h
 | cons v r ih =>
  refine ih (w' := w'.setCell ⟨g, o, none⟩ v) ⟨h.os, h.tape, h.output, ?_, fun k hk hne => ?_⟩ (o + 1)
  ·have := h.size
   simpa [World.setCell] using this
  ·rw [← h.block k hk hne]
   exact Below.heap_setCell w' ⟨g, o, none⟩ v k fun e => hne (by rw [e])
theorem there_below {w w' : World} {B g o n : Nat} (h : w.there g o n) (hb : Below B w w') (hg : g < B) : w'.there g o n := fun j hj => by
 have h1 := h j hj
 have e := hb.block g hg
 refine ⟨?_, ?_⟩
 ·have : w'.cell? ⟨g, o + j, none⟩ = w.cell? ⟨g, o + j, none⟩ := hb.cell (p := ⟨g, o + j, none⟩) hg
  rw [this]
  exact h1.1
 ·have h2 := h1.2
  unfold World.frozen? at h2 ⊢
  simp only [e]
  exact h2
theorem ThereT.all {w : World} {g n : Nat} (h : ThereT w g n) (o m : Nat) (hm : o + m ≤ n * 6) : w.there g o m := fun j hj => by
 have hk : (o + j) / 6 < n := by omega
 have := h ((o + j) / 6) hk ((o + j) % 6) (Nat.mod_lt _ (by omega))
 rw [show (o + j) / 6 * 6 + (o + j) % 6 = o + j by omega] at this
 exact this
theorem grown_below {w w1 w2 : World} {g B : Nat} (h : w.grownBy w1 (some g)) (hb : Below B w1 w2) (hB : w1.heap.size ≤ B) : w.grownBy w2 (some g) :=
 ⟨hb.os.trans h.os, hb.tape.trans h.tape, hb.output.trans h.output, Nat.le_trans h.size hb.size, fun k hk hne => (hb.block k (by have := h.size; omega)).trans (h.block k hk hne)⟩
section
variable {w : World} {ops : Array Oper} {rest : List Oper} {o : Oper} {a : Act} {Q : Exit → Act → World → Prop}
theorem wpList_clearT (hgd : o.guard = none) (x : Operand) (ho : o.op = .call { callee := .builtin .clear, args := #[x], argTypes := #[25] }) (g off s c : Nat) (hx : a.eval x = .slice (some ⟨g, off, none⟩) s c) (hs : 0 < s) (ht : w.there g off (s * 6))
  (h : ∀ zs : List Value, zs.length = s * 6 → wpList Try.prog ops Q rest (a.put o.dst (.tuple #[])) (w.setCells g off zs)) : wpList Try.prog ops Q (o :: rest) a w := by
 obtain ⟨i, hi, hz, hsz, hby⟩ := inf_rx'
 obtain ⟨s', rfl⟩ : ∃ s', s = s' + 1 := ⟨s - 1, by omega⟩
 obtain ⟨zs, hzs⟩ : ∃ zs, zs = (Builtin.zeroCells (Value.agg (rxc 0 zeroS (.slice none 0 0)).toArray).cells (s' + 1)).toList := ⟨_, rfl⟩
 have hl : zs.length = (s' + 1) * 6 := by
  have hzc : (Value.agg (rxc 0 zeroS (.slice none 0 0)).toArray).cells.size = 6 := by simp [Value.cells, rxc, wds]
  rw [hzs, Array.length_toList, size_zeroCells, hzc]
 have h1 : ∀ v ∈ zs, v.oneCell' = true := fun v hv => by
  rw [hzs] at hv
  simp only [Builtin.zeroCells, Array.toList_map, List.mem_map] at hv
  obtain ⟨j, _, rfl⟩ := hv
  simp only [Value.cells, rxc, wds]
  match j % (#[Value.int .i64 0, .int .u64 (word zeroS 0 : Int), .int .u64 (word zeroS 1 : Int), .int .u64 (word zeroS 2 : Int), .int .u64 (word zeroS 3 : Int), .slice none 0 0] : Array Value).size, Nat.mod_lt j (show 0 < (#[Value.int .i64 0, .int .u64 (word zeroS 0 : Int), .int .u64 (word zeroS 1 : Int), .int .u64 (word zeroS 2 : Int), .int .u64 (word zeroS 3 : Int), .slice none 0 0] : Array Value).size by decide) with
  | 0, _ => rfl
  | 1, _ => rfl
  | 2, _ => rfl
  | 3, _ => rfl
  | 4, _ => rfl
  | 5, _ => rfl
 have hrun := run_storeCells_cells (P := Try.prog) g off zs 0 w (fun j hj => by simpa using (ht j (by omega)).1) (fun j hj => by simpa using (ht j (by omega)).2) h1
 rw [Nat.add_zero] at hrun
 refine wpList_plain hgd fun K hK => ?_
 unfold Oper.wp execOp
 have hc : (Builtin.clear_ #[25] o.type #[.slice (some ⟨g, off, none⟩) (s' + 1) c]).run Try.prog w = .ok (.tuple #[]) (w.setCells g off zs) := by
  rw [hzs] at hrun ⊢
  simp [Builtin.clear_, run_underlying Try.underlying25, zeroValue, typeInfo, hi, hz, hrun]
 simp only [ho, resolve, invoke, builtin, Sem.run_bind, Sem.run_pure, Result.andThen_ok, List.map_toArray, List.map_cons, List.map_nil, hx, hc]
 exact hK _ _ (h zs hl)
end
theorem atClear (x : Tmp) {P : Program} {w : World} {ops : Array Oper} {rest : List Oper} {t ty : TypeId} {p : String} {af : Array Edge} {g : Option (Tmp × Bool)} {a : Act} {Q : Exit → Act → World → Prop}
  (h : wpList P ops Q (⟨none, .call { callee := .builtin .clear, args := #[.tmp x], argTypes := #[t] }, ty, p, af, g⟩ :: rest) a w) : wpList P ops Q (⟨none, .call { callee := .builtin .clear, args := #[.tmp x], argTypes := #[t] }, ty, p, af, g⟩ :: rest) a w := h
theorem six_apart {j a n : Nat} {cs : List Value} (hc : cs.length = 6) (hn : n = 6) (h : j ≠ a) : j * 6 + cs.length ≤ a * 6 ∨ a * 6 + n ≤ j * 6 := by omega
theorem six_below {j a : Nat} {cs : List Value} (hc : cs.length = 6) (h : j < a) : j * 6 + cs.length ≤ a * 6 := by omega
theorem sub_next {m q : Nat} (h : q < m) : m - (q + 1) < m - q := by omega
theorem pred_add {k q r : Nat} (h : q = r + 1) : k + q - 1 = k + r := by omega
theorem below_n {a k q n : Nat} (h : a + 1 ≤ k + q) (h2 : k + q < n) : a < n := by omega
theorem sum_ne {k q : Nat} (h : 1 ≤ k) : k + q ≠ 0 := by omega
theorem back_one {k q j : Nat} (h : k + (q + 1) ≤ j + 1) : k + q ≤ j + 1 := by omega
theorem not_at {k q j a : Nat} (h : k + (q + 1) ≤ j + 1) (ha : a + 1 ≤ k + q) : j ≠ a := by omega
theorem lt_of_ne {j a : Nat} (h : j < a + 1) (hne : j ≠ a) : j < a := by omega
theorem last_one {j n : Nat} {t : T} {l : List T} (hl : n = l.length) {u : T} (h : (l ++ [u])[j]? = some t) (hne : j ≠ n) : j < l.length := by
 have h3 := (List.getElem?_eq_some_iff.1 h).1
 rw [List.length_append] at h3
 simp at h3
 omega
theorem OwnT.mid {D : Nat → Prop} {base : Nat} {w : World} {v : Value} {l : List T} (h : OwnT D base w v l) (hne : 0 < l.length) :
  ∃ (g cap : Nat) (f : Nat → List Value), v = .slice (some ⟨g, 0, none⟩) l.length cap ∧ base ≤ g ∧ g < w.heap.size ∧ l.length ≤ cap ∧ cap ≤ maxLen ∧ ThereT w g l.length ∧ (∀ i, i < l.length → w.rangeAt g (i * 6) (f i)) ∧
   ∀ i t, l[i]? = some t → RxD (fun k => D k ∧ k < w.heap.size ∧ k ≠ g) w (f i) t := by
 obtain ⟨cells, h1, h2, h3, h4⟩ := h
 rcases h3.2 with ⟨_, h0⟩ | ⟨g, cap, cur, rfl, hb, hg, hn, hm, hs, ht⟩
 ·omega
 have hlt : g < w.heap.size := (Array.getElem?_eq_some_iff.1 hg).1
 refine ⟨g, cap, fun i => cells.getD i [], rfl, hb, hlt, hn, hm, fun j hj i hi => ⟨?_, by simp [World.frozen?, hg]⟩, fun i hi j u hu => ?_, fun i t hti => ?_⟩
 ·have hji : j * 6 + i < cur.size := by omega
  rw [cell_of_row w g (j * 6 + i) cur _ (0, 0) hg, Array.getElem?_eq_getElem hji]
  rfl
 ·have hic : i < cells.length := by omega
  have hci : cells[i]? = some cells[i] := List.getElem?_eq_getElem hic
  have e0 : cells.getD i [] = cells[i] := by simp [List.getD, hci]
  have hu : (cells.getD i [])[j]? = some u := hu
  rw [e0] at hu
  have hj : j < 6 := by rw [← h2 cells[i] (List.getElem_mem hic)]; exact (List.getElem?_eq_some_iff.1 hu).1
  have e1 := flat6_get h2 hci j hj
  rw [hu, ← ht, List.getElem?_take, if_pos (by omega), Array.getElem?_toList] at e1
  rw [cell_of_row w g _ cur _ (0, 0) hg, e1]
 ·have hic : i < cells.length := by rw [h1]; exact (List.getElem?_eq_some_iff.1 hti).1
  have hci : cells[i]? = some cells[i] := List.getElem?_eq_getElem hic
  have e0 : cells.getD i [] = cells[i] := by simp [List.getD, hci]
  show RxD _ w (cells.getD i []) t
  rw [e0]
  exact (h4 i cells[i] t hci hti).mono fun k hk => ⟨hk.1, hk.2.1, fun e => hk.2.2 (by rw [e]; rfl)⟩
end Go.Proofs.Ytopnpdobcagcgaa
namespace Go.Proofs.Ytopnpdobcagcgaa
open Go.RowKit
set_option linter.unusedSimpArgs false
set_option linter.unusedVariables false
def canS (s : Nat → Bool) : Prop := ∀ b, 256 ≤ b → s b = false
mutual
def canT : T → Prop
 | .node _ s l => canS s ∧ canL l
def canL : List T → Prop
 | [] => True
 | t :: r => canT t ∧ canL r
end
def fitsT (p k : Int) : Bool := if p = 2 then decide (k = 5) else decide (p ≠ 1) && decide (p ≠ k)
def countT (k : Int) (s : Nat → Bool) (n : Nat) : Bool :=
 if k = 3 then !eqS s zeroS && decide (n = 0) else if k = 1 ∨ k = 2 then decide (n = 0) else if k = 4 ∨ k = 5 then decide (2 ≤ n) else decide (k = 6) && decide (n = 1)
def folT (a b : T) : Bool := decide (cmpT b a < 0) && !(decide (a.kind = 3) && decide (b.kind = 3))
def ascF : List T → Bool
 | a :: b :: r => folT b a && ascF (b :: r)
 | _ => true
mutual
def plainT : T → Bool
 | .node k s l => (decide (k = 3) || eqS s zeroS) && countT k s l.length && plainL k l && (decide (k ≠ 5) || ascF l)
def plainL (k : Int) : List T → Bool
 | [] => true
 | a :: r => fitsT a.kind k && plainT a && plainL k r
end
theorem canL_iff : ∀ {l : List T}, canL l ↔ ∀ t ∈ l, canT t
 | [] => by simp [canL]
 | t :: r => by simp [canL, @canL_iff r]
theorem plainL_iff {k : Int} : ∀ {l : List T}, plainL k l = true ↔ ∀ t ∈ l, fitsT t.kind k = true ∧ plainT t = true
 | [] => by simp [plainL]
 | t :: r => by simp [plainL, @plainL_iff k r]
def good (t : T) : Prop := canT t ∧ plainT t = true
theorem good_node {k : Int} {s : Nat → Bool} {l : List T} : good (.node k s l) ↔ canS s ∧ (∀ t ∈ l, good t) ∧ (k = 3 ∨ eqS s zeroS = true) ∧ countT k s l.length = true ∧ (∀ t ∈ l, fitsT t.kind k = true) ∧ (k = 5 → ascF l = true) := by
 unfold good
 simp only [canT, plainT, canL_iff, Bool.and_eq_true, Bool.or_eq_true, decide_eq_true_eq, plainL_iff]
 constructor
 ·rintro ⟨⟨h1, h2⟩, ⟨⟨h3, h4⟩, h5⟩, h6⟩
  exact ⟨h1, fun t ht => ⟨h2 t ht, (h5 t ht).2⟩, h3, h4, fun t ht => (h5 t ht).1, fun h => by rcases h6 with h6 | h6; exact absurd h h6; exact h6⟩
 ·rintro ⟨h1, h2, h3, h4, h5, h6⟩
  refine ⟨⟨h1, fun t ht => (h2 t ht).1⟩, ⟨⟨h3, h4⟩, fun t ht => ⟨h5 t ht, (h2 t ht).2⟩⟩, ?_⟩
  by_cases h : k = 5
  ·exact .inr (h6 h)
  ·exact .inl h
theorem can_zero : canS zeroS := fun _ _ => rfl
theorem can_eq {s s' : Nat → Bool} (h : canS s) (h' : canS s') (he : eqS s s' = true) : s = s' := by
 funext b
 by_cases hb : b < 256
 ·exact (eqS_iff s s').1 he b hb
 ·rw [h b (by omega), h' b (by omega)]
mutual
theorem cmpT_eq : ∀ t u : T, good t → good u → cmpT t u = 0 → t = u
 | .node k s l, .node k' s' l', hg, hg', h => by
  obtain ⟨c1, c2, c3, _⟩ := good_node.1 hg
  obtain ⟨d1, d2, d3, _⟩ := good_node.1 hg'
  rw [cmpT_lex] at h
  have hk : kindD k k' = 0 := by
   by_cases e : kindD k k' = 0
   ·exact e
   ·rw [lex_ne _ e] at h; exact absurd h e
  have hkk : k = k' := by
   unfold kindD at hk
   by_cases e : k = k'
   ·exact e
   ·rw [if_neg e] at hk
    split at hk <;> simp at hk
  subst hkk
  rw [hk, lex_zero] at h
  have hs : setD k s s' = 0 := by
   by_cases e : setD k s s' = 0
   ·exact e
   ·rw [lex_ne _ e] at h; exact absurd h e
  rw [hs, lex_zero] at h
  have hss : s = s' := by
   refine can_eq c1 d1 ?_
   by_cases h3 : k = 3
   ·unfold setD at hs
    rw [if_pos h3] at hs
    cases e : eqS s s' with
    | true => rfl
    | false =>
     rw [e, if_pos rfl] at hs
     split at hs <;> simp at hs
   ·have e1 := (eqS_iff _ _).1 (c3.resolve_left h3)
    have e2 := (eqS_iff _ _).1 (d3.resolve_left h3)
    exact (eqS_iff _ _).2 fun b hb => (e1 b hb).trans (e2 b hb).symm
  rw [hss, cmpL_eq l l' c2 d2 h]
theorem cmpL_eq : ∀ l m : List T, (∀ t ∈ l, good t) → (∀ t ∈ m, good t) → cmpL l m = 0 → l = m
 | [], [], _, _, _ => rfl
 | [], _ :: _, _, _, h => by simp [cmpL] at h
 | _ :: _, [], _, _, h => by simp [cmpL] at h
 | a :: r, b :: s, hl, hm, h => by
  simp only [cmpL] at h
  have h0 : cmpT a b = 0 := by
   by_cases e : cmpT a b = 0
   ·exact e
   ·rw [if_neg e] at h; exact h
  rw [if_pos h0] at h
  rw [cmpT_eq a b (hl a (by simp)) (hm b (by simp)) h0, cmpL_eq r s (fun t ht => hl t (by simp [ht])) (fun t ht => hm t (by simp [ht])) h]
end
/-! ### rising lists -/
def Asc (l : List T) : Prop := l.Pairwise fun a b => cmpT a b < 0
theorem asc_ext : ∀ {l m : List T}, Asc l → Asc m → (∀ x, x ∈ l ↔ x ∈ m) → l = m
 | [], [], _, _, _ => rfl
 | [], b :: s, _, _, h => absurd ((h b).2 (by simp)) (by simp)
 | a :: r, [], _, _, h => absurd ((h a).1 (by simp)) (by simp)
 | a :: r, b :: s, hl, hm, h => by
  have hl' := List.pairwise_cons.1 hl
  have hm' := List.pairwise_cons.1 hm
  have hab : a = b := by
   rcases List.mem_cons.1 ((h a).1 (by simp)) with e | e
   ·exact e
   ·rcases List.mem_cons.1 ((h b).2 (by simp)) with e2 | e2
    ·exact e2.symm
    ·have h1 := hm'.1 a e
     have h2 := hl'.1 b e2
     have := cmpT_flip a b
     omega
  subst hab
  have hir : ∀ (x : T), cmpT x x < 0 → False := fun x hx => by rw [cmpT_self] at hx; omega
  rw [asc_ext hl'.2 hm'.2 fun x => ⟨fun hx => by
   rcases List.mem_cons.1 ((h x).1 (by simp [hx])) with e | e
   ·subst e; exact (hir x (hl'.1 x hx)).elim
   ·exact e, fun hx => by
   rcases List.mem_cons.1 ((h x).2 (by simp [hx])) with e | e
   ·subst e; exact (hir x (hm'.1 x hx)).elim
   ·exact e⟩]
def insT (r : T) : List T → List T
 | [] => [r]
 | a :: l => if cmpT a r < 0 then a :: insT r l else if cmpT a r = 0 then a :: l else r :: a :: l
theorem insT_mem {r : T} (hr : good r) : ∀ {l : List T}, (∀ t ∈ l, good t) → ∀ x, x ∈ insT r l ↔ x = r ∨ x ∈ l
 | [], _, x => by simp [insT]
 | a :: l, hl, x => by
  have ih := insT_mem hr (l := l) (fun t ht => hl t (by simp [ht])) x
  simp only [insT]
  by_cases h1 : cmpT a r < 0
  ·rw [if_pos h1, List.mem_cons, ih, List.mem_cons]
   constructor
   ·rintro (h | h | h)
    ·exact .inr (.inl h)
    ·exact .inl h
    ·exact .inr (.inr h)
   ·rintro (h | h | h)
    ·exact .inr (.inl h)
    ·exact .inl h
    ·exact .inr (.inr h)
  ·rw [if_neg h1]
   by_cases h2 : cmpT a r = 0
   ·rw [if_pos h2]
    have := cmpT_eq a r (hl a (by simp)) hr h2
    subst this
    simp
   ·rw [if_neg h2]
    simp
theorem insT_asc {r : T} : ∀ {l : List T}, Asc l → Asc (insT r l) ∧ ∀ x ∈ insT r l, x = r ∨ x ∈ l
 | [], _ => ⟨by simp [insT, Asc], by simp [insT]⟩
 | a :: l, hl => by
  have hl' := List.pairwise_cons.1 hl
  obtain ⟨i1, i2⟩ := insT_asc (r := r) hl'.2
  simp only [insT]
  by_cases h1 : cmpT a r < 0
  ·rw [if_pos h1]
   refine ⟨List.pairwise_cons.2 ⟨fun x hx => ?_, i1⟩, fun x hx => ?_⟩
   ·rcases i2 x hx with e | e
    ·subst e; exact h1
    ·exact hl'.1 x e
   ·rcases List.mem_cons.1 hx with e | e
    ·exact .inr (by simp [e])
    ·rcases i2 x e with e | e
     ·exact .inl e
     ·exact .inr (by simp [e])
  ·rw [if_neg h1]
   by_cases h2 : cmpT a r = 0
   ·rw [if_pos h2]
    exact ⟨hl, fun x hx => .inr hx⟩
   ·rw [if_neg h2]
    have hra : cmpT r a < 0 := by have := cmpT_flip a r; omega
    refine ⟨List.pairwise_cons.2 ⟨fun x hx => ?_, hl⟩, fun x hx => ?_⟩
    ·rcases List.mem_cons.1 hx with e | e
     ·subst e; exact hra
     ·exact cmpT_trans hra (by have := hl'.1 x e; omega)
    ·rcases List.mem_cons.1 hx with e | e
     ·exact .inl e
     ·exact .inr e
def sortU (l : List T) : List T := l.foldl (fun acc t => insT t acc) []
theorem sortU_snoc (l : List T) (t : T) : sortU (l ++ [t]) = insT t (sortU l) := by simp [sortU, List.foldl_append]
theorem sortU_asc : ∀ l : List T, Asc (sortU l) := by
 intro l
 have : ∀ (m acc : List T), Asc acc → Asc (m.foldl (fun acc t => insT t acc) acc) := by
  intro m
  induction m with
  | nil => intro acc h; exact h
  | cons t r ih => intro acc h; exact ih _ (insT_asc h).1
 exact this l [] List.Pairwise.nil
theorem sortU_mem {l : List T} (hl : ∀ t ∈ l, good t) : ∀ x, x ∈ sortU l ↔ x ∈ l := by
 have : ∀ (m acc : List T), (∀ t ∈ m, good t) → (∀ t ∈ acc, good t) → ∀ x, x ∈ m.foldl (fun acc t => insT t acc) acc ↔ x ∈ m ∨ x ∈ acc := by
  intro m
  induction m with
  | nil => intro acc _ _ x; simp
  | cons t r ih =>
   intro acc hm ha x
   have ht := hm t (by simp)
   have hmem := insT_mem ht ha
   rw [List.foldl_cons, ih _ (fun u hu => hm u (by simp [hu])) (fun u hu => by
    rcases (hmem u).1 hu with e | e
    ·rw [e]; exact ht
    ·exact ha u e) x, hmem x, List.mem_cons]
   constructor
   ·rintro (h | h | h)
    ·exact .inl (.inr h)
    ·exact .inl (.inl h)
    ·exact .inr h
   ·rintro ((h | h) | h)
    ·exact .inr (.inl h)
    ·exact .inl h
    ·exact .inr (.inr h)
 intro x
 rw [sortU, this l [] hl (by simp) x]
 simp
theorem nthT_mem {l : List T} {i : Nat} (h : i < l.length) : nthT l i ∈ l := List.mem_of_getElem? (nthT_some h)
theorem ddU_facts (l : List T) (hs : l.Pairwise fun a b => 0 ≤ cmpT b a) (hg : ∀ t ∈ l, good t) : ∀ i, i ≤ l.length →
  Asc (ddU l i) ∧ (∀ x, x ∈ ddU l i ↔ ∃ j, j < i ∧ x = nthT l j)
 | 0, _ => ⟨by simp [ddU, Asc], fun x => by simp [ddU]⟩
 | i + 1, hi => by
  obtain ⟨ih1, ih2⟩ := ddU_facts l hs hg i (by omega)
  have hle : ∀ j, j < i → cmpT (nthT l j) (nthT l i) ≤ 0 := fun j hj => by
   have h1 := List.pairwise_iff_getElem.1 hs j i (by omega) (by omega) hj
   have e1 := nthT_some (l := l) (i := j) (by omega)
   have e2 := nthT_some (l := l) (i := i) (by omega)
   rw [List.getElem?_eq_getElem (by omega)] at e1 e2
   rw [Option.some.inj e1, Option.some.inj e2] at h1
   have := cmpT_flip (nthT l j) (nthT l i)
   omega
  rw [ddU_next]
  by_cases hc : i = 0 ∨ cmpT (nthT l i) (nthT l (i - 1)) ≠ 0
  ·rw [if_pos hc]
   refine ⟨List.pairwise_append.2 ⟨ih1, List.pairwise_singleton _ _, fun x hx y hy => ?_⟩, fun x => ?_⟩
   ·obtain rfl := List.mem_singleton.1 hy
    obtain ⟨j, hj, rfl⟩ := (ih2 x).1 hx
    have h0 : i ≠ 0 := by omega
    have h1 := hc.resolve_left h0
    have h2 := hle (i - 1) (by omega)
    have h3 := cmpT_flip (nthT l (i - 1)) (nthT l i)
    have h4 : cmpT (nthT l (i - 1)) (nthT l i) < 0 := by omega
    by_cases hj2 : j = i - 1
    ·rw [hj2]; exact h4
    ·have h5 : cmpT (nthT l j) (nthT l (i - 1)) ≤ 0 := by
      have h1 := List.pairwise_iff_getElem.1 hs j (i - 1) (by omega) (by omega) (by omega)
      have e1 := nthT_some (l := l) (i := j) (by omega)
      have e2 := nthT_some (l := l) (i := i - 1) (by omega)
      rw [List.getElem?_eq_getElem (by omega)] at e1 e2
      rw [Option.some.inj e1, Option.some.inj e2] at h1
      have := cmpT_flip (nthT l j) (nthT l (i - 1))
      omega
     exact cmpT_trans' h5 h4
   ·rw [List.mem_append, List.mem_singleton, ih2]
    constructor
    ·rintro (⟨j, hj, h⟩ | h)
     ·exact ⟨j, by omega, h⟩
     ·exact ⟨i, by omega, h⟩
    ·rintro ⟨j, hj, h⟩
     by_cases hji : j = i
     ·rw [hji] at h; exact .inr h
     ·exact .inl ⟨j, by omega, h⟩
  ·rw [if_neg hc, List.append_nil]
   refine ⟨ih1, fun x => ?_⟩
   rw [ih2]
   constructor
   ·rintro ⟨j, hj, h⟩; exact ⟨j, by omega, h⟩
   ·rintro ⟨j, hj, h⟩
    by_cases hji : j = i
    ·have h0 : i ≠ 0 := fun e => hc (.inl e)
     have h1 : cmpT (nthT l i) (nthT l (i - 1)) = 0 := by
      by_cases e : cmpT (nthT l i) (nthT l (i - 1)) = 0
      ·exact e
      ·exact absurd (.inr e) hc
     have := cmpT_eq _ _ (hg _ (nthT_mem (by omega))) (hg _ (nthT_mem (by omega))) h1
     exact ⟨i - 1, by omega, by rw [h, hji, this]⟩
    ·exact ⟨j, by omega, h⟩
theorem ddU_sort {l m : List T} (hp : l.Perm m) (hs : l.Pairwise fun a b => 0 ≤ cmpT b a) (hg : ∀ t ∈ m, good t) : ddU l l.length = sortU m := by
 obtain ⟨h1, h2⟩ := ddU_facts l hs (fun t ht => hg t (hp.mem_iff.1 ht)) l.length (Nat.le_refl _)
 refine asc_ext h1 (sortU_asc m) fun x => ?_
 rw [h2, sortU_mem hg, ← hp.mem_iff]
 constructor
 ·rintro ⟨j, hj, rfl⟩; exact nthT_mem hj
 ·intro hx
  obtain ⟨j, hj⟩ := List.getElem?_of_mem hx
  have hlt := (List.getElem?_eq_some_iff.1 hj).1
  refine ⟨j, hlt, ?_⟩
  have := nthT_some hlt
  rw [hj] at this
  exact Option.some.inj this
end Go.Proofs.Ytopnpdobcagcgaa
namespace Go.Proofs.Ytopnpdobcagcgaa
open Go.RowKit
set_option linter.unusedSimpArgs false
set_option linter.unusedVariables false
def orT (E : List T) : Nat → Bool := fun b => E.any fun t => decide (t.kind = 3) && t.set b
theorem orT_next (E : List T) (j : Nat) (t : T) (h : E[j]? = some t) : orT (E.take (j + 1)) = fun b => orT (E.take j) b || (decide (t.kind = 3) && t.set b) := by
 obtain ⟨hi, rfl⟩ := List.getElem?_eq_some_iff.1 h
 funext b
 unfold orT
 rw [List.take_succ_eq_append_getElem hi, List.any_append]
 simp
def itemsT (E : List T) : List T := withoutT 3 E ++ if eqS (orT E) zeroS then [] else [.node 3 (orT E) []]
def altT (l : List T) : T := wrapT 5 noneT (sortU (itemsT (withoutT 1 (flatT 5 l))))
theorem good_flat {k : Int} {l : List T} (h : ∀ t ∈ l, good t) : ∀ t ∈ flatT k l, good t := fun t ht => by
 unfold flatT at ht
 obtain ⟨u, hu, hu2⟩ := List.mem_flatMap.1 ht
 by_cases hk : u.kind = k
 ·rw [if_pos hk] at hu2
  cases u with
  | node k' s m => exact (good_node.1 (h _ hu)).2.1 t hu2
 ·rw [if_neg hk] at hu2
  obtain rfl := List.mem_singleton.1 hu2
  exact h t hu
theorem good_without {k : Int} {l : List T} (h : ∀ t ∈ l, good t) : ∀ t ∈ withoutT k l, good t := fun t ht => h t (List.mem_filter.1 ht).1
theorem can_or {E : List T} (h : ∀ t ∈ E, good t) : canS (orT E) := fun b hb => by
 unfold orT
 rw [List.any_eq_false]
 intro t ht
 cases t with
 | node k s l =>
  have := (good_node.1 (h _ ht)).1 b hb
  simp [T.set, this]
theorem good_set {s : Nat → Bool} (hc : canS s) (hs : eqS s zeroS = false) : good (.node 3 s []) :=
 good_node.2 ⟨hc, by simp, .inl rfl, by simp [countT, hs], by simp, by simp⟩
theorem good_items {E : List T} (h : ∀ t ∈ E, good t) : ∀ t ∈ itemsT E, good t := fun t ht => by
 unfold itemsT at ht
 rcases List.mem_append.1 ht with ht | ht
 ·exact good_without h t ht
 ·cases hs : eqS (orT E) zeroS with
  | true => rw [hs] at ht; simp at ht
  | false =>
   rw [hs] at ht
   obtain rfl : t = .node 3 (orT E) [] := by simpa using ht
   exact good_set (can_or h) hs
theorem insT_nodes (r : T) : ∀ l : List T, nodesL (insT r l) ≤ r.nodes + nodesL l
 | [] => by simp [insT, nodesL]
 | a :: l => by
  have ih := insT_nodes r l
  simp only [insT]
  by_cases h1 : cmpT a r < 0
  ·rw [if_pos h1]; simp only [nodesL]; omega
  ·rw [if_neg h1]
   by_cases h2 : cmpT a r = 0
   ·rw [if_pos h2]; omega
   ·rw [if_neg h2]; simp only [nodesL]; omega
theorem sortU_nodes (l : List T) : nodesL (sortU l) ≤ nodesL l := by
 have : ∀ (m acc : List T), nodesL (m.foldl (fun acc t => insT t acc) acc) ≤ nodesL m + nodesL acc := by
  intro m
  induction m with
  | nil => intro acc; simp [nodesL]
  | cons t r ih =>
   intro acc
   have h1 := ih (insT t acc)
   have h2 := insT_nodes t acc
   rw [List.foldl_cons]
   simp only [nodesL]
   omega
 have := this l []
 simp only [nodesL] at this
 exact this
theorem itemsT_nodes (E : List T) : nodesL (itemsT E) ≤ nodesL E + 1 := by
 unfold itemsT
 have h1 := withoutT_nodes 3 E
 rw [nodesL_append]
 split
 ·simp only [nodesL]; omega
 ·simp only [nodesL, T.nodes]; omega
theorem altT_nodes (l : List T) : (altT l).nodes ≤ 3 + nodesL l := by
 unfold altT
 have h1 := wrapT_nodes 5 noneT (sortU (itemsT (withoutT 1 (flatT 5 l))))
 have h2 := sortU_nodes (itemsT (withoutT 1 (flatT 5 l)))
 have h3 := itemsT_nodes (withoutT 1 (flatT 5 l))
 have h4 := withoutT_nodes 1 (flatT 5 l)
 have h5 := flatT_nodes 5 l
 have h6 : noneT.nodes = 1 := rfl
 omega
theorem OwnT.keepX {D : Nat → Prop} {base : Nat} {w w' : World} {v : Value} {l : List T} (h : OwnT D base w v l) (hs : w.heap.size ≤ w'.heap.size) (hb : ∀ k, k < w.heap.size → (D k ∨ base ≤ k) → w'.heap[k]? = w.heap[k]?) : OwnT D base w' v l := by
 obtain ⟨cells, h1, h2, h3, h4⟩ := h
 refine ⟨cells, h1, h2, own6_stay h3 fun j hj => hb j (own6_lt h3 j hj).1 (.inr (own6_lt h3 j hj).2), fun i c t hc ht => ?_⟩
 exact ((h4 i c t hc ht).stay fun k hk => hb k hk.2.1 (.inl hk.1)).mono fun k hk => ⟨hk.1, Nat.lt_of_lt_of_le hk.2.1 hs, hk.2.2⟩
theorem grown_own {w w1 w2 : World} {g : Nat} {row : Option Nat} (h : w.grownBy w1 (some g)) (hb : w1.grownBy w2 row) (hr : ∀ q, row = some q → w.heap.size ≤ q) : w.grownBy w2 (some g) :=
 ⟨hb.os.trans h.os, hb.tape.trans h.tape, hb.output.trans h.output, Nat.le_trans h.size hb.size, fun k hk hne => (hb.block k (by have := h.size; omega) (fun e => by have := hr k e.symm; omega)).trans (h.block k hk hne)⟩
theorem grown_at {w w1 w2 w0 : World} {g B : Nat} (h : w.grownBy w1 (some g)) (b1 : Below B w0 w1) (b2 : Below B w0 w2) (hs : w1.heap.size ≤ w2.heap.size) (ho : ∀ k, k ≠ g → w2.heap[k]? = w1.heap[k]?) : w.grownBy w2 (some g) :=
 ⟨b2.os.trans (b1.os.symm.trans h.os), b2.tape.trans (b1.tape.symm.trans h.tape), b2.output.trans (b1.output.symm.trans h.output), Nat.le_trans h.size hs, fun k hk hne => (ho k fun e => hne (by rw [e])).trans (h.block k hk hne)⟩
theorem set_range6 {w : World} {g : Nat} {ty : TypeId} {t : T} {A : Option Addr} {n c : Nat} {cs : List Value} (hc : cs = rxc t.kind t.set (.slice A n c)) (h : Blk w g ty cs) : w.rangeAt g 1 (wds t.set) := set_range' hc h
end Go.Proofs.Ytopnpdobcagcgaa
