/-
  Texts of this proof, put together: RxH, RxE, RxI. No statement is proved here.
-/
import Derived.Test.YtopnpdobcagcgaaGreatMT
import Derived.Shelf.SlSortCmp.WholeK
import Derived.Shelf.SlSortCmp.NoneTotal
import Derived.Lib.OwnBridge
import Derived.Test.YtopnpdobcagcgaaGreatMD
namespace Go.Proofs.YtopnpdobcagcgaaGreat
open Go.RowKit
set_option linter.unusedSimpArgs false
set_option linter.unusedVariables false
section
variable {α : Type} [Inhabited α] (enc : α → List Value) (hk : ∀ x, (enc x).length = 6)
include hk
theorem flatK_list (d : Array α) : (Sort.flatK enc 6 d).toList = (d.toList.map enc).flatten := by
 have h6 : ∀ c ∈ d.toList.map enc, c.length = 6 := fun c hc => by
  obtain ⟨x, _, rfl⟩ := List.mem_map.1 hc
  exact hk x
 have hl := flat6_len h6
 apply List.ext_getElem?
 intro t
 by_cases ht : t < d.size * 6
 ·have hq : t / 6 < d.size := by omega
  have hg := flat6_get (cs := d.toList.map enc) h6 (i := t / 6) (c := enc d[t / 6]) (by simp [hq]) (t % 6) (Nat.mod_lt _ (by omega))
  rw [show t / 6 * 6 + t % 6 = t by omega] at hg
  rw [hg]
  have h2 : t % 6 < (enc d[t / 6]).length := by rw [hk]; exact Nat.mod_lt _ (by omega)
  rw [List.getElem?_eq_getElem h2]
  simp only [Sort.flatK, Array.toList_map, List.getElem?_map, Array.toList_range, List.getElem?_range ht, Option.map_some]
  rw [getElem!_pos d (t / 6) hq, getElem!_pos (enc d[t / 6]) (t % 6) h2]
 ·have h1 : (Sort.flatK enc 6 d).toList.length = d.size * 6 := by simp [Sort.flatK]
  rw [List.getElem?_eq_none (by omega), List.getElem?_eq_none (by rw [hl]; simp; omega)]
end
theorem put_take (F cur : Array Value) (h : F.size ≤ cur.size) : (Sort.putCells id 0 F cur).toList.take F.size = F.toList := by
 apply List.ext_getElem?
 intro i
 by_cases hi : i < F.size
 ·rw [List.getElem?_take, if_pos hi]
  simp only [Sort.putCells, Array.getElem?_toList, Array.getElem?_mapIdx]
  have hic : i < cur.size := by omega
  rw [Array.getElem?_eq_getElem hic, Array.getElem?_eq_getElem hi]
  simp only [Option.map_some, Nat.zero_le, true_and, Nat.zero_add, hi, if_true, id, Nat.sub_zero]
  rw [getElem!_pos F i hi]
 ·rw [List.getElem?_eq_none (by simp; omega), List.getElem?_eq_none (by simp; omega)]
section
variable {α : Type} [Inhabited α] (enc : α → List Value) (w : World) (blk m : Nat) (d : Array α) (os : Array Obj)
theorem sw_block (j : Nat) (hj : j < w.heap.size) (hne : j ≠ blk) : (sortWorldK enc 6 w blk 0 m d os).heap[j]? = w.heap[j]? := by
 show (((Sort.putRowK enc 6 (Sort.ahead w m) blk 0 d)).heap ++ os)[j]? = _
 rw [Array.getElem?_append_left (by simpa [Sort.putRowK, Sort.putRow, Sort.mapBlock, Sort.ahead] using hj)]
 simp only [Sort.putRowK, Sort.putRow, Sort.mapBlock, Sort.ahead, Array.getElem?_modify]
 rw [if_neg (fun h => hne h.symm)]
theorem sw_row {cur : Array Value} {e : TypeId} (h : w.heap[blk]? = some (.cells cur e (0, 0))) : (sortWorldK enc 6 w blk 0 m d os).heap[blk]? = some (.cells (Sort.putCells id 0 (Sort.flatK enc 6 d) cur) e (0, 0)) := by
 have hlt : blk < w.heap.size := (Array.getElem?_eq_some_iff.1 h).1
 show (((Sort.putRowK enc 6 (Sort.ahead w m) blk 0 d)).heap ++ os)[blk]? = _
 rw [Array.getElem?_append_left (by simpa [Sort.putRowK, Sort.putRow, Sort.mapBlock, Sort.ahead] using hlt)]
 simp only [Sort.putRowK, Sort.putRow, Sort.mapBlock, Sort.ahead, Array.getElem?_modify, if_true, h, Option.map_some, Sort.onCells]
theorem sw_size : w.heap.size ≤ (sortWorldK enc 6 w blk 0 m d os).heap.size := size_sortWorldK_c enc 6 w blk 0 m d os
theorem sw_grown : w.grownBy (sortWorldK enc 6 w blk 0 m d os) (some blk) := ⟨rfl, rfl, rfl, sw_size enc w blk m d os, fun k hk hne => sw_block enc w blk m d os k hk (fun h => hne (by rw [h]))⟩
end
theorem swoT {α : Type} (f : α → T) : Sort.SWO (ltOf fun x y => cmpT (f x) (f y)) where
 irrefl p := by simp only [ltOf, cmpT_self]; decide
 trans p q r h k := by
  simp only [ltOf, decide_eq_true_eq] at *
  exact cmpT_trans h (by omega)
 ntrans p q r h k := by
  simp only [ltOf, decide_eq_false_iff_not] at *
  have h1 := cmpT_flip (f p) (f q)
  have h2 := cmpT_flip (f q) (f r)
  have h3 := cmpT_flip (f p) (f r)
  have := cmpT_chain (f r) (f q) (f p) (by omega) (by omega)
  omega
theorem size_of_rx : ∀ w, (Go.sizeOf 29).run Tryz.prog w = .ok 6 w := by
 intro w
 have h : (Tryz.prog.info? 29).map (·.size) = some 6 := by kernel_rfl
 cases hi : Tryz.prog.info? 29 with
 | none => rw [hi] at h; cases h
 | some i =>
  rw [hi] at h
  have h' : i.size = 6 := by simpa using h
  simp [Go.sizeOf, typeInfo, hi, h']
theorem isAgg_rx : ∀ w, (isAgg 29).run Tryz.prog w = .ok true w := Tryz.isAgg29
theorem sortT_any {D : Nat → Prop} (base : Nat) (v : Value) (l : List T) (w : World) (h : OwnT D base w v l) (hl : l.length ≤ 1099511627776) (hM : ∀ t ∈ l, t.nodes ≤ 1099511627776) :
  Calls Tryz.prog 89 #[v, cmpV] w fun e w' =>
   e = .returned (.tuple #[]) ∧ ∃ l', l'.Perm l ∧ l'.Pairwise (fun a b => 0 ≤ cmpT b a) ∧ OwnT D base w' v l' ∧ w.grownBy w' v.ownBlock := by
 obtain ⟨cells, h1, h2, h3, h4⟩ := h
 have h3' := h3
 rcases h3.2 with ⟨rfl, h0⟩ | ⟨g, cap, cur, rfl, hb, hg, hn, hm, hs, ht⟩
 ·refine (AnyF.slices_SortFunc_none Tryz.sortT none 0 cmpV w).mono ?_
  rintro e w' ⟨rfl, rfl⟩
  obtain rfl : l = [] := List.eq_nil_of_length_eq_zero h0
  exact ⟨rfl, [], List.Perm.refl _, List.Pairwise.nil, ⟨cells, h1, h2, h3', h4⟩, World.grownBy.refl _ _⟩
 ·have hlt : g < w.heap.size := (Array.getElem?_eq_some_iff.1 hg).1
  rcases Nat.eq_zero_or_pos l.length with h0 | hpos
  ·obtain rfl : l = [] := List.eq_nil_of_length_eq_zero h0
   refine (AnyF.slices_SortFunc_none Tryz.sortT (some ⟨g, 0, none⟩) cap cmpV w).mono ?_
   rintro e w' ⟨rfl, rfl⟩
   exact ⟨rfl, [], List.Perm.refl _, List.Pairwise.nil, ⟨cells, h1, h2, h3', h4⟩, World.grownBy.refl _ _⟩
  let Pr : List Value × T → Prop := fun p => RxD (fun k => D k ∧ k < w.heap.size ∧ some k ≠ (Value.slice (some ⟨g, 0, none⟩) l.length cap).ownBlock) w p.1 p.2 ∧ p.2.nodes ≤ 1099511627776
  have hel : ∀ i (hi : i < l.length), Pr (cells[i]'(by omega), l[i]) := fun i hi => ⟨h4 i _ _ (List.getElem?_eq_getElem _) (List.getElem?_eq_getElem _), hM _ (List.getElem_mem _)⟩
  let xs : List {p // Pr p} := (List.finRange l.length).map fun i => ⟨(cells[i.1]'(by omega), l[i.1]), hel i.1 i.2⟩
  have hxl : xs.length = l.length := by simp [xs]
  have hxc : xs.map (fun x => x.1.1) = cells := by
   apply List.ext_getElem
   ·simp [xs, h1]
   ·intro i a b
    simp [xs]
  have hxt : xs.map (fun x => x.1.2) = l := by
   apply List.ext_getElem
   ·simp [xs]
   ·intro i a b
    simp [xs]
  haveI : Inhabited {p // Pr p} := ⟨⟨_, hel 0 hpos⟩⟩
  have hk : ∀ x : {p // Pr p}, (x.1.1).length = 6 := fun x => x.2.1.length
  have hfl : (Sort.flatK (fun x : {p // Pr p} => x.1.1) 6 xs.toArray).toList = cells.flatten := by
   rw [flatK_list _ hk, List.toList_toArray, hxc]
  have hH : Sort.HoldsK (fun x : {p // Pr p} => x.1.1) 6 w g 0 xs.toArray := by
   intro j hj
   have hj' : j < l.length * 6 := by simpa [Sort.flatK, hxl] using hj
   refine ⟨?_, by simp [World.frozen?, hg]⟩
   have e1 : (cur.toList.take (l.length * 6))[j]? = (Sort.flatK (fun x : {p // Pr p} => x.1.1) 6 xs.toArray).toList[j]? := by rw [ht, hfl]
   rw [List.getElem?_take, if_pos hj', Array.getElem?_toList, Array.getElem?_toList, Array.getElem?_eq_getElem hj] at e1
   rw [cell_of_row w g (0 + j) cur _ (0, 0) hg, Nat.zero_add, e1, getElem!_pos _ j hj]
   rfl
  have eg : ∀ args w, (callFunc 90 args).run Tryz.prog w = .ok (.enter 90 args) w := enters_of Tryz.func90 (by kernel_rfl) rfl
  have hcmp : CmpLays Tryz.prog 90 #[] (fun x : {p // Pr p} => x.1.1) 6 (fun x y => cmpT x.1.2 y.1.2) g 0 xs.toArray.size w := by
   intro m os dk hsz x y
   have key : ∀ x : {p // Pr p}, RxV (sortWorldK (fun x : {p // Pr p} => x.1.1) 6 w g 0 m dk os).heap.size (sortWorldK (fun x : {p // Pr p} => x.1.1) 6 w g 0 m dk os) x.1.1 x.1.2 := fun x =>
    RxD.mono (x.2.1.stay fun k hk => sw_block _ w g m dk os k hk.2.1 (fun h => hk.2.2 (by rw [h]; rfl))) fun k hk => Nat.lt_of_lt_of_le hk.2.1 (sw_size _ w g m dk os)
   exact rxCompare_gr _ x.1.2 y.1.2 (Nat.le_refl _) x.2.2 x.1.1 y.1.1 _ (key x) (key y)
  have hcon := AnyQ.slices_SortFunc Tryz.sortT 6 isAgg_rx size_of_rx (fun x : {p // Pr p} => x.1.1) hk (fun x => x.2.1.one) (fun x y => cmpT x.1.2 y.1.2) (swoT fun x : {p // Pr p} => x.1.2) 90 #[] g 0 cap xs.toArray w eg hcmp hH hlt (by simp [hxl]; omega)
  have hsz : xs.toArray.size = l.length := by simp [hxl]
  rw [hsz] at hcon
  refine Calls.mono hcon fun e w' hp => ?_
  obtain ⟨he, d', n, os, hperm, hsort, rfl⟩ := hp
  have hs' : d'.size = l.length := by rw [hperm.1, hsz]
  have hpm : d'.toList.Perm xs := by
   have := hperm.2.2
   rw [show d'.extract 0 l.length = d' by rw [← hs']; simp, show xs.toArray.extract 0 l.length = xs.toArray by rw [← hsz]; simp] at this
   simpa using this
  have hl' : (d'.toList.map fun x => x.1.2).length = l.length := by simp [hs']
  refine ⟨he, d'.toList.map (fun x => x.1.2), ?_, ?_, ?_, ?_⟩
  ·have := hpm.map (fun x => x.1.2)
   rwa [hxt] at this
  ·rw [List.pairwise_map, List.pairwise_iff_getElem]
   intro i j hi hj hij
   have hi' : i < d'.size := by simpa using hi
   have hj' : j < d'.size := by simpa using hj
   have := hsort i j (Nat.zero_le _) hij (by omega)
   rw [getElem!_pos d' j hj', getElem!_pos d' i hi'] at this
   simp only [ltOf, decide_eq_false_iff_not] at this
   simpa using Int.not_lt.1 this
  ·have hF : (Sort.flatK (fun x : {p // Pr p} => x.1.1) 6 d').toList = (d'.toList.map fun x => x.1.1).flatten := flatK_list _ hk d'
   have hFs : (Sort.flatK (fun x : {p // Pr p} => x.1.1) 6 d').size = l.length * 6 := by simp [Sort.flatK, hs']
   refine ⟨d'.toList.map fun x => x.1.1, by simp, fun c hc => ?_, ?_, fun i c t hc htt => ?_⟩
   ·obtain ⟨x, _, rfl⟩ := List.mem_map.1 hc
    exact hk x
   ·refine ⟨?_, .inr ⟨g, cap, _, by rw [hl'], hb, sw_row _ w g n d' os hg, by rw [hl']; exact hn, hm, by simp [Sort.putCells, hs], ?_⟩⟩
    ·rw [← hF, hl']
     simpa using hFs
    ·rw [hl', ← hFs, put_take _ _ (by rw [hFs, hs]; exact Nat.mul_le_mul_right 6 hn), hF]
   ·rw [List.getElem?_map] at hc htt
    obtain ⟨x, hx, rfl⟩ := Option.map_eq_some_iff.1 hc
    rw [hx] at htt
    obtain rfl : x.1.2 = t := by simpa using htt
    exact (x.2.1.stay fun k hk => sw_block _ w g n d' os k hk.2.1 (fun h => hk.2.2 (by rw [h]; rfl))).mono fun k hk => ⟨hk.1, Nat.lt_of_lt_of_le hk.2.1 (sw_size _ w g n d' os), hk.2.2⟩
  ·exact sw_grown _ w g n d' os
set_option maxHeartbeats 2000000 in
set_option maxRecDepth 100000 in
theorem rxNone_any (w : World) : Calls Tryz.prog 65 #[] w fun e w' => ∃ ds, e = .returned (.agg ds.toArray) ∧ (∀ D, RxD D w' ds noneT) ∧ Below w.heap.size w w' := by
 obtain ⟨i0, hi0, hz0, hz1, hz2⟩ := inf_rx'
 obtain ⟨z, hz⟩ : ∃ z, z = rxc 0 zeroS (.slice none 0 0) := ⟨_, rfl⟩
 have HZL := qH (show z.length = 6 by rw [hz]; rfl)
 have HZ0 := qH (show i0.zero = some (.agg z.toArray) by rw [hz]; exact hz0)
 obtain ⟨c, hc⟩ : ∃ c, c = rxc 1 zeroS (.slice none 0 0) := ⟨_, rfl⟩
 have HCB := qH (show Tryz.prog.built 29 [(0, .int .i64 1)] = some c.toArray by rw [hc]; exact built0 1)
 have HC6 := qH (show c.length = 6 by rw [hc]; rfl)
 have HC1 := qH (show c.all (·.oneCell') = true by rw [hc]; rfl)
 have HC := qH hc
 clear hz hz0 hz1 hz2 hc
 go_enter Tryz.func65, Tryz.ntmps65
 go_wp2_with (first
  | ((with_reducible refine atDst 0 ?_); refine wpList_new rfl 29 rfl i0 _ z hi0 HZ0.out rfl (Below.refl w.heap.size w) (Nat.le_refl _) ?_; intro w1 hk1 hb1 hs1 _; have K1 := qH hk1; have B1 := qH hb1; clear hk1 hb1 hs1)
  | ((with_reducible refine atDst 1 ?_); refine wpList_bld rfl 29 _ rfl c HCB.out ?_)
  | ((with_reducible refine atStore 29 0 1 ?_); refine wpList_stBlk rfl 29 _ _ rfl w.heap.size c rfl rfl 29 _ K1.out (size_rx HC6.out) (by rw [HZL.out, HC6.out]) HC1.out B1.out (Nat.le_refl _) ?_; intro w2 hk2 hb2 hs2 _; have K2 := qH hk2; have B2 := qH hb2; clear hk2 hb2 hs2))
 refine bodyPost_ret (results_blk rfl _ _ w.heap.size 29 _ _ rfl K2.out Tryz.underlying29 rfl (size_rx HC6.out)) rfl ?_
 exact ⟨c, rfl, fun D => by rw [HC.out]; exact rx_leaf D _ _ _, B2.out⟩
set_option maxHeartbeats 2000000 in
set_option maxRecDepth 100000 in
theorem rxEmpty_any (w : World) : Calls Tryz.prog 61 #[] w fun e w' => ∃ ds, e = .returned (.agg ds.toArray) ∧ (∀ D, RxD D w' ds emptyT) ∧ Below w.heap.size w w' := by
 obtain ⟨i0, hi0, hz0, hz1, hz2⟩ := inf_rx'
 obtain ⟨z, hz⟩ : ∃ z, z = rxc 0 zeroS (.slice none 0 0) := ⟨_, rfl⟩
 have HZL := qH (show z.length = 6 by rw [hz]; rfl)
 have HZ0 := qH (show i0.zero = some (.agg z.toArray) by rw [hz]; exact hz0)
 obtain ⟨c, hc⟩ : ∃ c, c = rxc 2 zeroS (.slice none 0 0) := ⟨_, rfl⟩
 have HCB := qH (show Tryz.prog.built 29 [(0, .int .i64 2)] = some c.toArray by rw [hc]; exact built0 2)
 have HC6 := qH (show c.length = 6 by rw [hc]; rfl)
 have HC1 := qH (show c.all (·.oneCell') = true by rw [hc]; rfl)
 have HC := qH hc
 clear hz hz0 hz1 hz2 hc
 go_enter Tryz.func61, Tryz.ntmps61
 go_wp2_with (first
  | ((with_reducible refine atDst 0 ?_); refine wpList_new rfl 29 rfl i0 _ z hi0 HZ0.out rfl (Below.refl w.heap.size w) (Nat.le_refl _) ?_; intro w1 hk1 hb1 hs1 _; have K1 := qH hk1; have B1 := qH hb1; clear hk1 hb1 hs1)
  | ((with_reducible refine atDst 1 ?_); refine wpList_bld rfl 29 _ rfl c HCB.out ?_)
  | ((with_reducible refine atStore 29 0 1 ?_); refine wpList_stBlk rfl 29 _ _ rfl w.heap.size c rfl rfl 29 _ K1.out (size_rx HC6.out) (by rw [HZL.out, HC6.out]) HC1.out B1.out (Nat.le_refl _) ?_; intro w2 hk2 hb2 hs2 _; have K2 := qH hk2; have B2 := qH hb2; clear hk2 hb2 hs2))
 refine bodyPost_ret (results_blk rfl _ _ w.heap.size 29 _ _ rfl K2.out Tryz.underlying29 rfl (size_rx HC6.out)) rfl ?_
 exact ⟨c, rfl, fun D => by rw [HC.out]; exact rx_leaf D _ _ _, B2.out⟩
set_option maxHeartbeats 2000000 in
set_option maxRecDepth 100000 in
theorem rxBytes_any (s : Nat → Bool) (w : World) : Calls Tryz.prog 88 #[.agg (wds s).toArray] w fun e w' => ∃ ds, e = .returned (.agg ds.toArray) ∧ (∀ D, RxD D w' ds (bytesT s)) ∧ Below w.heap.size w w' := by
 obtain ⟨i0, hi0, hz0, hz1, hz2⟩ := inf_rx'
 obtain ⟨z, hz⟩ : ∃ z, z = rxc 0 zeroS (.slice none 0 0) := ⟨_, rfl⟩
 have HZL := qH (show z.length = 6 by rw [hz]; rfl)
 have HZ0 := qH (show i0.zero = some (.agg z.toArray) by rw [hz]; exact hz0)
 obtain ⟨c, hc⟩ : ∃ c, c = rxc 3 s (.slice none 0 0) := ⟨_, rfl⟩
 have HCB := qH (show Tryz.prog.built 29 [(0, .int .i64 3), (1, .agg (wds s).toArray)] = some c.toArray by rw [hc]; exact built01 3 s)
 have HC6 := qH (show c.length = 6 by rw [hc]; rfl)
 have HC1 := qH (show c.all (·.oneCell') = true by rw [hc]; rfl)
 have HC := qH hc
 have HBS := qH builtS
 obtain ⟨zs, hzs⟩ : ∃ zs, zs = zeroS := ⟨_, rfl⟩
 have HZS := qH hzs
 rw [← hzs] at HBS
 clear hz hz0 hz1 hz2 hc hzs
 cases hs : eqS s zs with
 | true =>
  have HEQ := qH hs
  have HF := qH (show bytesT s = noneT by unfold bytesT; rw [← HZS.out, hs]; rfl)
  clear hs
  go_enter Tryz.func88, Tryz.ntmps88
  go_wp2_with (first
   | ((with_reducible refine atDst 1 ?_); refine wpList_box rfl 26 _ rfl (wds s) rfl (Below.refl w.heap.size w) (Nat.le_refl _) ?_; intro w1 hk1 hb1 hs1 _; have K1 := qH hk1; have B1 := qH hb1; clear hk1 hb1 hs1)
   | ((with_reducible refine atDst 2 ?_); refine wpList_new rfl 29 rfl i0 _ z hi0 HZ0.out rfl B1.out B1.out.size ?_; intro w2 hk2 hb2 hs2 ho2; have L2 := qH hk2; have B2 := qH hb2; have K2 := qH (show Blk w2 w.heap.size 26 (wds s) from (ho2 _ K1.out.lt).trans K1.out); have G12 := qH K1.out.lt; clear hk2 hb2 hs2 ho2)
   | ((with_reducible refine atDst 3 ?_); refine wpList_ldArr rfl 26 _ rfl w.heap.size rfl 26 _ _ K2.out Tryz.underlying26 rfl (size_set s) ?_; (try simp only [Act.put, qA, qB, qC]))
   | ((with_reducible refine atDst 4 ?_); refine wpList_bld rfl 26 _ rfl (wds zs) HBS.out ?_; (try simp only [Act.put, qA, qB, qC]))
   | ((with_reducible refine atDst 5 ?_); refine wpList_eqSet_is rfl HEQ.out 26 24 (.tmp 3) (.tmp 4) 26 rfl guardSet Tryz.underlying26 Tryz.underlying24 sizeU64 rfl rfl ?_; (try simp only [Act.put, qA, qB, qC])))
  refine (rxNone_any w2).mono ?_
  rintro e w3 ⟨ds, rfl, hds, hb3⟩
  have D6 := qH (hds (fun _ => False)).length
  have DA := qH hds
  have D1 := qH (show ds.all (·.oneCell') = true from List.all_eq_true.2 (hds (fun _ => False)).one)
  have L3 := qH (L2.out.below hb3 L2.out.lt)
  have B3 := qH (B2.out.trans (hb3.mono B2.out.size))
  clear hds hb3
  go_wp2_with ((with_reducible refine atStore 29 2 6 ?_); refine wpList_stBlk rfl 29 _ _ rfl w1.heap.size ds rfl rfl 29 _ L3.out (size_rx D6.out) (by rw [HZL.out, D6.out]) D1.out B3.out (Nat.le_of_lt G12.out) ?_; intro w4 hk4 hb4 hs4 ho4; have K4 := qH hk4; have B4 := qH hb4; have D4 := qH (fun D => ((DA.out (fun _ => False)).stay (w' := w4) fun k hk => absurd hk id).mono (D' := D) fun k hk => absurd hk id); clear hk4 hb4 hs4 ho4)
  refine bodyPost_ret (results_blk rfl _ _ w1.heap.size 29 _ _ rfl K4.out Tryz.underlying29 rfl (size_rx D6.out)) rfl ?_
  exact ⟨ds, rfl, by rw [HF.out]; exact D4.out, B4.out⟩
 | false =>
  have HEQ := qH hs
  have HF := qH (show bytesT s = .node 3 s [] by unfold bytesT; rw [← HZS.out, hs]; rfl)
  clear hs
  go_enter Tryz.func88, Tryz.ntmps88
  go_wp2_with (first
   | ((with_reducible refine atDst 1 ?_); refine wpList_box rfl 26 _ rfl (wds s) rfl (Below.refl w.heap.size w) (Nat.le_refl _) ?_; intro w1 hk1 hb1 hs1 _; have K1 := qH hk1; have B1 := qH hb1; clear hk1 hb1 hs1)
   | ((with_reducible refine atDst 2 ?_); refine wpList_new rfl 29 rfl i0 _ z hi0 HZ0.out rfl B1.out B1.out.size ?_; intro w2 hk2 hb2 hs2 ho2; have L2 := qH hk2; have B2 := qH hb2; have K2 := qH (show Blk w2 w.heap.size 26 (wds s) from (ho2 _ K1.out.lt).trans K1.out); have G12 := qH K1.out.lt; clear hk2 hb2 hs2 ho2)
   | ((with_reducible refine atDst 3 ?_); refine wpList_ldArr rfl 26 _ rfl w.heap.size rfl 26 _ _ K2.out Tryz.underlying26 rfl (size_set s) ?_; (try simp only [Act.put, qA, qB, qC]))
   | ((with_reducible refine atDst 4 ?_); refine wpList_bld rfl 26 _ rfl (wds zs) HBS.out ?_; (try simp only [Act.put, qA, qB, qC]))
   | ((with_reducible refine atDst 5 ?_); refine wpList_eqSet_is rfl HEQ.out 26 24 (.tmp 3) (.tmp 4) 26 rfl guardSet Tryz.underlying26 Tryz.underlying24 sizeU64 rfl rfl ?_; (try simp only [Act.put, qA, qB, qC]))
   | ((with_reducible refine atDst 7 ?_); refine wpList_ldArr rfl 26 _ rfl w.heap.size rfl 26 _ _ K2.out Tryz.underlying26 rfl (size_set s) ?_; (try simp only [Act.put, qA, qB, qC]))
   | ((with_reducible refine atDst 8 ?_); refine wpList_bld rfl 29 _ rfl c HCB.out ?_; (try simp only [Act.put, qA, qB, qC]))
   | ((with_reducible refine atStore 29 2 8 ?_); refine wpList_stBlk rfl 29 _ _ rfl w1.heap.size c rfl rfl 29 _ L2.out (size_rx HC6.out) (by rw [HZL.out, HC6.out]) HC1.out B2.out (Nat.le_of_lt G12.out) ?_; intro w4 hk4 hb4 hs4 ho4; have K4 := qH hk4; have B4 := qH hb4; clear hk4 hb4 hs4 ho4))
  refine bodyPost_ret (results_blk rfl _ _ w1.heap.size 29 _ _ rfl K4.out Tryz.underlying29 rfl (size_rx HC6.out)) rfl ?_
  exact ⟨c, rfl, fun D => by rw [HF.out, HC.out]; exact rx_leaf D _ _ _, B4.out⟩
set_option maxHeartbeats 2000000 in
set_option maxRecDepth 100000 in
theorem rxEqual_gr (t u : T) (hM : t.nodes ≤ 1099511627776) (cs ds : List Value) (w : World) (hv : RxV w.heap.size w cs t) (hv' : RxV w.heap.size w ds u) :
  Calls Tryz.prog 92 #[.agg cs.toArray, .agg ds.toArray] w fun e w' => e = .returned (.bool (cmpT t u == 0)) ∧ Gr w w' := by
 have V := qH hv
 have V' := qH hv'
 have HC6 := qH hv.length
 have HD6 := qH hv'.length
 have HM := qH hM
 clear hv hv' hM
 go_enter Tryz.func92, Tryz.ntmps92
 go_wp2_with (first
  | ((with_reducible refine atDst 2 ?_); refine wpList_boxE rfl 29 _ rfl cs rfl ?_; intro w1 hk1 hb1 hs1 _; have K1 := qH hk1; have B1 := qH hb1; clear hk1 hb1 hs1)
  | ((with_reducible refine atDst 3 ?_); refine wpList_boxE rfl 29 _ rfl ds rfl ?_; intro w2 hk2 hb2 hs2 ho2; have L2 := qH hk2; have B2 := qH (B1.out.trans hb2); have K2 := qH (show Blk w2 w.heap.size 29 cs from (ho2 _ K1.out.lt).trans K1.out); clear hk2 hb2 hs2 ho2)
  | ((with_reducible refine atDst 5 ?_); refine wpList_ldArr rfl 29 _ rfl w.heap.size rfl 29 _ _ K2.out Tryz.underlying29 rfl (size_rx HC6.out) ?_)
  | ((with_reducible refine atDst 6 ?_); refine wpList_ldArr rfl 29 _ rfl w1.heap.size rfl 29 _ _ L2.out Tryz.underlying29 rfl (size_rx HD6.out) ?_))
 refine (rxCompare_gr _ t u (Nat.le_refl _) HM.out cs ds w2 ((V.out.stay B2.out.below).mono B2.out.size) ((V'.out.stay B2.out.below).mono B2.out.size)).mono ?_
 rintro e w3 ⟨rfl, hg3⟩
 have G3 := qH (B2.out.trans hg3)
 clear hg3
 go_wp2_with fail
 go_ret
 exact ⟨rfl, G3.out⟩
set_option maxHeartbeats 4000000 in
set_option maxRecDepth 100000 in
theorem rxFlat_any (k : Int) (l : List T) (v : Value) (w : World) {D : Nat → Prop} (hD : ∀ k, D k → k < w.heap.size) (hr : RowD D w v l) (hn : nodesL l ≤ 549755813888) :
  Calls Tryz.prog 82 #[v, .int .i64 k] w fun e w' => ∃ v', e = .returned v' ∧ OwnT D w.heap.size w' v' (flatT k l) ∧ Below w.heap.size w w' := by
 obtain ⟨A, cap, f, rfl, h1, h2, h0, h3, h4⟩ := hr
 have H3 := qH h3
 have HD := qH hD
 have H4 := qH h4
 have HN := qH hn
 have HLL := qH (len_nodes l)
 obtain ⟨i0, hi0, hz0, hz1, hz2⟩ := inf_rx'
 obtain ⟨z, hz⟩ : ∃ z, z = rxc 0 zeroS (.slice none 0 0) := ⟨_, rfl⟩
 have HZL := qH (show z.length = 6 by rw [hz]; rfl)
 have HZ0 := qH (show i0.zero = some (.agg z.toArray) by rw [hz]; exact hz0)
 have HZ1 := qH hz0
 clear h1 h2 h0 h3 h4 hn hz hz0
 go_enter Tryz.func82, Tryz.ntmps82
 go_wp2_with fail
 go_loopw [4, 9] (fun v i wl => ∃ (v1 : Value) (j : Nat), v1 = v ∧ j ≤ l.length ∧ i = .int .i64 (j : Int) ∧ OwnT D w.heap.size wl v (flatT k (l.take j)) ∧ Below w.heap.size w wl) (fun _ i _ => l.length - (intOf i).toNat)
 case atStart => exact ⟨_, 0, rfl, by omega, by simp, OwnT.nil _ _ _, Below.refl _ _⟩
 case round =>
  obtain ⟨v1, j, rfl, hj, rfl, ho, hb⟩ := hrel
  have HO := qH ho
  have HB := qH hb
  clear ho hb
  by_cases hjl : j < l.length
  ·have j1 : (j : Int) < (l.length : Int) := Int.ofNat_lt.2 hjl
   obtain ⟨b, off, rfl, hb, hrng⟩ := H3.out (by rintro rfl; simp at hjl)
   obtain ⟨u, hu⟩ : ∃ u, l[j]? = some u := ⟨_, List.getElem?_eq_getElem hjl⟩
   have HV := qH ((H4.out j u hu).keep HB.out hD)
   have HRG := qH (range_below (hrng j hjl) HB.out (hD b hb))
   obtain ⟨Au, cu, hsp, hru⟩ := HV.out.split
   have HV6 := qH HV.out.length
   have HV1 := qH (show (f j).all (·.oneCell') = true from List.all_eq_true.2 HV.out.one)
   have HG0 := qH (show (f j)[0]? = some (.int .i64 u.kind) by rw [hsp]; rfl)
   have HG5 := qH (show (f j)[5]? = some (.slice Au u.args.length cu) by rw [hsp]; rfl)
   have HRU := qH hru
   have HU := qH hu
   have hj62 : j ≤ 4611686018427387904 := by have := HN.out; have := HLL.out; omega
   have e3 := wrap_one j hj62
   have e4 := wrap_one' j hj62
   have HSW := qH HB.out.size
   clear hrng hu hj62 hb hsp hru
   have HNX := qH (flatT_next k l j u HU.out)
   have HNL := qH (flatT_take k l (j + 1))
   obtain ⟨cur, hcur⟩ : ∃ cur, cur = flatT k (l.take j) := ⟨_, rfl⟩
   rw [← hcur] at HO HNX
   clear hcur
   by_cases hk : u.kind = k
   ·have hkb : (u.kind == k) = true := by simpa using hk
    have HE := qH (show flatT k (l.take (j + 1)) = cur ++ u.args by rw [HNX.out, if_pos hk])
    have HLE := qH (show cur.length + u.args.length ≤ 1099511627776 by have h1 := HNL.out; rw [HE.out, List.length_append] at h1; have := HN.out; omega)
    clear hk
    go_wp2_with (first
     | ((with_reducible refine atDst 12 ?_); refine wpList_load_mid rfl 29 _ rfl b (off + j * 6) rfl (f j) _ HRG.out Tryz.underlying29 rfl (size_rx HV6.out) ?_; (try simp only [Act.put, qA, qB, qC]))
     | ((with_reducible refine atDst 6 ?_); refine wpList_new rfl 29 rfl i0 _ z hi0 HZ0.out rfl (Below.refl wr.heap.size wr) (Nat.le_refl _) ?_; intro w1 hk1 hb1 hs1 _; have K1 := qH hk1; have B1 := qH hb1; clear hk1 hb1 hs1; (try simp only [Act.put, qA, qB, qC]))
     | ((with_reducible refine atStore 29 6 12 ?_); refine wpList_stBlk rfl 29 _ _ rfl wr.heap.size (f j) rfl rfl 29 _ K1.out (size_rx HV6.out) (by rw [HZL.out, HV6.out]) HV1.out B1.out (Nat.le_refl _) ?_; intro w2 hk2 hb2 hs2 _; have K2 := qH hk2; have B2 := qH hb2; have a0 := K2.out.cell 0; rw [HG0.out] at a0; have a5 := K2.out.cell 5; rw [HG5.out] at a5; have O2 := qH (HO.out.stay hb2); have BW := qH (HB.out.trans (hb2.mono HB.out.size)); clear hk2 hb2 hs2; (try simp only [Act.put, qA, qB, qC]))
     | ((with_reducible refine atDst 20 ?_); refine wpList_appTs (D := D) (D' := D) (base := w.heap.size) rfl (.tmp 17) (.tmp 19) rfl i0 hi0 HZ1.out hz1 hz2 v1 _ rfl O2.out _ u.args rfl (HRU.out.keep (B2.out.mono HSW.out) HD.out) (fun q hq => ⟨hq, Nat.lt_of_lt_of_le (HD.out q hq) BW.out.size, fun he => by have := HO.out.ge q he.symm; have := HD.out q hq; omega⟩) HLE.out BW.out.size ?_; intro v5 w5 ho5 hg5; have O5 := qH ho5; have B5 := qH (BW.out.grown hg5 BW.out.size (fun q hq => HO.out.ge q hq)); clear ho5 hg5; (try simp only [Act.put, qA, qB, qC])))
    refine ⟨⟨_, j + 1, rfl, by omega, by congr 1, by rw [HE.out]; exact O5.out, B5.out⟩, by simp [intOf] <;> omega⟩
   ·have hkb : (u.kind == k) = false := by simpa using hk
    have HE := qH (show flatT k (l.take (j + 1)) = cur ++ [u] by rw [HNX.out, if_neg hk])
    have HLE := qH (show cur.length + 1 ≤ 1099511627776 by have h1 := HNL.out; rw [HE.out, List.length_append] at h1; have := HN.out; simp only [List.length_cons, List.length_nil] at h1; omega)
    clear hk
    go_wp2_with (first
     | ((with_reducible refine atDst 12 ?_); refine wpList_load_mid rfl 29 _ rfl b (off + j * 6) rfl (f j) _ HRG.out Tryz.underlying29 rfl (size_rx HV6.out) ?_; (try simp only [Act.put, qA, qB, qC]))
     | ((with_reducible refine atDst 6 ?_); refine wpList_new rfl 29 rfl i0 _ z hi0 HZ0.out rfl (Below.refl wr.heap.size wr) (Nat.le_refl _) ?_; intro w1 hk1 hb1 hs1 _; have K1 := qH hk1; have B1 := qH hb1; clear hk1 hb1 hs1; (try simp only [Act.put, qA, qB, qC]))
     | ((with_reducible refine atStore 29 6 12 ?_); refine wpList_stBlk rfl 29 _ _ rfl wr.heap.size (f j) rfl rfl 29 _ K1.out (size_rx HV6.out) (by rw [HZL.out, HV6.out]) HV1.out B1.out (Nat.le_refl _) ?_; intro w2 hk2 hb2 hs2 _; have K2 := qH hk2; have B2 := qH hb2; have a0 := K2.out.cell 0; rw [HG0.out] at a0; have a5 := K2.out.cell 5; rw [HG5.out] at a5; have O2 := qH (HO.out.stay hb2); have BW := qH (HB.out.trans (hb2.mono HB.out.size)); clear hk2 hb2 hs2; (try simp only [Act.put, qA, qB, qC]))
     | ((with_reducible refine atDst 22 ?_); refine wpList_ldArr rfl 29 _ rfl wr.heap.size rfl 29 _ _ K2.out Tryz.underlying29 rfl (size_rx HV6.out) ?_; (try simp only [Act.put, qA, qB, qC]))
     | ((with_reducible refine atDst 23 ?_); refine wpList_bldT1 rfl 27 29 (.tmp 22) rfl i0 Tryz.underlying27 hi0 HZ1.out hz1 (f j) HV6.out rfl ?_; intro w4 hk4 hb4 hs4; have K4 := qH hk4; have O4 := qH (O2.out.stay hb4); have B4 := qH (BW.out.trans (hb4.mono BW.out.size)); have V4 := qH (RxD.mono (((H4.out j u HU.out).keep BW.out HD.out).keep (hb4.mono BW.out.size) HD.out) (D' := fun k => D k ∧ k < w4.heap.size ∧ some k ≠ v1.ownBlock) fun k hk => ⟨hk, by have h1 := BW.out.size; have h2 := hb4.size; have h3 := HD.out k hk; omega, fun he => by have h1 := HO.out.ge k he.symm; have h3 := HD.out k hk; omega⟩); clear hk4 hb4 hs4; (try simp only [Act.put, qA, qB, qC]))
     | ((with_reducible refine atDst 24 ?_); refine wpList_appT (D := D) (base := w.heap.size) rfl (.tmp 21) (.tmp 23) rfl i0 hi0 HZ1.out hz1 hz2 v1 _ rfl O4.out w2.heap.size 1 29 (f j) u rfl K4.out V4.out HLE.out B4.out.size ?_; intro v5 w5 ho5 hg5; have O5 := qH ho5; have B5 := qH (B4.out.grown hg5 B4.out.size (fun q hq => O4.out.ge q hq)); clear ho5 hg5; (try simp only [Act.put, qA, qB, qC]))
     )
    refine ⟨⟨_, j + 1, rfl, by omega, by congr 1, by rw [HE.out]; exact O5.out, B5.out⟩, by simp [intOf] <;> omega⟩
  ·obtain rfl : j = l.length := by omega
   have j1 : ¬ ((l.length : Int) < (l.length : Int)) := by omega
   have ho := HO.out
   rw [List.take_length] at ho
   have O9 := qH ho
   clear ho
   go_wp2_with fail
   go_ret
   exact ⟨_, rfl, O9.out, HB.out⟩
set_option maxHeartbeats 4000000 in
set_option maxRecDepth 100000 in
theorem rxWithout_any (k : Int) (l : List T) (v : Value) (w : World) {D : Nat → Prop} (hD : ∀ k, D k → k < w.heap.size) (hr : RowD D w v l) (hn : nodesL l ≤ 549755813888) :
  Calls Tryz.prog 86 #[v, .int .i64 k] w fun e w' => ∃ v', e = .returned v' ∧ OwnT D w.heap.size w' v' (withoutT k l) ∧ Below w.heap.size w w' := by
 obtain ⟨A, cap, f, rfl, h1, h2, h0, h3, h4⟩ := hr
 have H3 := qH h3
 have HD := qH hD
 have H4 := qH h4
 have HN := qH hn
 have HLL := qH (len_nodes l)
 obtain ⟨i0, hi0, hz0, hz1, hz2⟩ := inf_rx'
 obtain ⟨z, hz⟩ : ∃ z, z = rxc 0 zeroS (.slice none 0 0) := ⟨_, rfl⟩
 have HZL := qH (show z.length = 6 by rw [hz]; rfl)
 have HZ0 := qH (show i0.zero = some (.agg z.toArray) by rw [hz]; exact hz0)
 have HZ1 := qH hz0
 clear h1 h2 h0 h3 h4 hn hz hz0
 go_enter Tryz.func86, Tryz.ntmps86
 go_wp2_with fail
 go_loopw [4, 9] (fun v i wl => ∃ (v1 : Value) (j : Nat), v1 = v ∧ j ≤ l.length ∧ i = .int .i64 (j : Int) ∧ OwnT D w.heap.size wl v (withoutT k (l.take j)) ∧ Below w.heap.size w wl) (fun _ i _ => l.length - (intOf i).toNat)
 case atStart => exact ⟨_, 0, rfl, by omega, by simp, OwnT.nil _ _ _, Below.refl _ _⟩
 case round =>
  obtain ⟨v1, j, rfl, hj, rfl, ho, hb⟩ := hrel
  have HO := qH ho
  have HB := qH hb
  clear ho hb
  by_cases hjl : j < l.length
  ·have j1 : (j : Int) < (l.length : Int) := Int.ofNat_lt.2 hjl
   obtain ⟨b, off, rfl, hb, hrng⟩ := H3.out (by rintro rfl; simp at hjl)
   obtain ⟨u, hu⟩ : ∃ u, l[j]? = some u := ⟨_, List.getElem?_eq_getElem hjl⟩
   have HV := qH ((H4.out j u hu).keep HB.out hD)
   have HRG := qH (range_below (hrng j hjl) HB.out (hD b hb))
   obtain ⟨Au, cu, hsp, hru⟩ := HV.out.split
   have HV6 := qH HV.out.length
   have HV1 := qH (show (f j).all (·.oneCell') = true from List.all_eq_true.2 HV.out.one)
   have HG0 := qH (show (f j)[0]? = some (.int .i64 u.kind) by rw [hsp]; rfl)
   have HG5 := qH (show (f j)[5]? = some (.slice Au u.args.length cu) by rw [hsp]; rfl)
   have HRU := qH hru
   have HU := qH hu
   have hj62 : j ≤ 4611686018427387904 := by have := HN.out; have := HLL.out; omega
   have e3 := wrap_one j hj62
   have e4 := wrap_one' j hj62
   have HSW := qH HB.out.size
   clear hrng hu hj62 hb hsp hru
   have HNX := qH (withoutT_next k l j u HU.out)
   have HNL := qH (Nat.le_trans (withoutT_len k (l.take j)) (List.length_take_le j l))
   obtain ⟨cur, hcur⟩ : ∃ cur, cur = withoutT k (l.take j) := ⟨_, rfl⟩
   rw [← hcur] at HO HNX HNL
   clear hcur
   by_cases hk : u.kind = k
   ·have hkb : (u.kind != k) = false := by simpa using hk
    have HE := qH (show withoutT k (l.take (j + 1)) = cur by rw [HNX.out, if_pos hk, List.append_nil])
    clear hk
    go_wp2_with (first
     | ((with_reducible refine atDst 12 ?_); refine wpList_load_mid rfl 29 _ rfl b (off + j * 6) rfl (f j) _ HRG.out Tryz.underlying29 rfl (size_rx HV6.out) ?_; (try simp only [Act.put, qA, qB, qC]))
     | ((with_reducible refine atDst 6 ?_); refine wpList_new rfl 29 rfl i0 _ z hi0 HZ0.out rfl (Below.refl wr.heap.size wr) (Nat.le_refl _) ?_; intro w1 hk1 hb1 hs1 _; have K1 := qH hk1; have B1 := qH hb1; clear hk1 hb1 hs1; (try simp only [Act.put, qA, qB, qC]))
     | ((with_reducible refine atStore 29 6 12 ?_); refine wpList_stBlk rfl 29 _ _ rfl wr.heap.size (f j) rfl rfl 29 _ K1.out (size_rx HV6.out) (by rw [HZL.out, HV6.out]) HV1.out B1.out (Nat.le_refl _) ?_; intro w2 hk2 hb2 hs2 _; have K2 := qH hk2; have B2 := qH hb2; have a0 := K2.out.cell 0; rw [HG0.out] at a0; have a5 := K2.out.cell 5; rw [HG5.out] at a5; have O2 := qH (HO.out.stay hb2); have BW := qH (HB.out.trans (hb2.mono HB.out.size)); clear hk2 hb2 hs2; (try simp only [Act.put, qA, qB, qC]))
     )
    refine ⟨⟨_, j + 1, rfl, by omega, by congr 1, by rw [HE.out]; exact O2.out, BW.out⟩, by simp [intOf] <;> omega⟩
   ·have hkb : (u.kind != k) = true := by simpa using hk
    have HE := qH (show withoutT k (l.take (j + 1)) = cur ++ [u] by rw [HNX.out, if_neg hk])
    have HLE := qH (show cur.length + 1 ≤ 1099511627776 by have h1 := HNL.out; have := HN.out; have := HLL.out; omega)
    clear hk
    go_wp2_with (first
     | ((with_reducible refine atDst 12 ?_); refine wpList_load_mid rfl 29 _ rfl b (off + j * 6) rfl (f j) _ HRG.out Tryz.underlying29 rfl (size_rx HV6.out) ?_; (try simp only [Act.put, qA, qB, qC]))
     | ((with_reducible refine atDst 6 ?_); refine wpList_new rfl 29 rfl i0 _ z hi0 HZ0.out rfl (Below.refl wr.heap.size wr) (Nat.le_refl _) ?_; intro w1 hk1 hb1 hs1 _; have K1 := qH hk1; have B1 := qH hb1; clear hk1 hb1 hs1; (try simp only [Act.put, qA, qB, qC]))
     | ((with_reducible refine atStore 29 6 12 ?_); refine wpList_stBlk rfl 29 _ _ rfl wr.heap.size (f j) rfl rfl 29 _ K1.out (size_rx HV6.out) (by rw [HZL.out, HV6.out]) HV1.out B1.out (Nat.le_refl _) ?_; intro w2 hk2 hb2 hs2 _; have K2 := qH hk2; have B2 := qH hb2; have a0 := K2.out.cell 0; rw [HG0.out] at a0; have a5 := K2.out.cell 5; rw [HG5.out] at a5; have O2 := qH (HO.out.stay hb2); have BW := qH (HB.out.trans (hb2.mono HB.out.size)); clear hk2 hb2 hs2; (try simp only [Act.put, qA, qB, qC]))
     | ((with_reducible refine atDst 18 ?_); refine wpList_ldArr rfl 29 _ rfl wr.heap.size rfl 29 _ _ K2.out Tryz.underlying29 rfl (size_rx HV6.out) ?_; (try simp only [Act.put, qA, qB, qC]))
     | ((with_reducible refine atDst 19 ?_); refine wpList_bldT1 rfl 27 29 (.tmp 18) rfl i0 Tryz.underlying27 hi0 HZ1.out hz1 (f j) HV6.out rfl ?_; intro w4 hk4 hb4 hs4; have K4 := qH hk4; have O4 := qH (O2.out.stay hb4); have B4 := qH (BW.out.trans (hb4.mono BW.out.size)); have V4 := qH (RxD.mono (((H4.out j u HU.out).keep BW.out HD.out).keep (hb4.mono BW.out.size) HD.out) (D' := fun k => D k ∧ k < w4.heap.size ∧ some k ≠ v1.ownBlock) fun k hk => ⟨hk, by have h1 := BW.out.size; have h2 := hb4.size; have h3 := HD.out k hk; omega, fun he => by have h1 := HO.out.ge k he.symm; have h3 := HD.out k hk; omega⟩); clear hk4 hb4 hs4; (try simp only [Act.put, qA, qB, qC]))
     | ((with_reducible refine atDst 20 ?_); refine wpList_appT (D := D) (base := w.heap.size) rfl (.tmp 17) (.tmp 19) rfl i0 hi0 HZ1.out hz1 hz2 v1 _ rfl O4.out w2.heap.size 1 29 (f j) u rfl K4.out V4.out HLE.out B4.out.size ?_; intro v5 w5 ho5 hg5; have O5 := qH ho5; have B5 := qH (B4.out.grown hg5 B4.out.size (fun q hq => O4.out.ge q hq)); clear ho5 hg5; (try simp only [Act.put, qA, qB, qC]))
     )
    refine ⟨⟨_, j + 1, rfl, by omega, by congr 1, by rw [HE.out]; exact O5.out, B5.out⟩, by simp [intOf] <;> omega⟩
  ·obtain rfl : j = l.length := by omega
   have j1 : ¬ ((l.length : Int) < (l.length : Int)) := by omega
   have ho := HO.out
   rw [List.take_length] at ho
   have O9 := qH ho
   clear ho
   go_wp2_with fail
   go_ret
   exact ⟨_, rfl, O9.out, HB.out⟩
end Go.Proofs.YtopnpdobcagcgaaGreat
