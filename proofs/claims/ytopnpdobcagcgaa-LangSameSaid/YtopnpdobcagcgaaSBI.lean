/-
  The walk of LangSame: brackets, order and repetition turn no words. The given row lies in a text of its own.
-/
import Derived.Test.YtopnpdobcagcgaaSBH
namespace Go.Proofs.Ytopnpdobcagcgaa
open Go.RowKit
set_option linter.unusedSimpArgs false
set_option linter.unusedVariables false
theorem same_left (x y z : T) (W : List UInt8) : lgB (.node 4 zeroS [x, .node 4 zeroS [y, z]]) W = lgB (.node 4 zeroS [.node 4 zeroS [x, y], z]) W := by
 refine lgB_of ?_
 rw [lgB_iff, lg_cat, lg_cat]
 have h1 : ∀ u, LgC [.node 4 zeroS [x, y], z] u ↔ LgC ([x, y] ++ [z]) u := fun u => by
  rw [lgC_app]
  simp only [LgC, lg_cat]
 have h2 : ∀ u, LgC [x, .node 4 zeroS [y, z]] u ↔ LgC ([x] ++ [y, z]) u := fun u => by
  rw [lgC_app]
  simp only [LgC, lg_cat]
  constructor
  ·rintro ⟨a, b, rfl, h1, c, d, rfl, h2, rfl⟩
   exact ⟨a, c, by simp, ⟨a, [], by simp, h1, rfl⟩, h2⟩
  ·rintro ⟨a, b, rfl, ⟨c, d, rfl, h1, rfl⟩, h2⟩
   exact ⟨c, b, by simp, h1, b, [], by simp, h2, rfl⟩
 rw [h1, h2]
 rfl
theorem same_cat (x y z : T) (W : List UInt8) : lgB (catT [x, y, z]) W = lgB (.node 4 zeroS [.node 4 zeroS [x, y], z]) W := by
 rw [← same_left]
 refine lgB_of ?_
 rw [lgB_iff, lg_cat, lg_catT]
 simp only [LgC, lg_cat]
 constructor
 ·rintro ⟨a, b, rfl, h1, c, d, rfl, h2, rfl⟩
  obtain ⟨e, f, rfl, h3, g, h, rfl, h4, rfl⟩ := h2
  exact ⟨a, e ++ (g ++ []), by simp, h1, e, g ++ [], rfl, h3, g, [], rfl, h4, rfl⟩
 ·rintro ⟨a, b, rfl, h1, c, d, rfl, h2, e, f, rfl, h3, rfl⟩
  exact ⟨a, c ++ (e ++ []), rfl, h1, c ++ (e ++ []), [], by simp, ⟨c, e ++ [], rfl, h2, e, [], rfl, h3, rfl⟩, rfl⟩
theorem same_over (x y z : T) (W : List UInt8) : lgB (.node 5 zeroS [.node 4 zeroS [x, z], .node 4 zeroS [x, y], .node 4 zeroS [x, y]]) W = lgB (.node 4 zeroS [x, .node 5 zeroS [y, z]]) W := by
 refine lgB_of ?_
 rw [lgB_iff, lg_cat, lg_alt]
 simp only [LgA, LgC, lg_cat, lg_alt, or_false]
 constructor
 ·rintro ⟨a, b, rfl, h1, c, d, rfl, h2 | h2, rfl⟩
  ·exact .inr (.inl ⟨a, c ++ [], rfl, h1, c, [], rfl, h2, rfl⟩)
  ·exact .inl ⟨a, c ++ [], rfl, h1, c, [], rfl, h2, rfl⟩
 ·rintro (⟨a, b, rfl, h1, c, d, rfl, h2, rfl⟩ | ⟨a, b, rfl, h1, c, d, rfl, h2, rfl⟩ | ⟨a, b, rfl, h1, c, d, rfl, h2, rfl⟩)
  ·exact ⟨a, c ++ [], rfl, h1, c, [], rfl, .inr h2, rfl⟩
  ·exact ⟨a, c ++ [], rfl, h1, c, [], rfl, .inl h2, rfl⟩
  ·exact ⟨a, c ++ [], rfl, h1, c, [], rfl, .inl h2, rfl⟩
section
variable {P : Program} {w : World} {ops : Array Oper} {rest : List Oper} {o : Oper} {a : Act} {Q : Exit → Act → World → Prop} {K : Act → World → Prop}
theorem wpList_two (hg : o.guard = none) (x y : Operand) (ho : o.op = .buildSlice 25 2 #[(0, x), (1, y)]) (i : TypeInfo) (hi : Try.prog.info? 27 = some i) (hz : i.zero = some (.agg (Value.int .i64 0 :: (wds (fun _ => false) ++ [.slice none 0 0])).toArray)) (hs : i.size = 6) {cs ds : List Value} {t u : T}
  (hc : RxV w.heap.size w cs t) (hd : RxV w.heap.size w ds u) (hx : a.eval x = .agg cs.toArray) (hy : a.eval y = .agg ds.toArray)
  (h : ∀ w', (∀ k : Int, RxV w'.heap.size w' (rxc k zeroS (.slice (some ⟨w.heap.size, 0, none⟩) 2 2)) (.node k zeroS [t, u])) → Below w.heap.size w w' → wpList Try.prog ops Q rest (a.put o.dst (.slice (some ⟨w.heap.size, 0, none⟩) 2 2)) w') : wpList Try.prog ops Q (o :: rest) a w := by
 refine wpList_bldT2 hg _ 27 x y ho i Try.underlying25 hi hz hs cs ds hc.length hd.length hx hy fun w' hk hb hsz => h w' (fun k => ?_) hb
 exact (row_two hk (RxV.mono (hc.stay hb) hb.size) (RxV.mono (hd.stay hb) hb.size) hk.lt).rowD.rx k zeroS
theorem wpList_three (hg : o.guard = none) (x y z : Operand) (ho : o.op = .buildSlice 25 3 #[(0, x), (1, y), (2, z)]) (i : TypeInfo) (hi : Try.prog.info? 27 = some i) (hz : i.zero = some (.agg (Value.int .i64 0 :: (wds (fun _ => false) ++ [.slice none 0 0])).toArray)) (hs : i.size = 6) {cs ds es : List Value} {t u v : T}
  (hc : RxV w.heap.size w cs t) (hd : RxV w.heap.size w ds u) (he : RxV w.heap.size w es v) (hx : a.eval x = .agg cs.toArray) (hy : a.eval y = .agg ds.toArray) (hq : a.eval z = .agg es.toArray)
  (h : ∀ w', (∀ k : Int, RxV w'.heap.size w' (rxc k zeroS (.slice (some ⟨w.heap.size, 0, none⟩) 3 3)) (.node k zeroS [t, u, v])) → Below w.heap.size w w' → wpList Try.prog ops Q rest (a.put o.dst (.slice (some ⟨w.heap.size, 0, none⟩) 3 3)) w') : wpList Try.prog ops Q (o :: rest) a w := by
 refine wpList_bldT3 hg _ 27 x y z ho i Try.underlying25 hi hz hs cs ds es hc.length hd.length he.length hx hy hq fun w' hk hb hsz => h w' (fun k => ?_) hb
 exact (row_three hk (RxV.mono (hc.stay hb) hb.size) (RxV.mono (hd.stay hb) hb.size) (RxV.mono (he.stay hb) hb.size) hk.lt).rowD.rx k zeroS
end
set_option maxHeartbeats 16000000 in
set_option maxRecDepth 1000000 in
theorem langSame_walk (V V2 V3 V4 : Value) (ps qs rs ts : List UInt8) (w : World) (hr : Row w V (bvs ps)) (hr2 : Row w V2 (bvs qs)) (hr3 : Row w V3 (bvs rs)) (hr4 : Row w V4 (bvs ts)) :
  Calls Try.prog 6 #[V, V2, V3, V4] w fun e w' => e = .returned (.bool true) ∧ Below w.heap.size w w' := by
 have R := Lib.hid hr
 have R2 := Lib.hid hr2
 have R3 := Lib.hid hr3
 have R4 := Lib.hid hr4
 obtain ⟨A, cap, rfl, _⟩ := hr
 obtain ⟨A2, cap2, rfl, _⟩ := hr2
 obtain ⟨A3, cap3, rfl, _⟩ := hr3
 obtain ⟨A4, cap4, rfl, _⟩ := hr4
 have hbl : (bvs ps).length = ps.length := bvs_length ps
 have hbl2 : (bvs qs).length = qs.length := bvs_length qs
 have hbl3 : (bvs rs).length = rs.length := bvs_length rs
 have hbl4 : (bvs ts).length = ts.length := bvs_length ts
 rw [hbl] at R ⊢
 rw [hbl2] at R2 ⊢
 rw [hbl3] at R3 ⊢
 rw [hbl4] at R4 ⊢
 clear hbl hbl2 hbl3 hbl4
 by_cases h1 : 30 < ps.length
 ·have d1 : decide ((30 : Int) < (ps.length : Int)) = true := decide_eq_true (by omega)
  have i1 : (30 : Int) < (ps.length : Int) := by omega
  clear h1
  go_enter Try.func6, Try.ntmps6
  go_wp2_with fail
  refine (begun_any w).mono ?_
  rintro e w1 ⟨rfl, hb⟩
  have B1 := Lib.hid hb
  clear hb
  go_wp2_with fail
  go_ret
  exact ⟨rfl, B1.out⟩
 have d1 : decide ((30 : Int) < (ps.length : Int)) = false := decide_eq_false (by omega)
 have i1 : ¬ ((30 : Int) < (ps.length : Int)) := by omega
 by_cases h2 : 30 < qs.length
 ·have d2 : decide ((30 : Int) < (qs.length : Int)) = true := decide_eq_true (by omega)
  have i2 : (30 : Int) < (qs.length : Int) := by omega
  clear h1 h2
  go_enter Try.func6, Try.ntmps6
  go_wp2_with fail
  refine (begun_any w).mono ?_
  rintro e w1 ⟨rfl, hb⟩
  have B1 := Lib.hid hb
  clear hb
  go_wp2_with fail
  go_ret
  exact ⟨rfl, B1.out⟩
 have d2 : decide ((30 : Int) < (qs.length : Int)) = false := decide_eq_false (by omega)
 have i2 : ¬ ((30 : Int) < (qs.length : Int)) := by omega
 by_cases h3 : 30 < rs.length
 ·have d3 : decide ((30 : Int) < (rs.length : Int)) = true := decide_eq_true (by omega)
  have i3 : (30 : Int) < (rs.length : Int) := by omega
  clear h1 h2 h3
  go_enter Try.func6, Try.ntmps6
  go_wp2_with fail
  refine (begun_any w).mono ?_
  rintro e w1 ⟨rfl, hb⟩
  have B1 := Lib.hid hb
  clear hb
  go_wp2_with fail
  go_ret
  exact ⟨rfl, B1.out⟩
 have d3 : decide ((30 : Int) < (rs.length : Int)) = false := decide_eq_false (by omega)
 have i3 : ¬ ((30 : Int) < (rs.length : Int)) := by omega
 by_cases h4 : 20 < ts.length
 ·have d4 : decide ((20 : Int) < (ts.length : Int)) = true := decide_eq_true (by omega)
  have i4 : (20 : Int) < (ts.length : Int) := by omega
  clear h1 h2 h3 h4
  go_enter Try.func6, Try.ntmps6
  go_wp2_with fail
  refine (begun_any w).mono ?_
  rintro e w1 ⟨rfl, hb⟩
  have B1 := Lib.hid hb
  clear hb
  go_wp2_with fail
  go_ret
  exact ⟨rfl, B1.out⟩
 have d4 : decide ((20 : Int) < (ts.length : Int)) = false := decide_eq_false (by omega)
 have i4 : ¬ ((20 : Int) < (ts.length : Int)) := by omega
 have HL := Lib.hid (show ps.length ≤ 30 by omega)
 have HL2 := Lib.hid (show qs.length ≤ 30 by omega)
 have HL3 := Lib.hid (show rs.length ≤ 30 by omega)
 have HL4 := Lib.hid (show ts.length ≤ 20 by omega)
 obtain ⟨x, hx⟩ : ∃ t, t = madeT ps := ⟨_, rfl⟩
 obtain ⟨y, hy⟩ : ∃ t, t = madeT qs := ⟨_, rfl⟩
 obtain ⟨q, hq⟩ : ∃ t, t = madeT rs := ⟨_, rfl⟩
 have HTX := Lib.hid hx
 have HTY := Lib.hid hy
 have HTQ := Lib.hid hq
 have HXF := Lib.hid (show x.nodes ≤ 121 by rw [hx]; have := madeT_few ps; omega)
 have HYF := Lib.hid (show y.nodes ≤ 121 by rw [hy]; have := madeT_few qs; omega)
 have HQF := Lib.hid (show q.nodes ≤ 121 by rw [hq]; have := madeT_few rs; omega)
 have hnl : nodesL [x, y, q] ≤ 363 := by have h1 := HXF.out; have h2 := HYF.out; have h3 := HQF.out; simp only [nodesL]; omega
 have HN2 := Lib.hid (show nodesL [x, y, q] ≤ 549755813888 by omega)
 have HCT := Lib.hid (show (catT [x, y, q]).nodes ≤ 2000 by have := catT_nodes [x, y, q]; omega)
 have HNA := Lib.hid (show (T.node 4 zeroS [.node 4 zeroS [x, y], q]).nodes ≤ 2000 by have h1 := HXF.out; have h2 := HYF.out; have h3 := HQF.out; simp only [T.nodes, nodesL]; omega)
 have HNB := Lib.hid (show (T.node 4 zeroS [x, .node 4 zeroS [y, q]]).nodes ≤ 2000 by have h1 := HXF.out; have h2 := HYF.out; have h3 := HQF.out; simp only [T.nodes, nodesL]; omega)
 have HNC := Lib.hid (show (T.node 4 zeroS [x, .node 5 zeroS [y, q]]).nodes ≤ 2000 by have h1 := HXF.out; have h2 := HYF.out; have h3 := HQF.out; simp only [T.nodes, nodesL]; omega)
 have HND := Lib.hid (show (T.node 5 zeroS [.node 4 zeroS [x, q], .node 4 zeroS [x, y], .node 4 zeroS [x, y]]).nodes ≤ 2000 by have h1 := HXF.out; have h2 := HYF.out; have h3 := HQF.out; simp only [T.nodes, nodesL]; omega)
 obtain ⟨i0, hi0, hz0, hz1, hz2⟩ := inf_rx'
 have HZ1 := Lib.hid hz0
 obtain ⟨z, hz⟩ : ∃ z, z = rxc 0 zeroS (.slice none 0 0) := ⟨_, rfl⟩
 have HZL := Lib.hid (show z.length = 6 by rw [hz]; rfl)
 have HZ0 := Lib.hid (show i0.zero = some (.agg z.toArray) by rw [hz]; exact hz0)
 clear hz hz0 h1 h2 h3 h4 hx hy hq hnl
 go_enter Try.func6, Try.ntmps6
 go_wp2_with fail
 refine (begun_any w).mono ?_
 rintro e w1 ⟨rfl, hb⟩
 have B1 := Lib.hid hb
 clear hb
 go_wp2_with fail
 refine (made_any _ ps w1 (R.out.below B1.out) (by have := HL.out; omega)).mono ?_
 rintro e w2 ⟨rfl, hb, hp⟩
 have P2 := Lib.hid hp
 have B2 := Lib.hid (B1.out.trans (hb.mono B1.out.size))
 have S1w := Lib.hid B1.out.size
 clear hb hp
 go_wp2_with fail
 refine (pickRx_any w1.heap.size _ ps w2 P2.out).mono ?_
 rintro e w3 ⟨cs, rfl, hcs, hg⟩
 have B3 := Lib.hid (B2.out.trans ((grown_belowG hg P2.out.blk.lt).mono S1w.out))
 rw [← HTX.out] at hcs
 have X3 := Lib.hid (show RxV w3.heap.size w3 cs x from RxD.mono hcs fun k hk => hk.2)
 have C6 := Lib.hid hcs.length
 have C1 := Lib.hid (show cs.all (·.oneCell') = true from List.all_eq_true.2 (RxD.one hcs))
 clear hcs hg P2 S1w
 go_wp2_with fail
 refine (made_any _ qs w3 (R2.out.below B3.out) (by have := HL2.out; omega)).mono ?_
 rintro e w4 ⟨rfl, hb, hp⟩
 have P4 := Lib.hid hp
 have B4 := Lib.hid hb
 clear hb hp
 go_wp2_with fail
 refine (pickRx_any w3.heap.size _ qs w4 P4.out).mono ?_
 rintro e w5 ⟨ds, rfl, hds, hg⟩
 have G5 := Lib.hid (B4.out.trans (grown_belowG hg P4.out.blk.lt))
 have B5 := Lib.hid (B3.out.trans (G5.out.mono B3.out.size))
 rw [← HTY.out] at hds
 have D6 := Lib.hid hds.length
 have D1 := Lib.hid (show ds.all (·.oneCell') = true from List.all_eq_true.2 (RxD.one hds))
 have Y5 := Lib.hid (show RxV w5.heap.size w5 ds y from RxD.mono hds fun k hk => hk.2)
 have X5 := Lib.hid (RxV.mono (X3.out.stay G5.out) G5.out.size)
 clear hds hg P4 B4 G5 X3
 go_wp2_with fail
 refine (made_any _ rs w5 (R3.out.below B5.out) (by have := HL3.out; omega)).mono ?_
 rintro e w6 ⟨rfl, hb, hp⟩
 have P6 := Lib.hid hp
 have B6 := Lib.hid hb
 clear hb hp
 go_wp2_with fail
 refine (pickRx_any w5.heap.size _ rs w6 P6.out).mono ?_
 rintro e w7 ⟨es, rfl, hes, hg⟩
 have G7 := Lib.hid (B6.out.trans (grown_belowG hg P6.out.blk.lt))
 have B7 := Lib.hid (B5.out.trans (G7.out.mono B5.out.size))
 rw [← HTQ.out] at hes
 have E6 := Lib.hid hes.length
 have E1 := Lib.hid (show es.all (·.oneCell') = true from List.all_eq_true.2 (RxD.one hes))
 have Q7 := Lib.hid (show RxV w7.heap.size w7 es q from RxD.mono hes fun k hk => hk.2)
 have X7 := Lib.hid (RxV.mono (X5.out.stay G7.out) G7.out.size)
 have Y7 := Lib.hid (RxV.mono (Y5.out.stay G7.out) G7.out.size)
 clear hes hg P6 B6 G7 X5 Y5
 go_wp2_with (first
  | ((with_reducible refine atDst 9 ?_); refine wpList_new rfl 27 rfl i0 _ z hi0 HZ0.out rfl (Below.refl w7.heap.size w7) (Nat.le_refl _) ?_; intro w8 hk hb hs ho; have L8 := Lib.hid hk; have B8 := Lib.hid hb; clear hk hb hs ho; (try simp only [Act.put, qA, qB, qC]))
  | ((with_reducible refine atDst 10 ?_); refine wpList_new rfl 27 rfl i0 _ z hi0 HZ0.out rfl (Below.refl w8.heap.size w8) (Nat.le_refl _) ?_; intro w9 hk hb hs ho; have M9 := Lib.hid hk; have L9 := Lib.hid (L8.out.below hb L8.out.lt); have B9 := Lib.hid (B8.out.trans (hb.mono B8.out.size)); clear hk hb hs ho; (try simp only [Act.put, qA, qB, qC]))
  | ((with_reducible refine atDst 11 ?_); refine wpList_new rfl 27 rfl i0 _ z hi0 HZ0.out rfl (Below.refl w9.heap.size w9) (Nat.le_refl _) ?_; intro w10 hk hb hs ho; have N10 := Lib.hid hk; have M10 := Lib.hid (M9.out.below hb M9.out.lt); have L10 := Lib.hid (L9.out.below hb L9.out.lt); have B10 := Lib.hid (B9.out.trans (hb.mono B9.out.size)); have NE1 := Lib.hid (Nat.ne_of_lt L8.out.lt); have NE2 := Lib.hid (Nat.ne_of_lt M9.out.lt); have NE3 := Lib.hid (Nat.ne_of_lt (Nat.lt_trans L8.out.lt M9.out.lt)); have LE1 := Lib.hid (Nat.le_of_lt L8.out.lt); have LE2 := Lib.hid (Nat.le_of_lt (Nat.lt_trans L8.out.lt M9.out.lt)); clear hk hb hs ho; (try simp only [Act.put, qA, qB, qC]))
  | ((with_reducible refine atStore 27 9 39 ?_); refine wpList_stBlk rfl 27 _ _ rfl w7.heap.size cs rfl rfl 27 _ L10.out (size_rx C6.out) (by rw [HZL.out, C6.out]) C1.out B10.out (Nat.le_refl _) ?_; intro w11 hk hb hs ho; have L11 := Lib.hid hk; have B11 := Lib.hid hb; have M11 := Lib.hid (show Blk w11 w8.heap.size 27 z from (ho _ (Ne.symm NE1.out)).trans M10.out); have N11 := Lib.hid (show Blk w11 w9.heap.size 27 z from (ho _ (Ne.symm NE3.out)).trans N10.out); clear hk hb hs ho; (try simp only [Act.put, qA, qB, qC]))
  | ((with_reducible refine atStore 27 10 42 ?_); refine wpList_stBlk rfl 27 _ _ rfl w8.heap.size ds rfl rfl 27 _ M11.out (size_rx D6.out) (by rw [HZL.out, D6.out]) D1.out B11.out LE1.out ?_; intro w12 hk hb hs ho; have M12 := Lib.hid hk; have B12 := Lib.hid hb; have L12 := Lib.hid (show Blk w12 w7.heap.size 27 cs from (ho _ NE1.out).trans L11.out); have N12 := Lib.hid (show Blk w12 w9.heap.size 27 z from (ho _ (Ne.symm NE2.out)).trans N11.out); clear hk hb hs ho; (try simp only [Act.put, qA, qB, qC]))
  | ((with_reducible refine atStore 27 11 45 ?_); refine wpList_stBlk rfl 27 _ _ rfl w9.heap.size es rfl rfl 27 _ N12.out (size_rx E6.out) (by rw [HZL.out, E6.out]) E1.out B12.out LE2.out ?_; intro w13 hk hb hs ho; have N13 := Lib.hid hk; have L13 := Lib.hid (show Blk w13 w7.heap.size 27 cs from (ho _ NE3.out).trans L12.out); have M13 := Lib.hid (show Blk w13 w8.heap.size 27 ds from (ho _ NE2.out).trans M12.out); have B13 := Lib.hid (B7.out.trans (hb.mono B7.out.size)); have X13 := Lib.hid (RxV.mono (X7.out.stay hb) hb.size); have Y13 := Lib.hid (RxV.mono (Y7.out.stay hb) hb.size); have Q13 := Lib.hid (RxV.mono (Q7.out.stay hb) hb.size); clear hk hb hs ho; (try simp only [Act.put, qA, qB, qC])))
 clear L8 L9 L10 L11 L12 M9 M10 M11 M12 N10 N11 N12 B8 B9 B10 B11 B12 X7 Y7 Q7 B7 B5 B3 B2 NE1 NE2 NE3 LE1 LE2
 refine (made_any _ ts w13 (R4.out.below B13.out) (by have := HL4.out; omega)).mono ?_
 rintro e w14 ⟨rfl, hb, hp⟩
 have P14 := Lib.hid hp
 have B14 := Lib.hid hb
 clear hb hp
 go_wp2_with fail
 refine (pickWord_any w13.heap.size _ ts 0 8 (by decide) w14 P14.out).mono ?_
 rintro e w15 ⟨v6, W, rfl, hr6, hw6, hg⟩
 have G15 := Lib.hid (B14.out.trans (grown_belowG hg P14.out.blk.lt))
 have BS := Lib.hid (B13.out.trans (G15.out.mono B13.out.size))
 have XS := Lib.hid (RxV.mono (X13.out.stay G15.out) G15.out.size)
 have YS := Lib.hid (RxV.mono (Y13.out.stay G15.out) G15.out.size)
 have QS := Lib.hid (RxV.mono (Q13.out.stay G15.out) G15.out.size)
 have LS := Lib.hid (L13.out.below G15.out L13.out.lt)
 have MS := Lib.hid (M13.out.below G15.out M13.out.lt)
 have NS := Lib.hid (N13.out.below G15.out N13.out.lt)
 have RS := Lib.hid hr6
 have HW2 := Lib.hid (show W.length ≤ 200 by omega)
 clear hr6 hw6 hg P14 B14 G15 X13 Y13 Q13 L13 M13 N13 B13
 go_wp2_with (first
  | ((with_reducible refine atDst 49 ?_); refine wpList_ldArr rfl 27 _ rfl w7.heap.size rfl 27 _ _ (LS.out) Try.underlying27 rfl (size_rx C6.out) ?_; (try simp only [Act.put, qA, qB, qC]))
  | ((with_reducible refine atDst 50 ?_); refine wpList_ldArr rfl 27 _ rfl w8.heap.size rfl 27 _ _ (MS.out) Try.underlying27 rfl (size_rx D6.out) ?_; (try simp only [Act.put, qA, qB, qC]))
  | ((with_reducible refine atDst 51 ?_); refine wpList_two rfl (.tmp 49) (.tmp 50) rfl i0 hi0 HZ1.out hz1 (XS.out) (YS.out) rfl rfl ?_; intro p1 hv hb; have N51_1 := Lib.hid (hv 4); have BP1 := Lib.hid (hb); skip; clear hv hb; (try simp only [Act.put, qA, qB, qC]))
  | ((with_reducible refine atDst 52 ?_); refine wpList_bld rfl 27 _ rfl (rxc 4 zeroS (.slice (some ⟨w15.heap.size, 0, none⟩) 2 2)) (built02 4 _ _ _ _ rfl) ?_; (try simp only [Act.put, qA, qB, qC]))
  | ((with_reducible refine atDst 53 ?_); refine wpList_ldArr rfl 27 _ rfl w9.heap.size rfl 27 _ _ (NS.out.below BP1.out NS.out.lt) Try.underlying27 rfl (size_rx E6.out) ?_; (try simp only [Act.put, qA, qB, qC]))
  | ((with_reducible refine atDst 54 ?_); refine wpList_two rfl (.tmp 52) (.tmp 53) rfl i0 hi0 HZ1.out hz1 (N51_1.out) (RxV.mono (QS.out.stay BP1.out) BP1.out.size) rfl rfl ?_; intro p2 hv hb; have N54_2 := Lib.hid (hv 4); have BP2 := Lib.hid (BP1.out.trans (hb.mono BP1.out.size)); have N51_2 := Lib.hid (RxV.mono (N51_1.out.stay hb) hb.size); clear hv hb; (try simp only [Act.put, qA, qB, qC]))
  | ((with_reducible refine atDst 55 ?_); refine wpList_bld rfl 27 _ rfl (rxc 4 zeroS (.slice (some ⟨p1.heap.size, 0, none⟩) 2 2)) (built02 4 _ _ _ _ rfl) ?_; (try simp only [Act.put, qA, qB, qC]))
  | ((with_reducible refine atDst 13 ?_); refine wpList_new rfl 27 rfl i0 _ z hi0 HZ0.out rfl (Below.refl p2.heap.size p2) (Nat.le_refl _) ?_; intro u13 hk hb hs ho; have KA13 := Lib.hid hk; have BA13 := Lib.hid hb; clear hk hb hs ho; (try simp only [Act.put, qA, qB, qC]))
  | ((with_reducible refine atStore 27 13 55 ?_); refine wpList_stBlk rfl 27 _ _ rfl p2.heap.size (rxc 4 zeroS (.slice (some ⟨p1.heap.size, 0, none⟩) 2 2)) rfl rfl 27 _ KA13.out (size_rx rfl) (by rw [HZL.out]; rfl) (rxc_one _ _ _ _ _) BA13.out (Nat.le_refl _) ?_; intro p3 hk hb hs ho; have K13_3 := Lib.hid hk; have BP3 := Lib.hid (BP2.out.trans (hb.mono BP2.out.size)); have N51_3 := Lib.hid (RxV.mono (N51_2.out.stay hb) hb.size); have N54_3 := Lib.hid (RxV.mono (N54_2.out.stay hb) hb.size); clear hk hb hs ho; (try simp only [Act.put, qA, qB, qC]))
  | ((with_reducible refine atDst 56 ?_); refine wpList_ldArr rfl 27 _ rfl w7.heap.size rfl 27 _ _ (LS.out.below BP3.out LS.out.lt) Try.underlying27 rfl (size_rx C6.out) ?_; (try simp only [Act.put, qA, qB, qC]))
  | ((with_reducible refine atDst 57 ?_); refine wpList_ldArr rfl 27 _ rfl w8.heap.size rfl 27 _ _ (MS.out.below BP3.out MS.out.lt) Try.underlying27 rfl (size_rx D6.out) ?_; (try simp only [Act.put, qA, qB, qC]))
  | ((with_reducible refine atDst 58 ?_); refine wpList_ldArr rfl 27 _ rfl w9.heap.size rfl 27 _ _ (NS.out.below BP3.out NS.out.lt) Try.underlying27 rfl (size_rx E6.out) ?_; (try simp only [Act.put, qA, qB, qC]))
  | ((with_reducible refine atDst 59 ?_); refine wpList_two rfl (.tmp 57) (.tmp 58) rfl i0 hi0 HZ1.out hz1 (RxV.mono (YS.out.stay BP3.out) BP3.out.size) (RxV.mono (QS.out.stay BP3.out) BP3.out.size) rfl rfl ?_; intro p4 hv hb; have N59_4 := Lib.hid (hv 4); have BP4 := Lib.hid (BP3.out.trans (hb.mono BP3.out.size)); have N54_4 := Lib.hid (RxV.mono (N54_3.out.stay hb) hb.size); have K13_4 := Lib.hid (K13_3.out.below hb K13_3.out.lt); clear hv hb; (try simp only [Act.put, qA, qB, qC]))
  | ((with_reducible refine atDst 60 ?_); refine wpList_bld rfl 27 _ rfl (rxc 4 zeroS (.slice (some ⟨p3.heap.size, 0, none⟩) 2 2)) (built02 4 _ _ _ _ rfl) ?_; (try simp only [Act.put, qA, qB, qC]))
  | ((with_reducible refine atDst 61 ?_); refine wpList_two rfl (.tmp 56) (.tmp 60) rfl i0 hi0 HZ1.out hz1 (RxV.mono (XS.out.stay BP4.out) BP4.out.size) (N59_4.out) rfl rfl ?_; intro p5 hv hb; have N61_5 := Lib.hid (hv 4); have BP5 := Lib.hid (BP4.out.trans (hb.mono BP4.out.size)); have N54_5 := Lib.hid (RxV.mono (N54_4.out.stay hb) hb.size); have K13_5 := Lib.hid (K13_4.out.below hb K13_4.out.lt); have N59_5 := Lib.hid (RxV.mono (N59_4.out.stay hb) hb.size); clear hv hb; (try simp only [Act.put, qA, qB, qC]))
  | ((with_reducible refine atDst 62 ?_); refine wpList_bld rfl 27 _ rfl (rxc 4 zeroS (.slice (some ⟨p4.heap.size, 0, none⟩) 2 2)) (built02 4 _ _ _ _ rfl) ?_; (try simp only [Act.put, qA, qB, qC]))
  | ((with_reducible refine atDst 14 ?_); refine wpList_new rfl 27 rfl i0 _ z hi0 HZ0.out rfl (Below.refl p5.heap.size p5) (Nat.le_refl _) ?_; intro u14 hk hb hs ho; have KA14 := Lib.hid hk; have BA14 := Lib.hid hb; clear hk hb hs ho; (try simp only [Act.put, qA, qB, qC]))
  | ((with_reducible refine atStore 27 14 62 ?_); refine wpList_stBlk rfl 27 _ _ rfl p5.heap.size (rxc 4 zeroS (.slice (some ⟨p4.heap.size, 0, none⟩) 2 2)) rfl rfl 27 _ KA14.out (size_rx rfl) (by rw [HZL.out]; rfl) (rxc_one _ _ _ _ _) BA14.out (Nat.le_refl _) ?_; intro p6 hk hb hs ho; have K14_6 := Lib.hid hk; have BP6 := Lib.hid (BP5.out.trans (hb.mono BP5.out.size)); have N54_6 := Lib.hid (RxV.mono (N54_5.out.stay hb) hb.size); have K13_6 := Lib.hid (K13_5.out.below hb K13_5.out.lt); have N59_6 := Lib.hid (RxV.mono (N59_5.out.stay hb) hb.size); have N61_6 := Lib.hid (RxV.mono (N61_5.out.stay hb) hb.size); clear hk hb hs ho; (try simp only [Act.put, qA, qB, qC]))
  | ((with_reducible refine atDst 63 ?_); refine wpList_ldArr rfl 27 _ rfl w7.heap.size rfl 27 _ _ (LS.out.below BP6.out LS.out.lt) Try.underlying27 rfl (size_rx C6.out) ?_; (try simp only [Act.put, qA, qB, qC]))
  | ((with_reducible refine atDst 64 ?_); refine wpList_ldArr rfl 27 _ rfl w8.heap.size rfl 27 _ _ (MS.out.below BP6.out MS.out.lt) Try.underlying27 rfl (size_rx D6.out) ?_; (try simp only [Act.put, qA, qB, qC]))
  | ((with_reducible refine atDst 65 ?_); refine wpList_ldArr rfl 27 _ rfl w9.heap.size rfl 27 _ _ (NS.out.below BP6.out NS.out.lt) Try.underlying27 rfl (size_rx E6.out) ?_; (try simp only [Act.put, qA, qB, qC]))
  | ((with_reducible refine atDst 66 ?_); refine wpList_two rfl (.tmp 64) (.tmp 65) rfl i0 hi0 HZ1.out hz1 (RxV.mono (YS.out.stay BP6.out) BP6.out.size) (RxV.mono (QS.out.stay BP6.out) BP6.out.size) rfl rfl ?_; intro p7 hv hb; have N66_7 := Lib.hid (hv 5); have BP7 := Lib.hid (BP6.out.trans (hb.mono BP6.out.size)); have N54_7 := Lib.hid (RxV.mono (N54_6.out.stay hb) hb.size); have K13_7 := Lib.hid (K13_6.out.below hb K13_6.out.lt); have N61_7 := Lib.hid (RxV.mono (N61_6.out.stay hb) hb.size); have K14_7 := Lib.hid (K14_6.out.below hb K14_6.out.lt); clear hv hb; (try simp only [Act.put, qA, qB, qC]))
  | ((with_reducible refine atDst 67 ?_); refine wpList_bld rfl 27 _ rfl (rxc 5 zeroS (.slice (some ⟨p6.heap.size, 0, none⟩) 2 2)) (built02 5 _ _ _ _ rfl) ?_; (try simp only [Act.put, qA, qB, qC]))
  | ((with_reducible refine atDst 68 ?_); refine wpList_two rfl (.tmp 63) (.tmp 67) rfl i0 hi0 HZ1.out hz1 (RxV.mono (XS.out.stay BP7.out) BP7.out.size) (N66_7.out) rfl rfl ?_; intro p8 hv hb; have N68_8 := Lib.hid (hv 4); have BP8 := Lib.hid (BP7.out.trans (hb.mono BP7.out.size)); have N54_8 := Lib.hid (RxV.mono (N54_7.out.stay hb) hb.size); have K13_8 := Lib.hid (K13_7.out.below hb K13_7.out.lt); have N61_8 := Lib.hid (RxV.mono (N61_7.out.stay hb) hb.size); have K14_8 := Lib.hid (K14_7.out.below hb K14_7.out.lt); have N66_8 := Lib.hid (RxV.mono (N66_7.out.stay hb) hb.size); clear hv hb; (try simp only [Act.put, qA, qB, qC]))
  | ((with_reducible refine atDst 69 ?_); refine wpList_bld rfl 27 _ rfl (rxc 4 zeroS (.slice (some ⟨p7.heap.size, 0, none⟩) 2 2)) (built02 4 _ _ _ _ rfl) ?_; (try simp only [Act.put, qA, qB, qC]))
  | ((with_reducible refine atDst 15 ?_); refine wpList_new rfl 27 rfl i0 _ z hi0 HZ0.out rfl (Below.refl p8.heap.size p8) (Nat.le_refl _) ?_; intro u15 hk hb hs ho; have KA15 := Lib.hid hk; have BA15 := Lib.hid hb; clear hk hb hs ho; (try simp only [Act.put, qA, qB, qC]))
  | ((with_reducible refine atStore 27 15 69 ?_); refine wpList_stBlk rfl 27 _ _ rfl p8.heap.size (rxc 4 zeroS (.slice (some ⟨p7.heap.size, 0, none⟩) 2 2)) rfl rfl 27 _ KA15.out (size_rx rfl) (by rw [HZL.out]; rfl) (rxc_one _ _ _ _ _) BA15.out (Nat.le_refl _) ?_; intro p9 hk hb hs ho; have K15_9 := Lib.hid hk; have BP9 := Lib.hid (BP8.out.trans (hb.mono BP8.out.size)); have N54_9 := Lib.hid (RxV.mono (N54_8.out.stay hb) hb.size); have K13_9 := Lib.hid (K13_8.out.below hb K13_8.out.lt); have N61_9 := Lib.hid (RxV.mono (N61_8.out.stay hb) hb.size); have K14_9 := Lib.hid (K14_8.out.below hb K14_8.out.lt); have N66_9 := Lib.hid (RxV.mono (N66_8.out.stay hb) hb.size); have N68_9 := Lib.hid (RxV.mono (N68_8.out.stay hb) hb.size); clear hk hb hs ho; (try simp only [Act.put, qA, qB, qC]))
  | ((with_reducible refine atDst 70 ?_); refine wpList_ldArr rfl 27 _ rfl w7.heap.size rfl 27 _ _ (LS.out.below BP9.out LS.out.lt) Try.underlying27 rfl (size_rx C6.out) ?_; (try simp only [Act.put, qA, qB, qC]))
  | ((with_reducible refine atDst 71 ?_); refine wpList_ldArr rfl 27 _ rfl w9.heap.size rfl 27 _ _ (NS.out.below BP9.out NS.out.lt) Try.underlying27 rfl (size_rx E6.out) ?_; (try simp only [Act.put, qA, qB, qC]))
  | ((with_reducible refine atDst 72 ?_); refine wpList_two rfl (.tmp 70) (.tmp 71) rfl i0 hi0 HZ1.out hz1 (RxV.mono (XS.out.stay BP9.out) BP9.out.size) (RxV.mono (QS.out.stay BP9.out) BP9.out.size) rfl rfl ?_; intro p10 hv hb; have N72_10 := Lib.hid (hv 4); have BP10 := Lib.hid (BP9.out.trans (hb.mono BP9.out.size)); have N54_10 := Lib.hid (RxV.mono (N54_9.out.stay hb) hb.size); have K13_10 := Lib.hid (K13_9.out.below hb K13_9.out.lt); have N61_10 := Lib.hid (RxV.mono (N61_9.out.stay hb) hb.size); have K14_10 := Lib.hid (K14_9.out.below hb K14_9.out.lt); have N68_10 := Lib.hid (RxV.mono (N68_9.out.stay hb) hb.size); have K15_10 := Lib.hid (K15_9.out.below hb K15_9.out.lt); clear hv hb; (try simp only [Act.put, qA, qB, qC]))
  | ((with_reducible refine atDst 73 ?_); refine wpList_bld rfl 27 _ rfl (rxc 4 zeroS (.slice (some ⟨p9.heap.size, 0, none⟩) 2 2)) (built02 4 _ _ _ _ rfl) ?_; (try simp only [Act.put, qA, qB, qC]))
  | ((with_reducible refine atDst 74 ?_); refine wpList_ldArr rfl 27 _ rfl w7.heap.size rfl 27 _ _ (LS.out.below BP10.out LS.out.lt) Try.underlying27 rfl (size_rx C6.out) ?_; (try simp only [Act.put, qA, qB, qC]))
  | ((with_reducible refine atDst 75 ?_); refine wpList_ldArr rfl 27 _ rfl w8.heap.size rfl 27 _ _ (MS.out.below BP10.out MS.out.lt) Try.underlying27 rfl (size_rx D6.out) ?_; (try simp only [Act.put, qA, qB, qC]))
  | ((with_reducible refine atDst 76 ?_); refine wpList_two rfl (.tmp 74) (.tmp 75) rfl i0 hi0 HZ1.out hz1 (RxV.mono (XS.out.stay BP10.out) BP10.out.size) (RxV.mono (YS.out.stay BP10.out) BP10.out.size) rfl rfl ?_; intro p11 hv hb; have N76_11 := Lib.hid (hv 4); have BP11 := Lib.hid (BP10.out.trans (hb.mono BP10.out.size)); have N54_11 := Lib.hid (RxV.mono (N54_10.out.stay hb) hb.size); have K13_11 := Lib.hid (K13_10.out.below hb K13_10.out.lt); have N61_11 := Lib.hid (RxV.mono (N61_10.out.stay hb) hb.size); have K14_11 := Lib.hid (K14_10.out.below hb K14_10.out.lt); have N68_11 := Lib.hid (RxV.mono (N68_10.out.stay hb) hb.size); have K15_11 := Lib.hid (K15_10.out.below hb K15_10.out.lt); have N72_11 := Lib.hid (RxV.mono (N72_10.out.stay hb) hb.size); clear hv hb; (try simp only [Act.put, qA, qB, qC]))
  | ((with_reducible refine atDst 77 ?_); refine wpList_bld rfl 27 _ rfl (rxc 4 zeroS (.slice (some ⟨p10.heap.size, 0, none⟩) 2 2)) (built02 4 _ _ _ _ rfl) ?_; (try simp only [Act.put, qA, qB, qC]))
  | ((with_reducible refine atDst 78 ?_); refine wpList_ldArr rfl 27 _ rfl w7.heap.size rfl 27 _ _ (LS.out.below BP11.out LS.out.lt) Try.underlying27 rfl (size_rx C6.out) ?_; (try simp only [Act.put, qA, qB, qC]))
  | ((with_reducible refine atDst 79 ?_); refine wpList_ldArr rfl 27 _ rfl w8.heap.size rfl 27 _ _ (MS.out.below BP11.out MS.out.lt) Try.underlying27 rfl (size_rx D6.out) ?_; (try simp only [Act.put, qA, qB, qC]))
  | ((with_reducible refine atDst 80 ?_); refine wpList_two rfl (.tmp 78) (.tmp 79) rfl i0 hi0 HZ1.out hz1 (RxV.mono (XS.out.stay BP11.out) BP11.out.size) (RxV.mono (YS.out.stay BP11.out) BP11.out.size) rfl rfl ?_; intro p12 hv hb; have N80_12 := Lib.hid (hv 4); have BP12 := Lib.hid (BP11.out.trans (hb.mono BP11.out.size)); have N54_12 := Lib.hid (RxV.mono (N54_11.out.stay hb) hb.size); have K13_12 := Lib.hid (K13_11.out.below hb K13_11.out.lt); have N61_12 := Lib.hid (RxV.mono (N61_11.out.stay hb) hb.size); have K14_12 := Lib.hid (K14_11.out.below hb K14_11.out.lt); have N68_12 := Lib.hid (RxV.mono (N68_11.out.stay hb) hb.size); have K15_12 := Lib.hid (K15_11.out.below hb K15_11.out.lt); have N72_12 := Lib.hid (RxV.mono (N72_11.out.stay hb) hb.size); have N76_12 := Lib.hid (RxV.mono (N76_11.out.stay hb) hb.size); clear hv hb; (try simp only [Act.put, qA, qB, qC]))
  | ((with_reducible refine atDst 81 ?_); refine wpList_bld rfl 27 _ rfl (rxc 4 zeroS (.slice (some ⟨p11.heap.size, 0, none⟩) 2 2)) (built02 4 _ _ _ _ rfl) ?_; (try simp only [Act.put, qA, qB, qC]))
  | ((with_reducible refine atDst 82 ?_); refine wpList_three rfl (.tmp 73) (.tmp 77) (.tmp 81) rfl i0 hi0 HZ1.out hz1 (N72_12.out) (N76_12.out) (N80_12.out) rfl rfl rfl ?_; intro p13 hv hb; have N82_13 := Lib.hid (hv 5); have BP13 := Lib.hid (BP12.out.trans (hb.mono BP12.out.size)); have N54_13 := Lib.hid (RxV.mono (N54_12.out.stay hb) hb.size); have K13_13 := Lib.hid (K13_12.out.below hb K13_12.out.lt); have N61_13 := Lib.hid (RxV.mono (N61_12.out.stay hb) hb.size); have K14_13 := Lib.hid (K14_12.out.below hb K14_12.out.lt); have N68_13 := Lib.hid (RxV.mono (N68_12.out.stay hb) hb.size); have K15_13 := Lib.hid (K15_12.out.below hb K15_12.out.lt); have N72_13 := Lib.hid (RxV.mono (N72_12.out.stay hb) hb.size); have N76_13 := Lib.hid (RxV.mono (N76_12.out.stay hb) hb.size); have N80_13 := Lib.hid (RxV.mono (N80_12.out.stay hb) hb.size); clear hv hb; (try simp only [Act.put, qA, qB, qC]))
  | ((with_reducible refine atDst 83 ?_); refine wpList_bld rfl 27 _ rfl (rxc 5 zeroS (.slice (some ⟨p12.heap.size, 0, none⟩) 3 3)) (built02 5 _ _ _ _ rfl) ?_; (try simp only [Act.put, qA, qB, qC]))
  | ((with_reducible refine atDst 16 ?_); refine wpList_new rfl 27 rfl i0 _ z hi0 HZ0.out rfl (Below.refl p13.heap.size p13) (Nat.le_refl _) ?_; intro u16 hk hb hs ho; have KA16 := Lib.hid hk; have BA16 := Lib.hid hb; clear hk hb hs ho; (try simp only [Act.put, qA, qB, qC]))
  | ((with_reducible refine atStore 27 16 83 ?_); refine wpList_stBlk rfl 27 _ _ rfl p13.heap.size (rxc 5 zeroS (.slice (some ⟨p12.heap.size, 0, none⟩) 3 3)) rfl rfl 27 _ KA16.out (size_rx rfl) (by rw [HZL.out]; rfl) (rxc_one _ _ _ _ _) BA16.out (Nat.le_refl _) ?_; intro p14 hk hb hs ho; have K16_14 := Lib.hid hk; have BP14 := Lib.hid (BP13.out.trans (hb.mono BP13.out.size)); have N54_14 := Lib.hid (RxV.mono (N54_13.out.stay hb) hb.size); have K13_14 := Lib.hid (K13_13.out.below hb K13_13.out.lt); have N61_14 := Lib.hid (RxV.mono (N61_13.out.stay hb) hb.size); have K14_14 := Lib.hid (K14_13.out.below hb K14_13.out.lt); have N68_14 := Lib.hid (RxV.mono (N68_13.out.stay hb) hb.size); have K15_14 := Lib.hid (K15_13.out.below hb K15_13.out.lt); have N72_14 := Lib.hid (RxV.mono (N72_13.out.stay hb) hb.size); have N76_14 := Lib.hid (RxV.mono (N76_13.out.stay hb) hb.size); have N80_14 := Lib.hid (RxV.mono (N80_13.out.stay hb) hb.size); have N82_14 := Lib.hid (RxV.mono (N82_13.out.stay hb) hb.size); clear hk hb hs ho; (try simp only [Act.put, qA, qB, qC])))
 have BE := Lib.hid (BS.out.trans (BP14.out.mono BS.out.size))
 have RE := Lib.hid (RS.out.below BP14.out)
 have HR13 := Lib.hid (show p14.rangeAt p2.heap.size 0 (rxc 4 zeroS (.slice (some ⟨p1.heap.size, 0, none⟩) 2 2)) from fun i v hv => (K13_14.out.cell (0 + i)).trans (by rw [Nat.zero_add]; exact hv))
 have HR14 := Lib.hid (show p14.rangeAt p5.heap.size 0 (rxc 4 zeroS (.slice (some ⟨p4.heap.size, 0, none⟩) 2 2)) from fun i v hv => (K14_14.out.cell (0 + i)).trans (by rw [Nat.zero_add]; exact hv))
 have HR15 := Lib.hid (show p14.rangeAt p8.heap.size 0 (rxc 4 zeroS (.slice (some ⟨p7.heap.size, 0, none⟩) 2 2)) from fun i v hv => (K15_14.out.cell (0 + i)).trans (by rw [Nat.zero_add]; exact hv))
 have HR16 := Lib.hid (show p14.rangeAt p13.heap.size 0 (rxc 5 zeroS (.slice (some ⟨p12.heap.size, 0, none⟩) 3 3)) from fun i v hv => (K16_14.out.cell (0 + i)).trans (by rw [Nat.zero_add]; exact hv))
 have HxL := Lib.hid (LS.out.below BP14.out LS.out.lt).lt
 have HRx := Lib.hid (show p14.rangeAt w7.heap.size 0 cs from fun i u hv => ((LS.out.below BP14.out LS.out.lt).cell (0 + i)).trans (by rw [Nat.zero_add]; exact hv))
 have Fx := Lib.hid (RxV.mono (XS.out.stay BP14.out) BP14.out.size)
 have HyL := Lib.hid (MS.out.below BP14.out MS.out.lt).lt
 have HRy := Lib.hid (show p14.rangeAt w8.heap.size 0 ds from fun i u hv => ((MS.out.below BP14.out MS.out.lt).cell (0 + i)).trans (by rw [Nat.zero_add]; exact hv))
 have Fy := Lib.hid (RxV.mono (YS.out.stay BP14.out) BP14.out.size)
 have HzL := Lib.hid (NS.out.below BP14.out NS.out.lt).lt
 have HRz := Lib.hid (show p14.rangeAt w9.heap.size 0 es from fun i u hv => ((NS.out.below BP14.out NS.out.lt).cell (0 + i)).trans (by rw [Nat.zero_add]; exact hv))
 have Fz := Lib.hid (RxV.mono (QS.out.stay BP14.out) BP14.out.size)
 have HSL := Lib.hid (same_left x y q W)
 have HSC := Lib.hid (same_cat x y q W)
 have HSO := Lib.hid (same_over x y q W)
 obtain ⟨a, ha⟩ : ∃ b, b = lgB (.node 4 zeroS [.node 4 zeroS [x, y], q]) W := ⟨_, rfl⟩
 obtain ⟨b, hb⟩ : ∃ b, b = lgB (.node 4 zeroS [x, .node 5 zeroS [y, q]]) W := ⟨_, rfl⟩
 have HA := Lib.hid ha
 have HB := Lib.hid hb
 rw [← ha] at HSL HSC
 rw [← hb] at HSO
 clear ha hb
 have ha2 : (a == a) = true := by simp
 have hb2 : (b == b) = true := by simp
 refine sg_start (S := fun V => p14.grownBy V none) (by kernel_rfl) (grown_start _ _) (fun wd hwd => ?_)
 have hX : p14.grownBy wd none := by rw [hwd]; exact grown_start _ _
 have hwb : Below p14.heap.size p14 wd := by rw [hwd]; exact (Below.refl _ _).drew
 clear hwd
 refine sg_take (i := 0) (oi := ⟨some 84, _, _, _, _, _⟩) (v := .agg (rxc 4 zeroS (.slice (some ⟨p1.heap.size, 0, none⟩) 2 2)).toArray) rfl (by kernel_rfl) (by kernel_rfl) (by kernel_rfl) (fun _ _ _ h => h) rfl hX (fun V hV => ld_keep 27 _ rfl p2.heap.size 0 rfl _ _ HR13.out (hV.block _ K13_14.out.lt (by simp)) Try.underlying27 rfl (size_rx rfl)) ?_; simp only [Act.put, qA, qB, qC]
 refine sg_take (i := 1) (oi := ⟨some 85, _, _, _, _, _⟩) (v := ?_) rfl (by kernel_rfl) (by kernel_rfl) (by kernel_rfl) (fun _ _ _ h => h) rfl hX ?_ ?_; rotate_left; (intro W hW; go_simp; try with_reducible rfl); simp only [Act.put, qA, qB, qC]
 refine sg_take (i := 3) (oi := ⟨some 87, _, _, _, _, _⟩) (v := .agg (rxc 4 zeroS (.slice (some ⟨p4.heap.size, 0, none⟩) 2 2)).toArray) rfl (by kernel_rfl) (by kernel_rfl) (by kernel_rfl) (fun _ _ _ h => h) rfl hX (fun V hV => ld_keep 27 _ rfl p5.heap.size 0 rfl _ _ HR14.out (hV.block _ K14_14.out.lt (by simp)) Try.underlying27 rfl (size_rx rfl)) ?_; simp only [Act.put, qA, qB, qC]
 refine sg_take (i := 4) (oi := ⟨some 88, _, _, _, _, _⟩) (v := ?_) rfl (by kernel_rfl) (by kernel_rfl) (by kernel_rfl) (fun _ _ _ h => h) rfl hX ?_ ?_; rotate_left; (intro W hW; go_simp; try with_reducible rfl); simp only [Act.put, qA, qB, qC]
 refine sg_actB (i := 2) (o := ⟨some 86, _, _, _, _, _⟩) rfl (by kernel_rfl) rfl hX (fun K hK => ?_)
 go_wp2_with fail
 refine (lIn_any _ HNA.out W HW2.out _ _ wd (RE.out.below hwb) (RxV.mono (N54_14.out.stay hwb) hwb.size)).mono ?_
 rintro e wa ⟨rfl, hb⟩
 rw [← HA.out]
 go_wp2_with fail
 refine hK _ _ (grown_then hX hb) ?_
 clear hK K
 (try simp only [Act.put, qA, qB, qC])
 replace hX := grown_then hX hb
 replace hwb := hwb.trans (hb.mono hwb.size)
 clear hb
 refine sg_actB (i := 5) (o := ⟨some 89, _, _, _, _, _⟩) rfl (by kernel_rfl) rfl hX (fun K hK => ?_)
 go_wp2_with fail
 refine (lIn_any _ HNB.out W HW2.out _ _ wa (RE.out.below hwb) (RxV.mono (N61_14.out.stay hwb) hwb.size)).mono ?_
 rintro e wb ⟨rfl, hb⟩
 rw [HSL.out]
 go_wp2_with fail
 refine hK _ _ (grown_then hX hb) ?_
 clear hK K
 (try simp only [Act.put, qA, qB, qC])
 replace hX := grown_then hX hb
 replace hwb := hwb.trans (hb.mono hwb.size)
 clear hb
 refine sg_take (i := 6) (oi := ⟨some 90, _, _, _, _, _⟩) (v := ?_) rfl (by kernel_rfl) (by kernel_rfl) (by kernel_rfl) (fun _ _ _ h => h) rfl hX ?_ ?_; rotate_left; (intro W hW; go_simp; try with_reducible rfl); simp only [Act.put, qA, qB, qC]
 refine sg_take (i := 7) (oi := ⟨some 91, _, _, _, _, _⟩) (v := ?_) rfl (by kernel_rfl) (by kernel_rfl) (by kernel_rfl) (fun _ _ _ h => h) rfl hX ?_ ?_; rotate_left; (intro W hW; go_simp; try with_reducible rfl); simp only [Act.put, qA, qB, qC]
 refine sg_take (i := 8) (oi := ⟨some 92, _, _, _, _, _⟩) (v := .agg (rxc 4 zeroS (.slice (some ⟨p1.heap.size, 0, none⟩) 2 2)).toArray) rfl (by kernel_rfl) (by kernel_rfl) (by kernel_rfl) (fun _ _ _ h => h) rfl hX (fun V hV => ld_keep 27 _ rfl p2.heap.size 0 rfl _ _ HR13.out (hV.block _ K13_14.out.lt (by simp)) Try.underlying27 rfl (size_rx rfl)) ?_; simp only [Act.put, qA, qB, qC]
 refine sg_take (i := 9) (oi := ⟨some 93, _, _, _, _, _⟩) (v := ?_) rfl (by kernel_rfl) (by kernel_rfl) (by kernel_rfl) (fun _ _ _ h => h) rfl hX ?_ ?_; rotate_left; (intro W hW; go_simp; try with_reducible rfl); simp only [Act.put, qA, qB, qC]
 refine sg_take (i := 11) (oi := ⟨some 95, _, _, _, _, _⟩) (v := .agg cs.toArray) rfl (by kernel_rfl) (by kernel_rfl) (by kernel_rfl) (fun _ _ _ h => h) rfl hX (fun V hV => ld_keep 27 _ rfl w7.heap.size 0 rfl _ _ HRx.out (hV.block _ HxL.out (by simp)) Try.underlying27 rfl (size_rx C6.out)) ?_; simp only [Act.put, qA, qB, qC]
 refine sg_take (i := 12) (oi := ⟨some 96, _, _, _, _, _⟩) (v := .agg ds.toArray) rfl (by kernel_rfl) (by kernel_rfl) (by kernel_rfl) (fun _ _ _ h => h) rfl hX (fun V hV => ld_keep 27 _ rfl w8.heap.size 0 rfl _ _ HRy.out (hV.block _ HyL.out (by simp)) Try.underlying27 rfl (size_rx D6.out)) ?_; simp only [Act.put, qA, qB, qC]
 refine sg_take (i := 13) (oi := ⟨some 97, _, _, _, _, _⟩) (v := .agg es.toArray) rfl (by kernel_rfl) (by kernel_rfl) (by kernel_rfl) (fun _ _ _ h => h) rfl hX (fun V hV => ld_keep 27 _ rfl w9.heap.size 0 rfl _ _ HRz.out (hV.block _ HzL.out (by simp)) Try.underlying27 rfl (size_rx E6.out)) ?_; simp only [Act.put, qA, qB, qC]
 refine sg_take (i := 16) (oi := ⟨some 100, _, _, _, _, _⟩) (v := ?_) rfl (by kernel_rfl) (by kernel_rfl) (by kernel_rfl) (fun _ _ _ h => h) rfl hX ?_ ?_; rotate_left; (intro W hW; go_simp; try with_reducible rfl); simp only [Act.put, qA, qB, qC]
 refine sg_two (i := 10) (j := 14) (oi := ⟨some 94, _, _, _, _, _⟩) (oj := ⟨some 98, _, _, _, _, _⟩) rfl rfl (by kernel_rfl) rfl rfl hX (fun K hK => ?_) (fun K hK => ?_)
 ·go_wp2_with fail
  refine (lIn_any _ HNA.out W HW2.out _ _ wb (RE.out.below hwb) (RxV.mono (N54_14.out.stay hwb) hwb.size)).mono ?_
  rintro e wc ⟨rfl, hb⟩
  rw [← HA.out]
  go_wp2_with fail
  refine hK _ _ (grown_then hX hb) ?_
  clear hK K
  (try simp only [Act.put, qA, qB, qC])
  replace hX := grown_then hX hb
  replace hwb := hwb.trans (hb.mono hwb.size)
  clear hb
  refine sg_actB (i := 14) (o := ⟨some 98, _, _, _, _, _⟩) rfl (by kernel_rfl) rfl hX (fun K hK => ?_)
  refine wp_bldT3 _ 27 (.tmp 95) (.tmp 96) (.tmp 97) rfl i0 Try.underlying25 hi0 HZ1.out hz1 cs ds es C6.out D6.out E6.out rfl rfl rfl ?_
  intro we hk hb hs
  refine hK _ _ (grown_then hX hb) ?_
  clear hK K
  (try simp only [Act.put, qA, qB, qC])
  replace hX := grown_then hX hb
  replace hwb := hwb.trans (hb.mono hwb.size)
  have HRT := Lib.hid (row_three hk (RxV.mono (Fx.out.stay hwb) hwb.size) (RxV.mono (Fy.out.stay hwb) hwb.size) (RxV.mono (Fz.out.stay hwb) hwb.size) hk.lt)
  clear hk hb hs
  refine sg_actB (i := 15) (o := ⟨some 99, _, _, _, _, _⟩) rfl (by kernel_rfl) rfl hX (fun K hK => ?_)
  go_wp2_with fail
  refine (refCat_any [x, y, q] _ we HRT.out HN2.out).mono ?_
  rintro e wf ⟨fs, rfl, hfs, hb⟩
  have HFS := Lib.hid (show RxV wf.heap.size wf fs (catT [x, y, q]) from RxD.mono hfs fun k hk => hk.2)
  clear hfs
  go_wp2_with fail
  refine hK _ _ (grown_then hX hb) ?_
  clear hK K
  (try simp only [Act.put, qA, qB, qC])
  replace hX := grown_then hX hb
  replace hwb := hwb.trans (hb.mono hwb.size)
  clear hb
  refine sg_actB (i := 17) (o := ⟨some 101, _, _, _, _, _⟩) rfl (by kernel_rfl) rfl hX (fun K hK => ?_)
  go_wp2_with fail
  refine (lIn_any (catT [x, y, q]) HCT.out W HW2.out _ fs wf (RE.out.below hwb) HFS.out).mono ?_
  rintro e wg ⟨rfl, hb⟩
  rw [HSC.out]
  go_wp2_with fail
  refine hK _ _ (grown_then hX hb) ?_
  clear hK K
  (try simp only [Act.put, qA, qB, qC])
  replace hX := grown_then hX hb
  replace hwb := hwb.trans (hb.mono hwb.size)
  clear hb
  refine sg_take (i := 18) (oi := ⟨some 102, _, _, _, _, _⟩) (v := ?_) rfl (by kernel_rfl) (by kernel_rfl) (by kernel_rfl) (fun _ _ _ h => h) rfl hX ?_ ?_; rotate_left; (intro W hW; go_simp; try with_reducible rfl); simp only [Act.put, qA, qB, qC]
  refine sg_take (i := 19) (oi := ⟨some 103, _, _, _, _, _⟩) (v := ?_) rfl (by kernel_rfl) (by kernel_rfl) (by kernel_rfl) (fun _ _ _ h => h) rfl hX ?_ ?_; rotate_left; (intro W hW; go_simp; try with_reducible rfl); simp only [Act.put, qA, qB, qC]
  refine sg_take (i := 20) (oi := ⟨some 104, _, _, _, _, _⟩) (v := ?_) rfl (by kernel_rfl) (by kernel_rfl) (by kernel_rfl) (fun _ _ _ h => h) rfl hX ?_ ?_; rotate_left; (intro W hW; go_simp; try with_reducible rfl); simp only [Act.put, qA, qB, qC]
  refine sg_take (i := 21) (oi := ⟨some 105, _, _, _, _, _⟩) (v := .agg (rxc 4 zeroS (.slice (some ⟨p7.heap.size, 0, none⟩) 2 2)).toArray) rfl (by kernel_rfl) (by kernel_rfl) (by kernel_rfl) (fun _ _ _ h => h) rfl hX (fun V hV => ld_keep 27 _ rfl p8.heap.size 0 rfl _ _ HR15.out (hV.block _ K15_14.out.lt (by simp)) Try.underlying27 rfl (size_rx rfl)) ?_; simp only [Act.put, qA, qB, qC]
  refine sg_take (i := 22) (oi := ⟨some 106, _, _, _, _, _⟩) (v := ?_) rfl (by kernel_rfl) (by kernel_rfl) (by kernel_rfl) (fun _ _ _ h => h) rfl hX ?_ ?_; rotate_left; (intro W hW; go_simp; try with_reducible rfl); simp only [Act.put, qA, qB, qC]
  refine sg_take (i := 24) (oi := ⟨some 108, _, _, _, _, _⟩) (v := .agg (rxc 5 zeroS (.slice (some ⟨p12.heap.size, 0, none⟩) 3 3)).toArray) rfl (by kernel_rfl) (by kernel_rfl) (by kernel_rfl) (fun _ _ _ h => h) rfl hX (fun V hV => ld_keep 27 _ rfl p13.heap.size 0 rfl _ _ HR16.out (hV.block _ K16_14.out.lt (by simp)) Try.underlying27 rfl (size_rx rfl)) ?_; simp only [Act.put, qA, qB, qC]
  refine sg_take (i := 25) (oi := ⟨some 109, _, _, _, _, _⟩) (v := ?_) rfl (by kernel_rfl) (by kernel_rfl) (by kernel_rfl) (fun _ _ _ h => h) rfl hX ?_ ?_; rotate_left; (intro W hW; go_simp; try with_reducible rfl); simp only [Act.put, qA, qB, qC]
  refine sg_actB (i := 23) (o := ⟨some 107, _, _, _, _, _⟩) rfl (by kernel_rfl) rfl hX (fun K hK => ?_)
  go_wp2_with fail
  refine (lIn_any _ HNC.out W HW2.out _ _ wg (RE.out.below hwb) (RxV.mono (N68_14.out.stay hwb) hwb.size)).mono ?_
  rintro e wh ⟨rfl, hb⟩
  rw [← HB.out]
  go_wp2_with fail
  refine hK _ _ (grown_then hX hb) ?_
  clear hK K
  (try simp only [Act.put, qA, qB, qC])
  replace hX := grown_then hX hb
  replace hwb := hwb.trans (hb.mono hwb.size)
  clear hb
  refine sg_actB (i := 26) (o := ⟨some 110, _, _, _, _, _⟩) rfl (by kernel_rfl) rfl hX (fun K hK => ?_)
  go_wp2_with fail
  refine (lIn_any _ HND.out W HW2.out _ _ wh (RE.out.below hwb) (RxV.mono (N82_14.out.stay hwb) hwb.size)).mono ?_
  rintro e wi ⟨rfl, hb⟩
  rw [HSO.out]
  go_wp2_with fail
  refine hK _ _ (grown_then hX hb) ?_
  clear hK K
  (try simp only [Act.put, qA, qB, qC])
  replace hX := grown_then hX hb
  replace hwb := hwb.trans (hb.mono hwb.size)
  clear hb
  refine sg_take (i := 27) (oi := ⟨some 111, _, _, _, _, _⟩) (v := ?_) rfl (by kernel_rfl) (by kernel_rfl) (by kernel_rfl) (fun _ _ _ h => h) rfl hX ?_ ?_; rotate_left; (intro W hW; go_simp; try with_reducible rfl); simp only [Act.put, qA, qB, qC]
  refine sg_take (i := 28) (oi := ⟨some 112, _, _, _, _, _⟩) (v := ?_) rfl (by kernel_rfl) (by kernel_rfl) (by kernel_rfl) (fun _ _ _ h => h) rfl hX ?_ ?_; rotate_left; (intro W hW; go_simp; try with_reducible rfl); simp only [Act.put, qA, qB, qC]
  refine sg_take (i := 29) (oi := ⟨some 8, _, _, _, _, _⟩) (v := ?_) rfl (by kernel_rfl) (by kernel_rfl) (by kernel_rfl) (fun _ _ _ h => h) rfl hX ?_ ?_; rotate_left; (intro W hW; go_simp; try with_reducible rfl); simp only [Act.put, qA, qB, qC]
  refine wpAnyH_done (by kernel_rfl) ?_ _
  have BZ := Lib.hid (BE.out.trans (hwb.mono BE.out.size))
  clear hX hwb
  go_wp2_with fail
  go_ret
  exact ⟨rfl, BZ.out⟩
 ·refine wp_bldT3 _ 27 (.tmp 95) (.tmp 96) (.tmp 97) rfl i0 Try.underlying25 hi0 HZ1.out hz1 cs ds es C6.out D6.out E6.out rfl rfl rfl ?_
  intro wc hk hb hs
  refine hK _ _ (grown_then hX hb) ?_
  clear hK K
  (try simp only [Act.put, qA, qB, qC])
  replace hX := grown_then hX hb
  replace hwb := hwb.trans (hb.mono hwb.size)
  have HRT := Lib.hid (row_three hk (RxV.mono (Fx.out.stay hwb) hwb.size) (RxV.mono (Fy.out.stay hwb) hwb.size) (RxV.mono (Fz.out.stay hwb) hwb.size) hk.lt)
  clear hk hb hs
  refine sg_actB (i := 10) (o := ⟨some 94, _, _, _, _, _⟩) rfl (by kernel_rfl) rfl hX (fun K hK => ?_)
  go_wp2_with fail
  refine (lIn_any _ HNA.out W HW2.out _ _ wc (RE.out.below hwb) (RxV.mono (N54_14.out.stay hwb) hwb.size)).mono ?_
  rintro e we ⟨rfl, hb⟩
  rw [← HA.out]
  have HRT2 := Lib.hid (HRT.out.below hb)
  have HRTS := Lib.hid hb.size
  go_wp2_with fail
  refine hK _ _ (grown_then hX hb) ?_
  clear hK K
  (try simp only [Act.put, qA, qB, qC])
  replace hX := grown_then hX hb
  replace hwb := hwb.trans (hb.mono hwb.size)
  clear hb
  replace HRT := Lib.hid (HRT2.out.monoX HRTS.out)
  refine sg_actB (i := 15) (o := ⟨some 99, _, _, _, _, _⟩) rfl (by kernel_rfl) rfl hX (fun K hK => ?_)
  go_wp2_with fail
  refine (refCat_any [x, y, q] _ we HRT.out HN2.out).mono ?_
  rintro e wf ⟨fs, rfl, hfs, hb⟩
  have HFS := Lib.hid (show RxV wf.heap.size wf fs (catT [x, y, q]) from RxD.mono hfs fun k hk => hk.2)
  clear hfs
  go_wp2_with fail
  refine hK _ _ (grown_then hX hb) ?_
  clear hK K
  (try simp only [Act.put, qA, qB, qC])
  replace hX := grown_then hX hb
  replace hwb := hwb.trans (hb.mono hwb.size)
  clear hb
  refine sg_actB (i := 17) (o := ⟨some 101, _, _, _, _, _⟩) rfl (by kernel_rfl) rfl hX (fun K hK => ?_)
  go_wp2_with fail
  refine (lIn_any (catT [x, y, q]) HCT.out W HW2.out _ fs wf (RE.out.below hwb) HFS.out).mono ?_
  rintro e wg ⟨rfl, hb⟩
  rw [HSC.out]
  go_wp2_with fail
  refine hK _ _ (grown_then hX hb) ?_
  clear hK K
  (try simp only [Act.put, qA, qB, qC])
  replace hX := grown_then hX hb
  replace hwb := hwb.trans (hb.mono hwb.size)
  clear hb
  refine sg_take (i := 18) (oi := ⟨some 102, _, _, _, _, _⟩) (v := ?_) rfl (by kernel_rfl) (by kernel_rfl) (by kernel_rfl) (fun _ _ _ h => h) rfl hX ?_ ?_; rotate_left; (intro W hW; go_simp; try with_reducible rfl); simp only [Act.put, qA, qB, qC]
  refine sg_take (i := 19) (oi := ⟨some 103, _, _, _, _, _⟩) (v := ?_) rfl (by kernel_rfl) (by kernel_rfl) (by kernel_rfl) (fun _ _ _ h => h) rfl hX ?_ ?_; rotate_left; (intro W hW; go_simp; try with_reducible rfl); simp only [Act.put, qA, qB, qC]
  refine sg_take (i := 20) (oi := ⟨some 104, _, _, _, _, _⟩) (v := ?_) rfl (by kernel_rfl) (by kernel_rfl) (by kernel_rfl) (fun _ _ _ h => h) rfl hX ?_ ?_; rotate_left; (intro W hW; go_simp; try with_reducible rfl); simp only [Act.put, qA, qB, qC]
  refine sg_take (i := 21) (oi := ⟨some 105, _, _, _, _, _⟩) (v := .agg (rxc 4 zeroS (.slice (some ⟨p7.heap.size, 0, none⟩) 2 2)).toArray) rfl (by kernel_rfl) (by kernel_rfl) (by kernel_rfl) (fun _ _ _ h => h) rfl hX (fun V hV => ld_keep 27 _ rfl p8.heap.size 0 rfl _ _ HR15.out (hV.block _ K15_14.out.lt (by simp)) Try.underlying27 rfl (size_rx rfl)) ?_; simp only [Act.put, qA, qB, qC]
  refine sg_take (i := 22) (oi := ⟨some 106, _, _, _, _, _⟩) (v := ?_) rfl (by kernel_rfl) (by kernel_rfl) (by kernel_rfl) (fun _ _ _ h => h) rfl hX ?_ ?_; rotate_left; (intro W hW; go_simp; try with_reducible rfl); simp only [Act.put, qA, qB, qC]
  refine sg_take (i := 24) (oi := ⟨some 108, _, _, _, _, _⟩) (v := .agg (rxc 5 zeroS (.slice (some ⟨p12.heap.size, 0, none⟩) 3 3)).toArray) rfl (by kernel_rfl) (by kernel_rfl) (by kernel_rfl) (fun _ _ _ h => h) rfl hX (fun V hV => ld_keep 27 _ rfl p13.heap.size 0 rfl _ _ HR16.out (hV.block _ K16_14.out.lt (by simp)) Try.underlying27 rfl (size_rx rfl)) ?_; simp only [Act.put, qA, qB, qC]
  refine sg_take (i := 25) (oi := ⟨some 109, _, _, _, _, _⟩) (v := ?_) rfl (by kernel_rfl) (by kernel_rfl) (by kernel_rfl) (fun _ _ _ h => h) rfl hX ?_ ?_; rotate_left; (intro W hW; go_simp; try with_reducible rfl); simp only [Act.put, qA, qB, qC]
  refine sg_actB (i := 23) (o := ⟨some 107, _, _, _, _, _⟩) rfl (by kernel_rfl) rfl hX (fun K hK => ?_)
  go_wp2_with fail
  refine (lIn_any _ HNC.out W HW2.out _ _ wg (RE.out.below hwb) (RxV.mono (N68_14.out.stay hwb) hwb.size)).mono ?_
  rintro e wh ⟨rfl, hb⟩
  rw [← HB.out]
  go_wp2_with fail
  refine hK _ _ (grown_then hX hb) ?_
  clear hK K
  (try simp only [Act.put, qA, qB, qC])
  replace hX := grown_then hX hb
  replace hwb := hwb.trans (hb.mono hwb.size)
  clear hb
  refine sg_actB (i := 26) (o := ⟨some 110, _, _, _, _, _⟩) rfl (by kernel_rfl) rfl hX (fun K hK => ?_)
  go_wp2_with fail
  refine (lIn_any _ HND.out W HW2.out _ _ wh (RE.out.below hwb) (RxV.mono (N82_14.out.stay hwb) hwb.size)).mono ?_
  rintro e wi ⟨rfl, hb⟩
  rw [HSO.out]
  go_wp2_with fail
  refine hK _ _ (grown_then hX hb) ?_
  clear hK K
  (try simp only [Act.put, qA, qB, qC])
  replace hX := grown_then hX hb
  replace hwb := hwb.trans (hb.mono hwb.size)
  clear hb
  refine sg_take (i := 27) (oi := ⟨some 111, _, _, _, _, _⟩) (v := ?_) rfl (by kernel_rfl) (by kernel_rfl) (by kernel_rfl) (fun _ _ _ h => h) rfl hX ?_ ?_; rotate_left; (intro W hW; go_simp; try with_reducible rfl); simp only [Act.put, qA, qB, qC]
  refine sg_take (i := 28) (oi := ⟨some 112, _, _, _, _, _⟩) (v := ?_) rfl (by kernel_rfl) (by kernel_rfl) (by kernel_rfl) (fun _ _ _ h => h) rfl hX ?_ ?_; rotate_left; (intro W hW; go_simp; try with_reducible rfl); simp only [Act.put, qA, qB, qC]
  refine sg_take (i := 29) (oi := ⟨some 8, _, _, _, _, _⟩) (v := ?_) rfl (by kernel_rfl) (by kernel_rfl) (by kernel_rfl) (fun _ _ _ h => h) rfl hX ?_ ?_; rotate_left; (intro W hW; go_simp; try with_reducible rfl); simp only [Act.put, qA, qB, qC]
  refine wpAnyH_done (by kernel_rfl) ?_ _
  have BZ := Lib.hid (BE.out.trans (hwb.mono BE.out.size))
  clear hX hwb
  go_wp2_with fail
  go_ret
  exact ⟨rfl, BZ.out⟩
end Go.Proofs.Ytopnpdobcagcgaa
