/-
  Texts of this proof, put together: RxX, RxPp, RegS. No statement is proved here.
-/
import Derived.Test.YteadghoojeehlaaGreatDoorXG
import Derived.Test.YteadghoojeehlaaGreatDoorXE
import Derived.Test.YteadghoojeehlaaGreatDoorXF
import Derived.Test.YteadghoojeehlaaGreatDoorXA
namespace Go.Proofs.YteadghoojeehlaaGreatDoor
open Go.RowKit
set_option linter.unusedSimpArgs false
set_option linter.unusedVariables false
theorem anyK_false {k : Int} {l : List T} (h : ∀ (i : Nat) (t : T), l[i]? = some t → t.kind ≠ k) : anyK k l = false := by
 unfold anyK
 rw [List.any_eq_false]
 intro t ht
 obtain ⟨i, hi⟩ := List.getElem?_of_mem ht
 simpa using h i t hi
theorem anyK_true {k : Int} {l : List T} {j : Nat} {t : T} (h : l[j]? = some t) (hk : t.kind = k) : anyK k l = true :=
 List.any_eq_true.2 ⟨t, List.mem_of_getElem? h, by simpa using hk⟩
set_option maxHeartbeats 8000000 in
set_option maxRecDepth 100000 in
theorem refCat_any (l : List T) (v : Value) (w : World) (hr : RowT w.heap.size w v l) (hn : nodesL l ≤ 549755813888) :
  Calls Tryz.prog 65 #[v] w fun e w' => ∃ ds, e = .returned (.agg ds.toArray) ∧ RxD (fun k => w.heap.size ≤ k ∧ k < w'.heap.size) w' ds (catT l) ∧ Below w.heap.size w w' := by
 have R := qH hr
 have HN := qH hn
 have HFN := qH (flatT_nodes 4 l)
 obtain ⟨i0, hi0, hz0, hz1, hz2⟩ := inf_rx'
 obtain ⟨z, hz⟩ : ∃ z, z = rxc 0 zeroS (.slice none 0 0) := ⟨_, rfl⟩
 have HZL := qH (show z.length = 6 by rw [hz]; rfl)
 have HZ0 := qH (show i0.zero = some (.agg z.toArray) by rw [hz]; exact hz0)
 have HZ1 := qH hz0
 clear hz hz0
 clear hr hn
 go_enter Tryz.func65, Tryz.ntmps65
 go_wp2_with ((with_reducible refine atDst 2 ?_); refine wpList_new rfl 46 rfl i0 _ z hi0 HZ0.out rfl (Below.refl w.heap.size w) (Nat.le_refl _) ?_; intro w1 hk1 hb1 hs1 _; have K1 := qH hk1; have B1 := qH hb1; have S1 := qH hs1; clear hk1 hb1 hs1; (try simp only [Act.put, qA, qB, qC]))
 refine (refFlat_any 4 l v w1 (D := fun k => k < w.heap.size) (fun k hk => Nat.lt_of_lt_of_le hk B1.out.size) (R.out.below B1.out).rowD HN.out).mono ?_
 rintro e w3 ⟨v3, rfl, ho3, hb3⟩
 have R3 := qH ho3.rowD
 have B3 := qH (B1.out.trans (hb3.mono B1.out.size))
 have K3 := qH (K1.out.below hb3 K1.out.lt)
 clear ho3 hb3
 obtain ⟨E, hE⟩ : ∃ E, E = flatT 4 l := ⟨_, rfl⟩
 have HCT := qH (show catT l = if anyK 1 E then noneT else wrapT 4 emptyT (withoutT 2 E) by rw [hE]; rfl)
 have HEN := qH (show nodesL E ≤ 549755813888 by rw [hE]; have h2 := HFN.out; have h3 := HN.out; omega)
 rw [← hE] at R3
 clear hE
 have HLE := qH (len_nodes E)
 obtain ⟨A, cap, f, rfl, h1, h2, h0, h3, h4⟩ := R3.out
 have H3 := qH h3
 have H4 := qH h4
 have G3 := qH K3.out.lt
 clear h1 h2 h0 h3 h4
 go_wp2_with fail
 go_loopw [3, 5] (fun v i wl => ∃ (v1 : Value) (j : Nat), v1 = v ∧ j ≤ E.length ∧ i = .int .i64 (j : Int) ∧ OwnT (fun k => w3.heap.size ≤ k) w3.heap.size wl v1 (withoutT 2 (E.take j)) ∧ (∀ (i : Nat) (t : T), i < j → E[i]? = some t → t.kind ≠ 1) ∧ Below w3.heap.size w3 wl) (fun _ i _ => E.length - (intOf i).toNat)
 case atStart => exact ⟨_, 0, rfl, by omega, by simp, OwnT.nil _ _ _, fun i t h => by omega, Below.refl _ _⟩
 case round =>
  obtain ⟨v1, j, rfl, hj, rfl, ho, hno, hb⟩ := hrel
  have HO := qH ho
  have HNO := qH hno
  have HBw := qH hb
  have HB := qH (B3.out.trans (hb.mono B3.out.size))
  have KR := qH (K3.out.below hb K3.out.lt)
  clear ho hno hb
  by_cases hjl : j < E.length
  ·have j1 : (j : Int) < (E.length : Int) := Int.ofNat_lt.2 hjl
   obtain ⟨b, off, rfl, hb, hrng⟩ := H3.out (by rintro rfl; simp at hjl)
   obtain ⟨u, hu⟩ : ∃ u, E[j]? = some u := ⟨_, List.getElem?_eq_getElem hjl⟩
   have HV := qH ((H4.out j u hu).keep HBw.out fun k hk => hk.2)
   have HRG := qH (range_below (hrng j hjl) HBw.out hb.2)
   obtain ⟨Au, cu, hsp, hru⟩ := HV.out.split
   have HV6 := qH HV.out.length
   have a0 := range_cell0 HRG.out (show (f j)[0]? = some (.int .i64 u.kind) by rw [hsp]; rfl)
   have HU := qH hu
   have hj62 : j ≤ 4611686018427387904 := by have := HEN.out; have := HLE.out; omega
   have e3 := wrap_one j hj62
   have e4 := wrap_one' j hj62
   have HNX := qH (withoutT_next 2 E j u hu)
   have HNL := qH (Nat.le_trans (withoutT_len 2 (E.take j)) (List.length_take_le j E))
   have HUN := qH (show u.nodes ≤ 1099511627776 by have h1 := nodes_mem (List.mem_of_getElem? hu); have h2 := HEN.out; omega)
   have HJ1 := qH (sub_next hjl)
   have HJ2 := qH (show j + 1 ≤ E.length from hjl)
   have HSW := qH HBw.out.size
   obtain ⟨cur, hcur⟩ : ∃ cur, cur = withoutT 2 (E.take j) := ⟨_, rfl⟩
   rw [← hcur] at HO HNX HNL
   have HLC := qH (show cur.length + 1 ≤ 1099511627776 by have h1 := HNL.out; have h2 := HLE.out; have h3 := HEN.out; omega)
   clear hrng hu hj62 hb hsp hru hcur
   by_cases hk1 : u.kind = 1
   ·have hkb : (u.kind == 1) = true := by simpa using hk1
    have HC := qH (show catT l = noneT by rw [HCT.out, anyK_true HU.out hk1, if_pos rfl])
    clear hk1
    go_wp2_with fail
    refine (refNone_any wr).mono ?_
    rintro e w9 ⟨ds, rfl, hd9, hb9⟩
    have DA := qH (hd9 fun _ => False)
    have D6 := qH (hd9 fun _ => False).length
    have D1 := qH (show ds.all (·.oneCell') = true from List.all_eq_true.2 (hd9 fun _ => False).one)
    have B9 := qH (HB.out.trans (hb9.mono HB.out.size))
    have K9 := qH (KR.out.below hb9 KR.out.lt)
    clear hd9 hb9
    go_wp2_with ((with_reducible refine atStore 46 2 20 ?_); refine wpList_stBlk rfl 46 _ _ rfl w.heap.size ds rfl rfl 46 _ K9.out (size_rx D6.out) (by rw [HZL.out, D6.out]) D1.out B9.out (Nat.le_refl _) ?_; intro w10 hk10 hb10 hs10 ho10; have K10 := qH hk10; have B10 := qH hb10; clear hk10 hb10 hs10 ho10; (try simp only [Act.put, qA, qB, qC]))
    refine bodyPost_ret (results_blk rfl _ _ w.heap.size 46 _ _ rfl K10.out Tryz.underlying46 rfl (size_rx D6.out)) rfl ?_
    exact ⟨ds, rfl, by rw [HC.out]; exact RxD.mono (DA.out.stay fun k hk => absurd hk id) fun k hk => absurd hk id, B10.out⟩
   ·have hkb : (u.kind == 1) = false := by simpa using hk1
    have HK1 := qH hk1
    clear hk1
    have HNO' := qH (show ∀ (i : Nat) (t : T), i < j + 1 → E[i]? = some t → t.kind ≠ 1 from fun i t hi ht => by
     by_cases hij : i = j
     ·rw [hij, HU.out] at ht
      obtain rfl := Option.some.inj ht
      exact HK1.out
     ·exact HNO.out i t (lt_of_ne hi hij) ht)
    by_cases hk2 : u.kind = 2
    ·have hkc : (u.kind != 2) = false := by simpa using hk2
     have HE := qH (show withoutT 2 (E.take (j + 1)) = cur by rw [HNX.out, if_pos hk2, List.append_nil])
     clear hk2
     go_wp2_with fail
     refine ⟨⟨_, j + 1, rfl, HJ2.out, by congr 1, by rw [HE.out]; exact HO.out, HNO'.out, HBw.out⟩, by simpa [intOf] using HJ1.out⟩
    ·have hkc : (u.kind != 2) = true := by simpa using hk2
     have HE := qH (show withoutT 2 (E.take (j + 1)) = cur ++ [u] by rw [HNX.out, if_neg hk2])
     clear hk2
     go_wp2_with ((with_reducible refine atDst 31 ?_); refine wpList_load_mid rfl 46 _ rfl b (off + j * 6) rfl (f j) _ HRG.out Tryz.underlying46 rfl (size_rx HV6.out) ?_; (try simp only [Act.put, qA, qB, qC]))
     refine (refCopy_any _ u (Nat.le_refl _) HUN.out (f j) wr (RxD.mono HV.out fun k hk => Nat.lt_of_lt_of_le hk.2 HSW.out)).mono ?_
     rintro e w6 ⟨ds, rfl, hds, hb6⟩
     have HDS := qH hds
     have HD6 := qH hds.length
     have O6 := qH (HO.out.stay hb6)
     have B6 := qH (HBw.out.trans (hb6.mono HBw.out.size))
     have HLT := qH (fun q (hq : v1.ownBlock = some q) => HO.out.lt q hq)
     clear hds hb6
     go_wp2_with (first
      | ((with_reducible refine atDst 33 ?_); refine wpList_bldT1 rfl 44 46 (.tmp 32) rfl i0 Tryz.underlying44 hi0 HZ1.out hz1 ds HD6.out rfl ?_; intro w7 hk7 hb7 hs7; have K7 := qH hk7; have O7 := qH (O6.out.stay hb7); have B7 := qH (B6.out.trans (hb7.mono B6.out.size)); have D7 := qH (RxD.mono (HDS.out.stay (w' := w7) fun q hq => hb7.block q hq.2) (D' := fun q => w3.heap.size ≤ q ∧ q < w7.heap.size ∧ some q ≠ v1.ownBlock) fun q hq => ⟨Nat.le_trans HSW.out hq.1, Nat.lt_of_lt_of_le hq.2 hb7.size, fun he => by have h1 := HLT.out q he.symm; have h2 := hq.1; omega⟩); clear hk7 hb7 hs7; (try simp only [Act.put, qA, qB, qC]))
      | ((with_reducible refine atDst 34 ?_); refine wpList_appT (D := fun q => w3.heap.size ≤ q) (base := w3.heap.size) rfl (.tmp 27) (.tmp 33) rfl i0 hi0 HZ1.out hz1 hz2 v1 _ rfl O7.out w6.heap.size 1 46 ds u rfl K7.out D7.out HLC.out B7.out.size ?_; intro v8 w8 ho8 hg8; have O8 := qH ho8; have B8 := qH (B7.out.grown hg8 B7.out.size (fun q hq => O7.out.ge q hq)); clear ho8 hg8; (try simp only [Act.put, qA, qB, qC])))
     refine ⟨⟨_, j + 1, rfl, HJ2.out, by congr 1, by rw [HE.out]; exact O8.out, HNO'.out, B8.out⟩, by simpa [intOf] using HJ1.out⟩
  ·obtain rfl : j = E.length := by omega
   have j1 : ¬ ((E.length : Int) < (E.length : Int)) := by omega
   have ho := HO.out
   rw [List.take_length] at ho
   have HAN := qH (anyK_false (k := 1) fun i t hi => HNO.out i t (List.getElem?_eq_some_iff.1 hi).1 hi)
   have HC0 := qH (show catT l = wrapT 4 emptyT (withoutT 2 E) by rw [HCT.out, HAN.out]; rfl)
   obtain ⟨P, hP⟩ : ∃ P, P = withoutT 2 E := ⟨_, rfl⟩
   rw [← hP] at ho HC0
   have O9 := qH ho
   have HSW := qH HBw.out.size
   clear ho HO hP
   match P, O9, HC0 with
   | [], O9, HC0 =>
    have HC := qH (show catT l = emptyT from HC0.out)
    obtain ⟨A3, cap3, rfl⟩ := O9.out.slice
    go_wp2_with fail
    refine (refEmpty_any wr).mono ?_
    rintro e w9 ⟨ds, rfl, hd9, hb9⟩
    have DA := qH (hd9 fun _ => False)
    have D6 := qH (hd9 fun _ => False).length
    have D1 := qH (show ds.all (·.oneCell') = true from List.all_eq_true.2 (hd9 fun _ => False).one)
    have B9 := qH (HB.out.trans (hb9.mono HB.out.size))
    have K9 := qH (KR.out.below hb9 KR.out.lt)
    clear hd9 hb9
    go_wp2_with ((with_reducible refine atStore 46 2 38 ?_); refine wpList_stBlk rfl 46 _ _ rfl w.heap.size ds rfl rfl 46 _ K9.out (size_rx D6.out) (by rw [HZL.out, D6.out]) D1.out B9.out (Nat.le_refl _) ?_; intro w10 hk10 hb10 hs10 ho10; have K10 := qH hk10; have B10 := qH hb10; clear hk10 hb10 hs10 ho10; (try simp only [Act.put, qA, qB, qC]))
    refine bodyPost_ret (results_blk rfl _ _ w.heap.size 46 _ _ rfl K10.out Tryz.underlying46 rfl (size_rx D6.out)) rfl ?_
    exact ⟨ds, rfl, by rw [HC.out]; exact RxD.mono (DA.out.stay fun k hk => absurd hk id) fun k hk => absurd hk id, B10.out⟩
   | [t], O9, HC0 =>
    have HC := qH (show catT l = t from HC0.out)
    obtain ⟨g, c3, f3, rfl, m1, m2, m3, m4, m5, m6, m7⟩ := O9.out.mid (by simp)
    have HX := qH (m7 0 t rfl)
    have D6 := qH HX.out.length
    have D1 := qH (show (f3 0).all (·.oneCell') = true from List.all_eq_true.2 HX.out.one)
    have HR0 := qH (show wr.rangeAt g 0 (f3 0) from by have := m6 0 (by simp); simpa using this)
    clear m1 m2 m3 m4 m5 m6 m7
    go_wp2_with (first
     | ((with_reducible refine atDst 44 ?_); refine wpList_load_mid rfl 46 _ rfl g 0 rfl (f3 0) _ HR0.out Tryz.underlying46 rfl (size_rx D6.out) ?_; (try simp only [Act.put, qA, qB, qC]))
     | ((with_reducible refine atStore 46 2 44 ?_); refine wpList_stBlk rfl 46 _ _ rfl w.heap.size (f3 0) rfl rfl 46 _ KR.out (size_rx D6.out) (by rw [HZL.out, D6.out]) D1.out HB.out (Nat.le_refl _) ?_; intro w10 hk10 hb10 hs10 ho10; have K10 := qH hk10; have B10 := qH hb10; have D10 := qH (RxD.mono (HX.out.stay (w' := w10) fun k hk => ho10 k (by have h1 := hk.1; have h2 := G3.out; omega)) (D' := fun k => w.heap.size ≤ k ∧ k < w10.heap.size) fun k hk => ⟨by have h1 := hk.1; have h2 := G3.out; omega, by have h1 := hk.2.1; omega⟩); clear hk10 hb10 hs10 ho10; (try simp only [Act.put, qA, qB, qC])))
    refine bodyPost_ret (results_blk rfl _ _ w.heap.size 46 _ _ rfl K10.out Tryz.underlying46 rfl (size_rx D6.out)) rfl ?_
    exact ⟨f3 0, rfl, by rw [HC.out]; exact D10.out, B10.out⟩
   | t :: u :: r, O9, HC0 =>
    obtain ⟨m, hm⟩ : ∃ m, m = t :: u :: r := ⟨_, rfl⟩
    have HM2 := qH (show 2 ≤ m.length by rw [hm]; simp)
    rw [← hm] at O9 HC0
    have HC := qH (show catT l = .node 4 zeroS m by rw [HC0.out, wrapT_many 4 _ m HM2.out])
    obtain ⟨A3, c3, rfl⟩ := O9.out.slice
    obtain ⟨c, hc⟩ : ∃ c, c = rxc 4 zeroS (.slice A3 m.length c3) := ⟨_, rfl⟩
    have HCB := qH (show Tryz.prog.built 46 [(0, .int .i64 4), (2, .slice A3 m.length c3)] = some c.toArray by rw [hc]; exact built02 4 _ A3 m.length c3 rfl)
    have D6 := qH (show c.length = 6 by rw [hc]; rfl)
    have D1 := qH (show c.all (·.oneCell') = true by rw [hc]; rfl)
    have HX := qH (show RxD (fun b => (w3.heap.size ≤ b ∨ w3.heap.size ≤ b) ∧ b < wr.heap.size) wr c (.node 4 zeroS m) by rw [hc]; exact O9.out.rx 4 zeroS)
    have m0 : ((m.length : Int) == 0) = false := by rw [beq_eq_false_iff_ne]; have := HM2.out; omega
    have m1 : ((m.length : Int) == 1) = false := by rw [beq_eq_false_iff_ne]; have := HM2.out; omega
    clear hm hc
    go_wp2_with (first
     | ((with_reducible refine atDst 46 ?_); refine wpList_bld rfl 46 _ rfl c HCB.out ?_; (try simp only [Act.put, qA, qB, qC]))
     | ((with_reducible refine atStore 46 2 46 ?_); refine wpList_stBlk rfl 46 _ _ rfl w.heap.size c rfl rfl 46 _ KR.out (size_rx D6.out) (by rw [HZL.out, D6.out]) D1.out HB.out (Nat.le_refl _) ?_; intro w10 hk10 hb10 hs10 ho10; have K10 := qH hk10; have B10 := qH hb10; have D10 := qH (RxD.mono (HX.out.stay (w' := w10) fun k hk => ho10 k (by have h1 := hk.1; have h2 := G3.out; omega)) (D' := fun k => w.heap.size ≤ k ∧ k < w10.heap.size) fun k hk => ⟨by have h1 := hk.1; have h2 := G3.out; omega, by have h1 := hk.2; omega⟩); clear hk10 hb10 hs10 ho10; (try simp only [Act.put, qA, qB, qC])))
    refine bodyPost_ret (results_blk rfl _ _ w.heap.size 46 _ _ rfl K10.out Tryz.underlying46 rfl (size_rx D6.out)) rfl ?_
    exact ⟨c, rfl, by rw [HC.out]; exact D10.out, B10.out⟩
def orT (E : List T) : Nat → Bool := fun b => E.any fun t => decide (t.kind = 3) && t.set b
def itemsT (E : List T) : List T := withoutT 3 E ++ if eqS (orT E) zeroS then [] else [.node 3 (orT E) []]
def altT (l : List T) : T := wrapT 5 noneT (sortU (itemsT (withoutT 1 (flatT 5 l))))
theorem good_flat {k : Int} {l : List T} (h : ∀ t ∈ l, good t) : ∀ t ∈ flatT k l, good t := fun t ht => by
 unfold flatT at ht
 obtain ⟨u, hu, hu2⟩ := List.mem_flatMap.1 ht
 by_cases hk : u.kind = k
 ·rw [if_pos hk] at hu2
  cases u with
  | node k' s m => exact (good_node.1 (h _ hu)).2.1 t hu2
 ·rw [if_neg hk] at hu2
  obtain rfl := List.mem_singleton.1 hu2
  exact h t hu
theorem good_without {k : Int} {l : List T} (h : ∀ t ∈ l, good t) : ∀ t ∈ withoutT k l, good t := fun t ht => h t (List.mem_filter.1 ht).1
theorem can_or {E : List T} (h : ∀ t ∈ E, good t) : canS (orT E) := fun b hb => by
 unfold orT
 rw [List.any_eq_false]
 intro t ht
 cases t with
 | node k s l =>
  have := (good_node.1 (h _ ht)).1 b hb
  simp [T.set, this]
theorem good_set {s : Nat → Bool} (hc : canS s) (hs : eqS s zeroS = false) : good (.node 3 s []) :=
 good_node.2 ⟨hc, by simp, .inl rfl, by simp [countT, hs], by simp, by simp⟩
theorem good_items {E : List T} (h : ∀ t ∈ E, good t) : ∀ t ∈ itemsT E, good t := fun t ht => by
 unfold itemsT at ht
 rcases List.mem_append.1 ht with ht | ht
 ·exact good_without h t ht
 ·cases hs : eqS (orT E) zeroS with
  | true => rw [hs] at ht; simp at ht
  | false =>
   rw [hs] at ht
   obtain rfl : t = .node 3 (orT E) [] := by simpa using ht
   exact good_set (can_or h) hs
theorem insT_nodes (r : T) : ∀ l : List T, nodesL (insT r l) ≤ r.nodes + nodesL l
 | [] => by simp [insT, nodesL]
 | a :: l => by
  have ih := insT_nodes r l
  simp only [insT]
  by_cases h1 : cmpT a r < 0
  ·rw [if_pos h1]; simp only [nodesL]; omega
  ·rw [if_neg h1]
   by_cases h2 : cmpT a r = 0
   ·rw [if_pos h2]; omega
   ·rw [if_neg h2]; simp only [nodesL]; omega
theorem sortU_nodes (l : List T) : nodesL (sortU l) ≤ nodesL l := by
 have : ∀ (m acc : List T), nodesL (m.foldl (fun acc t => insT t acc) acc) ≤ nodesL m + nodesL acc := by
  intro m
  induction m with
  | nil => intro acc; simp [nodesL]
  | cons t r ih =>
   intro acc
   have h1 := ih (insT t acc)
   have h2 := insT_nodes t acc
   rw [List.foldl_cons]
   simp only [nodesL]
   omega
 have := this l []
 simp only [nodesL] at this
 exact this
theorem itemsT_nodes (E : List T) : nodesL (itemsT E) ≤ nodesL E + 1 := by
 unfold itemsT
 have h1 := withoutT_nodes 3 E
 rw [nodesL_append]
 split
 ·simp only [nodesL]; omega
 ·simp only [nodesL, T.nodes]; omega
theorem altT_nodes (l : List T) : (altT l).nodes ≤ 3 + nodesL l := by
 unfold altT
 have h1 := wrapT_nodes 5 noneT (sortU (itemsT (withoutT 1 (flatT 5 l))))
 have h2 := sortU_nodes (itemsT (withoutT 1 (flatT 5 l)))
 have h3 := itemsT_nodes (withoutT 1 (flatT 5 l))
 have h4 := withoutT_nodes 1 (flatT 5 l)
 have h5 := flatT_nodes 5 l
 have h6 : noneT.nodes = 1 := rfl
 omega
theorem grown_at {w w1 w2 w0 : World} {g B : Nat} (h : w.grownBy w1 (some g)) (b1 : Below B w0 w1) (b2 : Below B w0 w2) (hs : w1.heap.size ≤ w2.heap.size) (ho : ∀ k, k ≠ g → w2.heap[k]? = w1.heap[k]?) : w.grownBy w2 (some g) :=
 ⟨b2.os.trans (b1.os.symm.trans h.os), b2.tape.trans (b1.tape.symm.trans h.tape), b2.output.trans (b1.output.symm.trans h.output), Nat.le_trans h.size hs, fun k hk hne => (ho k fun e => hne (by rw [e])).trans (h.block k hk hne)⟩
section
variable {P : Program} {ops : Array Oper} {Q : Exit → Act → World → Prop} {md : Region.Mode} {S : World → Prop}
theorem sxs_start {id : Nat} {a : Act} {w : World} (hm : P.follows .mixedOrders = true)
  (h : ∀ wd, wd = w.drew → wpAnyH P .any ops Q S ops.size (Array.replicate ops.size false) a wd) : (Code.region id ops true).wp P Q a w :=
 wp_region_held hm (h _ rfl)
theorem sxs_take {i : Nat} {oi : Oper} {v : Value} {fuel : Nat} {listed : Array Bool} {a : Act} {w : World} (hi : ops[i]? = some oi)
  (hs : Region.noSelect ops = true) (hf : Region.free md ops listed i = true) (hr : (Region.ready md ops listed).contains i = true)
  (hQ : ∀ c a w, Q (.panic c) (a.put oi.dst v) w → Q (.panic c) a w) (hw : Region.wanted oi (yielded ops a.tmps) = true) (hS : S w)
  (hy : ∀ W, S W → (execOp a.eval oi).run P W = .ok (.value v) W)
  (h : wpAnyH P md ops Q S fuel (listed.setIfInBounds i true) (a.put oi.dst v) w) : wpAnyH P md ops Q S (fuel + 1) listed a w :=
 wpAnyH_take hi hs hf hr hQ (.inl ⟨hw, hy⟩) hS h
theorem sxs_act {i : Nat} {o : Oper} {fuel : Nat} {listed : Array Bool} {a : Act} {w : World} (hi : ops[i]? = some o) (hr : Region.ready md ops listed = [i])
  (hw : Region.wanted o (yielded ops a.tmps) = true)
  (h : ∀ K : Act → World → Prop, (∀ a' w', S w' → wpAnyH P md ops Q S fuel (listed.setIfInBounds i true) a' w' → K a' w') → o.wp P a w K Q) :
  wpAnyH P md ops Q S (fuel + 1) listed a w := by
 refine wpAnyH_all hr (by simp) (fun j hj => ?_)
 have hji : j = i := by simpa using hj
 subst hji
 unfold wpOp
 rw [hi]
 simp only [hw, if_true]
 exact .inl (h _ fun a' w' hx hk => ⟨hx, hk⟩)
end
theorem ld_keep {P : Program} {a : Act} {oi : Oper} {w0 W : World} (ty : TypeId) (x : Operand) (ho : oi.op = .load ty x) (b o : Nat) (hx : a.eval x = .pointer (some ⟨b, o, none⟩)) (cs : List Value) (d : TypeDesc)
  (hg : w0.rangeAt b o cs) (hb : W.heap[b]? = w0.heap[b]?) (hu : P.underlying ty = some d) (hd : d.isRow = true) (hi : (P.info? ty).map (·.size) = some cs.length) :
  (execOp a.eval oi).run P W = .ok (.value (.agg cs.toArray)) W := by
 have hr : W.rangeAt b o cs := fun j v hv => by
  have := hg j v hv
  unfold World.cell? at this ⊢
  simp only [hb]
  exact this
 have hl := run_loadAt_mid (P := P) W b o ty cs d hr hu hd hi
 simp only [execOp, ho, hx, Sem.run_bind, hl, Result.andThen_ok, Sem.run_pure]
end Go.Proofs.YteadghoojeehlaaGreatDoor
