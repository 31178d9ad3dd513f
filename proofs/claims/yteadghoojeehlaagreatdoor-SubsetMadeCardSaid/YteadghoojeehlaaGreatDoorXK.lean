/-
  Texts of this proof, put together: RxZ, ShAp. No statement is proved here.
-/
import Derived.Test.YteadghoojeehlaaGreatDoorXJ
import Derived.Test.YteadghoojeehlaaGreatDoorProg
import Derived.Test.YteadghoojeehlaaGreatDoorXB
import Derived.Test.YteadghoojeehlaaGreatDoorXI
namespace Go.Proofs.YteadghoojeehlaaGreatDoor
open Go.RowKit
set_option linter.unusedSimpArgs false
set_option linter.unusedVariables false
def star1T (x : T) : T := if x.kind = 6 then x else if x.kind = 1 ∨ x.kind = 2 then emptyT else .node 6 zeroS [x]
def starT (r : T) : T := if r.kind = 5 ∧ anyK 2 r.args = true then star1T (altT (withoutT 2 r.args)) else star1T r
theorem without_all {k : Int} {l : List T} (h : anyK k l = false) : withoutT k l = l := by
 unfold withoutT
 rw [List.filter_eq_self]
 intro t ht
 unfold anyK at h
 have := List.any_eq_false.1 h t ht
 simpa using this
theorem without_less {k : Int} {l : List T} (h : anyK k l = true) : (withoutT k l).length < l.length := by
 obtain ⟨t, ht, hk⟩ := List.any_eq_true.1 h
 unfold withoutT
 rw [List.length_filter_lt_length_iff_exists]
 exact ⟨t, ht, by simpa using hk⟩
theorem refEmpty_fr (w : World) : Calls Tryz.prog 64 #[] w fun e w' => ∃ ds, e = .returned (.agg ds.toArray) ∧ RxD (fun k => w.heap.size ≤ k ∧ k < w'.heap.size) w' ds emptyT ∧ Below w.heap.size w w' :=
 (refEmpty_any w).mono fun _ _ ⟨ds, h1, h2, h3⟩ => ⟨ds, h1, h2 _, h3⟩
theorem alt_no2 {l : List T} (hg : ∀ t ∈ l, good t) (h : ∀ t ∈ l, t.kind ≠ 2 ∧ t.kind ≠ 5) : ¬ ((altT l).kind = 5 ∧ anyK 2 (altT l).args = true) := by
 have hfl : flatT 5 l = l := by
  unfold flatT
  have : ∀ m : List T, (∀ t ∈ m, t.kind ≠ 5) → m.flatMap (fun t => if t.kind = 5 then t.args else [t]) = m := by
   intro m
   induction m with
   | nil => intro _; rfl
   | cons a r ih =>
    intro hm
    rw [List.flatMap_cons, if_neg (hm a (by simp)), ih (fun t ht => hm t (by simp [ht]))]
    rfl
  exact this l fun t ht => (h t ht).2
 have hE : ∀ t ∈ withoutT 1 l, good t := good_without hg
 have hmem : ∀ t ∈ sortU (itemsT (withoutT 1 l)), t.kind ≠ 2 ∧ t.kind ≠ 5 := by
  intro t ht
  rw [sortU_mem (good_items hE)] at ht
  unfold itemsT at ht
  rcases List.mem_append.1 ht with h1 | h1
  ·exact h t (List.mem_filter.1 (List.mem_filter.1 h1).1).1
  ·split at h1
   ·simp at h1
   ·obtain rfl : t = .node 3 (orT (withoutT 1 l)) [] := by simpa using h1
    simp [T.kind]
 unfold altT
 rw [hfl]
 match hS : sortU (itemsT (withoutT 1 l)) with
 | [] => simp [wrapT, noneT, T.kind]
 | [t] =>
  have := hmem t (by rw [hS]; simp)
  rintro ⟨h1, _⟩
  exact this.2 h1
 | a :: b :: r =>
  rintro ⟨_, h2⟩
  unfold anyK at h2
  obtain ⟨t, ht, hk⟩ := List.any_eq_true.1 h2
  have : t ∈ sortU (itemsT (withoutT 1 l)) := by rw [hS]; exact ht
  exact (hmem t this).1 (by simpa using hk)
set_option maxHeartbeats 8000000 in
set_option maxRecDepth 100000 in
theorem refStar_flat (r : T) (cs : List Value) (w : World) {D : Nat → Prop} (hD : ∀ k, D k → k < w.heap.size) (hv : RxD D w cs r) (hM : r.nodes ≤ 549755813888) (hns : ¬ (r.kind = 5 ∧ anyK 2 r.args = true)) :
  Calls Tryz.prog 67 #[.agg cs.toArray] w fun e w' => ∃ ds, e = .returned (.agg ds.toArray) ∧ RxD (fun k => w.heap.size ≤ k ∧ k < w'.heap.size) w' ds (star1T r) ∧ Below w.heap.size w w' := by
 have HV := qH hv
 have HD := qH hD
 have HM := qH hM
 have HC6 := qH hv.length
 obtain ⟨Au, cu, hsp, hru⟩ := hv.split
 have HC0 := qH (show cs[0]? = some (.int .i64 r.kind) by rw [hsp]; rfl)
 have HC5 := qH (show cs[5]? = some (.slice Au r.args.length cu) by rw [hsp]; rfl)
 have HRU := qH hru
 have HNA := qH (show nodesL r.args + 1 ≤ r.nodes by cases r with | node k s l => simp only [T.args, T.nodes]; omega)
 obtain ⟨i0, hi0, hz0, hz1, hz2⟩ := inf_rx'
 obtain ⟨z, hz⟩ : ∃ z, z = rxc 0 zeroS (.slice none 0 0) := ⟨_, rfl⟩
 have HZL := qH (show z.length = 6 by rw [hz]; rfl)
 have HZ0 := qH (show i0.zero = some (.agg z.toArray) by rw [hz]; exact hz0)
 have HZ1 := qH hz0
 clear hv hD hM hsp hru hz hz0
 by_cases h6 : r.kind = 6
 ·have k6 : (r.kind == 6) = true := by simpa using h6
  have HF := qH (show star1T r = r by unfold star1T; rw [if_pos h6])
  clear h6 hns
  go_enter Tryz.func67, Tryz.ntmps67
  go_wp2_with (first
   | ((with_reducible refine atDst 1 ?_); refine wpList_box rfl 46 _ rfl cs rfl (Below.refl w.heap.size w) (Nat.le_refl _) ?_; intro w1 hk1 hb1 hs1 _; have K1 := qH hk1; have B1 := qH hb1; clear hk1 hb1 hs1; (try simp only [Act.put, qA, qB, qC]))
   | ((with_reducible refine atDst 2 ?_); refine wpList_new rfl 46 rfl i0 _ z hi0 HZ0.out rfl B1.out B1.out.size ?_; intro w2 hk2 hb2 hs2 ho2; have M2 := qH hk2; have B2 := qH hb2; have K2 := qH (show Blk w2 w.heap.size 46 cs from (ho2 _ K1.out.lt).trans K1.out); have G12 := qH K1.out.lt; have a0 := K2.out.cell 0; rw [HC0.out] at a0; have a5 := K2.out.cell 5; rw [HC5.out] at a5; clear hk2 hb2 hs2 ho2; (try simp only [Act.put, qA, qB, qC]))
   | ((with_reducible refine atDst 9 ?_); refine wpList_ldArr rfl 46 _ rfl w.heap.size rfl 46 _ _ K2.out Tryz.underlying46 rfl (size_rx HC6.out) ?_; (try simp only [Act.put, qA, qB, qC]))
   | ((with_reducible refine atDst 48 ?_); refine wpList_ldArr rfl 46 _ rfl w.heap.size rfl 46 _ _ K2.out Tryz.underlying46 rfl (size_rx HC6.out) ?_; (try simp only [Act.put, qA, qB, qC])))
  refine (refCopy_any _ r (Nat.le_refl _) (by have := HM.out; omega) cs w2 (RxD.mono (HV.out.keep B2.out HD.out) fun k hk => Nat.lt_of_lt_of_le (HD.out k hk) B2.out.size)).mono ?_
  rintro e w9 ⟨ds, rfl, hds, hb9⟩
  have DX := qH (RxD.mono hds (D' := fun k => w2.heap.size ≤ k ∧ k < w9.heap.size) (fun k hk => hk))
  have D6 := qH hds.length
  have D1 := qH (show ds.all (·.oneCell') = true from List.all_eq_true.2 hds.one)
  have B9 := qH (B2.out.trans (hb9.mono B2.out.size))
  have M9 := qH (M2.out.below hb9 M2.out.lt)
  have GM := qH M2.out.lt
  clear hds hb9
  go_wp2_with ((with_reducible refine atStore 46 2 10 ?_); refine wpList_stBlk rfl 46 _ _ rfl w1.heap.size ds rfl rfl 46 _ M9.out (size_rx D6.out) (by rw [HZL.out, D6.out]) D1.out B9.out (Nat.le_of_lt G12.out) ?_; intro w10 hk10 hb10 hs10 ho10; have K10 := qH hk10; have B10 := qH hb10; have D10 := qH (RxD.mono (DX.out.stay (w' := w10) fun k hk => ho10 k (by have h1 := hk.1; have h2 := GM.out; omega)) (D' := fun k => w.heap.size ≤ k ∧ k < w10.heap.size) fun k hk => ⟨by have h1 := hk.1; have h2 := GM.out; have h3 := G12.out; omega, by have h1 := hk.2; omega⟩); clear hk10 hb10 hs10 ho10; (try simp only [Act.put, qA, qB, qC]))
  refine bodyPost_ret (results_blk rfl _ _ w1.heap.size 46 _ _ rfl K10.out Tryz.underlying46 rfl (size_rx D6.out)) rfl ?_
  exact ⟨ds, rfl, by rw [HF.out]; exact D10.out, B10.out⟩
 ·have k6 : (r.kind == 6) = false := by simpa using h6
  by_cases h1 : r.kind = 1 ∨ r.kind = 2
  ·have HF := qH (show star1T r = emptyT by unfold star1T; rw [if_neg h6, if_pos h1])
   clear h6 hns
   rcases h1 with h1 | h1
   ·have k1 : (r.kind == 1) = true := by simpa using h1
    clear h1
    go_enter Tryz.func67, Tryz.ntmps67
    go_wp2_with (first
     | ((with_reducible refine atDst 1 ?_); refine wpList_box rfl 46 _ rfl cs rfl (Below.refl w.heap.size w) (Nat.le_refl _) ?_; intro w1 hk1 hb1 hs1 _; have K1 := qH hk1; have B1 := qH hb1; clear hk1 hb1 hs1; (try simp only [Act.put, qA, qB, qC]))
     | ((with_reducible refine atDst 2 ?_); refine wpList_new rfl 46 rfl i0 _ z hi0 HZ0.out rfl B1.out B1.out.size ?_; intro w2 hk2 hb2 hs2 ho2; have M2 := qH hk2; have B2 := qH hb2; have K2 := qH (show Blk w2 w.heap.size 46 cs from (ho2 _ K1.out.lt).trans K1.out); have G12 := qH K1.out.lt; have a0 := K2.out.cell 0; rw [HC0.out] at a0; have a5 := K2.out.cell 5; rw [HC5.out] at a5; clear hk2 hb2 hs2 ho2; (try simp only [Act.put, qA, qB, qC]))
     | ((with_reducible refine atDst 9 ?_); refine wpList_ldArr rfl 46 _ rfl w.heap.size rfl 46 _ _ K2.out Tryz.underlying46 rfl (size_rx HC6.out) ?_; (try simp only [Act.put, qA, qB, qC]))
     | ((with_reducible refine atDst 48 ?_); refine wpList_ldArr rfl 46 _ rfl w.heap.size rfl 46 _ _ K2.out Tryz.underlying46 rfl (size_rx HC6.out) ?_; (try simp only [Act.put, qA, qB, qC])))
    refine (refEmpty_fr w2).mono ?_
    rintro e w9 ⟨ds, rfl, hds, hb9⟩
    have DX := qH (RxD.mono hds (D' := fun k => w2.heap.size ≤ k ∧ k < w9.heap.size) (fun k hk => hk))
    have D6 := qH hds.length
    have D1 := qH (show ds.all (·.oneCell') = true from List.all_eq_true.2 hds.one)
    have B9 := qH (B2.out.trans (hb9.mono B2.out.size))
    have M9 := qH (M2.out.below hb9 M2.out.lt)
    have GM := qH M2.out.lt
    clear hds hb9
    go_wp2_with ((with_reducible refine atStore 46 2 14 ?_); refine wpList_stBlk rfl 46 _ _ rfl w1.heap.size ds rfl rfl 46 _ M9.out (size_rx D6.out) (by rw [HZL.out, D6.out]) D1.out B9.out (Nat.le_of_lt G12.out) ?_; intro w10 hk10 hb10 hs10 ho10; have K10 := qH hk10; have B10 := qH hb10; have D10 := qH (RxD.mono (DX.out.stay (w' := w10) fun k hk => ho10 k (by have h1 := hk.1; have h2 := GM.out; omega)) (D' := fun k => w.heap.size ≤ k ∧ k < w10.heap.size) fun k hk => ⟨by have h1 := hk.1; have h2 := GM.out; have h3 := G12.out; omega, by have h1 := hk.2; omega⟩); clear hk10 hb10 hs10 ho10; (try simp only [Act.put, qA, qB, qC]))
    refine bodyPost_ret (results_blk rfl _ _ w1.heap.size 46 _ _ rfl K10.out Tryz.underlying46 rfl (size_rx D6.out)) rfl ?_
    exact ⟨ds, rfl, by rw [HF.out]; exact D10.out, B10.out⟩
   ·have k1 : (r.kind == 1) = false := by rw [h1]; rfl
    have k2 : (r.kind == 2) = true := by simpa using h1
    clear h1
    go_enter Tryz.func67, Tryz.ntmps67
    go_wp2_with (first
     | ((with_reducible refine atDst 1 ?_); refine wpList_box rfl 46 _ rfl cs rfl (Below.refl w.heap.size w) (Nat.le_refl _) ?_; intro w1 hk1 hb1 hs1 _; have K1 := qH hk1; have B1 := qH hb1; clear hk1 hb1 hs1; (try simp only [Act.put, qA, qB, qC]))
     | ((with_reducible refine atDst 2 ?_); refine wpList_new rfl 46 rfl i0 _ z hi0 HZ0.out rfl B1.out B1.out.size ?_; intro w2 hk2 hb2 hs2 ho2; have M2 := qH hk2; have B2 := qH hb2; have K2 := qH (show Blk w2 w.heap.size 46 cs from (ho2 _ K1.out.lt).trans K1.out); have G12 := qH K1.out.lt; have a0 := K2.out.cell 0; rw [HC0.out] at a0; have a5 := K2.out.cell 5; rw [HC5.out] at a5; clear hk2 hb2 hs2 ho2; (try simp only [Act.put, qA, qB, qC]))
     | ((with_reducible refine atDst 9 ?_); refine wpList_ldArr rfl 46 _ rfl w.heap.size rfl 46 _ _ K2.out Tryz.underlying46 rfl (size_rx HC6.out) ?_; (try simp only [Act.put, qA, qB, qC]))
     | ((with_reducible refine atDst 48 ?_); refine wpList_ldArr rfl 46 _ rfl w.heap.size rfl 46 _ _ K2.out Tryz.underlying46 rfl (size_rx HC6.out) ?_; (try simp only [Act.put, qA, qB, qC])))
    refine (refEmpty_fr w2).mono ?_
    rintro e w9 ⟨ds, rfl, hds, hb9⟩
    have DX := qH (RxD.mono hds (D' := fun k => w2.heap.size ≤ k ∧ k < w9.heap.size) (fun k hk => hk))
    have D6 := qH hds.length
    have D1 := qH (show ds.all (·.oneCell') = true from List.all_eq_true.2 hds.one)
    have B9 := qH (B2.out.trans (hb9.mono B2.out.size))
    have M9 := qH (M2.out.below hb9 M2.out.lt)
    have GM := qH M2.out.lt
    clear hds hb9
    go_wp2_with ((with_reducible refine atStore 46 2 14 ?_); refine wpList_stBlk rfl 46 _ _ rfl w1.heap.size ds rfl rfl 46 _ M9.out (size_rx D6.out) (by rw [HZL.out, D6.out]) D1.out B9.out (Nat.le_of_lt G12.out) ?_; intro w10 hk10 hb10 hs10 ho10; have K10 := qH hk10; have B10 := qH hb10; have D10 := qH (RxD.mono (DX.out.stay (w' := w10) fun k hk => ho10 k (by have h1 := hk.1; have h2 := GM.out; omega)) (D' := fun k => w.heap.size ≤ k ∧ k < w10.heap.size) fun k hk => ⟨by have h1 := hk.1; have h2 := GM.out; have h3 := G12.out; omega, by have h1 := hk.2; omega⟩); clear hk10 hb10 hs10 ho10; (try simp only [Act.put, qA, qB, qC]))
    refine bodyPost_ret (results_blk rfl _ _ w1.heap.size 46 _ _ rfl K10.out Tryz.underlying46 rfl (size_rx D6.out)) rfl ?_
    exact ⟨ds, rfl, by rw [HF.out]; exact D10.out, B10.out⟩
  ·have HF := qH (show star1T r = .node 6 zeroS [r] by unfold star1T; rw [if_neg h6, if_neg h1])
   have k1 : (r.kind == 1) = false := by simpa using fun h => h1 (.inl h)
   have k2 : (r.kind == 2) = false := by simpa using fun h => h1 (.inr h)
   by_cases h5 : r.kind = 5
   ·have k5 : (r.kind == 5) = true := by simpa using h5
    have HWA := qH (show withoutT 2 r.args = r.args from without_all (by
     cases ha : anyK 2 r.args with
     | false => rfl
     | true => exact absurd ⟨h5, ha⟩ hns))
    clear h6 h1 h5 hns
    go_enter Tryz.func67, Tryz.ntmps67
    go_wp2_with (first
     | ((with_reducible refine atDst 1 ?_); refine wpList_box rfl 46 _ rfl cs rfl (Below.refl w.heap.size w) (Nat.le_refl _) ?_; intro w1 hk1 hb1 hs1 _; have K1 := qH hk1; have B1 := qH hb1; clear hk1 hb1 hs1; (try simp only [Act.put, qA, qB, qC]))
     | ((with_reducible refine atDst 2 ?_); refine wpList_new rfl 46 rfl i0 _ z hi0 HZ0.out rfl B1.out B1.out.size ?_; intro w2 hk2 hb2 hs2 ho2; have M2 := qH hk2; have B2 := qH hb2; have K2 := qH (show Blk w2 w.heap.size 46 cs from (ho2 _ K1.out.lt).trans K1.out); have G12 := qH K1.out.lt; have a0 := K2.out.cell 0; rw [HC0.out] at a0; have a5 := K2.out.cell 5; rw [HC5.out] at a5; clear hk2 hb2 hs2 ho2; (try simp only [Act.put, qA, qB, qC]))
     | ((with_reducible refine atDst 9 ?_); refine wpList_ldArr rfl 46 _ rfl w.heap.size rfl 46 _ _ K2.out Tryz.underlying46 rfl (size_rx HC6.out) ?_; (try simp only [Act.put, qA, qB, qC]))
     | ((with_reducible refine atDst 48 ?_); refine wpList_ldArr rfl 46 _ rfl w.heap.size rfl 46 _ _ K2.out Tryz.underlying46 rfl (size_rx HC6.out) ?_; (try simp only [Act.put, qA, qB, qC])))
    go_loopw [3, 4] (fun v i wl => ∃ (v1 : Value) (j : Nat), v1 = v ∧ j ≤ r.args.length ∧ i = .int .i64 (j : Int) ∧ OwnT D w2.heap.size wl v1 (withoutT 2 (r.args.take j)) ∧ Below w2.heap.size w2 wl) (fun _ i _ => r.args.length - (intOf i).toNat)
    case atStart => exact ⟨_, 0, rfl, by omega, by simp, OwnT.nil _ _ _, Below.refl _ _⟩
    case round =>
     obtain ⟨v1, j, rfl, hj, rfl, ho, hb⟩ := hrel
     have HO := qH ho
     have HBw := qH hb
     have HB := qH (B2.out.trans (hb.mono B2.out.size))
     have KR := qH (K2.out.below hb K2.out.lt)
     have MR := qH (M2.out.below hb M2.out.lt)
     have r5 := KR.out.cell 5
     rw [HC5.out] at r5
     have HSW := qH hb.size
     clear ho hb
     by_cases hjl : j < r.args.length
     ·have j1 : (j : Int) < (r.args.length : Int) := Int.ofNat_lt.2 hjl
      obtain ⟨Ax, cx, f, hex, h1, h2, h0, h3, h4⟩ := HRU.out
      injection hex with hex1 hex2 hex3
      subst hex1 hex3
      obtain ⟨b, off, rfl, hb, hrng⟩ := h3 (by intro he; rw [he] at hjl; simp at hjl)
      obtain ⟨u, hu⟩ : ∃ u, r.args[j]? = some u := ⟨_, List.getElem?_eq_getElem hjl⟩
      have HX := qH (h4 j u hu)
      have HVU := qH (HX.out.keep HB.out HD.out)
      have HRG := qH (range_below (hrng j hjl) HB.out (HD.out b hb))
      obtain ⟨Aw, cw, hsw, hrw⟩ := HVU.out.split
      have HV6 := qH HVU.out.length
      have c0 := range_cell0 HRG.out (show (f j)[0]? = some (.int .i64 u.kind) by rw [hsw]; rfl)
      have HLA := qH (len_nodes r.args)
      have hj62 : j ≤ 4611686018427387904 := by have := HLA.out; have := HNA.out; have := HM.out; omega
      have e3 := wrap_one j hj62
      have e4 := wrap_one' j hj62
      have HNX := qH (withoutT_next 2 r.args j u hu)
      have HNL := qH (Nat.le_trans (withoutT_len 2 (r.args.take j)) (List.length_take_le j r.args))
      have HJ1 := qH (sub_next hjl)
      have HJ2 := qH (show j + 1 ≤ r.args.length from hjl)
      obtain ⟨cur, hcur⟩ : ∃ cur, cur = withoutT 2 (r.args.take j) := ⟨_, rfl⟩
      rw [← hcur] at HO HNX HNL
      have HLC := qH (show cur.length + 1 ≤ 1099511627776 by have h1 := HNL.out; have h2 := HLA.out; have h3 := HNA.out; have h4 := HM.out; omega)
      clear hex2 h1 h2 h0 h3 h4 hrng hu hj62 hb hsw hrw hcur
      by_cases hk2 : u.kind = 2
      ·have hkc : (u.kind != 2) = false := by simpa using hk2
       have HE := qH (show withoutT 2 (r.args.take (j + 1)) = cur by rw [HNX.out, if_pos hk2, List.append_nil])
       clear hk2
       go_wp2_with fail
       refine ⟨⟨_, j + 1, rfl, HJ2.out, by congr 1, by rw [HE.out]; exact HO.out, HBw.out⟩, by simpa [intOf] using HJ1.out⟩
      ·have hkc : (u.kind != 2) = true := by simpa using hk2
       have HE := qH (show withoutT 2 (r.args.take (j + 1)) = cur ++ [u] by rw [HNX.out, if_neg hk2])
       clear hk2
       go_wp2_with (first
        | ((with_reducible refine atDst 36 ?_); refine wpList_load_mid rfl 46 _ rfl b (off + j * 6) rfl (f j) _ HRG.out Tryz.underlying46 rfl (size_rx HV6.out) ?_; (try simp only [Act.put, qA, qB, qC]))
        | ((with_reducible refine atDst 37 ?_); refine wpList_bldT1 rfl 44 46 (.tmp 36) rfl i0 Tryz.underlying44 hi0 HZ1.out hz1 (f j) HV6.out rfl ?_; intro w4 hk4 hb4 hs4; have K4 := qH hk4; have O4 := qH (HO.out.stay hb4); have B4 := qH (HBw.out.trans (hb4.mono HBw.out.size)); have V4 := qH (RxD.mono (HX.out.keep (HB.out.trans (hb4.mono HB.out.size)) HD.out) (D' := fun k => D k ∧ k < w4.heap.size ∧ some k ≠ v1.ownBlock) fun k hk => ⟨hk, by have h1 := HB.out.size; have h2 := hb4.size; have h3 := HD.out k hk; omega, fun he => by have h1 := HO.out.ge k he.symm; have h2 := B2.out.size; have h3 := HD.out k hk; omega⟩); clear hk4 hb4 hs4; (try simp only [Act.put, qA, qB, qC]))
        | ((with_reducible refine atDst 38 ?_); refine wpList_appT (D := D) (base := w2.heap.size) rfl (.tmp 31) (.tmp 37) rfl i0 hi0 HZ1.out hz1 hz2 v1 _ rfl O4.out wr.heap.size 1 46 (f j) u rfl K4.out V4.out HLC.out B4.out.size ?_; intro v5 w5 ho5 hg5; have O5 := qH ho5; have B5 := qH (B4.out.grown hg5 B4.out.size (fun q hq => O4.out.ge q hq)); clear ho5 hg5; (try simp only [Act.put, qA, qB, qC])))
       refine ⟨⟨_, j + 1, rfl, HJ2.out, by congr 1, by rw [HE.out]; exact O5.out, B5.out⟩, by simpa [intOf] using HJ1.out⟩
     ·obtain rfl : j = r.args.length := by omega
      have j1 : ¬ ((r.args.length : Int) < (r.args.length : Int)) := by omega
      have ho := HO.out
      rw [List.take_length] at ho
      have O9 := qH ho
      obtain ⟨A9, c9, rfl⟩ := ho.slice
      clear ho HO
      have hlt : ¬ (((withoutT 2 r.args).length : Int) < (r.args.length : Int)) := by rw [HWA.out]; omega
      go_wp2_with ((with_reducible refine atDst 48 ?_); refine wpList_ldArr rfl 46 _ rfl w.heap.size rfl 46 _ _ KR.out Tryz.underlying46 rfl (size_rx HC6.out) ?_; (try simp only [Act.put, qA, qB, qC]))
      refine (refCopy_any _ r (Nat.le_refl _) (by have := HM.out; omega) cs wr (RxD.mono (HV.out.keep HB.out HD.out) fun k hk => Nat.lt_of_lt_of_le (HD.out k hk) HB.out.size)).mono ?_
      rintro e w9 ⟨ds, rfl, hds, hb9⟩
      have DX := qH (RxD.mono hds (D' := fun k => w2.heap.size ≤ k ∧ k < w9.heap.size) fun k hk => ⟨Nat.le_trans HSW.out hk.1, hk.2⟩)
      have D6 := qH hds.length
      have B9 := qH (HB.out.trans (hb9.mono HB.out.size))
      have M9 := qH (MR.out.below hb9 MR.out.lt)
      have GM := qH M2.out.lt
      have S9 := qH (Nat.le_trans HSW.out hb9.size)
      clear hds hb9
      obtain ⟨c, hc⟩ : ∃ c, c = rxc 6 zeroS (.slice (some ⟨w9.heap.size, 0, none⟩) 1 1) := ⟨_, rfl⟩
      have HCB := qH (show Tryz.prog.built 46 [(0, .int .i64 6), (2, .slice (some ⟨w9.heap.size, 0, none⟩) 1 1)] = some c.toArray by rw [hc]; exact built02 6 _ _ 1 1 rfl)
      have E6 := qH (show c.length = 6 by rw [hc]; rfl)
      have E1 := qH (show c.all (·.oneCell') = true by rw [hc]; rfl)
      have HCC := qH hc
      clear hc
      go_wp2_with (first
       | ((with_reducible refine atDst 50 ?_); refine wpList_bldT1 rfl 44 46 (.tmp 49) rfl i0 Tryz.underlying44 hi0 HZ1.out hz1 ds D6.out rfl ?_; intro w11 hk11 hb11 hs11; have K11 := qH hk11; have B11 := qH (B9.out.trans (hb11.mono B9.out.size)); have M11 := qH (M9.out.below hb11 M9.out.lt); have D11 := qH (RxD.mono (DX.out.stay (w' := w11) fun k hk => hb11.block k hk.2) (D' := fun k => w2.heap.size ≤ k ∧ k < w11.heap.size) fun k hk => ⟨hk.1, by have h1 := hk.2; omega⟩); have S11 := qH hs11; clear hk11 hb11 hs11; (try simp only [Act.put, qA, qB, qC]))
       | ((with_reducible refine atDst 51 ?_); refine wpList_bld rfl 46 _ rfl c HCB.out ?_; (try simp only [Act.put, qA, qB, qC]))
       | ((with_reducible refine atStore 46 2 51 ?_); refine wpList_stBlk rfl 46 _ _ rfl w1.heap.size c rfl rfl 46 _ M11.out (size_rx E6.out) (by rw [HZL.out, E6.out]) E1.out B11.out (Nat.le_of_lt G12.out) ?_; intro w10 hk10 hb10 hs10 ho10; have K10 := qH hk10; have B10 := qH hb10; have D10 := qH (RxD.mono (D11.out.stay (w' := w10) fun k hk => ho10 k (by have h1 := hk.1; have h2 := GM.out; omega)) (D' := fun k => w.heap.size ≤ k ∧ k < w10.heap.size) fun k hk => ⟨by have h1 := hk.1; have h2 := GM.out; have h3 := G12.out; omega, by have h1 := hk.2; omega⟩); have R10 := qH (show w10.rangeAt w9.heap.size (0 + 0 * 6) ds from fun i u hu => by have h1 := (show Blk w10 w9.heap.size 46 ds from (ho10 _ (by have h2 := GM.out; have h3 := S9.out; omega)).trans K11.out).cell (0 + 0 * 6 + i); rw [h1]; simpa using hu); have L10 := qH (show w.heap.size ≤ w9.heap.size ∧ w9.heap.size < w10.heap.size from ⟨by have h2 := GM.out; have h3 := S9.out; have h4 := G12.out; omega, by have h1 := S11.out; omega⟩); clear hk10 hb10 hs10 ho10; (try simp only [Act.put, qA, qB, qC])))
      refine bodyPost_ret (results_blk rfl _ _ w1.heap.size 46 _ _ rfl K10.out Tryz.underlying46 rfl (size_rx E6.out)) rfl ?_
      refine ⟨c, rfl, ?_, B10.out⟩
      rw [HF.out, HCC.out]
      refine RxD.node (l := [r]) (cap := 1) (fun _ => ds) (Nat.le_refl _) (show 1 ≤ maxLen from by unfold maxLen; omega) (fun h => by cases h) (fun _ => ⟨w9.heap.size, 0, rfl, L10.out, fun i hi => ?_⟩) (fun i t ht => ?_)
      ·have : i = 0 := by simpa using hi
       subst this
       exact R10.out
      ·have hi := (List.getElem?_eq_some_iff.1 ht).1
       have : i = 0 := by simpa using hi
       subst this
       obtain rfl : r = t := by simpa using ht
       exact D10.out
   ·have k5 : (r.kind == 5) = false := by simpa using h5
    have HSW := qH (Nat.le_refl w.heap.size)
    clear h6 h1 h5 hns
    go_enter Tryz.func67, Tryz.ntmps67
    go_wp2_with (first
     | ((with_reducible refine atDst 1 ?_); refine wpList_box rfl 46 _ rfl cs rfl (Below.refl w.heap.size w) (Nat.le_refl _) ?_; intro w1 hk1 hb1 hs1 _; have K1 := qH hk1; have B1 := qH hb1; clear hk1 hb1 hs1; (try simp only [Act.put, qA, qB, qC]))
     | ((with_reducible refine atDst 2 ?_); refine wpList_new rfl 46 rfl i0 _ z hi0 HZ0.out rfl B1.out B1.out.size ?_; intro w2 hk2 hb2 hs2 ho2; have M2 := qH hk2; have B2 := qH hb2; have K2 := qH (show Blk w2 w.heap.size 46 cs from (ho2 _ K1.out.lt).trans K1.out); have G12 := qH K1.out.lt; have a0 := K2.out.cell 0; rw [HC0.out] at a0; have a5 := K2.out.cell 5; rw [HC5.out] at a5; clear hk2 hb2 hs2 ho2; (try simp only [Act.put, qA, qB, qC]))
     | ((with_reducible refine atDst 9 ?_); refine wpList_ldArr rfl 46 _ rfl w.heap.size rfl 46 _ _ K2.out Tryz.underlying46 rfl (size_rx HC6.out) ?_; (try simp only [Act.put, qA, qB, qC]))
     | ((with_reducible refine atDst 48 ?_); refine wpList_ldArr rfl 46 _ rfl w.heap.size rfl 46 _ _ K2.out Tryz.underlying46 rfl (size_rx HC6.out) ?_; (try simp only [Act.put, qA, qB, qC])))
    have HSX := qH (Nat.le_refl w2.heap.size)
    refine (refCopy_any _ r (Nat.le_refl _) (by have := HM.out; omega) cs w2 (RxD.mono (HV.out.keep B2.out HD.out) fun k hk => Nat.lt_of_lt_of_le (HD.out k hk) B2.out.size)).mono ?_
    rintro e w9 ⟨ds, rfl, hds, hb9⟩
    have DX := qH (RxD.mono hds (D' := fun k => w2.heap.size ≤ k ∧ k < w9.heap.size) fun k hk => ⟨Nat.le_trans HSX.out hk.1, hk.2⟩)
    have D6 := qH hds.length
    have B9 := qH (B2.out.trans (hb9.mono B2.out.size))
    have M9 := qH (M2.out.below hb9 M2.out.lt)
    have GM := qH M2.out.lt
    have S9 := qH (Nat.le_trans HSX.out hb9.size)
    clear hds hb9
    obtain ⟨c, hc⟩ : ∃ c, c = rxc 6 zeroS (.slice (some ⟨w9.heap.size, 0, none⟩) 1 1) := ⟨_, rfl⟩
    have HCB := qH (show Tryz.prog.built 46 [(0, .int .i64 6), (2, .slice (some ⟨w9.heap.size, 0, none⟩) 1 1)] = some c.toArray by rw [hc]; exact built02 6 _ _ 1 1 rfl)
    have E6 := qH (show c.length = 6 by rw [hc]; rfl)
    have E1 := qH (show c.all (·.oneCell') = true by rw [hc]; rfl)
    have HCC := qH hc
    clear hc
    go_wp2_with (first
     | ((with_reducible refine atDst 50 ?_); refine wpList_bldT1 rfl 44 46 (.tmp 49) rfl i0 Tryz.underlying44 hi0 HZ1.out hz1 ds D6.out rfl ?_; intro w11 hk11 hb11 hs11; have K11 := qH hk11; have B11 := qH (B9.out.trans (hb11.mono B9.out.size)); have M11 := qH (M9.out.below hb11 M9.out.lt); have D11 := qH (RxD.mono (DX.out.stay (w' := w11) fun k hk => hb11.block k hk.2) (D' := fun k => w2.heap.size ≤ k ∧ k < w11.heap.size) fun k hk => ⟨hk.1, by have h1 := hk.2; omega⟩); have S11 := qH hs11; clear hk11 hb11 hs11; (try simp only [Act.put, qA, qB, qC]))
     | ((with_reducible refine atDst 51 ?_); refine wpList_bld rfl 46 _ rfl c HCB.out ?_; (try simp only [Act.put, qA, qB, qC]))
     | ((with_reducible refine atStore 46 2 51 ?_); refine wpList_stBlk rfl 46 _ _ rfl w1.heap.size c rfl rfl 46 _ M11.out (size_rx E6.out) (by rw [HZL.out, E6.out]) E1.out B11.out (Nat.le_of_lt G12.out) ?_; intro w10 hk10 hb10 hs10 ho10; have K10 := qH hk10; have B10 := qH hb10; have D10 := qH (RxD.mono (D11.out.stay (w' := w10) fun k hk => ho10 k (by have h1 := hk.1; have h2 := GM.out; omega)) (D' := fun k => w.heap.size ≤ k ∧ k < w10.heap.size) fun k hk => ⟨by have h1 := hk.1; have h2 := GM.out; have h3 := G12.out; omega, by have h1 := hk.2; omega⟩); have R10 := qH (show w10.rangeAt w9.heap.size (0 + 0 * 6) ds from fun i u hu => by have h1 := (show Blk w10 w9.heap.size 46 ds from (ho10 _ (by have h2 := GM.out; have h3 := S9.out; omega)).trans K11.out).cell (0 + 0 * 6 + i); rw [h1]; simpa using hu); have L10 := qH (show w.heap.size ≤ w9.heap.size ∧ w9.heap.size < w10.heap.size from ⟨by have h2 := GM.out; have h3 := S9.out; have h4 := G12.out; omega, by have h1 := S11.out; omega⟩); clear hk10 hb10 hs10 ho10; (try simp only [Act.put, qA, qB, qC])))
    refine bodyPost_ret (results_blk rfl _ _ w1.heap.size 46 _ _ rfl K10.out Tryz.underlying46 rfl (size_rx E6.out)) rfl ?_
    refine ⟨c, rfl, ?_, B10.out⟩
    rw [HF.out, HCC.out]
    refine RxD.node (l := [r]) (cap := 1) (fun _ => ds) (Nat.le_refl _) (show 1 ≤ maxLen from by unfold maxLen; omega) (fun h => by cases h) (fun _ => ⟨w9.heap.size, 0, rfl, L10.out, fun i hi => ?_⟩) (fun i t ht => ?_)
    ·have : i = 0 := by simpa using hi
     subst this
     exact R10.out
    ·have hi := (List.getElem?_eq_some_iff.1 ht).1
     have : i = 0 := by simpa using hi
     subst this
     obtain rfl : r = t := by simpa using ht
     exact D10.out
set_option maxHeartbeats 8000000 in
set_option maxRecDepth 100000 in
theorem refStar_any (r : T) (cs : List Value) (w : World) {D : Nat → Prop} (hD : ∀ k, D k → k < w.heap.size) (hv : RxD D w cs r) (hM : r.nodes ≤ 274877906944) (hg : good r) :
  Calls Tryz.prog 67 #[.agg cs.toArray] w fun e w' => ∃ ds, e = .returned (.agg ds.toArray) ∧ RxD (fun k => w.heap.size ≤ k ∧ k < w'.heap.size) w' ds (starT r) ∧ Below w.heap.size w w' := by
 by_cases hns : r.kind = 5 ∧ anyK 2 r.args = true
 ·have HF := qH (show starT r = star1T (altT (withoutT 2 r.args)) by unfold starT; rw [if_pos hns])
  have HWL := qH (without_less hns.2)
  have k6 : (r.kind == 6) = false := by rw [hns.1]; rfl
  have k1 : (r.kind == 1) = false := by rw [hns.1]; rfl
  have k2 : (r.kind == 2) = false := by rw [hns.1]; rfl
  have k5 : (r.kind == 5) = true := by rw [hns.1]; rfl
  have HGA := qH (show ∀ t ∈ r.args, good t ∧ t.kind ≠ 5 by
   cases r with
   | node k s l =>
    obtain ⟨g1, g2, g3, g4, g5, g6⟩ := good_node.1 hg
    intro t ht
    refine ⟨g2 t ht, fun h5 => ?_⟩
    have h1 := g5 t ht
    have h2 : k = 5 := hns.1
    rw [h5, h2] at h1
    simp [fitsT] at h1)
  have HNS := qH (alt_no2 (l := withoutT 2 r.args) (fun t ht => (HGA.out t (List.mem_filter.1 ht).1).1) (fun t ht => ⟨by simpa using (List.mem_filter.1 ht).2, (HGA.out t (List.mem_filter.1 ht).1).2⟩))
  have HM' := qH hM
  replace hM : r.nodes ≤ 549755813888 := by omega
  clear hns hg
  have HV := qH hv
  have HD := qH hD
  have HM := qH hM
  have HC6 := qH hv.length
  obtain ⟨Au, cu, hsp, hru⟩ := hv.split
  have HC0 := qH (show cs[0]? = some (.int .i64 r.kind) by rw [hsp]; rfl)
  have HC5 := qH (show cs[5]? = some (.slice Au r.args.length cu) by rw [hsp]; rfl)
  have HRU := qH hru
  have HNA := qH (show nodesL r.args + 1 ≤ r.nodes by cases r with | node k s l => simp only [T.args, T.nodes]; omega)
  obtain ⟨i0, hi0, hz0, hz1, hz2⟩ := inf_rx'
  obtain ⟨z, hz⟩ : ∃ z, z = rxc 0 zeroS (.slice none 0 0) := ⟨_, rfl⟩
  have HZL := qH (show z.length = 6 by rw [hz]; rfl)
  have HZ0 := qH (show i0.zero = some (.agg z.toArray) by rw [hz]; exact hz0)
  have HZ1 := qH hz0
  clear hv hD hM hsp hru hz hz0
  go_enter Tryz.func67, Tryz.ntmps67
  go_wp2_with (first
   | ((with_reducible refine atDst 1 ?_); refine wpList_box rfl 46 _ rfl cs rfl (Below.refl w.heap.size w) (Nat.le_refl _) ?_; intro w1 hk1 hb1 hs1 _; have K1 := qH hk1; have B1 := qH hb1; clear hk1 hb1 hs1; (try simp only [Act.put, qA, qB, qC]))
   | ((with_reducible refine atDst 2 ?_); refine wpList_new rfl 46 rfl i0 _ z hi0 HZ0.out rfl B1.out B1.out.size ?_; intro w2 hk2 hb2 hs2 ho2; have M2 := qH hk2; have B2 := qH hb2; have K2 := qH (show Blk w2 w.heap.size 46 cs from (ho2 _ K1.out.lt).trans K1.out); have G12 := qH K1.out.lt; have a0 := K2.out.cell 0; rw [HC0.out] at a0; have a5 := K2.out.cell 5; rw [HC5.out] at a5; clear hk2 hb2 hs2 ho2; (try simp only [Act.put, qA, qB, qC]))
   | ((with_reducible refine atDst 9 ?_); refine wpList_ldArr rfl 46 _ rfl w.heap.size rfl 46 _ _ K2.out Tryz.underlying46 rfl (size_rx HC6.out) ?_; (try simp only [Act.put, qA, qB, qC]))
   | ((with_reducible refine atDst 48 ?_); refine wpList_ldArr rfl 46 _ rfl w.heap.size rfl 46 _ _ K2.out Tryz.underlying46 rfl (size_rx HC6.out) ?_; (try simp only [Act.put, qA, qB, qC])))
  go_loopw [3, 4] (fun v i wl => ∃ (v1 : Value) (j : Nat), v1 = v ∧ j ≤ r.args.length ∧ i = .int .i64 (j : Int) ∧ OwnT D w2.heap.size wl v1 (withoutT 2 (r.args.take j)) ∧ Below w2.heap.size w2 wl) (fun _ i _ => r.args.length - (intOf i).toNat)
  case atStart => exact ⟨_, 0, rfl, by omega, by simp, OwnT.nil _ _ _, Below.refl _ _⟩
  case round =>
   obtain ⟨v1, j, rfl, hj, rfl, ho, hb⟩ := hrel
   have HO := qH ho
   have HBw := qH hb
   have HB := qH (B2.out.trans (hb.mono B2.out.size))
   have KR := qH (K2.out.below hb K2.out.lt)
   have MR := qH (M2.out.below hb M2.out.lt)
   have r5 := KR.out.cell 5
   rw [HC5.out] at r5
   have HSW := qH hb.size
   clear ho hb
   by_cases hjl : j < r.args.length
   ·have j1 : (j : Int) < (r.args.length : Int) := Int.ofNat_lt.2 hjl
    obtain ⟨Ax, cx, f, hex, h1, h2, h0, h3, h4⟩ := HRU.out
    injection hex with hex1 hex2 hex3
    subst hex1 hex3
    obtain ⟨b, off, rfl, hb, hrng⟩ := h3 (by intro he; rw [he] at hjl; simp at hjl)
    obtain ⟨u, hu⟩ : ∃ u, r.args[j]? = some u := ⟨_, List.getElem?_eq_getElem hjl⟩
    have HX := qH (h4 j u hu)
    have HVU := qH (HX.out.keep HB.out HD.out)
    have HRG := qH (range_below (hrng j hjl) HB.out (HD.out b hb))
    obtain ⟨Aw, cw, hsw, hrw⟩ := HVU.out.split
    have HV6 := qH HVU.out.length
    have c0 := range_cell0 HRG.out (show (f j)[0]? = some (.int .i64 u.kind) by rw [hsw]; rfl)
    have HLA := qH (len_nodes r.args)
    have hj62 : j ≤ 4611686018427387904 := by have := HLA.out; have := HNA.out; have := HM.out; omega
    have e3 := wrap_one j hj62
    have e4 := wrap_one' j hj62
    have HNX := qH (withoutT_next 2 r.args j u hu)
    have HNL := qH (Nat.le_trans (withoutT_len 2 (r.args.take j)) (List.length_take_le j r.args))
    have HJ1 := qH (sub_next hjl)
    have HJ2 := qH (show j + 1 ≤ r.args.length from hjl)
    obtain ⟨cur, hcur⟩ : ∃ cur, cur = withoutT 2 (r.args.take j) := ⟨_, rfl⟩
    rw [← hcur] at HO HNX HNL
    have HLC := qH (show cur.length + 1 ≤ 1099511627776 by have h1 := HNL.out; have h2 := HLA.out; have h3 := HNA.out; have h4 := HM.out; omega)
    clear hex2 h1 h2 h0 h3 h4 hrng hu hj62 hb hsw hrw hcur
    by_cases hk2 : u.kind = 2
    ·have hkc : (u.kind != 2) = false := by simpa using hk2
     have HE := qH (show withoutT 2 (r.args.take (j + 1)) = cur by rw [HNX.out, if_pos hk2, List.append_nil])
     clear hk2
     go_wp2_with fail
     refine ⟨⟨_, j + 1, rfl, HJ2.out, by congr 1, by rw [HE.out]; exact HO.out, HBw.out⟩, by simpa [intOf] using HJ1.out⟩
    ·have hkc : (u.kind != 2) = true := by simpa using hk2
     have HE := qH (show withoutT 2 (r.args.take (j + 1)) = cur ++ [u] by rw [HNX.out, if_neg hk2])
     clear hk2
     go_wp2_with (first
      | ((with_reducible refine atDst 36 ?_); refine wpList_load_mid rfl 46 _ rfl b (off + j * 6) rfl (f j) _ HRG.out Tryz.underlying46 rfl (size_rx HV6.out) ?_; (try simp only [Act.put, qA, qB, qC]))
      | ((with_reducible refine atDst 37 ?_); refine wpList_bldT1 rfl 44 46 (.tmp 36) rfl i0 Tryz.underlying44 hi0 HZ1.out hz1 (f j) HV6.out rfl ?_; intro w4 hk4 hb4 hs4; have K4 := qH hk4; have O4 := qH (HO.out.stay hb4); have B4 := qH (HBw.out.trans (hb4.mono HBw.out.size)); have V4 := qH (RxD.mono (HX.out.keep (HB.out.trans (hb4.mono HB.out.size)) HD.out) (D' := fun k => D k ∧ k < w4.heap.size ∧ some k ≠ v1.ownBlock) fun k hk => ⟨hk, by have h1 := HB.out.size; have h2 := hb4.size; have h3 := HD.out k hk; omega, fun he => by have h1 := HO.out.ge k he.symm; have h2 := B2.out.size; have h3 := HD.out k hk; omega⟩); clear hk4 hb4 hs4; (try simp only [Act.put, qA, qB, qC]))
      | ((with_reducible refine atDst 38 ?_); refine wpList_appT (D := D) (base := w2.heap.size) rfl (.tmp 31) (.tmp 37) rfl i0 hi0 HZ1.out hz1 hz2 v1 _ rfl O4.out wr.heap.size 1 46 (f j) u rfl K4.out V4.out HLC.out B4.out.size ?_; intro v5 w5 ho5 hg5; have O5 := qH ho5; have B5 := qH (B4.out.grown hg5 B4.out.size (fun q hq => O4.out.ge q hq)); clear ho5 hg5; (try simp only [Act.put, qA, qB, qC])))
     refine ⟨⟨_, j + 1, rfl, HJ2.out, by congr 1, by rw [HE.out]; exact O5.out, B5.out⟩, by simpa [intOf] using HJ1.out⟩
   ·obtain rfl : j = r.args.length := by omega
    have j1 : ¬ ((r.args.length : Int) < (r.args.length : Int)) := by omega
    have ho := HO.out
    rw [List.take_length] at ho
    have O9 := qH ho
    obtain ⟨A9, c9, rfl⟩ := ho.slice
    clear ho HO
    have hlt : ((withoutT 2 r.args).length : Int) < (r.args.length : Int) := by have := HWL.out; omega
    go_wp2_with fail
    refine (refAlt_any (withoutT 2 r.args) _ wr (O9.out.rowD.mono fun k hk => hk.2) (by have h1 := withoutT_nodes 2 r.args; have h2 := HNA.out; have h3 := HM'.out; omega)).mono ?_
    rintro e w7 ⟨cs7, rfl, hd7, hb7⟩
    have B7 := qH (HB.out.trans (hb7.mono HB.out.size))
    have M7 := qH (MR.out.below hb7 MR.out.lt)
    have D7 := qH hd7
    have HN7 := qH (show (altT (withoutT 2 r.args)).nodes ≤ 549755813888 by have h1 := altT_nodes (withoutT 2 r.args); have h2 := withoutT_nodes 2 r.args; have h3 := HNA.out; have h4 := HM'.out; omega)
    have S7 := qH (Nat.le_trans HSW.out hb7.size)
    clear hd7 hb7
    go_wp2_with fail
    refine (refStar_flat (altT (withoutT 2 r.args)) cs7 w7 (fun k hk => hk.2) D7.out HN7.out HNS.out).mono ?_
    rintro e w9 ⟨ds, rfl, hds, hb9⟩
    have DX := qH (RxD.mono hds (D' := fun k => w2.heap.size ≤ k ∧ k < w9.heap.size) (fun k hk => ⟨Nat.le_trans S7.out hk.1, hk.2⟩))
    have D6 := qH hds.length
    have D1 := qH (show ds.all (·.oneCell') = true from List.all_eq_true.2 hds.one)
    have B9 := qH (B7.out.trans (hb9.mono B7.out.size))
    have M9 := qH (M7.out.below hb9 M7.out.lt)
    have GM := qH M2.out.lt
    clear hds hb9
    go_wp2_with ((with_reducible refine atStore 46 2 47 ?_); refine wpList_stBlk rfl 46 _ _ rfl w1.heap.size ds rfl rfl 46 _ M9.out (size_rx D6.out) (by rw [HZL.out, D6.out]) D1.out B9.out (Nat.le_of_lt G12.out) ?_; intro w10 hk10 hb10 hs10 ho10; have K10 := qH hk10; have B10 := qH hb10; have D10 := qH (RxD.mono (DX.out.stay (w' := w10) fun k hk => ho10 k (by have h1 := hk.1; have h2 := GM.out; omega)) (D' := fun k => w.heap.size ≤ k ∧ k < w10.heap.size) fun k hk => ⟨by have h1 := hk.1; have h2 := GM.out; have h3 := G12.out; omega, by have h1 := hk.2; omega⟩); clear hk10 hb10 hs10 ho10; (try simp only [Act.put, qA, qB, qC]))
    refine bodyPost_ret (results_blk rfl _ _ w1.heap.size 46 _ _ rfl K10.out Tryz.underlying46 rfl (size_rx D6.out)) rfl ?_
    exact ⟨ds, rfl, by rw [HF.out]; exact D10.out, B10.out⟩
 ·have h := refStar_flat r cs w hD hv (by omega) hns
  have HF : starT r = star1T r := by unfold starT; rw [if_neg hns]
  rw [HF]
  exact h
/-! ### bytes laid in a row, and a row of bytes as a text -/
section
variable {P : Program} {w : World} {ops : Array Oper} {rest : List Oper} {o : Oper} {a : Act} {Q : Exit → Act → World → Prop} {K : Act → World → Prop}
theorem run_bldB1 (t e : TypeId) (i : TypeInfo) (ht : P.underlying t = some (.slice e)) (hi : P.info? e = some i) (hz : i.zero = some (.int .u8 0)) (hs : i.size = 1) (c : UInt8) :
  (Instr.buildSlice t 1 #[(0, bv c)]).run P w = .ok (.slice (some ⟨w.heap.size, 0, none⟩) 1 1) (w.alloc (.cells (bvs [c]).toArray e)) := by
 have hzv : (zeroValue e).run P w = .ok (.int .u8 0) w := by simp [zeroValue, typeInfo, hi, hz]
 simp [Instr.buildSlice, run_underlying ht, sizeOf, typeInfo, hi, hs, hzv, Value.cells, Instr.fill, Array.range_succ, Array.range_zero', newRow, bvs]
theorem run_bldB3 (t e : TypeId) (i : TypeInfo) (ht : P.underlying t = some (.slice e)) (hi : P.info? e = some i) (hz : i.zero = some (.int .u8 0)) (hs : i.size = 1) (c d f : UInt8) :
  (Instr.buildSlice t 3 #[(0, bv c), (1, bv d), (2, bv f)]).run P w = .ok (.slice (some ⟨w.heap.size, 0, none⟩) 3 3) (w.alloc (.cells (bvs [c, d, f]).toArray e)) := by
 have hzv : (zeroValue e).run P w = .ok (.int .u8 0) w := by simp [zeroValue, typeInfo, hi, hz]
 simp [Instr.buildSlice, run_underlying ht, sizeOf, typeInfo, hi, hs, hzv, Value.cells, Instr.fill, Array.range_succ, Array.range_zero', newRow, bvs]
theorem wp_bldBs (t e : TypeId) (n : Nat) (xs : Array (Nat × Operand)) (ho : o.op = .buildSlice t n xs) (l : List UInt8)
  (hrun : (Instr.buildSlice t n (xs.map fun p => (p.1, a.eval p.2))).run P w = .ok (.slice (some ⟨w.heap.size, 0, none⟩) n n) (w.alloc (.cells (bvs l).toArray e)))
  (hn : l.length = n) (hn1 : 0 < n) (hn2 : n ≤ 1048576)
  (h : ∀ w', Blk w' w.heap.size e (bvs l) → Row w' (.slice (some ⟨w.heap.size, 0, none⟩) n n) (bvs l) → Below w.heap.size w w' → w'.heap.size = w.heap.size + 1 → K (a.put o.dst (.slice (some ⟨w.heap.size, 0, none⟩) n n)) w') : o.wp P a w K Q := by
 unfold Oper.wp
 simp only [execOp, ho]
 have hrun' : (Instr.buildSlice t n (Array.map (fun p => (p.1, a.eval p.2)) xs)).run P w = .ok (.slice (some ⟨w.heap.size, 0, none⟩) n n) (w.alloc (.cells (bvs l).toArray e)) := hrun
 simp only [hrun', Sem.run_bind, Result.andThen_ok, Sem.run_pure]
 have hb := Blk.new w e (bvs l)
 have hl : (bvs l).length = n := by rw [bvs_length, hn]
 have hr : Row (w.alloc (.cells (bvs l).toArray e)) (.slice (some ⟨w.heap.size, 0, none⟩) n n) (bvs l) := by
  have := Row.of_own (hb.own (Nat.zero_le _) (by rw [hl]; unfold maxLen; omega))
  rwa [hl] at this
 exact h _ hb hr ((Below.refl _ _).alloc (Nat.le_refl _) _) (by simp)
theorem wp_bldB1 (t e : TypeId) (x : Operand) (ho : o.op = .buildSlice t 1 #[(0, x)]) (i : TypeInfo) (ht : P.underlying t = some (.slice e)) (hi : P.info? e = some i) (hz : i.zero = some (.int .u8 0)) (hs : i.size = 1) (c : UInt8) (hx : a.eval x = bv c)
  (h : ∀ w', Blk w' w.heap.size e (bvs [c]) → Row w' (.slice (some ⟨w.heap.size, 0, none⟩) 1 1) (bvs [c]) → Below w.heap.size w w' → w'.heap.size = w.heap.size + 1 → K (a.put o.dst (.slice (some ⟨w.heap.size, 0, none⟩) 1 1)) w') : o.wp P a w K Q :=
 wp_bldBs t e 1 _ ho [c] (by simp only [List.map_toArray, List.map_cons, List.map_nil, hx]; exact run_bldB1 t e i ht hi hz hs c) rfl (by omega) (by omega) h
theorem wpList_bldB1 (hg : o.guard = none) (t e : TypeId) (x : Operand) (ho : o.op = .buildSlice t 1 #[(0, x)]) (i : TypeInfo) (ht : P.underlying t = some (.slice e)) (hi : P.info? e = some i) (hz : i.zero = some (.int .u8 0)) (hs : i.size = 1) (c : UInt8) (hx : a.eval x = bv c)
  (h : ∀ w', Blk w' w.heap.size e (bvs [c]) → Row w' (.slice (some ⟨w.heap.size, 0, none⟩) 1 1) (bvs [c]) → Below w.heap.size w w' → w'.heap.size = w.heap.size + 1 → wpList P ops Q rest (a.put o.dst (.slice (some ⟨w.heap.size, 0, none⟩) 1 1)) w') : wpList P ops Q (o :: rest) a w :=
 wpList_plain hg fun _ hK => wp_bldB1 t e x ho i ht hi hz hs c hx fun w' h1 h2 h3 h4 => hK _ _ (h w' h1 h2 h3 h4)
end
section
variable {P : Program} {w : World} {ops : Array Oper} {rest : List Oper} {o : Oper} {a : Act} {Q : Exit → Act → World → Prop} {K : Act → World → Prop}
theorem wp_bldB3 (t e : TypeId) (x y u : Operand) (ho : o.op = .buildSlice t 3 #[(0, x), (1, y), (2, u)]) (i : TypeInfo) (ht : P.underlying t = some (.slice e)) (hi : P.info? e = some i) (hz : i.zero = some (.int .u8 0)) (hs : i.size = 1) (c d f : UInt8) (hx : a.eval x = bv c) (hy : a.eval y = bv d) (hu : a.eval u = bv f)
  (h : ∀ w', Blk w' w.heap.size e (bvs [c, d, f]) → Row w' (.slice (some ⟨w.heap.size, 0, none⟩) 3 3) (bvs [c, d, f]) → Below w.heap.size w w' → w'.heap.size = w.heap.size + 1 → K (a.put o.dst (.slice (some ⟨w.heap.size, 0, none⟩) 3 3)) w') : o.wp P a w K Q :=
 wp_bldBs t e 3 _ ho [c, d, f] (by simp only [List.map_toArray, List.map_cons, List.map_nil, hx, hy, hu]; exact run_bldB3 t e i ht hi hz hs c d f) rfl (by omega) (by omega) h
theorem wpList_bldB3 (hg : o.guard = none) (t e : TypeId) (x y u : Operand) (ho : o.op = .buildSlice t 3 #[(0, x), (1, y), (2, u)]) (i : TypeInfo) (ht : P.underlying t = some (.slice e)) (hi : P.info? e = some i) (hz : i.zero = some (.int .u8 0)) (hs : i.size = 1) (c d f : UInt8) (hx : a.eval x = bv c) (hy : a.eval y = bv d) (hu : a.eval u = bv f)
  (h : ∀ w', Blk w' w.heap.size e (bvs [c, d, f]) → Row w' (.slice (some ⟨w.heap.size, 0, none⟩) 3 3) (bvs [c, d, f]) → Below w.heap.size w w' → w'.heap.size = w.heap.size + 1 → wpList P ops Q rest (a.put o.dst (.slice (some ⟨w.heap.size, 0, none⟩) 3 3)) w') : wpList P ops Q (o :: rest) a w :=
 wpList_plain hg fun _ hK => wp_bldB3 t e x y u ho i ht hi hz hs c d f hx hy hu fun w' h1 h2 h3 h4 => hK _ _ (h w' h1 h2 h3 h4)
end
section
variable {w : World} {ops : Array Oper} {rest : List Oper} {o : Oper} {a : Act} {Q : Exit → Act → World → Prop} {K : Act → World → Prop}
end
theorem info_u8 : ∃ i : TypeInfo, Tryz.prog.info? 5 = some i ∧ i.zero = some (.int .u8 0) ∧ i.size = 1 := by
 have h : (Tryz.prog.info? 5).map (fun i => (i.zero, i.size)) = some (some (.int .u8 0), 1) := by kernel_rfl
 cases hi : Tryz.prog.info? 5 with
 | none => rw [hi] at h; cases h
 | some i =>
  rw [hi] at h
  have h := Option.some.inj h
  exact ⟨i, rfl, congrArg Prod.fst h, congrArg Prod.snd h⟩
/-! ### texts put together -/
theorem wrap_u8 {n : Nat} (h : n < 256) : IntKind.u8.wrap (n : Int) = (n : Int) := IntWalk.u8_in _ (by omega)
end Go.Proofs.YteadghoojeehlaaGreatDoor
