/-
  Texts of this proof, put together: (RxZ) What the document's answer to rx (Star) answers and leaves. No statement is proved here. (PlA) Plain facts of expressions as trees: one that is put together anew of its parts is the same just if it is plain. No statement is proved here.
-/
import Derived.Test.YtopnpdobcagcgaaGreatPI
import Derived.Test.YtopnpdobcagcgaaGreatPF
namespace Go.Proofs.YtopnpdobcagcgaaGreat
open Go.RowKit
set_option linter.unusedSimpArgs false
set_option linter.unusedVariables false
def star1T (x : T) : T := if x.kind = 6 then x else if x.kind = 1 ∨ x.kind = 2 then emptyT else .node 6 zeroS [x]
def starT (r : T) : T := if r.kind = 5 ∧ anyK 2 r.args = true then star1T (altT (withoutT 2 r.args)) else star1T r
theorem without_all {k : Int} {l : List T} (h : anyK k l = false) : withoutT k l = l := by
 unfold withoutT
 rw [List.filter_eq_self]
 intro t ht
 unfold anyK at h
 have := List.any_eq_false.1 h t ht
 simpa using this
theorem without_less {k : Int} {l : List T} (h : anyK k l = true) : (withoutT k l).length < l.length := by
 obtain ⟨t, ht, hk⟩ := List.any_eq_true.1 h
 unfold withoutT
 rw [List.length_filter_lt_length_iff_exists]
 exact ⟨t, ht, by simpa using hk⟩
theorem refEmpty_fr (w : World) : Calls Tryz.prog 41 #[] w fun e w' => ∃ ds, e = .returned (.agg ds.toArray) ∧ RxD (fun k => w.heap.size ≤ k ∧ k < w'.heap.size) w' ds emptyT ∧ Below w.heap.size w w' :=
 (refEmpty_any w).mono fun _ _ ⟨ds, h1, h2, h3⟩ => ⟨ds, h1, h2 _, h3⟩
theorem alt_no2 {l : List T} (hg : ∀ t ∈ l, good t) (h : ∀ t ∈ l, t.kind ≠ 2 ∧ t.kind ≠ 5) : ¬ ((altT l).kind = 5 ∧ anyK 2 (altT l).args = true) := by
 have hfl : flatT 5 l = l := by
  unfold flatT
  have : ∀ m : List T, (∀ t ∈ m, t.kind ≠ 5) → m.flatMap (fun t => if t.kind = 5 then t.args else [t]) = m := by
   intro m
   induction m with
   | nil => intro _; rfl
   | cons a r ih =>
    intro hm
    rw [List.flatMap_cons, if_neg (hm a (by simp)), ih (fun t ht => hm t (by simp [ht]))]
    rfl
  exact this l fun t ht => (h t ht).2
 have hE : ∀ t ∈ withoutT 1 l, good t := good_without hg
 have hmem : ∀ t ∈ sortU (itemsT (withoutT 1 l)), t.kind ≠ 2 ∧ t.kind ≠ 5 := by
  intro t ht
  rw [sortU_mem (good_items hE)] at ht
  unfold itemsT at ht
  rcases List.mem_append.1 ht with h1 | h1
  ·exact h t (List.mem_filter.1 (List.mem_filter.1 h1).1).1
  ·split at h1
   ·simp at h1
   ·obtain rfl : t = .node 3 (orT (withoutT 1 l)) [] := by simpa using h1
    simp [T.kind]
 unfold altT
 rw [hfl]
 match hS : sortU (itemsT (withoutT 1 l)) with
 | [] => simp [wrapT, noneT, T.kind]
 | [t] =>
  have := hmem t (by rw [hS]; simp)
  rintro ⟨h1, _⟩
  exact this.2 h1
 | a :: b :: r =>
  rintro ⟨_, h2⟩
  unfold anyK at h2
  obtain ⟨t, ht, hk⟩ := List.any_eq_true.1 h2
  have : t ∈ sortU (itemsT (withoutT 1 l)) := by rw [hS]; exact ht
  exact (hmem t this).1 (by simpa using hk)
set_option maxHeartbeats 8000000 in
set_option maxRecDepth 100000 in
theorem refStar_flat (r : T) (cs : List Value) (w : World) {D : Nat → Prop} (hD : ∀ k, D k → k < w.heap.size) (hv : RxD D w cs r) (hM : r.nodes ≤ 549755813888) (hns : ¬ (r.kind = 5 ∧ anyK 2 r.args = true)) :
  Calls Tryz.prog 23 #[.agg cs.toArray] w fun e w' => ∃ ds, e = .returned (.agg ds.toArray) ∧ RxD (fun k => w.heap.size ≤ k ∧ k < w'.heap.size) w' ds (star1T r) ∧ Below w.heap.size w w' := by
 have HV := Lib.hid hv
 have HD := Lib.hid hD
 have HM := Lib.hid hM
 have HC6 := Lib.hid hv.length
 obtain ⟨Au, cu, hsp, hru⟩ := hv.split
 have HC0 := Lib.hid (show cs[0]? = some (.int .i64 r.kind) by rw [hsp]; rfl)
 have HC5 := Lib.hid (show cs[5]? = some (.slice Au r.args.length cu) by rw [hsp]; rfl)
 have HRU := Lib.hid hru
 have HNA := Lib.hid (show nodesL r.args + 1 ≤ r.nodes by cases r with | node k s l => simp only [T.args, T.nodes]; omega)
 obtain ⟨i0, hi0, hz0, hz1, hz2⟩ := inf_rx'
 obtain ⟨z, hz⟩ : ∃ z, z = rxc 0 zeroS (.slice none 0 0) := ⟨_, rfl⟩
 have HZL := Lib.hid (show z.length = 6 by rw [hz]; rfl)
 have HZ0 := Lib.hid (show i0.zero = some (.agg z.toArray) by rw [hz]; exact hz0)
 have HZ1 := Lib.hid hz0
 clear hv hD hM hsp hru hz hz0
 by_cases h6 : r.kind = 6
 ·have k6 : (r.kind == 6) = true := by simpa using h6
  have HF := Lib.hid (show star1T r = r by unfold star1T; rw [if_pos h6])
  clear h6 hns
  go_enter Tryz.func23, Tryz.ntmps23
  go_wp2_with (first
   | ((with_reducible refine atDst 1 ?_); refine wpList_box rfl 29 _ rfl cs rfl (Below.refl w.heap.size w) (Nat.le_refl _) ?_; intro w1 hk1 hb1 hs1 _; have K1 := Lib.hid hk1; have B1 := Lib.hid hb1; clear hk1 hb1 hs1; (try simp only [Act.put, qA, qB, qC]))
   | ((with_reducible refine atDst 2 ?_); refine wpList_new rfl 29 rfl i0 _ z hi0 HZ0.out rfl B1.out B1.out.size ?_; intro w2 hk2 hb2 hs2 ho2; have M2 := Lib.hid hk2; have B2 := Lib.hid hb2; have K2 := Lib.hid (show Blk w2 w.heap.size 29 cs from (ho2 _ K1.out.lt).trans K1.out); have G12 := Lib.hid K1.out.lt; have a0 := K2.out.cell 0; rw [HC0.out] at a0; have a5 := K2.out.cell 5; rw [HC5.out] at a5; clear hk2 hb2 hs2 ho2; (try simp only [Act.put, qA, qB, qC]))
   | ((with_reducible refine atDst 9 ?_); refine wpList_ldArr rfl 29 _ rfl w.heap.size rfl 29 _ _ K2.out Tryz.underlying29 rfl (size_rx HC6.out) ?_; (try simp only [Act.put, qA, qB, qC]))
   | ((with_reducible refine atDst 48 ?_); refine wpList_ldArr rfl 29 _ rfl w.heap.size rfl 29 _ _ K2.out Tryz.underlying29 rfl (size_rx HC6.out) ?_; (try simp only [Act.put, qA, qB, qC])))
  refine (refCopy_any _ r (Nat.le_refl _) (by have := HM.out; omega) cs w2 (RxD.mono (HV.out.keep B2.out HD.out) fun k hk => Nat.lt_of_lt_of_le (HD.out k hk) B2.out.size)).mono ?_
  rintro e w9 ⟨ds, rfl, hds, hb9⟩
  have DX := Lib.hid (RxD.mono hds (D' := fun k => w2.heap.size ≤ k ∧ k < w9.heap.size) (fun k hk => hk))
  have D6 := Lib.hid hds.length
  have D1 := Lib.hid (show ds.all (·.oneCell') = true from List.all_eq_true.2 hds.one)
  have B9 := Lib.hid (B2.out.trans (hb9.mono B2.out.size))
  have M9 := Lib.hid (M2.out.below hb9 M2.out.lt)
  have GM := Lib.hid M2.out.lt
  clear hds hb9
  go_wp2_with ((with_reducible refine atStore 29 2 10 ?_); refine wpList_stBlk rfl 29 _ _ rfl w1.heap.size ds rfl rfl 29 _ M9.out (size_rx D6.out) (by rw [HZL.out, D6.out]) D1.out B9.out (Nat.le_of_lt G12.out) ?_; intro w10 hk10 hb10 hs10 ho10; have K10 := Lib.hid hk10; have B10 := Lib.hid hb10; have D10 := Lib.hid (RxD.mono (DX.out.stay (w' := w10) fun k hk => ho10 k (by have h1 := hk.1; have h2 := GM.out; omega)) (D' := fun k => w.heap.size ≤ k ∧ k < w10.heap.size) fun k hk => ⟨by have h1 := hk.1; have h2 := GM.out; have h3 := G12.out; omega, by have h1 := hk.2; omega⟩); clear hk10 hb10 hs10 ho10; (try simp only [Act.put, qA, qB, qC]))
  refine bodyPost_ret (results_blk rfl _ _ w1.heap.size 29 _ _ rfl K10.out Tryz.underlying29 rfl (size_rx D6.out)) rfl ?_
  exact ⟨ds, rfl, by rw [HF.out]; exact D10.out, B10.out⟩
 ·have k6 : (r.kind == 6) = false := by simpa using h6
  by_cases h1 : r.kind = 1 ∨ r.kind = 2
  ·have HF := Lib.hid (show star1T r = emptyT by unfold star1T; rw [if_neg h6, if_pos h1])
   clear h6 hns
   rcases h1 with h1 | h1
   ·have k1 : (r.kind == 1) = true := by simpa using h1
    clear h1
    go_enter Tryz.func23, Tryz.ntmps23
    go_wp2_with (first
     | ((with_reducible refine atDst 1 ?_); refine wpList_box rfl 29 _ rfl cs rfl (Below.refl w.heap.size w) (Nat.le_refl _) ?_; intro w1 hk1 hb1 hs1 _; have K1 := Lib.hid hk1; have B1 := Lib.hid hb1; clear hk1 hb1 hs1; (try simp only [Act.put, qA, qB, qC]))
     | ((with_reducible refine atDst 2 ?_); refine wpList_new rfl 29 rfl i0 _ z hi0 HZ0.out rfl B1.out B1.out.size ?_; intro w2 hk2 hb2 hs2 ho2; have M2 := Lib.hid hk2; have B2 := Lib.hid hb2; have K2 := Lib.hid (show Blk w2 w.heap.size 29 cs from (ho2 _ K1.out.lt).trans K1.out); have G12 := Lib.hid K1.out.lt; have a0 := K2.out.cell 0; rw [HC0.out] at a0; have a5 := K2.out.cell 5; rw [HC5.out] at a5; clear hk2 hb2 hs2 ho2; (try simp only [Act.put, qA, qB, qC]))
     | ((with_reducible refine atDst 9 ?_); refine wpList_ldArr rfl 29 _ rfl w.heap.size rfl 29 _ _ K2.out Tryz.underlying29 rfl (size_rx HC6.out) ?_; (try simp only [Act.put, qA, qB, qC]))
     | ((with_reducible refine atDst 48 ?_); refine wpList_ldArr rfl 29 _ rfl w.heap.size rfl 29 _ _ K2.out Tryz.underlying29 rfl (size_rx HC6.out) ?_; (try simp only [Act.put, qA, qB, qC])))
    refine (refEmpty_fr w2).mono ?_
    rintro e w9 ⟨ds, rfl, hds, hb9⟩
    have DX := Lib.hid (RxD.mono hds (D' := fun k => w2.heap.size ≤ k ∧ k < w9.heap.size) (fun k hk => hk))
    have D6 := Lib.hid hds.length
    have D1 := Lib.hid (show ds.all (·.oneCell') = true from List.all_eq_true.2 hds.one)
    have B9 := Lib.hid (B2.out.trans (hb9.mono B2.out.size))
    have M9 := Lib.hid (M2.out.below hb9 M2.out.lt)
    have GM := Lib.hid M2.out.lt
    clear hds hb9
    go_wp2_with ((with_reducible refine atStore 29 2 14 ?_); refine wpList_stBlk rfl 29 _ _ rfl w1.heap.size ds rfl rfl 29 _ M9.out (size_rx D6.out) (by rw [HZL.out, D6.out]) D1.out B9.out (Nat.le_of_lt G12.out) ?_; intro w10 hk10 hb10 hs10 ho10; have K10 := Lib.hid hk10; have B10 := Lib.hid hb10; have D10 := Lib.hid (RxD.mono (DX.out.stay (w' := w10) fun k hk => ho10 k (by have h1 := hk.1; have h2 := GM.out; omega)) (D' := fun k => w.heap.size ≤ k ∧ k < w10.heap.size) fun k hk => ⟨by have h1 := hk.1; have h2 := GM.out; have h3 := G12.out; omega, by have h1 := hk.2; omega⟩); clear hk10 hb10 hs10 ho10; (try simp only [Act.put, qA, qB, qC]))
    refine bodyPost_ret (results_blk rfl _ _ w1.heap.size 29 _ _ rfl K10.out Tryz.underlying29 rfl (size_rx D6.out)) rfl ?_
    exact ⟨ds, rfl, by rw [HF.out]; exact D10.out, B10.out⟩
   ·have k1 : (r.kind == 1) = false := by rw [h1]; rfl
    have k2 : (r.kind == 2) = true := by simpa using h1
    clear h1
    go_enter Tryz.func23, Tryz.ntmps23
    go_wp2_with (first
     | ((with_reducible refine atDst 1 ?_); refine wpList_box rfl 29 _ rfl cs rfl (Below.refl w.heap.size w) (Nat.le_refl _) ?_; intro w1 hk1 hb1 hs1 _; have K1 := Lib.hid hk1; have B1 := Lib.hid hb1; clear hk1 hb1 hs1; (try simp only [Act.put, qA, qB, qC]))
     | ((with_reducible refine atDst 2 ?_); refine wpList_new rfl 29 rfl i0 _ z hi0 HZ0.out rfl B1.out B1.out.size ?_; intro w2 hk2 hb2 hs2 ho2; have M2 := Lib.hid hk2; have B2 := Lib.hid hb2; have K2 := Lib.hid (show Blk w2 w.heap.size 29 cs from (ho2 _ K1.out.lt).trans K1.out); have G12 := Lib.hid K1.out.lt; have a0 := K2.out.cell 0; rw [HC0.out] at a0; have a5 := K2.out.cell 5; rw [HC5.out] at a5; clear hk2 hb2 hs2 ho2; (try simp only [Act.put, qA, qB, qC]))
     | ((with_reducible refine atDst 9 ?_); refine wpList_ldArr rfl 29 _ rfl w.heap.size rfl 29 _ _ K2.out Tryz.underlying29 rfl (size_rx HC6.out) ?_; (try simp only [Act.put, qA, qB, qC]))
     | ((with_reducible refine atDst 48 ?_); refine wpList_ldArr rfl 29 _ rfl w.heap.size rfl 29 _ _ K2.out Tryz.underlying29 rfl (size_rx HC6.out) ?_; (try simp only [Act.put, qA, qB, qC])))
    refine (refEmpty_fr w2).mono ?_
    rintro e w9 ⟨ds, rfl, hds, hb9⟩
    have DX := Lib.hid (RxD.mono hds (D' := fun k => w2.heap.size ≤ k ∧ k < w9.heap.size) (fun k hk => hk))
    have D6 := Lib.hid hds.length
    have D1 := Lib.hid (show ds.all (·.oneCell') = true from List.all_eq_true.2 hds.one)
    have B9 := Lib.hid (B2.out.trans (hb9.mono B2.out.size))
    have M9 := Lib.hid (M2.out.below hb9 M2.out.lt)
    have GM := Lib.hid M2.out.lt
    clear hds hb9
    go_wp2_with ((with_reducible refine atStore 29 2 14 ?_); refine wpList_stBlk rfl 29 _ _ rfl w1.heap.size ds rfl rfl 29 _ M9.out (size_rx D6.out) (by rw [HZL.out, D6.out]) D1.out B9.out (Nat.le_of_lt G12.out) ?_; intro w10 hk10 hb10 hs10 ho10; have K10 := Lib.hid hk10; have B10 := Lib.hid hb10; have D10 := Lib.hid (RxD.mono (DX.out.stay (w' := w10) fun k hk => ho10 k (by have h1 := hk.1; have h2 := GM.out; omega)) (D' := fun k => w.heap.size ≤ k ∧ k < w10.heap.size) fun k hk => ⟨by have h1 := hk.1; have h2 := GM.out; have h3 := G12.out; omega, by have h1 := hk.2; omega⟩); clear hk10 hb10 hs10 ho10; (try simp only [Act.put, qA, qB, qC]))
    refine bodyPost_ret (results_blk rfl _ _ w1.heap.size 29 _ _ rfl K10.out Tryz.underlying29 rfl (size_rx D6.out)) rfl ?_
    exact ⟨ds, rfl, by rw [HF.out]; exact D10.out, B10.out⟩
  ·have HF := Lib.hid (show star1T r = .node 6 zeroS [r] by unfold star1T; rw [if_neg h6, if_neg h1])
   have k1 : (r.kind == 1) = false := by simpa using fun h => h1 (.inl h)
   have k2 : (r.kind == 2) = false := by simpa using fun h => h1 (.inr h)
   by_cases h5 : r.kind = 5
   ·have k5 : (r.kind == 5) = true := by simpa using h5
    have HWA := Lib.hid (show withoutT 2 r.args = r.args from without_all (by
     cases ha : anyK 2 r.args with
     | false => rfl
     | true => exact absurd ⟨h5, ha⟩ hns))
    clear h6 h1 h5 hns
    go_enter Tryz.func23, Tryz.ntmps23
    go_wp2_with (first
     | ((with_reducible refine atDst 1 ?_); refine wpList_box rfl 29 _ rfl cs rfl (Below.refl w.heap.size w) (Nat.le_refl _) ?_; intro w1 hk1 hb1 hs1 _; have K1 := Lib.hid hk1; have B1 := Lib.hid hb1; clear hk1 hb1 hs1; (try simp only [Act.put, qA, qB, qC]))
     | ((with_reducible refine atDst 2 ?_); refine wpList_new rfl 29 rfl i0 _ z hi0 HZ0.out rfl B1.out B1.out.size ?_; intro w2 hk2 hb2 hs2 ho2; have M2 := Lib.hid hk2; have B2 := Lib.hid hb2; have K2 := Lib.hid (show Blk w2 w.heap.size 29 cs from (ho2 _ K1.out.lt).trans K1.out); have G12 := Lib.hid K1.out.lt; have a0 := K2.out.cell 0; rw [HC0.out] at a0; have a5 := K2.out.cell 5; rw [HC5.out] at a5; clear hk2 hb2 hs2 ho2; (try simp only [Act.put, qA, qB, qC]))
     | ((with_reducible refine atDst 9 ?_); refine wpList_ldArr rfl 29 _ rfl w.heap.size rfl 29 _ _ K2.out Tryz.underlying29 rfl (size_rx HC6.out) ?_; (try simp only [Act.put, qA, qB, qC]))
     | ((with_reducible refine atDst 48 ?_); refine wpList_ldArr rfl 29 _ rfl w.heap.size rfl 29 _ _ K2.out Tryz.underlying29 rfl (size_rx HC6.out) ?_; (try simp only [Act.put, qA, qB, qC])))
    go_loopw [3, 4] (fun v i wl => ∃ (v1 : Value) (j : Nat), v1 = v ∧ j ≤ r.args.length ∧ i = .int .i64 (j : Int) ∧ OwnT D w2.heap.size wl v1 (withoutT 2 (r.args.take j)) ∧ Below w2.heap.size w2 wl) (fun _ i _ => r.args.length - (intOf i).toNat)
    case atStart => exact ⟨_, 0, rfl, by omega, by simp, OwnT.nil _ _ _, Below.refl _ _⟩
    case round =>
     obtain ⟨v1, j, rfl, hj, rfl, ho, hb⟩ := hrel
     have HO := Lib.hid ho
     have HBw := Lib.hid hb
     have HB := Lib.hid (B2.out.trans (hb.mono B2.out.size))
     have KR := Lib.hid (K2.out.below hb K2.out.lt)
     have MR := Lib.hid (M2.out.below hb M2.out.lt)
     have r5 := KR.out.cell 5
     rw [HC5.out] at r5
     have HSW := Lib.hid hb.size
     clear ho hb
     by_cases hjl : j < r.args.length
     ·have j1 : (j : Int) < (r.args.length : Int) := Int.ofNat_lt.2 hjl
      obtain ⟨Ax, cx, f, hex, h1, h2, h0, h3, h4⟩ := HRU.out
      injection hex with hex1 hex2 hex3
      subst hex1 hex3
      obtain ⟨b, off, rfl, hb, hrng⟩ := h3 (by intro he; rw [he] at hjl; simp at hjl)
      obtain ⟨u, hu⟩ : ∃ u, r.args[j]? = some u := ⟨_, List.getElem?_eq_getElem hjl⟩
      have HX := Lib.hid (h4 j u hu)
      have HVU := Lib.hid (HX.out.keep HB.out HD.out)
      have HRG := Lib.hid (range_below (hrng j hjl) HB.out (HD.out b hb))
      obtain ⟨Aw, cw, hsw, hrw⟩ := HVU.out.split
      have HV6 := Lib.hid HVU.out.length
      have c0 := range_cell0 HRG.out (show (f j)[0]? = some (.int .i64 u.kind) by rw [hsw]; rfl)
      have HLA := Lib.hid (len_nodes r.args)
      have hj62 : j ≤ 4611686018427387904 := by have := HLA.out; have := HNA.out; have := HM.out; omega
      have e3 := wrap_one j hj62
      have e4 := wrap_one' j hj62
      have HNX := Lib.hid (withoutT_next 2 r.args j u hu)
      have HNL := Lib.hid (Nat.le_trans (withoutT_len 2 (r.args.take j)) (List.length_take_le j r.args))
      have HJ1 := Lib.hid (sub_next hjl)
      have HJ2 := Lib.hid (show j + 1 ≤ r.args.length from hjl)
      obtain ⟨cur, hcur⟩ : ∃ cur, cur = withoutT 2 (r.args.take j) := ⟨_, rfl⟩
      rw [← hcur] at HO HNX HNL
      have HLC := Lib.hid (show cur.length + 1 ≤ 1099511627776 by have h1 := HNL.out; have h2 := HLA.out; have h3 := HNA.out; have h4 := HM.out; omega)
      clear hex2 h1 h2 h0 h3 h4 hrng hu hj62 hb hsw hrw hcur
      by_cases hk2 : u.kind = 2
      ·have hkc : (u.kind != 2) = false := by simpa using hk2
       have HE := Lib.hid (show withoutT 2 (r.args.take (j + 1)) = cur by rw [HNX.out, if_pos hk2, List.append_nil])
       clear hk2
       go_wp2_with fail
       refine ⟨⟨_, j + 1, rfl, HJ2.out, by congr 1, by rw [HE.out]; exact HO.out, HBw.out⟩, by simpa [intOf] using HJ1.out⟩
      ·have hkc : (u.kind != 2) = true := by simpa using hk2
       have HE := Lib.hid (show withoutT 2 (r.args.take (j + 1)) = cur ++ [u] by rw [HNX.out, if_neg hk2])
       clear hk2
       go_wp2_with (first
        | ((with_reducible refine atDst 36 ?_); refine wpList_load_mid rfl 29 _ rfl b (off + j * 6) rfl (f j) _ HRG.out Tryz.underlying29 rfl (size_rx HV6.out) ?_; (try simp only [Act.put, qA, qB, qC]))
        | ((with_reducible refine atDst 37 ?_); refine wpList_bldT1 rfl 27 29 (.tmp 36) rfl i0 Tryz.underlying27 hi0 HZ1.out hz1 (f j) HV6.out rfl ?_; intro w4 hk4 hb4 hs4; have K4 := Lib.hid hk4; have O4 := Lib.hid (HO.out.stay hb4); have B4 := Lib.hid (HBw.out.trans (hb4.mono HBw.out.size)); have V4 := Lib.hid (RxD.mono (HX.out.keep (HB.out.trans (hb4.mono HB.out.size)) HD.out) (D' := fun k => D k ∧ k < w4.heap.size ∧ some k ≠ v1.ownBlock) fun k hk => ⟨hk, by have h1 := HB.out.size; have h2 := hb4.size; have h3 := HD.out k hk; omega, fun he => by have h1 := HO.out.ge k he.symm; have h2 := B2.out.size; have h3 := HD.out k hk; omega⟩); clear hk4 hb4 hs4; (try simp only [Act.put, qA, qB, qC]))
        | ((with_reducible refine atDst 38 ?_); refine wpList_appT (D := D) (base := w2.heap.size) rfl (.tmp 31) (.tmp 37) rfl i0 hi0 HZ1.out hz1 hz2 v1 _ rfl O4.out wr.heap.size 1 29 (f j) u rfl K4.out V4.out HLC.out B4.out.size ?_; intro v5 w5 ho5 hg5; have O5 := Lib.hid ho5; have B5 := Lib.hid (B4.out.grown hg5 B4.out.size (fun q hq => O4.out.ge q hq)); clear ho5 hg5; (try simp only [Act.put, qA, qB, qC])))
       refine ⟨⟨_, j + 1, rfl, HJ2.out, by congr 1, by rw [HE.out]; exact O5.out, B5.out⟩, by simpa [intOf] using HJ1.out⟩
     ·obtain rfl : j = r.args.length := by omega
      have j1 : ¬ ((r.args.length : Int) < (r.args.length : Int)) := by omega
      have ho := HO.out
      rw [List.take_length] at ho
      have O9 := Lib.hid ho
      obtain ⟨A9, c9, rfl⟩ := ho.slice
      clear ho HO
      have hlt : ¬ (((withoutT 2 r.args).length : Int) < (r.args.length : Int)) := by rw [HWA.out]; omega
      go_wp2_with ((with_reducible refine atDst 48 ?_); refine wpList_ldArr rfl 29 _ rfl w.heap.size rfl 29 _ _ KR.out Tryz.underlying29 rfl (size_rx HC6.out) ?_; (try simp only [Act.put, qA, qB, qC]))
      refine (refCopy_any _ r (Nat.le_refl _) (by have := HM.out; omega) cs wr (RxD.mono (HV.out.keep HB.out HD.out) fun k hk => Nat.lt_of_lt_of_le (HD.out k hk) HB.out.size)).mono ?_
      rintro e w9 ⟨ds, rfl, hds, hb9⟩
      have DX := Lib.hid (RxD.mono hds (D' := fun k => w2.heap.size ≤ k ∧ k < w9.heap.size) fun k hk => ⟨Nat.le_trans HSW.out hk.1, hk.2⟩)
      have D6 := Lib.hid hds.length
      have B9 := Lib.hid (HB.out.trans (hb9.mono HB.out.size))
      have M9 := Lib.hid (MR.out.below hb9 MR.out.lt)
      have GM := Lib.hid M2.out.lt
      have S9 := Lib.hid (Nat.le_trans HSW.out hb9.size)
      clear hds hb9
      obtain ⟨c, hc⟩ : ∃ c, c = rxc 6 zeroS (.slice (some ⟨w9.heap.size, 0, none⟩) 1 1) := ⟨_, rfl⟩
      have HCB := Lib.hid (show Tryz.prog.built 29 [(0, .int .i64 6), (2, .slice (some ⟨w9.heap.size, 0, none⟩) 1 1)] = some c.toArray by rw [hc]; exact built02 6 _ _ 1 1 rfl)
      have E6 := Lib.hid (show c.length = 6 by rw [hc]; rfl)
      have E1 := Lib.hid (show c.all (·.oneCell') = true by rw [hc]; rfl)
      have HCC := Lib.hid hc
      clear hc
      go_wp2_with (first
       | ((with_reducible refine atDst 50 ?_); refine wpList_bldT1 rfl 27 29 (.tmp 49) rfl i0 Tryz.underlying27 hi0 HZ1.out hz1 ds D6.out rfl ?_; intro w11 hk11 hb11 hs11; have K11 := Lib.hid hk11; have B11 := Lib.hid (B9.out.trans (hb11.mono B9.out.size)); have M11 := Lib.hid (M9.out.below hb11 M9.out.lt); have D11 := Lib.hid (RxD.mono (DX.out.stay (w' := w11) fun k hk => hb11.block k hk.2) (D' := fun k => w2.heap.size ≤ k ∧ k < w11.heap.size) fun k hk => ⟨hk.1, by have h1 := hk.2; omega⟩); have S11 := Lib.hid hs11; clear hk11 hb11 hs11; (try simp only [Act.put, qA, qB, qC]))
       | ((with_reducible refine atDst 51 ?_); refine wpList_bld rfl 29 _ rfl c HCB.out ?_; (try simp only [Act.put, qA, qB, qC]))
       | ((with_reducible refine atStore 29 2 51 ?_); refine wpList_stBlk rfl 29 _ _ rfl w1.heap.size c rfl rfl 29 _ M11.out (size_rx E6.out) (by rw [HZL.out, E6.out]) E1.out B11.out (Nat.le_of_lt G12.out) ?_; intro w10 hk10 hb10 hs10 ho10; have K10 := Lib.hid hk10; have B10 := Lib.hid hb10; have D10 := Lib.hid (RxD.mono (D11.out.stay (w' := w10) fun k hk => ho10 k (by have h1 := hk.1; have h2 := GM.out; omega)) (D' := fun k => w.heap.size ≤ k ∧ k < w10.heap.size) fun k hk => ⟨by have h1 := hk.1; have h2 := GM.out; have h3 := G12.out; omega, by have h1 := hk.2; omega⟩); have R10 := Lib.hid (show w10.rangeAt w9.heap.size (0 + 0 * 6) ds from fun i u hu => by have h1 := (show Blk w10 w9.heap.size 29 ds from (ho10 _ (by have h2 := GM.out; have h3 := S9.out; omega)).trans K11.out).cell (0 + 0 * 6 + i); rw [h1]; simpa using hu); have L10 := Lib.hid (show w.heap.size ≤ w9.heap.size ∧ w9.heap.size < w10.heap.size from ⟨by have h2 := GM.out; have h3 := S9.out; have h4 := G12.out; omega, by have h1 := S11.out; omega⟩); clear hk10 hb10 hs10 ho10; (try simp only [Act.put, qA, qB, qC])))
      refine bodyPost_ret (results_blk rfl _ _ w1.heap.size 29 _ _ rfl K10.out Tryz.underlying29 rfl (size_rx E6.out)) rfl ?_
      refine ⟨c, rfl, ?_, B10.out⟩
      rw [HF.out, HCC.out]
      refine RxD.node (l := [r]) (cap := 1) (fun _ => ds) (Nat.le_refl _) (show 1 ≤ maxLen from by unfold maxLen; omega) (fun h => by cases h) (fun _ => ⟨w9.heap.size, 0, rfl, L10.out, fun i hi => ?_⟩) (fun i t ht => ?_)
      ·have : i = 0 := by simpa using hi
       subst this
       exact R10.out
      ·have hi := (List.getElem?_eq_some_iff.1 ht).1
       have : i = 0 := by simpa using hi
       subst this
       obtain rfl : r = t := by simpa using ht
       exact D10.out
   ·have k5 : (r.kind == 5) = false := by simpa using h5
    have HSW := Lib.hid (Nat.le_refl w.heap.size)
    clear h6 h1 h5 hns
    go_enter Tryz.func23, Tryz.ntmps23
    go_wp2_with (first
     | ((with_reducible refine atDst 1 ?_); refine wpList_box rfl 29 _ rfl cs rfl (Below.refl w.heap.size w) (Nat.le_refl _) ?_; intro w1 hk1 hb1 hs1 _; have K1 := Lib.hid hk1; have B1 := Lib.hid hb1; clear hk1 hb1 hs1; (try simp only [Act.put, qA, qB, qC]))
     | ((with_reducible refine atDst 2 ?_); refine wpList_new rfl 29 rfl i0 _ z hi0 HZ0.out rfl B1.out B1.out.size ?_; intro w2 hk2 hb2 hs2 ho2; have M2 := Lib.hid hk2; have B2 := Lib.hid hb2; have K2 := Lib.hid (show Blk w2 w.heap.size 29 cs from (ho2 _ K1.out.lt).trans K1.out); have G12 := Lib.hid K1.out.lt; have a0 := K2.out.cell 0; rw [HC0.out] at a0; have a5 := K2.out.cell 5; rw [HC5.out] at a5; clear hk2 hb2 hs2 ho2; (try simp only [Act.put, qA, qB, qC]))
     | ((with_reducible refine atDst 9 ?_); refine wpList_ldArr rfl 29 _ rfl w.heap.size rfl 29 _ _ K2.out Tryz.underlying29 rfl (size_rx HC6.out) ?_; (try simp only [Act.put, qA, qB, qC]))
     | ((with_reducible refine atDst 48 ?_); refine wpList_ldArr rfl 29 _ rfl w.heap.size rfl 29 _ _ K2.out Tryz.underlying29 rfl (size_rx HC6.out) ?_; (try simp only [Act.put, qA, qB, qC])))
    have HSX := Lib.hid (Nat.le_refl w2.heap.size)
    refine (refCopy_any _ r (Nat.le_refl _) (by have := HM.out; omega) cs w2 (RxD.mono (HV.out.keep B2.out HD.out) fun k hk => Nat.lt_of_lt_of_le (HD.out k hk) B2.out.size)).mono ?_
    rintro e w9 ⟨ds, rfl, hds, hb9⟩
    have DX := Lib.hid (RxD.mono hds (D' := fun k => w2.heap.size ≤ k ∧ k < w9.heap.size) fun k hk => ⟨Nat.le_trans HSX.out hk.1, hk.2⟩)
    have D6 := Lib.hid hds.length
    have B9 := Lib.hid (B2.out.trans (hb9.mono B2.out.size))
    have M9 := Lib.hid (M2.out.below hb9 M2.out.lt)
    have GM := Lib.hid M2.out.lt
    have S9 := Lib.hid (Nat.le_trans HSX.out hb9.size)
    clear hds hb9
    obtain ⟨c, hc⟩ : ∃ c, c = rxc 6 zeroS (.slice (some ⟨w9.heap.size, 0, none⟩) 1 1) := ⟨_, rfl⟩
    have HCB := Lib.hid (show Tryz.prog.built 29 [(0, .int .i64 6), (2, .slice (some ⟨w9.heap.size, 0, none⟩) 1 1)] = some c.toArray by rw [hc]; exact built02 6 _ _ 1 1 rfl)
    have E6 := Lib.hid (show c.length = 6 by rw [hc]; rfl)
    have E1 := Lib.hid (show c.all (·.oneCell') = true by rw [hc]; rfl)
    have HCC := Lib.hid hc
    clear hc
    go_wp2_with (first
     | ((with_reducible refine atDst 50 ?_); refine wpList_bldT1 rfl 27 29 (.tmp 49) rfl i0 Tryz.underlying27 hi0 HZ1.out hz1 ds D6.out rfl ?_; intro w11 hk11 hb11 hs11; have K11 := Lib.hid hk11; have B11 := Lib.hid (B9.out.trans (hb11.mono B9.out.size)); have M11 := Lib.hid (M9.out.below hb11 M9.out.lt); have D11 := Lib.hid (RxD.mono (DX.out.stay (w' := w11) fun k hk => hb11.block k hk.2) (D' := fun k => w2.heap.size ≤ k ∧ k < w11.heap.size) fun k hk => ⟨hk.1, by have h1 := hk.2; omega⟩); have S11 := Lib.hid hs11; clear hk11 hb11 hs11; (try simp only [Act.put, qA, qB, qC]))
     | ((with_reducible refine atDst 51 ?_); refine wpList_bld rfl 29 _ rfl c HCB.out ?_; (try simp only [Act.put, qA, qB, qC]))
     | ((with_reducible refine atStore 29 2 51 ?_); refine wpList_stBlk rfl 29 _ _ rfl w1.heap.size c rfl rfl 29 _ M11.out (size_rx E6.out) (by rw [HZL.out, E6.out]) E1.out B11.out (Nat.le_of_lt G12.out) ?_; intro w10 hk10 hb10 hs10 ho10; have K10 := Lib.hid hk10; have B10 := Lib.hid hb10; have D10 := Lib.hid (RxD.mono (D11.out.stay (w' := w10) fun k hk => ho10 k (by have h1 := hk.1; have h2 := GM.out; omega)) (D' := fun k => w.heap.size ≤ k ∧ k < w10.heap.size) fun k hk => ⟨by have h1 := hk.1; have h2 := GM.out; have h3 := G12.out; omega, by have h1 := hk.2; omega⟩); have R10 := Lib.hid (show w10.rangeAt w9.heap.size (0 + 0 * 6) ds from fun i u hu => by have h1 := (show Blk w10 w9.heap.size 29 ds from (ho10 _ (by have h2 := GM.out; have h3 := S9.out; omega)).trans K11.out).cell (0 + 0 * 6 + i); rw [h1]; simpa using hu); have L10 := Lib.hid (show w.heap.size ≤ w9.heap.size ∧ w9.heap.size < w10.heap.size from ⟨by have h2 := GM.out; have h3 := S9.out; have h4 := G12.out; omega, by have h1 := S11.out; omega⟩); clear hk10 hb10 hs10 ho10; (try simp only [Act.put, qA, qB, qC])))
    refine bodyPost_ret (results_blk rfl _ _ w1.heap.size 29 _ _ rfl K10.out Tryz.underlying29 rfl (size_rx E6.out)) rfl ?_
    refine ⟨c, rfl, ?_, B10.out⟩
    rw [HF.out, HCC.out]
    refine RxD.node (l := [r]) (cap := 1) (fun _ => ds) (Nat.le_refl _) (show 1 ≤ maxLen from by unfold maxLen; omega) (fun h => by cases h) (fun _ => ⟨w9.heap.size, 0, rfl, L10.out, fun i hi => ?_⟩) (fun i t ht => ?_)
    ·have : i = 0 := by simpa using hi
     subst this
     exact R10.out
    ·have hi := (List.getElem?_eq_some_iff.1 ht).1
     have : i = 0 := by simpa using hi
     subst this
     obtain rfl : r = t := by simpa using ht
     exact D10.out
set_option maxHeartbeats 8000000 in
set_option maxRecDepth 100000 in
theorem refStar_any (r : T) (cs : List Value) (w : World) {D : Nat → Prop} (hD : ∀ k, D k → k < w.heap.size) (hv : RxD D w cs r) (hM : r.nodes ≤ 274877906944) (hg : good r) :
  Calls Tryz.prog 23 #[.agg cs.toArray] w fun e w' => ∃ ds, e = .returned (.agg ds.toArray) ∧ RxD (fun k => w.heap.size ≤ k ∧ k < w'.heap.size) w' ds (starT r) ∧ Below w.heap.size w w' := by
 by_cases hns : r.kind = 5 ∧ anyK 2 r.args = true
 ·have HF := Lib.hid (show starT r = star1T (altT (withoutT 2 r.args)) by unfold starT; rw [if_pos hns])
  have HWL := Lib.hid (without_less hns.2)
  have k6 : (r.kind == 6) = false := by rw [hns.1]; rfl
  have k1 : (r.kind == 1) = false := by rw [hns.1]; rfl
  have k2 : (r.kind == 2) = false := by rw [hns.1]; rfl
  have k5 : (r.kind == 5) = true := by rw [hns.1]; rfl
  have HGA := Lib.hid (show ∀ t ∈ r.args, good t ∧ t.kind ≠ 5 by
   cases r with
   | node k s l =>
    obtain ⟨g1, g2, g3, g4, g5, g6⟩ := good_node.1 hg
    intro t ht
    refine ⟨g2 t ht, fun h5 => ?_⟩
    have h1 := g5 t ht
    have h2 : k = 5 := hns.1
    rw [h5, h2] at h1
    simp [fitsT] at h1)
  have HNS := Lib.hid (alt_no2 (l := withoutT 2 r.args) (fun t ht => (HGA.out t (List.mem_filter.1 ht).1).1) (fun t ht => ⟨by simpa using (List.mem_filter.1 ht).2, (HGA.out t (List.mem_filter.1 ht).1).2⟩))
  have HM' := Lib.hid hM
  replace hM : r.nodes ≤ 549755813888 := by omega
  clear hns hg
  have HV := Lib.hid hv
  have HD := Lib.hid hD
  have HM := Lib.hid hM
  have HC6 := Lib.hid hv.length
  obtain ⟨Au, cu, hsp, hru⟩ := hv.split
  have HC0 := Lib.hid (show cs[0]? = some (.int .i64 r.kind) by rw [hsp]; rfl)
  have HC5 := Lib.hid (show cs[5]? = some (.slice Au r.args.length cu) by rw [hsp]; rfl)
  have HRU := Lib.hid hru
  have HNA := Lib.hid (show nodesL r.args + 1 ≤ r.nodes by cases r with | node k s l => simp only [T.args, T.nodes]; omega)
  obtain ⟨i0, hi0, hz0, hz1, hz2⟩ := inf_rx'
  obtain ⟨z, hz⟩ : ∃ z, z = rxc 0 zeroS (.slice none 0 0) := ⟨_, rfl⟩
  have HZL := Lib.hid (show z.length = 6 by rw [hz]; rfl)
  have HZ0 := Lib.hid (show i0.zero = some (.agg z.toArray) by rw [hz]; exact hz0)
  have HZ1 := Lib.hid hz0
  clear hv hD hM hsp hru hz hz0
  go_enter Tryz.func23, Tryz.ntmps23
  go_wp2_with (first
   | ((with_reducible refine atDst 1 ?_); refine wpList_box rfl 29 _ rfl cs rfl (Below.refl w.heap.size w) (Nat.le_refl _) ?_; intro w1 hk1 hb1 hs1 _; have K1 := Lib.hid hk1; have B1 := Lib.hid hb1; clear hk1 hb1 hs1; (try simp only [Act.put, qA, qB, qC]))
   | ((with_reducible refine atDst 2 ?_); refine wpList_new rfl 29 rfl i0 _ z hi0 HZ0.out rfl B1.out B1.out.size ?_; intro w2 hk2 hb2 hs2 ho2; have M2 := Lib.hid hk2; have B2 := Lib.hid hb2; have K2 := Lib.hid (show Blk w2 w.heap.size 29 cs from (ho2 _ K1.out.lt).trans K1.out); have G12 := Lib.hid K1.out.lt; have a0 := K2.out.cell 0; rw [HC0.out] at a0; have a5 := K2.out.cell 5; rw [HC5.out] at a5; clear hk2 hb2 hs2 ho2; (try simp only [Act.put, qA, qB, qC]))
   | ((with_reducible refine atDst 9 ?_); refine wpList_ldArr rfl 29 _ rfl w.heap.size rfl 29 _ _ K2.out Tryz.underlying29 rfl (size_rx HC6.out) ?_; (try simp only [Act.put, qA, qB, qC]))
   | ((with_reducible refine atDst 48 ?_); refine wpList_ldArr rfl 29 _ rfl w.heap.size rfl 29 _ _ K2.out Tryz.underlying29 rfl (size_rx HC6.out) ?_; (try simp only [Act.put, qA, qB, qC])))
  go_loopw [3, 4] (fun v i wl => ∃ (v1 : Value) (j : Nat), v1 = v ∧ j ≤ r.args.length ∧ i = .int .i64 (j : Int) ∧ OwnT D w2.heap.size wl v1 (withoutT 2 (r.args.take j)) ∧ Below w2.heap.size w2 wl) (fun _ i _ => r.args.length - (intOf i).toNat)
  case atStart => exact ⟨_, 0, rfl, by omega, by simp, OwnT.nil _ _ _, Below.refl _ _⟩
  case round =>
   obtain ⟨v1, j, rfl, hj, rfl, ho, hb⟩ := hrel
   have HO := Lib.hid ho
   have HBw := Lib.hid hb
   have HB := Lib.hid (B2.out.trans (hb.mono B2.out.size))
   have KR := Lib.hid (K2.out.below hb K2.out.lt)
   have MR := Lib.hid (M2.out.below hb M2.out.lt)
   have r5 := KR.out.cell 5
   rw [HC5.out] at r5
   have HSW := Lib.hid hb.size
   clear ho hb
   by_cases hjl : j < r.args.length
   ·have j1 : (j : Int) < (r.args.length : Int) := Int.ofNat_lt.2 hjl
    obtain ⟨Ax, cx, f, hex, h1, h2, h0, h3, h4⟩ := HRU.out
    injection hex with hex1 hex2 hex3
    subst hex1 hex3
    obtain ⟨b, off, rfl, hb, hrng⟩ := h3 (by intro he; rw [he] at hjl; simp at hjl)
    obtain ⟨u, hu⟩ : ∃ u, r.args[j]? = some u := ⟨_, List.getElem?_eq_getElem hjl⟩
    have HX := Lib.hid (h4 j u hu)
    have HVU := Lib.hid (HX.out.keep HB.out HD.out)
    have HRG := Lib.hid (range_below (hrng j hjl) HB.out (HD.out b hb))
    obtain ⟨Aw, cw, hsw, hrw⟩ := HVU.out.split
    have HV6 := Lib.hid HVU.out.length
    have c0 := range_cell0 HRG.out (show (f j)[0]? = some (.int .i64 u.kind) by rw [hsw]; rfl)
    have HLA := Lib.hid (len_nodes r.args)
    have hj62 : j ≤ 4611686018427387904 := by have := HLA.out; have := HNA.out; have := HM.out; omega
    have e3 := wrap_one j hj62
    have e4 := wrap_one' j hj62
    have HNX := Lib.hid (withoutT_next 2 r.args j u hu)
    have HNL := Lib.hid (Nat.le_trans (withoutT_len 2 (r.args.take j)) (List.length_take_le j r.args))
    have HJ1 := Lib.hid (sub_next hjl)
    have HJ2 := Lib.hid (show j + 1 ≤ r.args.length from hjl)
    obtain ⟨cur, hcur⟩ : ∃ cur, cur = withoutT 2 (r.args.take j) := ⟨_, rfl⟩
    rw [← hcur] at HO HNX HNL
    have HLC := Lib.hid (show cur.length + 1 ≤ 1099511627776 by have h1 := HNL.out; have h2 := HLA.out; have h3 := HNA.out; have h4 := HM.out; omega)
    clear hex2 h1 h2 h0 h3 h4 hrng hu hj62 hb hsw hrw hcur
    by_cases hk2 : u.kind = 2
    ·have hkc : (u.kind != 2) = false := by simpa using hk2
     have HE := Lib.hid (show withoutT 2 (r.args.take (j + 1)) = cur by rw [HNX.out, if_pos hk2, List.append_nil])
     clear hk2
     go_wp2_with fail
     refine ⟨⟨_, j + 1, rfl, HJ2.out, by congr 1, by rw [HE.out]; exact HO.out, HBw.out⟩, by simpa [intOf] using HJ1.out⟩
    ·have hkc : (u.kind != 2) = true := by simpa using hk2
     have HE := Lib.hid (show withoutT 2 (r.args.take (j + 1)) = cur ++ [u] by rw [HNX.out, if_neg hk2])
     clear hk2
     go_wp2_with (first
      | ((with_reducible refine atDst 36 ?_); refine wpList_load_mid rfl 29 _ rfl b (off + j * 6) rfl (f j) _ HRG.out Tryz.underlying29 rfl (size_rx HV6.out) ?_; (try simp only [Act.put, qA, qB, qC]))
      | ((with_reducible refine atDst 37 ?_); refine wpList_bldT1 rfl 27 29 (.tmp 36) rfl i0 Tryz.underlying27 hi0 HZ1.out hz1 (f j) HV6.out rfl ?_; intro w4 hk4 hb4 hs4; have K4 := Lib.hid hk4; have O4 := Lib.hid (HO.out.stay hb4); have B4 := Lib.hid (HBw.out.trans (hb4.mono HBw.out.size)); have V4 := Lib.hid (RxD.mono (HX.out.keep (HB.out.trans (hb4.mono HB.out.size)) HD.out) (D' := fun k => D k ∧ k < w4.heap.size ∧ some k ≠ v1.ownBlock) fun k hk => ⟨hk, by have h1 := HB.out.size; have h2 := hb4.size; have h3 := HD.out k hk; omega, fun he => by have h1 := HO.out.ge k he.symm; have h2 := B2.out.size; have h3 := HD.out k hk; omega⟩); clear hk4 hb4 hs4; (try simp only [Act.put, qA, qB, qC]))
      | ((with_reducible refine atDst 38 ?_); refine wpList_appT (D := D) (base := w2.heap.size) rfl (.tmp 31) (.tmp 37) rfl i0 hi0 HZ1.out hz1 hz2 v1 _ rfl O4.out wr.heap.size 1 29 (f j) u rfl K4.out V4.out HLC.out B4.out.size ?_; intro v5 w5 ho5 hg5; have O5 := Lib.hid ho5; have B5 := Lib.hid (B4.out.grown hg5 B4.out.size (fun q hq => O4.out.ge q hq)); clear ho5 hg5; (try simp only [Act.put, qA, qB, qC])))
     refine ⟨⟨_, j + 1, rfl, HJ2.out, by congr 1, by rw [HE.out]; exact O5.out, B5.out⟩, by simpa [intOf] using HJ1.out⟩
   ·obtain rfl : j = r.args.length := by omega
    have j1 : ¬ ((r.args.length : Int) < (r.args.length : Int)) := by omega
    have ho := HO.out
    rw [List.take_length] at ho
    have O9 := Lib.hid ho
    obtain ⟨A9, c9, rfl⟩ := ho.slice
    clear ho HO
    have hlt : ((withoutT 2 r.args).length : Int) < (r.args.length : Int) := by have := HWL.out; omega
    go_wp2_with fail
    refine (refAlt_any (withoutT 2 r.args) _ wr (O9.out.rowD.mono fun k hk => hk.2) (by have h1 := withoutT_nodes 2 r.args; have h2 := HNA.out; have h3 := HM'.out; omega)).mono ?_
    rintro e w7 ⟨cs7, rfl, hd7, hb7⟩
    have B7 := Lib.hid (HB.out.trans (hb7.mono HB.out.size))
    have M7 := Lib.hid (MR.out.below hb7 MR.out.lt)
    have D7 := Lib.hid hd7
    have HN7 := Lib.hid (show (altT (withoutT 2 r.args)).nodes ≤ 549755813888 by have h1 := altT_nodes (withoutT 2 r.args); have h2 := withoutT_nodes 2 r.args; have h3 := HNA.out; have h4 := HM'.out; omega)
    have S7 := Lib.hid (Nat.le_trans HSW.out hb7.size)
    clear hd7 hb7
    go_wp2_with fail
    refine (refStar_flat (altT (withoutT 2 r.args)) cs7 w7 (fun k hk => hk.2) D7.out HN7.out HNS.out).mono ?_
    rintro e w9 ⟨ds, rfl, hds, hb9⟩
    have DX := Lib.hid (RxD.mono hds (D' := fun k => w2.heap.size ≤ k ∧ k < w9.heap.size) (fun k hk => ⟨Nat.le_trans S7.out hk.1, hk.2⟩))
    have D6 := Lib.hid hds.length
    have D1 := Lib.hid (show ds.all (·.oneCell') = true from List.all_eq_true.2 hds.one)
    have B9 := Lib.hid (B7.out.trans (hb9.mono B7.out.size))
    have M9 := Lib.hid (M7.out.below hb9 M7.out.lt)
    have GM := Lib.hid M2.out.lt
    clear hds hb9
    go_wp2_with ((with_reducible refine atStore 29 2 47 ?_); refine wpList_stBlk rfl 29 _ _ rfl w1.heap.size ds rfl rfl 29 _ M9.out (size_rx D6.out) (by rw [HZL.out, D6.out]) D1.out B9.out (Nat.le_of_lt G12.out) ?_; intro w10 hk10 hb10 hs10 ho10; have K10 := Lib.hid hk10; have B10 := Lib.hid hb10; have D10 := Lib.hid (RxD.mono (DX.out.stay (w' := w10) fun k hk => ho10 k (by have h1 := hk.1; have h2 := GM.out; omega)) (D' := fun k => w.heap.size ≤ k ∧ k < w10.heap.size) fun k hk => ⟨by have h1 := hk.1; have h2 := GM.out; have h3 := G12.out; omega, by have h1 := hk.2; omega⟩); clear hk10 hb10 hs10 ho10; (try simp only [Act.put, qA, qB, qC]))
    refine bodyPost_ret (results_blk rfl _ _ w1.heap.size 29 _ _ rfl K10.out Tryz.underlying29 rfl (size_rx D6.out)) rfl ?_
    exact ⟨ds, rfl, by rw [HF.out]; exact D10.out, B10.out⟩
 ·have h := refStar_flat r cs w hD hv (by omega) hns
  have HF : starT r = star1T r := by unfold starT; rw [if_neg hns]
  rw [HF]
  exact h
end Go.Proofs.YtopnpdobcagcgaaGreat
namespace Go.Proofs.YtopnpdobcagcgaaGreat
open Go.RowKit
set_option linter.unusedSimpArgs false
set_option linter.unusedVariables false
mutual
theorem sameT_eq : ∀ t u : T, canT t → canT u → sameT t u = true → t = u
 | .node k s l, .node k' s' l', h, h', hs => by
  simp only [sameT, Bool.and_eq_true, decide_eq_true_eq] at hs
  simp only [canT] at h h'
  rw [hs.1.1, can_eq h.1 h'.1 hs.1.2, sameL_eq l l' h.2 h'.2 hs.2]
theorem sameL_eq : ∀ l m : List T, canL l → canL m → sameL l m = true → l = m
 | [], [], _, _, _ => rfl
 | [], _ :: _, _, _, h => by simp [sameL] at h
 | _ :: _, [], _, _, h => by simp [sameL] at h
 | a :: r, b :: s, hl, hm, h => by
  simp only [sameL, Bool.and_eq_true] at h
  simp only [canL] at hl hm
  rw [sameT_eq a b hl.1 hm.1 h.1, sameL_eq r s hl.2 hm.2 h.2]
end
mutual
theorem sameT_self : ∀ t : T, sameT t t = true
 | .node k s l => by
  simp only [sameT, Bool.and_eq_true, decide_eq_true_eq]
  exact ⟨⟨trivial, eqS_self s⟩, sameL_self l⟩
theorem sameL_self : ∀ l : List T, sameL l l = true
 | [] => rfl
 | a :: r => by
  simp only [sameL, Bool.and_eq_true]
  exact ⟨sameT_self a, sameL_self r⟩
end
theorem flat_all {k : Int} {l : List T} (h : ∀ t ∈ l, t.kind ≠ k) : flatT k l = l := by
 induction l with
 | nil => rfl
 | cons a r ih =>
  have e : flatT k (a :: r) = (if a.kind = k then a.args else [a]) ++ flatT k r := by simp [flatT]
  rw [e, if_neg (h a (by simp)), ih fun t ht => h t (by simp [ht])]
  rfl
theorem without_allK {k : Int} {l : List T} (h : ∀ t ∈ l, t.kind ≠ k) : withoutT k l = l := by
 unfold withoutT
 rw [List.filter_eq_self]
 intro t ht
 simpa using h t ht
theorem any_none {k : Int} {l : List T} (h : ∀ t ∈ l, t.kind ≠ k) : anyK k l = false := by
 unfold anyK
 rw [List.any_eq_false]
 intro t ht
 simpa using h t ht
theorem flat_kind {k : Int} {l : List T} (hk : k = 4 ∨ k = 5) (h : ∀ t ∈ l, good t) : ∀ t ∈ flatT k l, t.kind ≠ k := fun t ht => by
 unfold flatT at ht
 obtain ⟨u, hu, hu2⟩ := List.mem_flatMap.1 ht
 by_cases hku : u.kind = k
 ·rw [if_pos hku] at hu2
  cases u with
  | node k' s m =>
   have h1 := (good_node.1 (h _ hu)).2.2.2.2.1 t hu2
   have h2 : k' = k := hku
   intro h3
   rw [h3, h2] at h1
   unfold fitsT at h1
   rcases hk with rfl | rfl <;> simp at h1
 ·rw [if_neg hku] at hu2
  obtain rfl := List.mem_singleton.1 hu2
  exact hku
theorem without_kind {k : Int} {l : List T} : ∀ t ∈ withoutT k l, t.kind ≠ k := fun t ht => by simpa using (List.mem_filter.1 ht).2
theorem can_wrap {k : Int} {n : T} {l : List T} (hn : canT n) (h : ∀ t ∈ l, canT t) : canT (wrapT k n l) := by
 match l, h with
 | [], _ => exact hn
 | [t], h => exact h t (by simp)
 | a :: b :: r, h =>
  show canT (.node k zeroS (a :: b :: r))
  simp only [canT]
  exact ⟨can_zero, canL_iff.2 h⟩
theorem can_none : canT noneT := ⟨can_zero, trivial⟩
theorem can_empty : canT emptyT := ⟨can_zero, trivial⟩
theorem wrap_inv {k : Int} {n : T} {l m : List T} (hn : n.kind ≠ k) (hm : ∀ t ∈ m, t.kind ≠ k) (h : wrapT k n m = .node k zeroS l) : m = l := by
 match m, hm with
 | [], _ =>
  have h : n = .node k zeroS l := h
  exact absurd (by rw [h]; rfl) hn
 | [t], hm =>
  have h : t = .node k zeroS l := h
  exact absurd (by rw [h]; rfl) (hm t (by simp))
 | a :: b :: r, _ =>
  have h : T.node k zeroS (a :: b :: r) = .node k zeroS l := h
  injection h
theorem cat_same {l : List T} (hl : ∀ t ∈ l, good t) (h2 : 2 ≤ l.length) {s : Nat → Bool} (hs : canS s) (hz : eqS s zeroS = true) :
  sameT (catT l) (.node 4 s l) = true ↔ ∀ x ∈ l, fitsT x.kind 4 = true := by
 obtain rfl := can_eq hs can_zero hz
 have hfg := good_flat (k := 4) hl
 have hfk := flat_kind (k := 4) (.inl rfl) hl
 constructor
 ·intro h
  have hcl : canT (.node 4 zeroS l) := by
   simp only [canT]
   exact ⟨can_zero, canL_iff.2 fun t ht => (hl t ht).1⟩
  have hcc : canT (catT l) := by
   unfold catT
   split
   ·exact can_none
   ·exact can_wrap can_empty fun t ht => (hfg t (List.mem_filter.1 ht).1).1
  have he := sameT_eq _ _ hcc hcl h
  unfold catT at he
  cases ha : anyK 1 (flatT 4 l) with
  | true => rw [ha] at he; injection he with h1; omega
  | false =>
   rw [ha, if_neg (by simp)] at he
   have hm := wrap_inv (by show (2 : Int) ≠ 4; omega) (fun t ht => hfk t (List.mem_filter.1 ht).1) he
   intro x hx
   rw [← hm] at hx
   have k2 := without_kind x hx
   have k4 := hfk x (List.mem_filter.1 hx).1
   have k1 : x.kind ≠ 1 := fun h1 => by
    have : anyK 1 (flatT 4 l) = true := List.any_eq_true.2 ⟨x, (List.mem_filter.1 hx).1, by simpa using h1⟩
    rw [ha] at this
    cases this
   unfold fitsT
   rw [if_neg k2]
   simp [k1, k4]
 ·intro h
  have hk : ∀ x ∈ l, x.kind ≠ 2 ∧ x.kind ≠ 1 ∧ x.kind ≠ 4 := fun x hx => by
   have h1 := h x hx
   unfold fitsT at h1
   by_cases h2 : x.kind = 2
   ·rw [if_pos h2] at h1; simp at h1
   ·rw [if_neg h2] at h1
    simp at h1
    exact ⟨h2, h1.1, h1.2⟩
  have e : catT l = .node 4 zeroS l := by
   unfold catT
   rw [flat_all fun x hx => (hk x hx).2.2, any_none fun x hx => (hk x hx).2.1, without_allK fun x hx => (hk x hx).1, if_neg (by simp), wrapT_many 4 _ _ h2]
  rw [e]
  exact sameT_self _
/-! ### alternatives -/
theorem cmp_kind {t u : T} (h : cmpT t u < 0) : t.kind ≤ u.kind := by
 cases t with
 | node k s l =>
  cases u with
  | node k' s' l' =>
   show k ≤ k'
   simp only [cmpT] at h
   split at h
   ·omega
   ·split at h
    ·omega
    ·omega
theorem folT_iff {a b : T} : folT b a = true ↔ cmpT a b < 0 ∧ ¬ (b.kind = 3 ∧ a.kind = 3) := by
 unfold folT
 simp only [Bool.and_eq_true, decide_eq_true_eq, Bool.not_eq_true', Bool.and_eq_false_iff, decide_eq_false_iff_not]
 constructor
 ·rintro ⟨h1, h2⟩
  exact ⟨h1, fun h => h2.elim (fun h3 => h3 h.1) (fun h3 => h3 h.2)⟩
 ·rintro ⟨h1, h2⟩
  refine ⟨h1, ?_⟩
  by_cases hb : b.kind = 3
  ·exact .inr fun ha => h2 ⟨hb, ha⟩
  ·exact .inl hb
theorem ascF_pairs : ∀ l : List T, ascF l = true → l.Pairwise fun a b => cmpT a b < 0 ∧ ¬ (b.kind = 3 ∧ a.kind = 3)
 | [], _ => List.Pairwise.nil
 | [a], _ => List.pairwise_singleton _ _
 | a :: b :: r, h => by
  simp only [ascF, Bool.and_eq_true] at h
  have h1 := folT_iff.1 h.1
  have ih := ascF_pairs (b :: r) h.2
  refine List.pairwise_cons.2 ⟨fun x hx => ?_, ih⟩
  rcases List.mem_cons.1 hx with rfl | hx
  ·exact h1
  ·have h3 := (List.pairwise_cons.1 ih).1 x hx
   refine ⟨cmpT_trans h1.1 (by have := h3.1; omega), fun hk => ?_⟩
   have k1 := cmp_kind h1.1
   have k2 := cmp_kind h3.1
   exact h1.2 ⟨by have h5 := hk.1; have h6 := hk.2; omega, hk.2⟩
theorem ascF_of : ∀ l : List T, (l.Pairwise fun a b => cmpT a b < 0 ∧ ¬ (b.kind = 3 ∧ a.kind = 3)) → ascF l = true
 | [], _ => rfl
 | [a], _ => rfl
 | a :: b :: r, h => by
  have h1 := List.pairwise_cons.1 h
  simp only [ascF, Bool.and_eq_true]
  exact ⟨folT_iff.2 (h1.1 b (by simp)), ascF_of (b :: r) h1.2⟩
theorem good_three {x : T} (hx : good x) (h3 : x.kind = 3) : x = .node 3 x.set [] ∧ eqS x.set zeroS = false := by
 cases x with
 | node k s l =>
  obtain rfl : k = 3 := h3
  have h := (good_node.1 hx).2.2.2.1
  unfold countT at h
  simp at h
  refine ⟨?_, ?_⟩
  ·show T.node 3 s l = .node 3 s []
   rw [h.2]
  ·show eqS s zeroS = false
   simpa using h.1
theorem alt_same {l : List T} (hl : ∀ t ∈ l, good t) (h2 : 2 ≤ l.length) {s : Nat → Bool} (hs : canS s) (hz : eqS s zeroS = true) :
  sameT (altT l) (.node 5 s l) = true ↔ (∀ x ∈ l, fitsT x.kind 5 = true) ∧ ascF l = true := by
 obtain rfl := can_eq hs can_zero hz
 have hfg := good_flat (k := 5) hl
 have hfk := flat_kind (k := 5) (.inr rfl) hl
 have hwg := good_without (k := 1) hfg
 have hig := good_items hwg
 constructor
 ·intro h
  have hcl : canT (.node 5 zeroS l) := by
   simp only [canT]
   exact ⟨can_zero, canL_iff.2 fun t ht => (hl t ht).1⟩
  have hcc : canT (altT l) := by
   unfold altT
   exact can_wrap can_none fun t ht => (hig t ((sortU_mem hig t).1 ht)).1
  have he := sameT_eq _ _ hcc hcl h
  unfold altT at he
  have hik : ∀ t ∈ itemsT (withoutT 1 (flatT 5 l)), t.kind ≠ 5 ∧ t.kind ≠ 1 ∧ (t.kind = 3 → t = .node 3 (orT (withoutT 1 (flatT 5 l))) []) := fun t ht => by
   unfold itemsT at ht
   rcases List.mem_append.1 ht with ht | ht
   ·have h3 := without_kind t ht
    have ht2 := (List.mem_filter.1 ht).1
    exact ⟨hfk t (List.mem_filter.1 ht2).1, without_kind t ht2, fun h => absurd h h3⟩
   ·split at ht
    ·cases ht
    ·obtain rfl := List.mem_singleton.1 ht
     exact ⟨by show (3 : Int) ≠ 5; omega, by show (3 : Int) ≠ 1; omega, fun _ => rfl⟩
  have hm := wrap_inv (by show (1 : Int) ≠ 5; omega) (fun t ht => (hik t ((sortU_mem hig t).1 ht)).1) he
  have hasc := sortU_asc (itemsT (withoutT 1 (flatT 5 l)))
  have hmem := fun t => sortU_mem hig t
  rw [hm] at hasc hmem
  refine ⟨fun x hx => ?_, ascF_of l (List.Pairwise.imp_of_mem (fun {a b} ha hb hab => ⟨hab, fun hk => ?_⟩) hasc)⟩
  ·obtain ⟨k5, k1, _⟩ := hik x ((hmem x).1 hx)
   unfold fitsT
   split
   ·rfl
   ·simp [k1, k5]
  ·have e1 := (hik a ((hmem a).1 ha)).2.2 hk.2
   have e2 := (hik b ((hmem b).1 hb)).2.2 hk.1
   rw [e1, e2, cmpT_self] at hab
   omega
 ·rintro ⟨hf, ha⟩
  have hk : ∀ x ∈ l, x.kind ≠ 5 ∧ x.kind ≠ 1 := fun x hx => by
   have h1 := hf x hx
   unfold fitsT at h1
   by_cases h2 : x.kind = 2
   ·rw [h2]; omega
   ·rw [if_neg h2] at h1
    simp at h1
    exact ⟨h1.2, h1.1⟩
  have hp := ascF_pairs l ha
  have hasc : Asc l := hp.imp fun h => h.1
  have hitems : ∀ x, x ∈ itemsT l ↔ x ∈ l := fun x => by
   by_cases h3 : ∃ y ∈ l, y.kind = 3
   ·obtain ⟨y, hy, hy3⟩ := h3
    have hone : ∀ z ∈ l, z.kind = 3 → z = y := fun z hz hz3 => by
     obtain ⟨i, hi, rfl⟩ := List.getElem_of_mem hy
     obtain ⟨j, hj, rfl⟩ := List.getElem_of_mem hz
     rcases Nat.lt_trichotomy i j with h | h | h
     ·exact absurd ⟨hz3, hy3⟩ (List.pairwise_iff_getElem.1 hp i j hi hj h).2
     ·subst h; rfl
     ·exact absurd ⟨hy3, hz3⟩ (List.pairwise_iff_getElem.1 hp j i hj hi h).2
    obtain ⟨ye, yz⟩ := good_three (hl y hy) hy3
    have hor : orT l = y.set := by
     funext b
     unfold orT
     rw [Bool.eq_iff_iff, List.any_eq_true]
     constructor
     ·rintro ⟨z, hz, hz2⟩
      simp only [Bool.and_eq_true, decide_eq_true_eq] at hz2
      rw [← hone z hz hz2.1]
      exact hz2.2
     ·intro hb
      exact ⟨y, hy, by simp [hy3, hb]⟩
    unfold itemsT
    rw [hor, yz, if_neg (by simp), ← ye, List.mem_append, List.mem_singleton]
    constructor
    ·rintro (h | h)
     ·exact (List.mem_filter.1 h).1
     ·rw [h]; exact hy
    ·intro h
     by_cases hx3 : x.kind = 3
     ·exact .inr (hone x h hx3)
     ·exact .inl (List.mem_filter.2 ⟨h, by simpa using hx3⟩)
   ·have h3 : ∀ y ∈ l, y.kind ≠ 3 := fun y hy h => h3 ⟨y, hy, h⟩
    have hor : eqS (orT l) zeroS = true := (eqS_iff _ _).2 fun b _ => by
     show orT l b = false
     unfold orT
     rw [List.any_eq_false]
     intro t ht
     simp [h3 t ht]
    unfold itemsT
    rw [hor, if_pos rfl, List.append_nil, without_allK h3]
  have hgi : ∀ t ∈ itemsT l, good t := fun t ht => hl t ((hitems t).1 ht)
  have e : altT l = .node 5 zeroS l := by
   unfold altT
   rw [flat_all fun x hx => (hk x hx).1, without_allK fun x hx => (hk x hx).2, asc_ext (sortU_asc (itemsT l)) hasc (fun x => by rw [sortU_mem hgi, hitems]), wrapT_many 5 _ _ h2]
  rw [e]
  exact sameT_self _
end Go.Proofs.YtopnpdobcagcgaaGreat
