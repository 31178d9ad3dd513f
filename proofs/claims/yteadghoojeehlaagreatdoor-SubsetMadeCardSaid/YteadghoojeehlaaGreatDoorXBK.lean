/-
  Texts of this proof, put together: PyD. No statement is proved here.
-/
import Derived.Test.YteadghoojeehlaaGreatDoorXR
namespace Go.Proofs.YteadghoojeehlaaGreatDoor
open Go.RowKit
set_option linter.unusedSimpArgs false
set_option linter.unusedVariables false
theorem refCatX (l : List T) (v : Value) (w : World) (hr : RowT w.heap.size w v l) (hn : nodesL l ≤ 549755813887) :
  Calls Tryz.prog 65 #[v] w fun e w' => ∃ ds, e = .returned (.agg ds.toArray) ∧ RxD (fun k => w.heap.size ≤ k ∧ k < w'.heap.size) w' ds (catT l) ∧ Below w.heap.size w w' := refCat_any l v w hr (by omega)
set_option maxHeartbeats 8000000 in
set_option maxRecDepth 1000000 in
theorem rx_any (g : Nat) (V : Value) (ps : List UInt8) : ∀ (N deep n : Nat) (w : World), N + deep = 10 → deep ≤ 9 → Pk w g V ps n →
  Calls Tryz.prog 35 #[.pointer (some ⟨g, 0, none⟩), .int .i64 (deep : Int)] w fun e w' => ∃ ds, e = .returned (.agg ds.toArray) ∧ RxD (fun k => w.heap.size ≤ k ∧ k < w'.heap.size) w' ds (rxP ps N deep n).1 ∧ w.grownBy w' (some g) ∧ Pk w' g V ps (rxP ps N deep n).2 := by
 intro N
 induction N with
 | zero => intro deep n w h1 h2; omega
 | succ N ih =>
  intro deep n w hN hdp h
  have IH := qH ih
  have HGD := qH (rxP_good ps N)
  have HND := qH (rxP_nodes ps N)
  clear ih
  have HPK := qH h
  have HNE := qH (show some w.heap.size ≠ some g from fun he => by have h1 := Option.some.inj he; have h2 := h.blk.lt; omega)
  obtain ⟨i0, hi0, hz0, hz1, hz2⟩ := inf_rx'
  obtain ⟨z, hz⟩ : ∃ z, z = rxc 0 zeroS (.slice none 0 0) := ⟨_, rfl⟩
  have HZL := qH (show z.length = 6 by rw [hz]; rfl)
  have HZ0 := qH (show i0.zero = some (.agg z.toArray) by rw [hz]; exact hz0)
  have HZ1 := qH hz0
  clear hz hz0
  obtain ⟨q, hq⟩ : ∃ q, q = (rxP ps (N + 1) deep n).1 := ⟨_, rfl⟩
  obtain ⟨m, hm⟩ : ∃ m, m = (rxP ps (N + 1) deep n).2 := ⟨_, rfl⟩
  rw [← hq, ← hm]
  simp only [rxP] at hq hm
  have hl9 := numV_lt ps n (m := 9) (by omega)
  obtain ⟨x0, hx0⟩ : ∃ x, x = numV ps n 9 := ⟨_, rfl⟩
  obtain ⟨n1, hn1⟩ : ∃ x, x = numN ps n := ⟨_, rfl⟩
  rw [← hx0, ← hn1] at hq hm
  rw [← hx0] at hl9
  have HX0 := qH hx0
  have HN1 := qH hn1
  clear h hx0 hn1
  by_cases ho : ps.length ≤ n1
  ·have HOV := qH (decide_eq_true ho)
   rw [if_pos (.inl ho), if_pos (.inl ho)] at hq hm
   obtain ⟨s, hs⟩ : ∃ s, s = (setP ps n1).1 := ⟨_, rfl⟩
   have HS := qH hs
   have HQ := qH (show q = bytesT s by rw [hq, hs])
   have HM := qH (show m = (setP ps n1).2 from hm)
   clear hq hm hs ho hl9
   go_enter Tryz.func35, Tryz.ntmps35
   go_wp2_with ((with_reducible refine atDst 4 ?_); refine wpList_new rfl 46 rfl i0 _ z hi0 HZ0.out rfl (Below.refl w.heap.size w) (Nat.le_refl _) ?_; intro w1 hk1 hb1 hs1 _; have K1 := qH hk1; have G1 := qH (below_grownG g hb1); have P1 := qH (HPK.out.below hb1); clear hk1 hb1 hs1; (try simp only [Act.put, qA, qB, qC]))
   refine (num_any w1 g V ps n 9 P1.out (by omega) (by omega)).mono ?_
   rintro e w2 ⟨rfl, hg, hp⟩
   have G2 := qH (grownG_trans G1.out hg)
   have K2 := qH (K1.out.grown hg HNE.out)
   have P2 := qH hp
   rw [← HX0.out]
   rw [← HN1.out] at P2
   clear hg hp
   go_wp2_with fail
   refine (over_any w2 g V ps n1 P2.out).mono ?_
   rintro e w3 ⟨rfl, hb⟩
   rw [HOV.out]
   have G3 := qH (grownG_trans G2.out (below_grownG g hb))
   have K3 := qH (K2.out.below hb K2.out.lt)
   have P3 := qH (P2.out.below hb)
   clear hb
   go_wp2_with fail
   refine (over_any w3 g V ps n1 P3.out).mono ?_
   rintro e w4 ⟨rfl, hb⟩
   rw [HOV.out]
   have G4 := qH (grownG_trans G3.out (below_grownG g hb))
   have K4 := qH (K3.out.below hb K3.out.lt)
   have P4 := qH (P3.out.below hb)
   clear hb
   go_wp2_with fail
   refine (set_any w4 g V ps n1 P4.out).mono ?_
   rintro e w5 ⟨rfl, hg, hp⟩
   have G5 := qH (grownG_trans G4.out hg)
   have K5 := qH (K4.out.grown hg HNE.out)
   have P5 := qH hp
   rw [← HS.out]
   clear hg hp
   go_wp2_with fail
   refine (refBytes_any s w5).mono ?_
   rintro e wx ⟨ds, rfl, hds, hb⟩
   have GX := qH (grownG_trans G5.out (below_grownG g hb))
   have KX := qH (K5.out.below hb K5.out.lt)
   have PX := qH (P5.out.below hb)
   have DX := qH hds
   have D6 := qH (hds fun _ => False).length
   have D1 := qH (show ds.all (·.oneCell') = true from List.all_eq_true.2 (RxD.one (hds fun _ => False)))
   clear hb hds
   go_wp2_with ((with_reducible refine atStore 46 4 28 ?_); refine wpList_stBlk rfl 46 _ _ rfl w.heap.size ds rfl rfl 46 _ KX.out (size_rx D6.out) (by rw [HZL.out, D6.out]) D1.out (Below.refl w.heap.size wx) (Nat.le_refl _) ?_; intro w9 hk9 hb9 hs9 ho9; have K9 := qH hk9; have G9 := qH (grownG_below GX.out hb9); have P9 := qH (PX.out.other _ ho9 HPK.out.blk.lt hb9); have D9 := qH (RxD.mono ((DX.out fun _ => False).stay (w' := w9) fun k hk => absurd hk id) (D' := fun k => w.heap.size ≤ k ∧ k < w9.heap.size) fun k hk => absurd hk id); clear hk9 hb9 hs9 ho9; (try simp only [Act.put, qA, qB, qC]))
   refine bodyPost_ret (results_blk rfl _ _ w.heap.size 46 _ _ rfl K9.out Tryz.underlying46 rfl (size_rx D6.out)) rfl ?_
   exact ⟨ds, rfl, by rw [HQ.out]; exact D9.out, G9.out, by rw [HM.out]; exact P9.out⟩
  have HOV := qH (decide_eq_false ho)
  by_cases h8 : 8 < deep ∨ x0 < 3
  ·rw [if_pos (.inr h8)] at hq hm
   by_cases d8 : 8 < deep
   ·have g8 : (8 : Int) < (deep : Int) := by omega
    by_cases hp0 : 0 < x0
    ·rw [if_pos (.inr hp0)] at hq hm
     have p0 : (0 : Int) < (x0 : Int) := by omega
     obtain ⟨s, hs⟩ : ∃ s, s = (setP ps n1).1 := ⟨_, rfl⟩
     have HS := qH hs
     have HQ := qH (show q = bytesT s by rw [hq, hs])
     have HM := qH (show m = (setP ps n1).2 from hm)
     clear hq hm hs ho hl9 hp0 h8
     go_enter Tryz.func35, Tryz.ntmps35
     go_wp2_with ((with_reducible refine atDst 4 ?_); refine wpList_new rfl 46 rfl i0 _ z hi0 HZ0.out rfl (Below.refl w.heap.size w) (Nat.le_refl _) ?_; intro w1 hk1 hb1 hs1 _; have K1 := qH hk1; have G1 := qH (below_grownG g hb1); have P1 := qH (HPK.out.below hb1); clear hk1 hb1 hs1; (try simp only [Act.put, qA, qB, qC]))
     refine (num_any w1 g V ps n 9 P1.out (by omega) (by omega)).mono ?_
     rintro e w2 ⟨rfl, hg, hp⟩
     have G2 := qH (grownG_trans G1.out hg)
     have K2 := qH (K1.out.grown hg HNE.out)
     have P2 := qH hp
     rw [← HX0.out]
     rw [← HN1.out] at P2
     clear hg hp
     go_wp2_with fail
     refine (over_any w2 g V ps n1 P2.out).mono ?_
     rintro e w3 ⟨rfl, hb⟩
     rw [HOV.out]
     have G3 := qH (grownG_trans G2.out (below_grownG g hb))
     have K3 := qH (K2.out.below hb K2.out.lt)
     have P3 := qH (P2.out.below hb)
     clear hb
     go_wp2_with fail
     refine (over_any w3 g V ps n1 P3.out).mono ?_
     rintro e w4 ⟨rfl, hb⟩
     rw [HOV.out]
     have G4 := qH (grownG_trans G3.out (below_grownG g hb))
     have K4 := qH (K3.out.below hb K3.out.lt)
     have P4 := qH (P3.out.below hb)
     clear hb
     go_wp2_with fail
     refine (set_any w4 g V ps n1 P4.out).mono ?_
     rintro e w5 ⟨rfl, hg, hp⟩
     have G5 := qH (grownG_trans G4.out hg)
     have K5 := qH (K4.out.grown hg HNE.out)
     have P5 := qH hp
     rw [← HS.out]
     clear hg hp
     go_wp2_with fail
     refine (refBytes_any s w5).mono ?_
     rintro e wx ⟨ds, rfl, hds, hb⟩
     have GX := qH (grownG_trans G5.out (below_grownG g hb))
     have KX := qH (K5.out.below hb K5.out.lt)
     have PX := qH (P5.out.below hb)
     have DX := qH hds
     have D6 := qH (hds fun _ => False).length
     have D1 := qH (show ds.all (·.oneCell') = true from List.all_eq_true.2 (RxD.one (hds fun _ => False)))
     clear hb hds
     go_wp2_with ((with_reducible refine atStore 46 4 28 ?_); refine wpList_stBlk rfl 46 _ _ rfl w.heap.size ds rfl rfl 46 _ KX.out (size_rx D6.out) (by rw [HZL.out, D6.out]) D1.out (Below.refl w.heap.size wx) (Nat.le_refl _) ?_; intro w9 hk9 hb9 hs9 ho9; have K9 := qH hk9; have G9 := qH (grownG_below GX.out hb9); have P9 := qH (PX.out.other _ ho9 HPK.out.blk.lt hb9); have D9 := qH (RxD.mono ((DX.out fun _ => False).stay (w' := w9) fun k hk => absurd hk id) (D' := fun k => w.heap.size ≤ k ∧ k < w9.heap.size) fun k hk => absurd hk id); clear hk9 hb9 hs9 ho9; (try simp only [Act.put, qA, qB, qC]))
     refine bodyPost_ret (results_blk rfl _ _ w.heap.size 46 _ _ rfl K9.out Tryz.underlying46 rfl (size_rx D6.out)) rfl ?_
     exact ⟨ds, rfl, by rw [HQ.out]; exact D9.out, G9.out, by rw [HM.out]; exact P9.out⟩
    ·rw [if_neg (fun h => h.elim ho hp0)] at hq hm
     have p0 : ¬ ((0 : Int) < (x0 : Int)) := by omega
     obtain ⟨x1, hx1⟩ : ∃ x, x = numV ps n1 3 := ⟨_, rfl⟩
     obtain ⟨n2, hn2⟩ : ∃ x, x = numN ps n1 := ⟨_, rfl⟩
     rw [← hx1, ← hn2] at hq hm
     have HX1 := qH hx1
     have HN2 := qH hn2
     by_cases hz0 : x1 = 0
     ·rw [if_pos hz0] at hq hm
      have s0 : ((x1 : Int) == 0) = true := by rw [hz0]; rfl
      have HQ := qH (show q = noneT from hq)
      have HM := qH (show m = n2 from hm)
      clear hq hm ho hl9 hp0 h8 hx1 hn2 hz0
      go_enter Tryz.func35, Tryz.ntmps35
      go_wp2_with ((with_reducible refine atDst 4 ?_); refine wpList_new rfl 46 rfl i0 _ z hi0 HZ0.out rfl (Below.refl w.heap.size w) (Nat.le_refl _) ?_; intro w1 hk1 hb1 hs1 _; have K1 := qH hk1; have G1 := qH (below_grownG g hb1); have P1 := qH (HPK.out.below hb1); clear hk1 hb1 hs1; (try simp only [Act.put, qA, qB, qC]))
      refine (num_any w1 g V ps n 9 P1.out (by omega) (by omega)).mono ?_
      rintro e w2 ⟨rfl, hg, hp⟩
      have G2 := qH (grownG_trans G1.out hg)
      have K2 := qH (K1.out.grown hg HNE.out)
      have P2 := qH hp
      rw [← HX0.out]
      rw [← HN1.out] at P2
      clear hg hp
      go_wp2_with fail
      refine (over_any w2 g V ps n1 P2.out).mono ?_
      rintro e w3 ⟨rfl, hb⟩
      rw [HOV.out]
      have G3 := qH (grownG_trans G2.out (below_grownG g hb))
      have K3 := qH (K2.out.below hb K2.out.lt)
      have P3 := qH (P2.out.below hb)
      clear hb
      go_wp2_with fail
      refine (over_any w3 g V ps n1 P3.out).mono ?_
      rintro e w4 ⟨rfl, hb⟩
      rw [HOV.out]
      have G4 := qH (grownG_trans G3.out (below_grownG g hb))
      have K4 := qH (K3.out.below hb K3.out.lt)
      have P4 := qH (P3.out.below hb)
      clear hb
      go_wp2_with fail
      refine (num_any w4 g V ps n1 3 P4.out (by omega) (by omega)).mono ?_
      rintro e w5 ⟨rfl, hg, hp⟩
      have G5 := qH (grownG_trans G4.out hg)
      have K5 := qH (K4.out.grown hg HNE.out)
      have P5 := qH hp
      rw [← HX1.out]
      rw [← HN2.out] at P5
      clear hg hp
      go_wp2_with fail
      refine (refNone_any w5).mono ?_
      rintro e wx ⟨ds, rfl, hds, hb⟩
      have GX := qH (grownG_trans G5.out (below_grownG g hb))
      have KX := qH (K5.out.below hb K5.out.lt)
      have PX := qH (P5.out.below hb)
      have DX := qH hds
      have D6 := qH (hds fun _ => False).length
      have D1 := qH (show ds.all (·.oneCell') = true from List.all_eq_true.2 (RxD.one (hds fun _ => False)))
      clear hb hds
      go_wp2_with ((with_reducible refine atStore 46 4 33 ?_); refine wpList_stBlk rfl 46 _ _ rfl w.heap.size ds rfl rfl 46 _ KX.out (size_rx D6.out) (by rw [HZL.out, D6.out]) D1.out (Below.refl w.heap.size wx) (Nat.le_refl _) ?_; intro w9 hk9 hb9 hs9 ho9; have K9 := qH hk9; have G9 := qH (grownG_below GX.out hb9); have P9 := qH (PX.out.other _ ho9 HPK.out.blk.lt hb9); have D9 := qH (RxD.mono ((DX.out fun _ => False).stay (w' := w9) fun k hk => absurd hk id) (D' := fun k => w.heap.size ≤ k ∧ k < w9.heap.size) fun k hk => absurd hk id); clear hk9 hb9 hs9 ho9; (try simp only [Act.put, qA, qB, qC]))
      refine bodyPost_ret (results_blk rfl _ _ w.heap.size 46 _ _ rfl K9.out Tryz.underlying46 rfl (size_rx D6.out)) rfl ?_
      exact ⟨ds, rfl, by rw [HQ.out]; exact D9.out, G9.out, by rw [HM.out]; exact P9.out⟩
     ·rw [if_neg hz0] at hq hm
      have s0 : ((x1 : Int) == 0) = false := by rw [beq_eq_false_iff_ne]; omega
      have HQ := qH (show q = emptyT from hq)
      have HM := qH (show m = n2 from hm)
      clear hq hm ho hl9 hp0 h8 hx1 hn2 hz0
      go_enter Tryz.func35, Tryz.ntmps35
      go_wp2_with ((with_reducible refine atDst 4 ?_); refine wpList_new rfl 46 rfl i0 _ z hi0 HZ0.out rfl (Below.refl w.heap.size w) (Nat.le_refl _) ?_; intro w1 hk1 hb1 hs1 _; have K1 := qH hk1; have G1 := qH (below_grownG g hb1); have P1 := qH (HPK.out.below hb1); clear hk1 hb1 hs1; (try simp only [Act.put, qA, qB, qC]))
      refine (num_any w1 g V ps n 9 P1.out (by omega) (by omega)).mono ?_
      rintro e w2 ⟨rfl, hg, hp⟩
      have G2 := qH (grownG_trans G1.out hg)
      have K2 := qH (K1.out.grown hg HNE.out)
      have P2 := qH hp
      rw [← HX0.out]
      rw [← HN1.out] at P2
      clear hg hp
      go_wp2_with fail
      refine (over_any w2 g V ps n1 P2.out).mono ?_
      rintro e w3 ⟨rfl, hb⟩
      rw [HOV.out]
      have G3 := qH (grownG_trans G2.out (below_grownG g hb))
      have K3 := qH (K2.out.below hb K2.out.lt)
      have P3 := qH (P2.out.below hb)
      clear hb
      go_wp2_with fail
      refine (over_any w3 g V ps n1 P3.out).mono ?_
      rintro e w4 ⟨rfl, hb⟩
      rw [HOV.out]
      have G4 := qH (grownG_trans G3.out (below_grownG g hb))
      have K4 := qH (K3.out.below hb K3.out.lt)
      have P4 := qH (P3.out.below hb)
      clear hb
      go_wp2_with fail
      refine (num_any w4 g V ps n1 3 P4.out (by omega) (by omega)).mono ?_
      rintro e w5 ⟨rfl, hg, hp⟩
      have G5 := qH (grownG_trans G4.out hg)
      have K5 := qH (K4.out.grown hg HNE.out)
      have P5 := qH hp
      rw [← HX1.out]
      rw [← HN2.out] at P5
      clear hg hp
      go_wp2_with fail
      refine (refEmpty_any w5).mono ?_
      rintro e wx ⟨ds, rfl, hds, hb⟩
      have GX := qH (grownG_trans G5.out (below_grownG g hb))
      have KX := qH (K5.out.below hb K5.out.lt)
      have PX := qH (P5.out.below hb)
      have DX := qH hds
      have D6 := qH (hds fun _ => False).length
      have D1 := qH (show ds.all (·.oneCell') = true from List.all_eq_true.2 (RxD.one (hds fun _ => False)))
      clear hb hds
      go_wp2_with ((with_reducible refine atStore 46 4 34 ?_); refine wpList_stBlk rfl 46 _ _ rfl w.heap.size ds rfl rfl 46 _ KX.out (size_rx D6.out) (by rw [HZL.out, D6.out]) D1.out (Below.refl w.heap.size wx) (Nat.le_refl _) ?_; intro w9 hk9 hb9 hs9 ho9; have K9 := qH hk9; have G9 := qH (grownG_below GX.out hb9); have P9 := qH (PX.out.other _ ho9 HPK.out.blk.lt hb9); have D9 := qH (RxD.mono ((DX.out fun _ => False).stay (w' := w9) fun k hk => absurd hk id) (D' := fun k => w.heap.size ≤ k ∧ k < w9.heap.size) fun k hk => absurd hk id); clear hk9 hb9 hs9 ho9; (try simp only [Act.put, qA, qB, qC]))
      refine bodyPost_ret (results_blk rfl _ _ w.heap.size 46 _ _ rfl K9.out Tryz.underlying46 rfl (size_rx D6.out)) rfl ?_
      exact ⟨ds, rfl, by rw [HQ.out]; exact D9.out, G9.out, by rw [HM.out]; exact P9.out⟩
   ·have g8 : ¬ ((8 : Int) < (deep : Int)) := by omega
    have g3 : (x0 : Int) < 3 := by have := h8.resolve_left d8; omega
    by_cases hp0 : 0 < x0
    ·rw [if_pos (.inr hp0)] at hq hm
     have p0 : (0 : Int) < (x0 : Int) := by omega
     obtain ⟨s, hs⟩ : ∃ s, s = (setP ps n1).1 := ⟨_, rfl⟩
     have HS := qH hs
     have HQ := qH (show q = bytesT s by rw [hq, hs])
     have HM := qH (show m = (setP ps n1).2 from hm)
     clear hq hm hs ho hl9 hp0 h8
     go_enter Tryz.func35, Tryz.ntmps35
     go_wp2_with ((with_reducible refine atDst 4 ?_); refine wpList_new rfl 46 rfl i0 _ z hi0 HZ0.out rfl (Below.refl w.heap.size w) (Nat.le_refl _) ?_; intro w1 hk1 hb1 hs1 _; have K1 := qH hk1; have G1 := qH (below_grownG g hb1); have P1 := qH (HPK.out.below hb1); clear hk1 hb1 hs1; (try simp only [Act.put, qA, qB, qC]))
     refine (num_any w1 g V ps n 9 P1.out (by omega) (by omega)).mono ?_
     rintro e w2 ⟨rfl, hg, hp⟩
     have G2 := qH (grownG_trans G1.out hg)
     have K2 := qH (K1.out.grown hg HNE.out)
     have P2 := qH hp
     rw [← HX0.out]
     rw [← HN1.out] at P2
     clear hg hp
     go_wp2_with fail
     refine (over_any w2 g V ps n1 P2.out).mono ?_
     rintro e w3 ⟨rfl, hb⟩
     rw [HOV.out]
     have G3 := qH (grownG_trans G2.out (below_grownG g hb))
     have K3 := qH (K2.out.below hb K2.out.lt)
     have P3 := qH (P2.out.below hb)
     clear hb
     go_wp2_with fail
     refine (over_any w3 g V ps n1 P3.out).mono ?_
     rintro e w4 ⟨rfl, hb⟩
     rw [HOV.out]
     have G4 := qH (grownG_trans G3.out (below_grownG g hb))
     have K4 := qH (K3.out.below hb K3.out.lt)
     have P4 := qH (P3.out.below hb)
     clear hb
     go_wp2_with fail
     refine (set_any w4 g V ps n1 P4.out).mono ?_
     rintro e w5 ⟨rfl, hg, hp⟩
     have G5 := qH (grownG_trans G4.out hg)
     have K5 := qH (K4.out.grown hg HNE.out)
     have P5 := qH hp
     rw [← HS.out]
     clear hg hp
     go_wp2_with fail
     refine (refBytes_any s w5).mono ?_
     rintro e wx ⟨ds, rfl, hds, hb⟩
     have GX := qH (grownG_trans G5.out (below_grownG g hb))
     have KX := qH (K5.out.below hb K5.out.lt)
     have PX := qH (P5.out.below hb)
     have DX := qH hds
     have D6 := qH (hds fun _ => False).length
     have D1 := qH (show ds.all (·.oneCell') = true from List.all_eq_true.2 (RxD.one (hds fun _ => False)))
     clear hb hds
     go_wp2_with ((with_reducible refine atStore 46 4 28 ?_); refine wpList_stBlk rfl 46 _ _ rfl w.heap.size ds rfl rfl 46 _ KX.out (size_rx D6.out) (by rw [HZL.out, D6.out]) D1.out (Below.refl w.heap.size wx) (Nat.le_refl _) ?_; intro w9 hk9 hb9 hs9 ho9; have K9 := qH hk9; have G9 := qH (grownG_below GX.out hb9); have P9 := qH (PX.out.other _ ho9 HPK.out.blk.lt hb9); have D9 := qH (RxD.mono ((DX.out fun _ => False).stay (w' := w9) fun k hk => absurd hk id) (D' := fun k => w.heap.size ≤ k ∧ k < w9.heap.size) fun k hk => absurd hk id); clear hk9 hb9 hs9 ho9; (try simp only [Act.put, qA, qB, qC]))
     refine bodyPost_ret (results_blk rfl _ _ w.heap.size 46 _ _ rfl K9.out Tryz.underlying46 rfl (size_rx D6.out)) rfl ?_
     exact ⟨ds, rfl, by rw [HQ.out]; exact D9.out, G9.out, by rw [HM.out]; exact P9.out⟩
    ·rw [if_neg (fun h => h.elim ho hp0)] at hq hm
     have p0 : ¬ ((0 : Int) < (x0 : Int)) := by omega
     obtain ⟨x1, hx1⟩ : ∃ x, x = numV ps n1 3 := ⟨_, rfl⟩
     obtain ⟨n2, hn2⟩ : ∃ x, x = numN ps n1 := ⟨_, rfl⟩
     rw [← hx1, ← hn2] at hq hm
     have HX1 := qH hx1
     have HN2 := qH hn2
     by_cases hz0 : x1 = 0
     ·rw [if_pos hz0] at hq hm
      have s0 : ((x1 : Int) == 0) = true := by rw [hz0]; rfl
      have HQ := qH (show q = noneT from hq)
      have HM := qH (show m = n2 from hm)
      clear hq hm ho hl9 hp0 h8 hx1 hn2 hz0
      go_enter Tryz.func35, Tryz.ntmps35
      go_wp2_with ((with_reducible refine atDst 4 ?_); refine wpList_new rfl 46 rfl i0 _ z hi0 HZ0.out rfl (Below.refl w.heap.size w) (Nat.le_refl _) ?_; intro w1 hk1 hb1 hs1 _; have K1 := qH hk1; have G1 := qH (below_grownG g hb1); have P1 := qH (HPK.out.below hb1); clear hk1 hb1 hs1; (try simp only [Act.put, qA, qB, qC]))
      refine (num_any w1 g V ps n 9 P1.out (by omega) (by omega)).mono ?_
      rintro e w2 ⟨rfl, hg, hp⟩
      have G2 := qH (grownG_trans G1.out hg)
      have K2 := qH (K1.out.grown hg HNE.out)
      have P2 := qH hp
      rw [← HX0.out]
      rw [← HN1.out] at P2
      clear hg hp
      go_wp2_with fail
      refine (over_any w2 g V ps n1 P2.out).mono ?_
      rintro e w3 ⟨rfl, hb⟩
      rw [HOV.out]
      have G3 := qH (grownG_trans G2.out (below_grownG g hb))
      have K3 := qH (K2.out.below hb K2.out.lt)
      have P3 := qH (P2.out.below hb)
      clear hb
      go_wp2_with fail
      refine (over_any w3 g V ps n1 P3.out).mono ?_
      rintro e w4 ⟨rfl, hb⟩
      rw [HOV.out]
      have G4 := qH (grownG_trans G3.out (below_grownG g hb))
      have K4 := qH (K3.out.below hb K3.out.lt)
      have P4 := qH (P3.out.below hb)
      clear hb
      go_wp2_with fail
      refine (num_any w4 g V ps n1 3 P4.out (by omega) (by omega)).mono ?_
      rintro e w5 ⟨rfl, hg, hp⟩
      have G5 := qH (grownG_trans G4.out hg)
      have K5 := qH (K4.out.grown hg HNE.out)
      have P5 := qH hp
      rw [← HX1.out]
      rw [← HN2.out] at P5
      clear hg hp
      go_wp2_with fail
      refine (refNone_any w5).mono ?_
      rintro e wx ⟨ds, rfl, hds, hb⟩
      have GX := qH (grownG_trans G5.out (below_grownG g hb))
      have KX := qH (K5.out.below hb K5.out.lt)
      have PX := qH (P5.out.below hb)
      have DX := qH hds
      have D6 := qH (hds fun _ => False).length
      have D1 := qH (show ds.all (·.oneCell') = true from List.all_eq_true.2 (RxD.one (hds fun _ => False)))
      clear hb hds
      go_wp2_with ((with_reducible refine atStore 46 4 33 ?_); refine wpList_stBlk rfl 46 _ _ rfl w.heap.size ds rfl rfl 46 _ KX.out (size_rx D6.out) (by rw [HZL.out, D6.out]) D1.out (Below.refl w.heap.size wx) (Nat.le_refl _) ?_; intro w9 hk9 hb9 hs9 ho9; have K9 := qH hk9; have G9 := qH (grownG_below GX.out hb9); have P9 := qH (PX.out.other _ ho9 HPK.out.blk.lt hb9); have D9 := qH (RxD.mono ((DX.out fun _ => False).stay (w' := w9) fun k hk => absurd hk id) (D' := fun k => w.heap.size ≤ k ∧ k < w9.heap.size) fun k hk => absurd hk id); clear hk9 hb9 hs9 ho9; (try simp only [Act.put, qA, qB, qC]))
      refine bodyPost_ret (results_blk rfl _ _ w.heap.size 46 _ _ rfl K9.out Tryz.underlying46 rfl (size_rx D6.out)) rfl ?_
      exact ⟨ds, rfl, by rw [HQ.out]; exact D9.out, G9.out, by rw [HM.out]; exact P9.out⟩
     ·rw [if_neg hz0] at hq hm
      have s0 : ((x1 : Int) == 0) = false := by rw [beq_eq_false_iff_ne]; omega
      have HQ := qH (show q = emptyT from hq)
      have HM := qH (show m = n2 from hm)
      clear hq hm ho hl9 hp0 h8 hx1 hn2 hz0
      go_enter Tryz.func35, Tryz.ntmps35
      go_wp2_with ((with_reducible refine atDst 4 ?_); refine wpList_new rfl 46 rfl i0 _ z hi0 HZ0.out rfl (Below.refl w.heap.size w) (Nat.le_refl _) ?_; intro w1 hk1 hb1 hs1 _; have K1 := qH hk1; have G1 := qH (below_grownG g hb1); have P1 := qH (HPK.out.below hb1); clear hk1 hb1 hs1; (try simp only [Act.put, qA, qB, qC]))
      refine (num_any w1 g V ps n 9 P1.out (by omega) (by omega)).mono ?_
      rintro e w2 ⟨rfl, hg, hp⟩
      have G2 := qH (grownG_trans G1.out hg)
      have K2 := qH (K1.out.grown hg HNE.out)
      have P2 := qH hp
      rw [← HX0.out]
      rw [← HN1.out] at P2
      clear hg hp
      go_wp2_with fail
      refine (over_any w2 g V ps n1 P2.out).mono ?_
      rintro e w3 ⟨rfl, hb⟩
      rw [HOV.out]
      have G3 := qH (grownG_trans G2.out (below_grownG g hb))
      have K3 := qH (K2.out.below hb K2.out.lt)
      have P3 := qH (P2.out.below hb)
      clear hb
      go_wp2_with fail
      refine (over_any w3 g V ps n1 P3.out).mono ?_
      rintro e w4 ⟨rfl, hb⟩
      rw [HOV.out]
      have G4 := qH (grownG_trans G3.out (below_grownG g hb))
      have K4 := qH (K3.out.below hb K3.out.lt)
      have P4 := qH (P3.out.below hb)
      clear hb
      go_wp2_with fail
      refine (num_any w4 g V ps n1 3 P4.out (by omega) (by omega)).mono ?_
      rintro e w5 ⟨rfl, hg, hp⟩
      have G5 := qH (grownG_trans G4.out hg)
      have K5 := qH (K4.out.grown hg HNE.out)
      have P5 := qH hp
      rw [← HX1.out]
      rw [← HN2.out] at P5
      clear hg hp
      go_wp2_with fail
      refine (refEmpty_any w5).mono ?_
      rintro e wx ⟨ds, rfl, hds, hb⟩
      have GX := qH (grownG_trans G5.out (below_grownG g hb))
      have KX := qH (K5.out.below hb K5.out.lt)
      have PX := qH (P5.out.below hb)
      have DX := qH hds
      have D6 := qH (hds fun _ => False).length
      have D1 := qH (show ds.all (·.oneCell') = true from List.all_eq_true.2 (RxD.one (hds fun _ => False)))
      clear hb hds
      go_wp2_with ((with_reducible refine atStore 46 4 34 ?_); refine wpList_stBlk rfl 46 _ _ rfl w.heap.size ds rfl rfl 46 _ KX.out (size_rx D6.out) (by rw [HZL.out, D6.out]) D1.out (Below.refl w.heap.size wx) (Nat.le_refl _) ?_; intro w9 hk9 hb9 hs9 ho9; have K9 := qH hk9; have G9 := qH (grownG_below GX.out hb9); have P9 := qH (PX.out.other _ ho9 HPK.out.blk.lt hb9); have D9 := qH (RxD.mono ((DX.out fun _ => False).stay (w' := w9) fun k hk => absurd hk id) (D' := fun k => w.heap.size ≤ k ∧ k < w9.heap.size) fun k hk => absurd hk id); clear hk9 hb9 hs9 ho9; (try simp only [Act.put, qA, qB, qC]))
      refine bodyPost_ret (results_blk rfl _ _ w.heap.size 46 _ _ rfl K9.out Tryz.underlying46 rfl (size_rx D6.out)) rfl ?_
      exact ⟨ds, rfl, by rw [HQ.out]; exact D9.out, G9.out, by rw [HM.out]; exact P9.out⟩
  have h8' : ¬ (ps.length ≤ n1 ∨ 8 < deep ∨ x0 < 3) := fun h => h.elim ho h8
  rw [if_neg h8'] at hq hm
  have g8 : ¬ ((8 : Int) < (deep : Int)) := by omega
  have g3 : ¬ ((x0 : Int) < 3) := by omega
  have e3 := wrap_one deep (by omega)
  have e4 := wrap_one' deep (by omega)
  obtain ⟨tx, htx⟩ : ∃ x, x = (rxP ps N (deep + 1) n1).1 := ⟨_, rfl⟩
  obtain ⟨n2, hn2⟩ : ∃ x, x = (rxP ps N (deep + 1) n1).2 := ⟨_, rfl⟩
  rw [← htx, ← hn2] at hq hm
  have HTX := qH htx
  have HN2 := qH hn2
  have HGX := qH (show good tx by rw [htx]; exact HGD.out _ _)
  have HP2 := qH (show 6 * 2 ^ N ≤ 3072 from by
   have : 2 ^ N ≤ 2 ^ 9 := Nat.pow_le_pow_right (by omega) (by omega)
   omega)
  have HNX := qH (show tx.nodes ≤ 3072 by rw [htx]; have h1 := HND.out (deep + 1) n1; have h2 := HP2.out; omega)
  have GL3 := qH (show g < w.heap.size from HPK.out.blk.lt)
  obtain ⟨ty, hty⟩ : ∃ x, x = (rxP ps N (deep + 1) n2).1 := ⟨_, rfl⟩
  have HTY := qH hty
  have HNL := qH (show nodesL [tx, ty] ≤ 549755813887 by
   have h1 := HND.out (deep + 1) n2
   have h2 := HP2.out
   have h3 := HNX.out
   rw [← hty] at h1
   simp only [nodesL]
   omega)
  clear htx hn2 ho h8 h8'
  by_cases hcat : x0 = 3 ∨ x0 = 4 ∨ x0 = 5
  ·rw [if_pos (by omega), ← hty] at hq
   rw [if_pos (by omega)] at hm
   have HQ := qH (show q = catT [tx, ty] from hq)
   have HM := qH (show m = (rxP ps N (deep + 1) n2).2 from hm)
   have hz : ((x0 : Int) == 3) = true ∨ (((x0 : Int) == 3) = false ∧ ((x0 : Int) == 4) = true) ∨ (((x0 : Int) == 3) = false ∧ ((x0 : Int) == 4) = false ∧ ((x0 : Int) == 5) = true) := by
    rcases hcat with h | h | h
    ·exact .inl (by rw [h]; rfl)
    ·exact .inr (.inl (by rw [h]; exact ⟨rfl, rfl⟩))
    ·exact .inr (.inr (by rw [h]; exact ⟨rfl, rfl, rfl⟩))
   clear hq hm hty hl9 hcat
   rcases hz with z3 | ⟨z3, z4⟩ | ⟨z3, z4, z5⟩
   all_goals
    go_enter Tryz.func35, Tryz.ntmps35
    go_wp2_with ((with_reducible refine atDst 4 ?_); refine wpList_new rfl 46 rfl i0 _ z hi0 HZ0.out rfl (Below.refl w.heap.size w) (Nat.le_refl _) ?_; intro w1 hk1 hb1 hs1 _; have K1 := qH hk1; have G1 := qH (below_grownG g hb1); have P1 := qH (HPK.out.below hb1); clear hk1 hb1 hs1; (try simp only [Act.put, qA, qB, qC]))
    refine (num_any w1 g V ps n 9 P1.out (by omega) (by omega)).mono ?_
    rintro e w2 ⟨rfl, hg, hp⟩
    have G2 := qH (grownG_trans G1.out hg)
    have K2 := qH (K1.out.grown hg HNE.out)
    have P2 := qH hp
    rw [← HX0.out]
    rw [← HN1.out] at P2
    clear hg hp
    go_wp2_with fail
    refine (over_any w2 g V ps n1 P2.out).mono ?_
    rintro e w3 ⟨rfl, hb⟩
    rw [HOV.out]
    have G3 := qH (grownG_trans G2.out (below_grownG g hb))
    have K3 := qH (K2.out.below hb K2.out.lt)
    have P3 := qH (P2.out.below hb)
    clear hb
    go_wp2_with fail
    refine (show Calls Tryz.prog 35 #[.pointer (some ⟨g, 0, none⟩), .int .i64 ((deep : Int) + 1)] w3 _ from IH.out (deep + 1) n1 w3 (by omega) (by omega) P3.out).mono ?_
    rintro e w4 ⟨cs, rfl, hcs, hg, hp⟩
    have D4 := qH hcs
    have C6 := qH hcs.length
    have C1 := qH (show cs.all (·.oneCell') = true from List.all_eq_true.2 (RxD.one hcs))
    have G4 := qH (grownG_trans G3.out hg)
    have K4 := qH (K3.out.grown hg HNE.out)
    have P4 := qH hp
    have S3 := qH G3.out.size
    have S4 := qH hg.size
    rw [← HTX.out] at D4
    rw [← HN2.out] at P4
    clear hcs hg hp
    go_wp2_with (first
     | ((with_reducible refine atDst 6 ?_); refine wpList_new rfl 46 rfl i0 _ z hi0 HZ0.out rfl (Below.refl w4.heap.size w4) (Nat.le_refl _) ?_; intro w5 hk hb hs ho; have L5 := qH hk; have B5 := qH hb; clear hk hb hs ho; (try simp only [Act.put, qA, qB, qC]))
     | ((with_reducible refine atStore 46 6 38 ?_); refine wpList_stBlk rfl 46 _ _ rfl w4.heap.size cs rfl rfl 46 _ L5.out (size_rx C6.out) (by rw [HZL.out, C6.out]) C1.out B5.out (Nat.le_refl _) ?_; intro w6 hk hb hs ho; have L6 := qH hk; have B6 := qH hb; clear hk hb hs ho; (try simp only [Act.put, qA, qB, qC])))
    have G6 := qH (grownG_trans G4.out (below_grownG g B6.out))
    have K6 := qH (K4.out.below B6.out K4.out.lt)
    have P6 := qH (P4.out.below B6.out)
    have D6 := qH (D4.out.stay (w' := w6) fun k hk => B6.out.block k hk.2)
    have NX := qH (show some w4.heap.size ≠ some g from fun he => by have h1 := Option.some.inj he; have h2 := P4.out.blk.lt; omega)
    have GL := qH P4.out.blk.lt
    refine sx_startB (B := g) (w0 := w6) (by kernel_rfl) (Below.refl _ _) (fun wd hwd hX => ?_)
    have hbd := (Below.refl w6.heap.size w6).drew
    rw [← hwd] at hbd
    have G7 := qH (grownG_trans G6.out (below_grownG g hbd))
    have K7 := qH (K6.out.below hbd K6.out.lt)
    have L7 := qH (L6.out.below hbd L6.out.lt)
    have P7 := qH (P6.out.below hbd)
    have S7 := qH (Nat.le_trans B6.out.size hbd.size)
    have D7 := qH (D6.out.stay (w' := wd) fun k hk => hbd.block k (Nat.lt_of_lt_of_le hk.2 B6.out.size))
    clear hwd hbd
    refine sx_take (i := 1) (oi := ⟨some 45, _, _, _, _, _⟩) (v := ?_) rfl (by kernel_rfl) (by kernel_rfl) (by kernel_rfl) (fun _ _ _ h => h) rfl hX ?_ ?_; rotate_left; (intro W hW; go_simp; try with_reducible rfl); simp only [Act.put, qA, qB, qC]
    refine sx_take (i := 2) (oi := ⟨some 46, _, _, _, _, _⟩) (v := ?_) rfl (by kernel_rfl) (by kernel_rfl) (by kernel_rfl) (fun _ _ _ h => h) rfl hX ?_ ?_; rotate_left; (intro W hW; go_simp; try with_reducible rfl); simp only [Act.put, qA, qB, qC]
    refine sx_take (i := 3) (oi := ⟨some 47, _, _, _, _, _⟩) (v := ?_) rfl (by kernel_rfl) (by kernel_rfl) (by kernel_rfl) (fun _ _ _ h => h) rfl hX ?_ ?_; rotate_left; (intro W hW; go_simp; try with_reducible rfl); simp only [Act.put, qA, qB, qC]
    refine sx_two (i := 0) (j := 4) (oi := ⟨some 44, _, _, _, _, _⟩) (oj := ⟨some 48, _, _, _, _, _⟩) rfl rfl (by kernel_rfl) rfl rfl hX (fun K hK => ?_) (fun K hK => ?_)
    focus
     refine wp_of_run (ld_blk 46 _ rfl w4.heap.size rfl 46 _ _ L7.out L7.out.lt Tryz.underlying46 rfl (size_rx C6.out) wd (Below.refl _ _)) ?_
     refine hK _ _ (Below.refl _ _) ?_
     (try simp only [Act.put, qA, qB, qC])
     clear hK K
     refine sx_actB (i := 4) (o := ⟨some 48, _, _, _, _, _⟩) rfl (by kernel_rfl) rfl hX (fun K hK => ?_)
     go_wp2_with fail
     refine (show Calls Tryz.prog 35 #[.pointer (some ⟨g, 0, none⟩), .int .i64 ((deep : Int) + 1)] wd _ from IH.out (deep + 1) n2 wd (by omega) (by omega) P7.out).mono ?_
     rintro e w8 ⟨ds, rfl, hds, hg, hp⟩
     go_wp2_with fail
     have hbg := grown_belowG hg P7.out.blk.lt
     refine hK _ _ hbg ?_
     (try simp only [Act.put, qA, qB, qC])
     clear hK K
     replace hX := hX.trans hbg
     have Y8 := qH hds
     have Y6 := qH hds.length
     have G8 := qH (grownG_trans G7.out hg)
     have K8 := qH (K7.out.grown hg HNE.out)
     have L8 := qH (L7.out.grown hg NX.out)
     have P8 := qH hp
     have S8 := qH hg.size
     have D8 := qH (D7.out.stay (w' := w8) fun k hk => hg.block k (Nat.lt_of_lt_of_le hk.2 S7.out) (fun he => by have h1 := Option.some.inj he; have h2 := GL3.out; have h3 := hk.1; have h4 := S3.out; omega))
     rw [← HTY.out] at Y8
     rw [← HM.out] at P8
     clear hds hg hp hbg
    rotate_left
    focus
     go_wp2_with fail
     refine (show Calls Tryz.prog 35 #[.pointer (some ⟨g, 0, none⟩), .int .i64 ((deep : Int) + 1)] wd _ from IH.out (deep + 1) n2 wd (by omega) (by omega) P7.out).mono ?_
     rintro e w8 ⟨ds, rfl, hds, hg, hp⟩
     go_wp2_with fail
     have hbg := grown_belowG hg P7.out.blk.lt
     refine hK _ _ hbg ?_
     (try simp only [Act.put, qA, qB, qC])
     clear hK K
     replace hX := hX.trans hbg
     have Y8 := qH hds
     have Y6 := qH hds.length
     have G8 := qH (grownG_trans G7.out hg)
     have K8 := qH (K7.out.grown hg HNE.out)
     have L8 := qH (L7.out.grown hg NX.out)
     have P8 := qH hp
     have S8 := qH hg.size
     have D8 := qH (D7.out.stay (w' := w8) fun k hk => hg.block k (Nat.lt_of_lt_of_le hk.2 S7.out) (fun he => by have h1 := Option.some.inj he; have h2 := GL3.out; have h3 := hk.1; have h4 := S3.out; omega))
     rw [← HTY.out] at Y8
     rw [← HM.out] at P8
     clear hds hg hp hbg
     refine sx_actB (i := 0) (o := ⟨some 44, _, _, _, _, _⟩) rfl (by kernel_rfl) rfl hX (fun K hK => ?_)
     refine wp_of_run (ld_blk 46 _ rfl w4.heap.size rfl 46 _ _ L8.out L8.out.lt Tryz.underlying46 rfl (size_rx C6.out) w8 (Below.refl _ _)) ?_
     refine hK _ _ (Below.refl _ _) ?_
     (try simp only [Act.put, qA, qB, qC])
     clear hK K
    all_goals
     refine sx_actB (i := 5) (o := ⟨some 49, _, _, _, _, _⟩) rfl (by kernel_rfl) rfl hX (fun K hK => ?_)
     refine wp_bldT2 44 46 (.tmp 44) (.tmp 48) rfl i0 Tryz.underlying44 hi0 HZ1.out hz1 cs ds C6.out Y6.out rfl rfl ?_
     intro w9 hk hb hs
     refine hK _ _ (hb.mono (Nat.le_of_lt P8.out.blk.lt)) ?_
     (try simp only [Act.put, qA, qB, qC])
     clear hK K
     replace hX := hX.trans (hb.mono (Nat.le_of_lt P8.out.blk.lt))
     have M9 := qH hk
     have G9 := qH (grownG_trans G8.out (below_grownG g hb))
     have K9 := qH (K8.out.below hb K8.out.lt)
     have P9 := qH (P8.out.below hb)
     have X9 := qH (show RxV w9.heap.size w9 cs tx from RxD.mono (D8.out.stay (w' := w9) fun k hk => hb.block k (Nat.lt_of_lt_of_le hk.2 (Nat.le_trans S7.out S8.out))) fun k hk => by have h1 := S7.out; have h2 := S8.out; have h3 := hk.2; have h4 := hb.size; omega)
     have Z9 := qH (show RxV w9.heap.size w9 ds ty from RxD.mono (Y8.out.stay (w' := w9) fun k hk => hb.block k hk.2) fun k hk => by have h3 := hk.2; have h4 := hb.size; omega)
     have LT9 := qH (show w8.heap.size < w9.heap.size by rw [hs]; omega)
     clear hk hb hs
     refine sx_actB (i := 6) (o := ⟨some 50, _, _, _, _, _⟩) rfl (by kernel_rfl) rfl hX (fun K hK => ?_)
     go_wp2_with fail
     refine (refCatX [tx, ty] _ w9 (row_two M9.out X9.out Z9.out LT9.out) HNL.out).mono ?_
     rintro e wx ⟨es, rfl, hes, hb⟩
     go_wp2_with fail
     refine hK _ _ (hb.mono (Nat.le_of_lt P9.out.blk.lt)) ?_
     (try simp only [Act.put, qA, qB, qC])
     clear hK K
     replace hX := hX.trans (hb.mono (Nat.le_of_lt P9.out.blk.lt))
     have E10 := qH hes
     have E6 := qH hes.length
     have E1 := qH (show es.all (·.oneCell') = true from List.all_eq_true.2 (RxD.one hes))
     have GX := qH (grownG_trans G9.out (below_grownG g hb))
     have KX := qH (K9.out.below hb K9.out.lt)
     have PX := qH (P9.out.below hb)
     have SX := qH (show w.heap.size < w9.heap.size from K9.out.lt)
     clear hes hb
     refine sx_actB (i := 7) (o := ⟨none, _, _, _, _, _⟩) rfl (by kernel_rfl) rfl hX (fun K hK => ?_)
     refine wp_stBlk 46 _ _ rfl w.heap.size es rfl rfl 46 _ KX.out (size_rx E6.out) (by rw [HZL.out, E6.out]) E1.out (Below.refl w.heap.size wx) (Nat.le_refl _) ?_
     intro w11 hk hb hs ho hbB
     refine hK _ _ (hbB g (Nat.le_of_lt HPK.out.blk.lt)) ?_
     (try simp only [Act.put, qA, qB, qC])
     clear hK K hX hbB
     have K11 := qH hk
     have G11 := qH (grownG_below GX.out hb)
     have P11 := qH (PX.out.other _ ho HPK.out.blk.lt hb)
     have E11 := qH (RxD.mono (E10.out.stay (w' := w11) fun k hk => ho k (by have h1 := hk.1; have h2 := SX.out; omega)) (D' := fun k => w.heap.size ≤ k ∧ k < w11.heap.size) fun k hk => ⟨by have h1 := hk.1; have h2 := SX.out; omega, by have h1 := hk.2; omega⟩)
     clear hk hb hs ho
     refine wpAnyH_done (by kernel_rfl) ?_ _
     go_wp2_with fail
     refine bodyPost_ret (results_blk rfl _ _ w.heap.size 46 _ _ rfl K11.out Tryz.underlying46 rfl (size_rx E6.out)) rfl ?_
     exact ⟨es, rfl, by rw [HQ.out]; exact E11.out, G11.out, P11.out⟩
  have z3 : ((x0 : Int) == 3) = false := by rw [beq_eq_false_iff_ne]; omega
  have z4 : ((x0 : Int) == 4) = false := by rw [beq_eq_false_iff_ne]; omega
  have z5 : ((x0 : Int) == 5) = false := by rw [beq_eq_false_iff_ne]; omega
  by_cases halt : x0 = 6 ∨ x0 = 7
  ·rw [if_neg (by omega), if_pos (by omega), ← hty] at hq
   rw [if_neg (by omega), if_pos (by omega)] at hm
   have HQ := qH (show q = altT [tx, ty] from hq)
   have HM := qH (show m = (rxP ps N (deep + 1) n2).2 from hm)
   have hz : ((x0 : Int) == 6) = true ∨ (((x0 : Int) == 6) = false ∧ ((x0 : Int) == 7) = true) := by
    rcases halt with h | h
    ·exact .inl (by rw [h]; rfl)
    ·exact .inr (by rw [h]; exact ⟨rfl, rfl⟩)
   clear hq hm hty hl9 hcat halt
   rcases hz with z6 | ⟨z6, z7⟩
   all_goals
    go_enter Tryz.func35, Tryz.ntmps35
    go_wp2_with ((with_reducible refine atDst 4 ?_); refine wpList_new rfl 46 rfl i0 _ z hi0 HZ0.out rfl (Below.refl w.heap.size w) (Nat.le_refl _) ?_; intro w1 hk1 hb1 hs1 _; have K1 := qH hk1; have G1 := qH (below_grownG g hb1); have P1 := qH (HPK.out.below hb1); clear hk1 hb1 hs1; (try simp only [Act.put, qA, qB, qC]))
    refine (num_any w1 g V ps n 9 P1.out (by omega) (by omega)).mono ?_
    rintro e w2 ⟨rfl, hg, hp⟩
    have G2 := qH (grownG_trans G1.out hg)
    have K2 := qH (K1.out.grown hg HNE.out)
    have P2 := qH hp
    rw [← HX0.out]
    rw [← HN1.out] at P2
    clear hg hp
    go_wp2_with fail
    refine (over_any w2 g V ps n1 P2.out).mono ?_
    rintro e w3 ⟨rfl, hb⟩
    rw [HOV.out]
    have G3 := qH (grownG_trans G2.out (below_grownG g hb))
    have K3 := qH (K2.out.below hb K2.out.lt)
    have P3 := qH (P2.out.below hb)
    clear hb
    go_wp2_with fail
    refine (show Calls Tryz.prog 35 #[.pointer (some ⟨g, 0, none⟩), .int .i64 ((deep : Int) + 1)] w3 _ from IH.out (deep + 1) n1 w3 (by omega) (by omega) P3.out).mono ?_
    rintro e w4 ⟨cs, rfl, hcs, hg, hp⟩
    have D4 := qH hcs
    have C6 := qH hcs.length
    have C1 := qH (show cs.all (·.oneCell') = true from List.all_eq_true.2 (RxD.one hcs))
    have G4 := qH (grownG_trans G3.out hg)
    have K4 := qH (K3.out.grown hg HNE.out)
    have P4 := qH hp
    have S3 := qH G3.out.size
    have S4 := qH hg.size
    rw [← HTX.out] at D4
    rw [← HN2.out] at P4
    clear hcs hg hp
    go_wp2_with (first
     | ((with_reducible refine atDst 6 ?_); refine wpList_new rfl 46 rfl i0 _ z hi0 HZ0.out rfl (Below.refl w4.heap.size w4) (Nat.le_refl _) ?_; intro w5 hk hb hs ho; have L5 := qH hk; have B5 := qH hb; clear hk hb hs ho; (try simp only [Act.put, qA, qB, qC]))
     | ((with_reducible refine atStore 46 6 38 ?_); refine wpList_stBlk rfl 46 _ _ rfl w4.heap.size cs rfl rfl 46 _ L5.out (size_rx C6.out) (by rw [HZL.out, C6.out]) C1.out B5.out (Nat.le_refl _) ?_; intro w6 hk hb hs ho; have L6 := qH hk; have B6 := qH hb; clear hk hb hs ho; (try simp only [Act.put, qA, qB, qC])))
    have G6 := qH (grownG_trans G4.out (below_grownG g B6.out))
    have K6 := qH (K4.out.below B6.out K4.out.lt)
    have P6 := qH (P4.out.below B6.out)
    have D6 := qH (D4.out.stay (w' := w6) fun k hk => B6.out.block k hk.2)
    have NX := qH (show some w4.heap.size ≠ some g from fun he => by have h1 := Option.some.inj he; have h2 := P4.out.blk.lt; omega)
    have GL := qH P4.out.blk.lt
    refine sx_startB (B := g) (w0 := w6) (by kernel_rfl) (Below.refl _ _) (fun wd hwd hX => ?_)
    have hbd := (Below.refl w6.heap.size w6).drew
    rw [← hwd] at hbd
    have G7 := qH (grownG_trans G6.out (below_grownG g hbd))
    have K7 := qH (K6.out.below hbd K6.out.lt)
    have L7 := qH (L6.out.below hbd L6.out.lt)
    have P7 := qH (P6.out.below hbd)
    have S7 := qH (Nat.le_trans B6.out.size hbd.size)
    have D7 := qH (D6.out.stay (w' := wd) fun k hk => hbd.block k (Nat.lt_of_lt_of_le hk.2 B6.out.size))
    clear hwd hbd
    refine sx_take (i := 1) (oi := ⟨some 55, _, _, _, _, _⟩) (v := ?_) rfl (by kernel_rfl) (by kernel_rfl) (by kernel_rfl) (fun _ _ _ h => h) rfl hX ?_ ?_; rotate_left; (intro W hW; go_simp; try with_reducible rfl); simp only [Act.put, qA, qB, qC]
    refine sx_take (i := 2) (oi := ⟨some 56, _, _, _, _, _⟩) (v := ?_) rfl (by kernel_rfl) (by kernel_rfl) (by kernel_rfl) (fun _ _ _ h => h) rfl hX ?_ ?_; rotate_left; (intro W hW; go_simp; try with_reducible rfl); simp only [Act.put, qA, qB, qC]
    refine sx_take (i := 3) (oi := ⟨some 57, _, _, _, _, _⟩) (v := ?_) rfl (by kernel_rfl) (by kernel_rfl) (by kernel_rfl) (fun _ _ _ h => h) rfl hX ?_ ?_; rotate_left; (intro W hW; go_simp; try with_reducible rfl); simp only [Act.put, qA, qB, qC]
    refine sx_two (i := 0) (j := 4) (oi := ⟨some 54, _, _, _, _, _⟩) (oj := ⟨some 58, _, _, _, _, _⟩) rfl rfl (by kernel_rfl) rfl rfl hX (fun K hK => ?_) (fun K hK => ?_)
    focus
     refine wp_of_run (ld_blk 46 _ rfl w4.heap.size rfl 46 _ _ L7.out L7.out.lt Tryz.underlying46 rfl (size_rx C6.out) wd (Below.refl _ _)) ?_
     refine hK _ _ (Below.refl _ _) ?_
     (try simp only [Act.put, qA, qB, qC])
     clear hK K
     refine sx_actB (i := 4) (o := ⟨some 58, _, _, _, _, _⟩) rfl (by kernel_rfl) rfl hX (fun K hK => ?_)
     go_wp2_with fail
     refine (show Calls Tryz.prog 35 #[.pointer (some ⟨g, 0, none⟩), .int .i64 ((deep : Int) + 1)] wd _ from IH.out (deep + 1) n2 wd (by omega) (by omega) P7.out).mono ?_
     rintro e w8 ⟨ds, rfl, hds, hg, hp⟩
     go_wp2_with fail
     have hbg := grown_belowG hg P7.out.blk.lt
     refine hK _ _ hbg ?_
     (try simp only [Act.put, qA, qB, qC])
     clear hK K
     replace hX := hX.trans hbg
     have Y8 := qH hds
     have Y6 := qH hds.length
     have G8 := qH (grownG_trans G7.out hg)
     have K8 := qH (K7.out.grown hg HNE.out)
     have L8 := qH (L7.out.grown hg NX.out)
     have P8 := qH hp
     have S8 := qH hg.size
     have D8 := qH (D7.out.stay (w' := w8) fun k hk => hg.block k (Nat.lt_of_lt_of_le hk.2 S7.out) (fun he => by have h1 := Option.some.inj he; have h2 := GL3.out; have h3 := hk.1; have h4 := S3.out; omega))
     rw [← HTY.out] at Y8
     rw [← HM.out] at P8
     clear hds hg hp hbg
    rotate_left
    focus
     go_wp2_with fail
     refine (show Calls Tryz.prog 35 #[.pointer (some ⟨g, 0, none⟩), .int .i64 ((deep : Int) + 1)] wd _ from IH.out (deep + 1) n2 wd (by omega) (by omega) P7.out).mono ?_
     rintro e w8 ⟨ds, rfl, hds, hg, hp⟩
     go_wp2_with fail
     have hbg := grown_belowG hg P7.out.blk.lt
     refine hK _ _ hbg ?_
     (try simp only [Act.put, qA, qB, qC])
     clear hK K
     replace hX := hX.trans hbg
     have Y8 := qH hds
     have Y6 := qH hds.length
     have G8 := qH (grownG_trans G7.out hg)
     have K8 := qH (K7.out.grown hg HNE.out)
     have L8 := qH (L7.out.grown hg NX.out)
     have P8 := qH hp
     have S8 := qH hg.size
     have D8 := qH (D7.out.stay (w' := w8) fun k hk => hg.block k (Nat.lt_of_lt_of_le hk.2 S7.out) (fun he => by have h1 := Option.some.inj he; have h2 := GL3.out; have h3 := hk.1; have h4 := S3.out; omega))
     rw [← HTY.out] at Y8
     rw [← HM.out] at P8
     clear hds hg hp hbg
     refine sx_actB (i := 0) (o := ⟨some 54, _, _, _, _, _⟩) rfl (by kernel_rfl) rfl hX (fun K hK => ?_)
     refine wp_of_run (ld_blk 46 _ rfl w4.heap.size rfl 46 _ _ L8.out L8.out.lt Tryz.underlying46 rfl (size_rx C6.out) w8 (Below.refl _ _)) ?_
     refine hK _ _ (Below.refl _ _) ?_
     (try simp only [Act.put, qA, qB, qC])
     clear hK K
    all_goals
     refine sx_actB (i := 5) (o := ⟨some 59, _, _, _, _, _⟩) rfl (by kernel_rfl) rfl hX (fun K hK => ?_)
     refine wp_bldT2 44 46 (.tmp 54) (.tmp 58) rfl i0 Tryz.underlying44 hi0 HZ1.out hz1 cs ds C6.out Y6.out rfl rfl ?_
     intro w9 hk hb hs
     refine hK _ _ (hb.mono (Nat.le_of_lt P8.out.blk.lt)) ?_
     (try simp only [Act.put, qA, qB, qC])
     clear hK K
     replace hX := hX.trans (hb.mono (Nat.le_of_lt P8.out.blk.lt))
     have M9 := qH hk
     have G9 := qH (grownG_trans G8.out (below_grownG g hb))
     have K9 := qH (K8.out.below hb K8.out.lt)
     have P9 := qH (P8.out.below hb)
     have X9 := qH (show RxV w9.heap.size w9 cs tx from RxD.mono (D8.out.stay (w' := w9) fun k hk => hb.block k (Nat.lt_of_lt_of_le hk.2 (Nat.le_trans S7.out S8.out))) fun k hk => by have h1 := S7.out; have h2 := S8.out; have h3 := hk.2; have h4 := hb.size; omega)
     have Z9 := qH (show RxV w9.heap.size w9 ds ty from RxD.mono (Y8.out.stay (w' := w9) fun k hk => hb.block k hk.2) fun k hk => by have h3 := hk.2; have h4 := hb.size; omega)
     have LT9 := qH (show w8.heap.size < w9.heap.size by rw [hs]; omega)
     clear hk hb hs
     refine sx_actB (i := 6) (o := ⟨some 60, _, _, _, _, _⟩) rfl (by kernel_rfl) rfl hX (fun K hK => ?_)
     go_wp2_with fail
     refine (refAlt_any [tx, ty] _ w9 (row_two M9.out X9.out Z9.out LT9.out) HNL.out).mono ?_
     rintro e wx ⟨es, rfl, hes, hb⟩
     go_wp2_with fail
     refine hK _ _ (hb.mono (Nat.le_of_lt P9.out.blk.lt)) ?_
     (try simp only [Act.put, qA, qB, qC])
     clear hK K
     replace hX := hX.trans (hb.mono (Nat.le_of_lt P9.out.blk.lt))
     have E10 := qH hes
     have E6 := qH hes.length
     have E1 := qH (show es.all (·.oneCell') = true from List.all_eq_true.2 (RxD.one hes))
     have GX := qH (grownG_trans G9.out (below_grownG g hb))
     have KX := qH (K9.out.below hb K9.out.lt)
     have PX := qH (P9.out.below hb)
     have SX := qH (show w.heap.size < w9.heap.size from K9.out.lt)
     clear hes hb
     refine sx_actB (i := 7) (o := ⟨none, _, _, _, _, _⟩) rfl (by kernel_rfl) rfl hX (fun K hK => ?_)
     refine wp_stBlk 46 _ _ rfl w.heap.size es rfl rfl 46 _ KX.out (size_rx E6.out) (by rw [HZL.out, E6.out]) E1.out (Below.refl w.heap.size wx) (Nat.le_refl _) ?_
     intro w11 hk hb hs ho hbB
     refine hK _ _ (hbB g (Nat.le_of_lt HPK.out.blk.lt)) ?_
     (try simp only [Act.put, qA, qB, qC])
     clear hK K hX hbB
     have K11 := qH hk
     have G11 := qH (grownG_below GX.out hb)
     have P11 := qH (PX.out.other _ ho HPK.out.blk.lt hb)
     have E11 := qH (RxD.mono (E10.out.stay (w' := w11) fun k hk => ho k (by have h1 := hk.1; have h2 := SX.out; omega)) (D' := fun k => w.heap.size ≤ k ∧ k < w11.heap.size) fun k hk => ⟨by have h1 := hk.1; have h2 := SX.out; omega, by have h1 := hk.2; omega⟩)
     clear hk hb hs ho
     refine wpAnyH_done (by kernel_rfl) ?_ _
     go_wp2_with fail
     refine bodyPost_ret (results_blk rfl _ _ w.heap.size 46 _ _ rfl K11.out Tryz.underlying46 rfl (size_rx E6.out)) rfl ?_
     exact ⟨es, rfl, by rw [HQ.out]; exact E11.out, G11.out, P11.out⟩
  have z6 : ((x0 : Int) == 6) = false := by rw [beq_eq_false_iff_ne]; omega
  have z7 : ((x0 : Int) == 7) = false := by rw [beq_eq_false_iff_ne]; omega
  rw [if_neg (by omega), if_neg (by omega)] at hq hm
  have HQ := qH (show q = starT tx from hq)
  have HM := qH (show m = n2 from hm)
  clear hq hm hty hl9 hcat halt
  go_enter Tryz.func35, Tryz.ntmps35
  go_wp2_with ((with_reducible refine atDst 4 ?_); refine wpList_new rfl 46 rfl i0 _ z hi0 HZ0.out rfl (Below.refl w.heap.size w) (Nat.le_refl _) ?_; intro w1 hk1 hb1 hs1 _; have K1 := qH hk1; have G1 := qH (below_grownG g hb1); have P1 := qH (HPK.out.below hb1); clear hk1 hb1 hs1; (try simp only [Act.put, qA, qB, qC]))
  refine (num_any w1 g V ps n 9 P1.out (by omega) (by omega)).mono ?_
  rintro e w2 ⟨rfl, hg, hp⟩
  have G2 := qH (grownG_trans G1.out hg)
  have K2 := qH (K1.out.grown hg HNE.out)
  have P2 := qH hp
  rw [← HX0.out]
  rw [← HN1.out] at P2
  clear hg hp
  go_wp2_with fail
  refine (over_any w2 g V ps n1 P2.out).mono ?_
  rintro e w3 ⟨rfl, hb⟩
  rw [HOV.out]
  have G3 := qH (grownG_trans G2.out (below_grownG g hb))
  have K3 := qH (K2.out.below hb K2.out.lt)
  have P3 := qH (P2.out.below hb)
  clear hb
  go_wp2_with fail
  refine (show Calls Tryz.prog 35 #[.pointer (some ⟨g, 0, none⟩), .int .i64 ((deep : Int) + 1)] w3 _ from IH.out (deep + 1) n1 w3 (by omega) (by omega) P3.out).mono ?_
  rintro e w4 ⟨cs, rfl, hcs, hg, hp⟩
  have D4 := qH hcs
  have C6 := qH hcs.length
  have C1 := qH (show cs.all (·.oneCell') = true from List.all_eq_true.2 (RxD.one hcs))
  have G4 := qH (grownG_trans G3.out hg)
  have K4 := qH (K3.out.grown hg HNE.out)
  have P4 := qH hp
  have S3 := qH G3.out.size
  have S4 := qH hg.size
  rw [← HTX.out] at D4
  rw [← HN2.out] at P4
  clear hcs hg hp
  go_wp2_with (first
   | ((with_reducible refine atDst 6 ?_); refine wpList_new rfl 46 rfl i0 _ z hi0 HZ0.out rfl (Below.refl w4.heap.size w4) (Nat.le_refl _) ?_; intro w5 hk hb hs ho; have L5 := qH hk; have B5 := qH hb; clear hk hb hs ho; (try simp only [Act.put, qA, qB, qC]))
   | ((with_reducible refine atStore 46 6 38 ?_); refine wpList_stBlk rfl 46 _ _ rfl w4.heap.size cs rfl rfl 46 _ L5.out (size_rx C6.out) (by rw [HZL.out, C6.out]) C1.out B5.out (Nat.le_refl _) ?_; intro w6 hk hb hs ho; have L6 := qH hk; have B6 := qH hb; clear hk hb hs ho; (try simp only [Act.put, qA, qB, qC]))
   | ((with_reducible refine atDst 61 ?_); refine wpList_ldArr rfl 46 _ rfl w4.heap.size rfl 46 _ _ L6.out Tryz.underlying46 rfl (size_rx C6.out) ?_; (try simp only [Act.put, qA, qB, qC])))
  have G6 := qH (grownG_trans G4.out (below_grownG g B6.out))
  have K6 := qH (K4.out.below B6.out K4.out.lt)
  have P6 := qH (P4.out.below B6.out)
  have D6 := qH (D4.out.stay (w' := w6) fun k hk => B6.out.block k hk.2)
  have NX := qH (show some w4.heap.size ≠ some g from fun he => by have h1 := Option.some.inj he; have h2 := P4.out.blk.lt; omega)
  have GL := qH P4.out.blk.lt
  refine (refStar_any tx cs w6 (D := fun k => w3.heap.size ≤ k ∧ k < w4.heap.size) (fun k hk => Nat.lt_of_lt_of_le hk.2 B6.out.size) D6.out (by have := HNX.out; omega) HGX.out).mono ?_
  rintro e wx ⟨es, rfl, hes, hb⟩
  have E10 := qH hes
  have E6 := qH hes.length
  have E1 := qH (show es.all (·.oneCell') = true from List.all_eq_true.2 (RxD.one hes))
  have GX := qH (grownG_trans G6.out (below_grownG g hb))
  have KX := qH (K6.out.below hb K6.out.lt)
  have PX := qH (P6.out.below hb)
  have SX := qH (show w.heap.size < w6.heap.size from K6.out.lt)
  clear hes hb
  go_wp2_with ((with_reducible refine atStore 46 4 62 ?_); refine wpList_stBlk rfl 46 _ _ rfl w.heap.size es rfl rfl 46 _ KX.out (size_rx E6.out) (by rw [HZL.out, E6.out]) E1.out (Below.refl w.heap.size wx) (Nat.le_refl _) ?_; intro w11 hk hb hs ho; have K11 := qH hk; have G11 := qH (grownG_below GX.out hb); have P11 := qH (PX.out.other _ ho HPK.out.blk.lt hb); have E11 := qH (RxD.mono (E10.out.stay (w' := w11) fun k hk => ho k (by have h1 := hk.1; have h2 := SX.out; omega)) (D' := fun k => w.heap.size ≤ k ∧ k < w11.heap.size) fun k hk => ⟨by have h1 := hk.1; have h2 := SX.out; omega, by have h1 := hk.2; omega⟩); clear hk hb hs ho; (try simp only [Act.put, qA, qB, qC]))
  refine bodyPost_ret (results_blk rfl _ _ w.heap.size 46 _ _ rfl K11.out Tryz.underlying46 rfl (size_rx E6.out)) rfl ?_
  exact ⟨es, rfl, by rw [HQ.out]; exact E11.out, G11.out, by rw [HM.out]; exact P11.out⟩
end Go.Proofs.YteadghoojeehlaaGreatDoor
