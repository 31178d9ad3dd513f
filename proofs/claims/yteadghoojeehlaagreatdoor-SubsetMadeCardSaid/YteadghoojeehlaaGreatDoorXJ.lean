/-
  Texts of this proof, put together: RxY. No statement is proved here.
-/
import Derived.Test.YteadghoojeehlaaGreatDoorXH
import Derived.Test.YteadghoojeehlaaGreatDoorXI
namespace Go.Proofs.YteadghoojeehlaaGreatDoor
open Go.RowKit
set_option linter.unusedSimpArgs false
set_option linter.unusedVariables false
theorem sortU_cons_ne (l : List T) (r : T) : insT r l ≠ [] := by
 cases l with
 | nil => simp [insT]
 | cons a l =>
  simp only [insT]
  split
  ·simp
  ·split <;> simp
theorem refInsert_any (l : List T) (r : T) (v : Value) (rs : List Value) (w : World) {D : Nat → Prop} (hD : ∀ k, D k → k < w.heap.size) (hr : RowD D w v l) (hne : l = [] → v = .slice none 0 0) (hv : RxD D w rs r) (hn : nodesL l ≤ 549755813888) (hM : r.nodes ≤ 1099511627776) :
  Calls Tryz.prog 85 #[v, .agg rs.toArray] w fun e w' => ∃ v', e = .returned v' ∧ RowD (fun k => D k ∨ (w.heap.size ≤ k ∧ k < w'.heap.size)) w' v' (insT r l) ∧ Below w.heap.size w w' := by
 by_cases h : l = []
 ·subst h
  rw [hne rfl]
  exact refInsert_nil r rs w hD hv
 ·exact refInsert_some l r v rs w hD hr h hv hn hM
def othJ (F : List T) (j : Nat) : List T := withoutT 3 (withoutT 1 (F.take j))
def orJ (F : List T) (j : Nat) : Nat → Bool := orT (withoutT 1 (F.take j))
theorem without_app (k : Int) (a b : List T) : withoutT k (a ++ b) = withoutT k a ++ withoutT k b := List.filter_append a b
theorem othJ_next (F : List T) (j : Nat) (t : T) (h : F[j]? = some t) : othJ F (j + 1) = othJ F j ++ if t.kind = 1 ∨ t.kind = 3 then [] else [t] := by
 unfold othJ
 rw [withoutT_next 1 F j t h, without_app]
 congr 1
 by_cases h1 : t.kind = 1
 ·rw [if_pos h1, if_pos (.inl h1)]; rfl
 ·rw [if_neg h1]
  by_cases h3 : t.kind = 3
  ·rw [if_pos (.inr h3)]; simp [withoutT, h3]
  ·rw [if_neg (by rintro (h | h); exact h1 h; exact h3 h)]; simp [withoutT, h3]
theorem orJ_next (F : List T) (j : Nat) (t : T) (h : F[j]? = some t) : orJ F (j + 1) = fun b => orJ F j b || (decide (t.kind = 3) && t.set b) := by
 unfold orJ
 rw [withoutT_next 1 F j t h]
 funext b
 unfold orT
 rw [List.any_append]
 by_cases h1 : t.kind = 1
 ·rw [if_pos h1]; simp [h1]
 ·rw [if_neg h1]; simp
theorem othJ_nodes (F : List T) (j : Nat) : nodesL (othJ F j) ≤ nodesL F := Nat.le_trans (withoutT_nodes 3 _) (Nat.le_trans (withoutT_nodes 1 _) (nodesL_take F j))
theorem range_set {w : World} {b o : Nat} {cs : List Value} {k : Int} {s : Nat → Bool} {v : Value} (h : w.rangeAt b o cs) (hc : cs = rxc k s v) : w.rangeAt b (o + 1) (wds s) := fun j u hu => by
 have hj : j < 4 := by simpa [wds_length] using (List.getElem?_eq_some_iff.1 hu).1
 have := h (j + 1) u (by
  rw [hc]
  show (Value.int .i64 k :: (wds s ++ [v]))[j + 1]? = some u
  rw [List.getElem?_cons_succ, List.getElem?_append_left (by rw [wds_length]; exact hj)]
  exact hu)
 rw [show o + 1 + j = o + (j + 1) by omega]
 exact this
set_option maxHeartbeats 8000000 in
set_option maxRecDepth 100000 in
theorem refAlt_any (l : List T) (v : Value) (w : World) (hr : RowT w.heap.size w v l) (hn : nodesL l ≤ 549755813887) :
  Calls Tryz.prog 66 #[v] w fun e w' => ∃ ds, e = .returned (.agg ds.toArray) ∧ RxD (fun k => w.heap.size ≤ k ∧ k < w'.heap.size) w' ds (altT l) ∧ Below w.heap.size w w' := by
 have R := qH hr
 have HN := qH hn
 have HFN := qH (flatT_nodes 5 l)
 obtain ⟨i0, hi0, hz0, hz1, hz2⟩ := inf_rx'
 obtain ⟨z, hz⟩ : ∃ z, z = rxc 0 zeroS (.slice none 0 0) := ⟨_, rfl⟩
 have HZL := qH (show z.length = 6 by rw [hz]; rfl)
 have HZ0 := qH (show i0.zero = some (.agg z.toArray) by rw [hz]; exact hz0)
 obtain ⟨i1, hi1, hy0⟩ := info_set
 have HBS := qH builtS
 obtain ⟨zs, hzs⟩ : ∃ zs, zs = zeroS := ⟨_, rfl⟩
 have HZS := qH hzs
 rw [← hzs] at HBS
 have HY0 := qH (show i1.zero = some (.agg (wds zs).toArray) by rw [hzs]; exact hy0)
 clear hr hn hz hz0 hzs hy0
 go_enter Tryz.func66, Tryz.ntmps66
 go_wp2_with (first
  | ((with_reducible refine atDst 2 ?_); refine wpList_new rfl 46 rfl i0 _ z hi0 HZ0.out rfl (Below.refl w.heap.size w) (Nat.le_refl _) ?_; intro w1 hk1 hb1 hs1 _; have K1 := qH hk1; have B1 := qH hb1; have S1 := qH hs1; clear hk1 hb1 hs1; (try simp only [Act.put, qA, qB, qC]))
  | ((with_reducible refine atDst 4 ?_); refine wpList_new rfl 43 rfl i1 _ (wds zs) hi1 HY0.out rfl B1.out B1.out.size ?_; intro w2 hk2 hb2 hs2 ho2; have M2 := qH hk2; have B2 := qH hb2; have S2 := qH hs2; have K2 := qH (show Blk w2 w.heap.size 46 z from (ho2 _ K1.out.lt).trans K1.out); clear hk2 hb2 hs2 ho2; (try simp only [Act.put, qA, qB, qC])))
 refine (refFlat_any 5 l v w2 (D := fun k => k < w.heap.size) (fun k hk => Nat.lt_of_lt_of_le hk B2.out.size) (R.out.below B2.out).rowD (by have := HN.out; omega)).mono ?_
 rintro e w3 ⟨v3, rfl, ho3, hb3⟩
 have B3 := qH (B2.out.trans (hb3.mono B2.out.size))
 have K3 := qH (K2.out.below hb3 K2.out.lt)
 have M3 := qH (M2.out.below hb3 M2.out.lt)
 obtain ⟨F, hF⟩ : ∃ F, F = flatT 5 l := ⟨_, rfl⟩
 have HAT := qH (show altT l = wrapT 5 noneT (sortU (itemsT (withoutT 1 F))) by rw [hF]; rfl)
 have HEN := qH (show nodesL F ≤ 549755813887 by rw [hF]; have h2 := HFN.out; have h3 := HN.out; omega)
 rw [← hF] at ho3
 have R3 := qH (ho3.rowD.mono (D' := fun k => k ≠ w.heap.size ∧ k ≠ w1.heap.size ∧ k < w3.heap.size) fun k hk => by
  have h1 := S1.out
  have h2 := S2.out
  rcases hk.1 with h | h
  ·exact ⟨by omega, by omega, hk.2⟩
  ·exact ⟨by omega, by omega, hk.2⟩)
 clear ho3 hb3 hF
 have HLE := qH (len_nodes F)
 obtain ⟨A, cap, f, rfl, h1, h2, h0, h3, h4⟩ := R3.out
 have H3 := qH h3
 have H4 := qH h4
 have G3 := qH K3.out.lt
 have GM := qH M3.out.lt
 have HKM := qH (show w.heap.size ≠ w1.heap.size by have := S1.out; omega)
 have HWM := qH (show w.heap.size ≤ w1.heap.size by have := S1.out; omega)
 clear h1 h2 h0 h3 h4
 go_wp2_with fail
 go_loopw [3, 6] (fun v i wl => ∃ (v1 : Value) (j : Nat), v1 = v ∧ j ≤ F.length ∧ i = .int .i64 (j : Int) ∧ RowD (fun k => w3.heap.size ≤ k ∧ k < wl.heap.size) wl v1 (sortU (othJ F j)) ∧ (sortU (othJ F j) = [] → v1 = .slice none 0 0) ∧ Blk wl w1.heap.size 43 (wds (orJ F j)) ∧ w3.grownBy wl (some w1.heap.size)) (fun _ i _ => F.length - (intOf i).toNat)
 case atStart =>
  refine ⟨_, 0, rfl, by omega, by simp, ⟨none, 0, fun _ => [], rfl, Nat.le_refl _, Nat.zero_le _, fun _ => rfl, fun h => absurd rfl h, fun i t h => by simp [othJ, withoutT, sortU] at h⟩, fun _ => rfl, ?_, World.grownBy.refl _ _⟩
  have : orJ F 0 = zs := by rw [HZS.out]; rfl
  rw [this]
  exact M3.out
 case round =>
  obtain ⟨v1, j, rfl, hj, rfl, ho, hnn, hm, hg⟩ := hrel
  have HO := qH ho
  have HNN := qH hnn
  have HM := qH hm
  have HG := qH hg
  have HB := qH (B3.out.grown hg B3.out.size (fun q hq => by have h1 := Option.some.inj hq; have h2 := HWM.out; omega))
  have KR := qH (show Blk wr w.heap.size 46 z from (hg.block _ K3.out.lt (fun e => HKM.out (Option.some.inj e))).trans K3.out)
  have HSW := qH hg.size
  have HNO := qH (Nat.le_trans (sortU_nodes (othJ F j)) (othJ_nodes F j))
  clear ho hnn hm hg
  by_cases hjl : j < F.length
  ·have j1 : (j : Int) < (F.length : Int) := Int.ofNat_lt.2 hjl
   obtain ⟨b, off, rfl, hb, hrng⟩ := H3.out (by rintro rfl; simp at hjl)
   obtain ⟨u, hu⟩ : ∃ u, F[j]? = some u := ⟨_, List.getElem?_eq_getElem hjl⟩
   have HBB := qH hb
   have HV := qH ((H4.out j u hu).stay (w' := wr) fun k hk => HG.out.block k hk.2.2 (fun e => hk.2.1 (Option.some.inj e)))
   have HRG := qH (range_heap (hrng j hjl) (HG.out.block b hb.2.2 (fun e => hb.2.1 (Option.some.inj e))))
   obtain ⟨Au, cu, hsp, hru⟩ := HV.out.split
   have HV6 := qH HV.out.length
   have HSP := qH hsp
   have SR := qH (range_set HRG.out hsp)
   have a0 := range_cell0 HRG.out (show (f j)[0]? = some (.int .i64 u.kind) by rw [hsp]; rfl)
   have HU := qH hu
   have hj62 : j ≤ 4611686018427387904 := by have := HEN.out; have := HLE.out; omega
   have e3 := wrap_one j hj62
   have e4 := wrap_one' j hj62
   have HNX := qH (othJ_next F j u hu)
   have HOX := qH (orJ_next F j u hu)
   have HUN := qH (show u.nodes ≤ 1099511627776 by have h1 := nodes_mem (List.mem_of_getElem? hu); have h2 := HEN.out; omega)
   have HJ1 := qH (sub_next hjl)
   have HJ2 := qH (show j + 1 ≤ F.length from hjl)
   obtain ⟨cur, hcur⟩ : ∃ cur, cur = othJ F j := ⟨_, rfl⟩
   obtain ⟨o1, ho1⟩ : ∃ o1, o1 = orJ F j := ⟨_, rfl⟩
   rw [← hcur] at HO HNN HNX HNO
   rw [← ho1] at HM HOX
   clear hrng hu hj62 hb hsp hru hcur ho1
   by_cases hk1 : u.kind = 1
   ·have hkb : (u.kind == 1) = true := by simpa using hk1
    have HE := qH (show othJ F (j + 1) = cur by rw [HNX.out, if_pos (.inl hk1), List.append_nil])
    have HEO := qH (show orJ F (j + 1) = o1 by rw [HOX.out]; funext b; simp [hk1])
    clear hk1
    go_wp2_with fail
    refine ⟨⟨_, j + 1, rfl, HJ2.out, by congr 1, by rw [HE.out]; exact HO.out, by rw [HE.out]; exact HNN.out, by rw [HEO.out]; exact HM.out, HG.out⟩, by simpa [intOf] using HJ1.out⟩
   ·have hkb : (u.kind == 1) = false := by simpa using hk1
    by_cases hk3 : u.kind = 3
    ·have hkc : (u.kind == 3) = true := by simpa using hk3
     have HE := qH (show othJ F (j + 1) = cur by rw [HNX.out, if_pos (.inr hk3), List.append_nil])
     have HEO := qH (show orJ F (j + 1) = fun b => o1 b || u.set b by rw [HOX.out]; funext b; simp [hk3])
     clear hk1 hk3
     go_wp2_with fail
     refine sxs_start (S := fun W => wr.grownBy W (some w1.heap.size)) (by kernel_rfl) (fun wd hwd => ?_)
     have hS : wr.grownBy wd (some w1.heap.size) := by rw [hwd]; exact ⟨rfl, rfl, rfl, Nat.le_refl _, fun k hk hne => rfl⟩
     have HMd := qH (show Blk wd w1.heap.size 43 (wds o1) by rw [hwd]; exact HM.out)
     have Bd := qH (show Below wr.heap.size wr wd by rw [hwd]; exact (Below.refl wr.heap.size wr).drew)
     clear hwd
     refine sxs_take (i := 1) (oi := ⟨some 32, _, _, _, _, _⟩) (v := ?_) rfl (by kernel_rfl) (by kernel_rfl) (by kernel_rfl) (fun _ _ _ h => h) rfl hS ?_ ?_; rotate_left; (intro W hW; go_simp; try with_reducible rfl); simp only [Act.put, qA, qB, qC]
     refine sxs_take (i := 2) (oi := ⟨some 33, _, _, _, _, _⟩) (v := ?_) rfl (by kernel_rfl) (by kernel_rfl) (by kernel_rfl) (fun _ _ _ h => h) rfl hS ?_ ?_; rotate_left; (intro W hW; go_simp; try with_reducible rfl); simp only [Act.put, qA, qB, qC]
     refine sxs_take (i := 3) (oi := ⟨some 34, _, _, _, _, _⟩) (v := ?_) rfl (by kernel_rfl) (by kernel_rfl) (by kernel_rfl) (fun _ _ _ h => h) rfl hS ?_ ?_; rotate_left; (intro W hW; go_simp; try with_reducible rfl); simp only [Act.put, qA, qB, qC]
     refine sxs_take (i := 4) (oi := ⟨some 35, _, _, _, _, _⟩) (v := ?_) rfl (by kernel_rfl) (by kernel_rfl) (by kernel_rfl) (fun _ _ _ h => h) rfl hS ?_ ?_; rotate_left; (intro W hW; go_simp; try with_reducible rfl); simp only [Act.put, qA, qB, qC]
     refine sxs_take (i := 5) (oi := ⟨some 36, _, _, _, _, _⟩) (v := .agg (wds u.set).toArray) rfl (by kernel_rfl) (by kernel_rfl) (by kernel_rfl) (fun _ _ _ h => h) rfl hS (fun W hW => ld_keep 43 _ rfl b (off + j * 6 + 1) rfl _ _ SR.out (hW.block b (Nat.lt_of_lt_of_le HBB.out.2.2 HSW.out) (fun e => HBB.out.2.1 (Option.some.inj e))) Tryz.underlying43 rfl (size_set u.set)) ?_; simp only [Act.put, qA, qB, qC]
     refine sxs_act (i := 0) (o := ⟨some 31, _, _, _, _, _⟩) rfl (by kernel_rfl) rfl (fun K hK => ?_)
     refine wp_load_row 43 _ rfl w1.heap.size rfl 43 (wds o1).toArray (0, 0) _ HMd.out Tryz.underlying43 rfl (by simpa using size_set o1) ?_
     refine hK _ _ hS ?_
     clear hK K
     (try simp only [Act.put, qA, qB, qC])
     refine sxs_act (i := 6) (o := ⟨some 37, _, _, _, _, _⟩) rfl (by kernel_rfl) rfl (fun K hK => ?_)
     go_wp2_with fail
     refine (refOr_any o1 u.set wd).mono ?_
     rintro e w7 ⟨rfl, hb7⟩
     have hS7 : wr.grownBy w7 (some w1.heap.size) := grown_below hS hb7 (Nat.le_refl _)
     have M7 := qH (HMd.out.below hb7 HMd.out.lt)
     have C7 := qH (Bd.out.trans (hb7.mono Bd.out.size))
     have B7 := qH (HB.out.trans (C7.out.mono HB.out.size))
     refine hK _ _ hS7 ?_
     clear hK K hb7 hS
     (try simp only [Act.put, qA, qB, qC])
     refine sxs_act (i := 7) (o := ⟨none, _, _, _, _, _⟩) rfl (by kernel_rfl) rfl (fun K hK => ?_)
     refine wp_stBlk 43 _ _ rfl w1.heap.size (wds fun b => o1 b || u.set b) rfl rfl 43 _ M7.out (size_set _) rfl (wds_all _) B7.out HWM.out ?_
     intro w8 hk8 hb8 hs8 ho8 _
     have hS8 : wr.grownBy w8 (some w1.heap.size) := grown_at hS7 B7.out hb8 (by rw [hs8]; exact Nat.le_refl _) ho8
     refine hK _ _ hS8 ?_
     clear hK K
     refine wpAnyH_done (by kernel_rfl) ?_ _
     have M8 := qH hk8
     have G8 := qH (show w3.grownBy w8 (some w1.heap.size) from ⟨hS8.os.trans HG.out.os, hS8.tape.trans HG.out.tape, hS8.output.trans HG.out.output, Nat.le_trans HG.out.size hS8.size, fun k hk hne => (hS8.block k (Nat.lt_of_lt_of_le hk HG.out.size) hne).trans (HG.out.block k hk hne)⟩)
     have R8 := qH ((HO.out.stay (w' := w8) fun k hk => hS8.block k hk.2 (fun e => by have h1 := Option.some.inj e; have h2 := hk.1; have h3 := GM.out; omega)).mono (D' := fun k => w3.heap.size ≤ k ∧ k < w8.heap.size) fun k hk => ⟨hk.1, Nat.lt_of_lt_of_le hk.2 hS8.size⟩)
     clear hS8 hS7 hk8 hb8 hs8 ho8
     go_wp2_with fail
     refine ⟨⟨_, j + 1, rfl, HJ2.out, by congr 1, by rw [HE.out]; exact R8.out, by rw [HE.out]; exact HNN.out, by rw [HEO.out]; exact M8.out, G8.out⟩, by simpa [intOf] using HJ1.out⟩
    ·have hkc : (u.kind == 3) = false := by simpa using hk3
     have HE := qH (show othJ F (j + 1) = cur ++ [u] by rw [HNX.out, if_neg (by rintro (h | h); exact hk1 h; exact hk3 h)])
     have HEO := qH (show orJ F (j + 1) = o1 by rw [HOX.out]; funext b; simp [hk3])
     clear hk1 hk3
     go_wp2_with ((with_reducible refine atDst 24 ?_); refine wpList_load_mid rfl 46 _ rfl b (off + j * 6) rfl (f j) _ HRG.out Tryz.underlying46 rfl (size_rx HV6.out) ?_; (try simp only [Act.put, qA, qB, qC]))
     refine (refCopy_any _ u (Nat.le_refl _) HUN.out (f j) wr (RxD.mono HV.out fun k hk => Nat.lt_of_lt_of_le hk.2.2 HSW.out)).mono ?_
     rintro e w6 ⟨ds, rfl, hds, hb6⟩
     have HDS := qH (RxD.mono hds (D' := fun k => w3.heap.size ≤ k ∧ k < w6.heap.size) fun k hk => ⟨Nat.le_trans HSW.out hk.1, hk.2⟩)
     have O6 := qH ((HO.out.keep hb6 fun k hk => hk.2).mono (D' := fun k => w3.heap.size ≤ k ∧ k < w6.heap.size) fun k hk => ⟨hk.1, Nat.lt_of_lt_of_le hk.2 hb6.size⟩)
     have C6 := qH hb6
     have M6 := qH (HM.out.below hb6 HM.out.lt)
     clear hds hb6
     go_wp2_with fail
     refine (refInsert_any (sortU cur) u v1 ds w6 (fun k hk => hk.2) O6.out HNN.out HDS.out (by have h1 := HNO.out; have h2 := HEN.out; omega) HUN.out).mono ?_
     rintro e w7 ⟨v7, rfl, hr7, hb7⟩
     have R7 := qH (hr7.mono (D' := fun k => w3.heap.size ≤ k ∧ k < w7.heap.size) fun k hk => by
      have h1 := hb7.size
      have h2 := HSW.out
      have h3 := C6.out.size
      rcases hk with h | h
      ·exact ⟨h.1, Nat.lt_of_lt_of_le h.2 h1⟩
      ·exact ⟨by have := h.1; omega, h.2⟩)
     have M7 := qH (M6.out.below hb7 M6.out.lt)
     have G7 := qH (grown_below HG.out (C6.out.trans (hb7.mono C6.out.size)) (Nat.le_refl _))
     clear hr7 hb7
     go_wp2_with fail
     refine ⟨⟨_, j + 1, rfl, HJ2.out, by congr 1, by rw [HE.out, sortU_snoc]; exact R7.out, fun h => by rw [HE.out, sortU_snoc] at h; exact absurd h (sortU_cons_ne _ _), by rw [HEO.out]; exact M7.out, G7.out⟩, by simpa [intOf] using HJ1.out⟩
  ·obtain rfl : j = F.length := by omega
   have j1 : ¬ ((F.length : Int) < (F.length : Int)) := by omega
   obtain ⟨E, hE⟩ : ∃ E, E = withoutT 1 F := ⟨_, rfl⟩
   have ho := HO.out
   have hnn := HNN.out
   have hm := HM.out
   have eo : othJ F F.length = withoutT 3 E := by rw [hE]; unfold othJ; rw [List.take_length]
   have er : orJ F F.length = orT E := by rw [hE]; unfold orJ; rw [List.take_length]
   rw [eo] at ho hnn
   rw [er] at hm
   have HNO2 := HNO.out
   rw [eo] at HNO2
   have HNP := qH HNO2
   have O9 := qH ho
   have N9 := qH hnn
   have M9 := qH hm
   have HAE := qH (show altT l = wrapT 5 noneT (sortU (itemsT E)) by rw [HAT.out, hE])
   clear ho hnn hm HO HM HNN HNO2 eo er hE
   cases hs : eqS (orT E) zs with
   | true =>
    have HNE := qH (show (!eqS (orT E) zs) = false by rw [hs]; rfl)
    have HI := qH (show itemsT E = withoutT 3 E by unfold itemsT; rw [← HZS.out, hs, if_pos rfl, List.append_nil])
    obtain ⟨P, hP⟩ : ∃ P, P = sortU (withoutT 3 E) := ⟨_, rfl⟩
    have HC0 := qH (show altT l = wrapT 5 noneT P by rw [HAE.out, HI.out, hP])
    have RX := qH (show RowD (fun k => w3.heap.size ≤ k ∧ k < wr.heap.size) wr v1 P by rw [hP]; exact O9.out)
    clear hs hP
    match P, RX, HC0 with
    | [], R9, HC0 =>
     have HC := qH (show altT l = noneT from HC0.out)
     obtain ⟨A3, cap3, f3, rfl, _⟩ := R9.out
     go_wp2_with (first
      | ((with_reducible refine atDst 38 ?_); refine wpList_ldArr rfl 43 _ rfl w1.heap.size rfl 43 _ _ M9.out Tryz.underlying43 rfl (size_set _) ?_; (try simp only [Act.put, qA, qB, qC]))
      | ((with_reducible refine atDst 39 ?_); refine wpList_bld rfl 43 _ rfl (wds zs) HBS.out ?_; (try simp only [Act.put, qA, qB, qC]))
      | ((with_reducible refine atDst 40 ?_); refine wpList_neSetG rfl HNE.out 43 41 (.tmp 38) (.tmp 39) 43 rfl guardSet Tryz.underlying43 Tryz.underlying41 sizeU64 rfl rfl ?_; (try simp only [Act.put, qA, qB, qC])))
     refine (refNone_any wr).mono ?_
     rintro e w39 ⟨dx, rfl, hd9, hb9⟩
     have DA := qH (hd9 fun _ => False)
     have D6 := qH (hd9 fun _ => False).length
     have D1 := qH (show dx.all (·.oneCell') = true from List.all_eq_true.2 (hd9 fun _ => False).one)
     have B39 := qH (HB.out.trans (hb9.mono HB.out.size))
     have K39 := qH (KR.out.below hb9 KR.out.lt)
     clear hd9 hb9
     go_wp2_with ((with_reducible refine atStore 46 2 48 ?_); refine wpList_stBlk rfl 46 _ _ rfl w.heap.size dx rfl rfl 46 _ K39.out (size_rx D6.out) (by rw [HZL.out, D6.out]) D1.out B39.out (Nat.le_refl _) ?_; intro w40 hk10 hb10 hs10 ho10; have K40 := qH hk10; have B40 := qH hb10; clear hk10 hb10 hs10 ho10; (try simp only [Act.put, qA, qB, qC]))
     refine bodyPost_ret (results_blk rfl _ _ w.heap.size 46 _ _ rfl K40.out Tryz.underlying46 rfl (size_rx D6.out)) rfl ?_
     exact ⟨dx, rfl, by rw [HC.out]; exact RxD.mono (DA.out.stay fun k hk => absurd hk id) fun k hk => absurd hk id, B40.out⟩
    | [t], R9, HC0 =>
     have HC := qH (show altT l = t from HC0.out)
     obtain ⟨A3, c3, f3, rfl, m1, m2, m3, m4, m5⟩ := R9.out
     obtain ⟨g3, o3, rfl, m6, m7⟩ := m4 (by simp)
     have HX := qH (m5 0 t rfl)
     have D6 := qH HX.out.length
     have D1 := qH (show (f3 0).all (·.oneCell') = true from List.all_eq_true.2 HX.out.one)
     have HR0 := qH (show wr.rangeAt g3 o3 (f3 0) from by have := m7 0 (by simp); simpa using this)
     obtain ⟨n1, hn1⟩ : ∃ n1, n1 = ([t] : List T).length := ⟨_, rfl⟩
     rw [← hn1]
     have n0 : ((n1 : Int) == 0) = false := by rw [hn1]; rfl
     have n2 : ((n1 : Int) == 1) = true := by rw [hn1]; rfl
     have n3 : (0 : Int) < (n1 : Int) := by rw [hn1]; simp
     clear m1 m2 m3 m4 m5 m6 m7 hn1
     go_wp2_with (first
      | ((with_reducible refine atDst 38 ?_); refine wpList_ldArr rfl 43 _ rfl w1.heap.size rfl 43 _ _ M9.out Tryz.underlying43 rfl (size_set _) ?_; (try simp only [Act.put, qA, qB, qC]))
      | ((with_reducible refine atDst 39 ?_); refine wpList_bld rfl 43 _ rfl (wds zs) HBS.out ?_; (try simp only [Act.put, qA, qB, qC]))
      | ((with_reducible refine atDst 40 ?_); refine wpList_neSetG rfl HNE.out 43 41 (.tmp 38) (.tmp 39) 43 rfl guardSet Tryz.underlying43 Tryz.underlying41 sizeU64 rfl rfl ?_; (try simp only [Act.put, qA, qB, qC]))
      | ((with_reducible refine atDst 54 ?_); refine wpList_load_mid rfl 46 _ rfl g3 o3 rfl (f3 0) _ HR0.out Tryz.underlying46 rfl (size_rx D6.out) ?_; (try simp only [Act.put, qA, qB, qC]))
      | ((with_reducible refine atStore 46 2 54 ?_); refine wpList_stBlk rfl 46 _ _ rfl w.heap.size (f3 0) rfl rfl 46 _ KR.out (size_rx D6.out) (by rw [HZL.out, D6.out]) D1.out HB.out (Nat.le_refl _) ?_; intro w40 hk10 hb10 hs10 ho10; have K40 := qH hk10; have B40 := qH hb10; have D10 := qH (RxD.mono (HX.out.stay (w' := w40) fun k hk => ho10 k (by have h1 := hk.1; have h2 := G3.out; omega)) (D' := fun k => w.heap.size ≤ k ∧ k < w40.heap.size) fun k hk => ⟨by have h1 := hk.1; have h2 := G3.out; omega, by have h1 := hk.2; omega⟩); clear hk10 hb10 hs10 ho10; (try simp only [Act.put, qA, qB, qC])))
     refine bodyPost_ret (results_blk rfl _ _ w.heap.size 46 _ _ rfl K40.out Tryz.underlying46 rfl (size_rx D6.out)) rfl ?_
     exact ⟨f3 0, rfl, by rw [HC.out]; exact D10.out, B40.out⟩
    | t :: u :: r, R9, HC0 =>
     obtain ⟨m, hm⟩ : ∃ m, m = t :: u :: r := ⟨_, rfl⟩
     have HM2 := qH (show 2 ≤ m.length by rw [hm]; simp)
     rw [← hm] at R9 HC0
     have HC := qH (show altT l = .node 5 zeroS m by rw [HC0.out, wrapT_many 5 _ m HM2.out])
     have R9' := qH R9.out
     obtain ⟨A3, c3, f3, rfl, _⟩ := R9.out
     obtain ⟨c, hc⟩ : ∃ c, c = rxc 5 zeroS (.slice A3 m.length c3) := ⟨_, rfl⟩
     have HCB := qH (show Tryz.prog.built 46 [(0, .int .i64 5), (2, .slice A3 m.length c3)] = some c.toArray by rw [hc]; exact built02 5 _ A3 m.length c3 rfl)
     have D6 := qH (show c.length = 6 by rw [hc]; rfl)
     have D1 := qH (show c.all (·.oneCell') = true by rw [hc]; rfl)
     have HX := qH (show RxD (fun b => w3.heap.size ≤ b ∧ b < wr.heap.size) wr c (.node 5 zeroS m) by rw [hc]; exact R9'.out.rx 5 zeroS)
     have m0 : ((m.length : Int) == 0) = false := by rw [beq_eq_false_iff_ne]; have := HM2.out; omega
     have m1 : ((m.length : Int) == 1) = false := by rw [beq_eq_false_iff_ne]; have := HM2.out; omega
     clear hm hc
     go_wp2_with (first
      | ((with_reducible refine atDst 38 ?_); refine wpList_ldArr rfl 43 _ rfl w1.heap.size rfl 43 _ _ M9.out Tryz.underlying43 rfl (size_set _) ?_; (try simp only [Act.put, qA, qB, qC]))
      | ((with_reducible refine atDst 39 ?_); refine wpList_bld rfl 43 _ rfl (wds zs) HBS.out ?_; (try simp only [Act.put, qA, qB, qC]))
      | ((with_reducible refine atDst 40 ?_); refine wpList_neSetG rfl HNE.out 43 41 (.tmp 38) (.tmp 39) 43 rfl guardSet Tryz.underlying43 Tryz.underlying41 sizeU64 rfl rfl ?_; (try simp only [Act.put, qA, qB, qC]))
      | ((with_reducible refine atDst 56 ?_); refine wpList_bld rfl 46 _ rfl c HCB.out ?_; (try simp only [Act.put, qA, qB, qC]))
      | ((with_reducible refine atStore 46 2 56 ?_); refine wpList_stBlk rfl 46 _ _ rfl w.heap.size c rfl rfl 46 _ KR.out (size_rx D6.out) (by rw [HZL.out, D6.out]) D1.out HB.out (Nat.le_refl _) ?_; intro w40 hk10 hb10 hs10 ho10; have K40 := qH hk10; have B40 := qH hb10; have D10 := qH (RxD.mono (HX.out.stay (w' := w40) fun k hk => ho10 k (by have h1 := hk.1; have h2 := G3.out; omega)) (D' := fun k => w.heap.size ≤ k ∧ k < w40.heap.size) fun k hk => ⟨by have h1 := hk.1; have h2 := G3.out; omega, by have h1 := hk.2; omega⟩); clear hk10 hb10 hs10 ho10; (try simp only [Act.put, qA, qB, qC])))
     refine bodyPost_ret (results_blk rfl _ _ w.heap.size 46 _ _ rfl K40.out Tryz.underlying46 rfl (size_rx D6.out)) rfl ?_
     exact ⟨c, rfl, by rw [HC.out]; exact D10.out, B40.out⟩
   | false =>
    have HNE := qH (show (!eqS (orT E) zs) = true by rw [hs]; rfl)
    have HBT := qH (show bytesT (orT E) = .node 3 (orT E) [] by unfold bytesT; rw [← HZS.out, hs]; rfl)
    have HI := qH (show itemsT E = withoutT 3 E ++ [.node 3 (orT E) []] by unfold itemsT; rw [← HZS.out, hs]; rfl)
    clear hs
    go_wp2_with (first
     | ((with_reducible refine atDst 38 ?_); refine wpList_ldArr rfl 43 _ rfl w1.heap.size rfl 43 _ _ M9.out Tryz.underlying43 rfl (size_set _) ?_; (try simp only [Act.put, qA, qB, qC]))
     | ((with_reducible refine atDst 39 ?_); refine wpList_bld rfl 43 _ rfl (wds zs) HBS.out ?_; (try simp only [Act.put, qA, qB, qC]))
     | ((with_reducible refine atDst 40 ?_); refine wpList_neSetG rfl HNE.out 43 41 (.tmp 38) (.tmp 39) 43 rfl guardSet Tryz.underlying43 Tryz.underlying41 sizeU64 rfl rfl ?_; (try simp only [Act.put, qA, qB, qC]))
     | ((with_reducible refine atDst 42 ?_); refine wpList_ldArr rfl 43 _ rfl w1.heap.size rfl 43 _ _ M9.out Tryz.underlying43 rfl (size_set _) ?_; (try simp only [Act.put, qA, qB, qC])))
    refine (refBytes_any (orT E) wr).mono ?_
    rintro e w10 ⟨ds, rfl, hd10, hb10⟩
    rw [HBT.out] at hd10
    have D10 := qH (hd10 fun k => w3.heap.size ≤ k ∧ k < w10.heap.size)
    have O10 := qH ((O9.out.keep hb10 fun k hk => hk.2).mono (D' := fun k => w3.heap.size ≤ k ∧ k < w10.heap.size) fun k hk => ⟨hk.1, Nat.lt_of_lt_of_le hk.2 hb10.size⟩)
    have B10 := qH (HB.out.trans (hb10.mono HB.out.size))
    have K10 := qH (KR.out.below hb10 KR.out.lt)
    have S10 := qH (Nat.le_trans HSW.out hb10.size)
    clear hd10 hb10
    go_wp2_with fail
    refine (refInsert_any (sortU (withoutT 3 E)) (.node 3 (orT E) []) v1 ds w10 (fun k hk => hk.2) O10.out N9.out D10.out (by have h1 := HNP.out; have h2 := HEN.out; omega) (by simp [T.nodes, nodesL])).mono ?_
    rintro e w11 ⟨v11, rfl, hr11, hb11⟩
    obtain ⟨P, hP⟩ : ∃ P, P = insT (.node 3 (orT E) []) (sortU (withoutT 3 E)) := ⟨_, rfl⟩
    have HC0 := qH (show altT l = wrapT 5 noneT P by rw [HAE.out, HI.out, sortU_snoc, hP])
    rw [← hP] at hr11
    have RX := qH (hr11.mono (D' := fun k => w3.heap.size ≤ k ∧ k < w11.heap.size) fun k hk => by
     have h1 := hb11.size
     have h2 := S10.out
     rcases hk with h | h
     ·exact ⟨h.1, Nat.lt_of_lt_of_le h.2 h1⟩
     ·exact ⟨by have := h.1; omega, h.2⟩)
    have BX := qH (B10.out.trans (hb11.mono B10.out.size))
    have KX := qH (K10.out.below hb11 K10.out.lt)
    clear hr11 hb11 hP
    match P, RX, HC0 with
    | [], R9, HC0 =>
     have HC := qH (show altT l = noneT from HC0.out)
     obtain ⟨A3, cap3, f3, rfl, _⟩ := R9.out
     go_wp2_with (first
      | ((with_reducible refine atDst 38 ?_); refine wpList_ldArr rfl 43 _ rfl w1.heap.size rfl 43 _ _ M9.out Tryz.underlying43 rfl (size_set _) ?_; (try simp only [Act.put, qA, qB, qC]))
      | ((with_reducible refine atDst 39 ?_); refine wpList_bld rfl 43 _ rfl (wds zs) HBS.out ?_; (try simp only [Act.put, qA, qB, qC]))
      | ((with_reducible refine atDst 40 ?_); refine wpList_neSetG rfl HNE.out 43 41 (.tmp 38) (.tmp 39) 43 rfl guardSet Tryz.underlying43 Tryz.underlying41 sizeU64 rfl rfl ?_; (try simp only [Act.put, qA, qB, qC])))
     refine (refNone_any w11).mono ?_
     rintro e w39 ⟨dx, rfl, hd9, hb9⟩
     have DA := qH (hd9 fun _ => False)
     have D6 := qH (hd9 fun _ => False).length
     have D1 := qH (show dx.all (·.oneCell') = true from List.all_eq_true.2 (hd9 fun _ => False).one)
     have B39 := qH (BX.out.trans (hb9.mono BX.out.size))
     have K39 := qH (KX.out.below hb9 KX.out.lt)
     clear hd9 hb9
     go_wp2_with ((with_reducible refine atStore 46 2 48 ?_); refine wpList_stBlk rfl 46 _ _ rfl w.heap.size dx rfl rfl 46 _ K39.out (size_rx D6.out) (by rw [HZL.out, D6.out]) D1.out B39.out (Nat.le_refl _) ?_; intro w40 hk10 hb10 hs10 ho10; have K40 := qH hk10; have B40 := qH hb10; clear hk10 hb10 hs10 ho10; (try simp only [Act.put, qA, qB, qC]))
     refine bodyPost_ret (results_blk rfl _ _ w.heap.size 46 _ _ rfl K40.out Tryz.underlying46 rfl (size_rx D6.out)) rfl ?_
     exact ⟨dx, rfl, by rw [HC.out]; exact RxD.mono (DA.out.stay fun k hk => absurd hk id) fun k hk => absurd hk id, B40.out⟩
    | [t], R9, HC0 =>
     have HC := qH (show altT l = t from HC0.out)
     obtain ⟨A3, c3, f3, rfl, m1, m2, m3, m4, m5⟩ := R9.out
     obtain ⟨g3, o3, rfl, m6, m7⟩ := m4 (by simp)
     have HX := qH (m5 0 t rfl)
     have D6 := qH HX.out.length
     have D1 := qH (show (f3 0).all (·.oneCell') = true from List.all_eq_true.2 HX.out.one)
     have HR0 := qH (show w11.rangeAt g3 o3 (f3 0) from by have := m7 0 (by simp); simpa using this)
     obtain ⟨n1, hn1⟩ : ∃ n1, n1 = ([t] : List T).length := ⟨_, rfl⟩
     rw [← hn1]
     have n0 : ((n1 : Int) == 0) = false := by rw [hn1]; rfl
     have n2 : ((n1 : Int) == 1) = true := by rw [hn1]; rfl
     have n3 : (0 : Int) < (n1 : Int) := by rw [hn1]; simp
     clear m1 m2 m3 m4 m5 m6 m7 hn1
     go_wp2_with (first
      | ((with_reducible refine atDst 38 ?_); refine wpList_ldArr rfl 43 _ rfl w1.heap.size rfl 43 _ _ M9.out Tryz.underlying43 rfl (size_set _) ?_; (try simp only [Act.put, qA, qB, qC]))
      | ((with_reducible refine atDst 39 ?_); refine wpList_bld rfl 43 _ rfl (wds zs) HBS.out ?_; (try simp only [Act.put, qA, qB, qC]))
      | ((with_reducible refine atDst 40 ?_); refine wpList_neSetG rfl HNE.out 43 41 (.tmp 38) (.tmp 39) 43 rfl guardSet Tryz.underlying43 Tryz.underlying41 sizeU64 rfl rfl ?_; (try simp only [Act.put, qA, qB, qC]))
      | ((with_reducible refine atDst 54 ?_); refine wpList_load_mid rfl 46 _ rfl g3 o3 rfl (f3 0) _ HR0.out Tryz.underlying46 rfl (size_rx D6.out) ?_; (try simp only [Act.put, qA, qB, qC]))
      | ((with_reducible refine atStore 46 2 54 ?_); refine wpList_stBlk rfl 46 _ _ rfl w.heap.size (f3 0) rfl rfl 46 _ KX.out (size_rx D6.out) (by rw [HZL.out, D6.out]) D1.out BX.out (Nat.le_refl _) ?_; intro w40 hk10 hb10 hs10 ho10; have K40 := qH hk10; have B40 := qH hb10; have D10 := qH (RxD.mono (HX.out.stay (w' := w40) fun k hk => ho10 k (by have h1 := hk.1; have h2 := G3.out; omega)) (D' := fun k => w.heap.size ≤ k ∧ k < w40.heap.size) fun k hk => ⟨by have h1 := hk.1; have h2 := G3.out; omega, by have h1 := hk.2; omega⟩); clear hk10 hb10 hs10 ho10; (try simp only [Act.put, qA, qB, qC])))
     refine bodyPost_ret (results_blk rfl _ _ w.heap.size 46 _ _ rfl K40.out Tryz.underlying46 rfl (size_rx D6.out)) rfl ?_
     exact ⟨f3 0, rfl, by rw [HC.out]; exact D10.out, B40.out⟩
    | t :: u :: r, R9, HC0 =>
     obtain ⟨m, hm⟩ : ∃ m, m = t :: u :: r := ⟨_, rfl⟩
     have HM2 := qH (show 2 ≤ m.length by rw [hm]; simp)
     rw [← hm] at R9 HC0
     have HC := qH (show altT l = .node 5 zeroS m by rw [HC0.out, wrapT_many 5 _ m HM2.out])
     have R9' := qH R9.out
     obtain ⟨A3, c3, f3, rfl, _⟩ := R9.out
     obtain ⟨c, hc⟩ : ∃ c, c = rxc 5 zeroS (.slice A3 m.length c3) := ⟨_, rfl⟩
     have HCB := qH (show Tryz.prog.built 46 [(0, .int .i64 5), (2, .slice A3 m.length c3)] = some c.toArray by rw [hc]; exact built02 5 _ A3 m.length c3 rfl)
     have D6 := qH (show c.length = 6 by rw [hc]; rfl)
     have D1 := qH (show c.all (·.oneCell') = true by rw [hc]; rfl)
     have HX := qH (show RxD (fun b => w3.heap.size ≤ b ∧ b < w11.heap.size) w11 c (.node 5 zeroS m) by rw [hc]; exact R9'.out.rx 5 zeroS)
     have m0 : ((m.length : Int) == 0) = false := by rw [beq_eq_false_iff_ne]; have := HM2.out; omega
     have m1 : ((m.length : Int) == 1) = false := by rw [beq_eq_false_iff_ne]; have := HM2.out; omega
     clear hm hc
     go_wp2_with (first
      | ((with_reducible refine atDst 38 ?_); refine wpList_ldArr rfl 43 _ rfl w1.heap.size rfl 43 _ _ M9.out Tryz.underlying43 rfl (size_set _) ?_; (try simp only [Act.put, qA, qB, qC]))
      | ((with_reducible refine atDst 39 ?_); refine wpList_bld rfl 43 _ rfl (wds zs) HBS.out ?_; (try simp only [Act.put, qA, qB, qC]))
      | ((with_reducible refine atDst 40 ?_); refine wpList_neSetG rfl HNE.out 43 41 (.tmp 38) (.tmp 39) 43 rfl guardSet Tryz.underlying43 Tryz.underlying41 sizeU64 rfl rfl ?_; (try simp only [Act.put, qA, qB, qC]))
      | ((with_reducible refine atDst 56 ?_); refine wpList_bld rfl 46 _ rfl c HCB.out ?_; (try simp only [Act.put, qA, qB, qC]))
      | ((with_reducible refine atStore 46 2 56 ?_); refine wpList_stBlk rfl 46 _ _ rfl w.heap.size c rfl rfl 46 _ KX.out (size_rx D6.out) (by rw [HZL.out, D6.out]) D1.out BX.out (Nat.le_refl _) ?_; intro w40 hk10 hb10 hs10 ho10; have K40 := qH hk10; have B40 := qH hb10; have D10 := qH (RxD.mono (HX.out.stay (w' := w40) fun k hk => ho10 k (by have h1 := hk.1; have h2 := G3.out; omega)) (D' := fun k => w.heap.size ≤ k ∧ k < w40.heap.size) fun k hk => ⟨by have h1 := hk.1; have h2 := G3.out; omega, by have h1 := hk.2; omega⟩); clear hk10 hb10 hs10 ho10; (try simp only [Act.put, qA, qB, qC])))
     refine bodyPost_ret (results_blk rfl _ _ w.heap.size 46 _ _ rfl K40.out Tryz.underlying46 rfl (size_rx D6.out)) rfl ?_
     exact ⟨c, rfl, by rw [HC.out]; exact D10.out, B40.out⟩
end Go.Proofs.YteadghoojeehlaaGreatDoor
