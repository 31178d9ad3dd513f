/-
  What the document's answer to byteset (Range, And, Not, List) answers and leaves. No statement is proved here.
-/
import Derived.Test.YtaobeconjdeenaaDoorSetA
namespace Go.Proofs.YtaobeconjdeenaaDoor
open Go.RowKit
set_option linter.unusedSimpArgs false
set_option linter.unusedVariables false

/-- A table. -/
def tab (p : Nat → Bool) : List Bool := (List.range 256).map p
theorem tab_length (p : Nat → Bool) : (tab p).length = 256 := by simp [tab]
theorem tab_get (p : Nat → Bool) (b : Nat) (hb : b < 256) : (tab p)[b]'(by rw [tab_length]; exact hb) = p b := by simp [tab]
theorem tab_set (p : Nat → Bool) (j : Nat) (x : Bool) (hj : j < 256) : (bools (tab p)).set j (.bool x) = bools (tab fun b => if b = j then x else p b) := by
  apply List.ext_getElem
  · simp [bools, tab]
  · intro i h1 h2
    have hi : i < 256 := by simpa [bools, tab] using h1
    simp only [bools, tab, List.getElem_set, List.getElem_map, List.getElem_range]
    by_cases h : j = i
    · subst h
      simp
    · rw [if_neg h, if_neg (fun e => h e.symm)]
theorem tab_congr {p q : Nat → Bool} (h : ∀ b, b < 256 → p b = q b) : tab p = tab q := by
  unfold tab
  exact List.map_congr_left fun b hb => h b (List.mem_range.1 hb)
theorem where_tab (p : Nat → Bool) (w : World) :
    Calls Tryd.prog 31 #[.agg (bools (tab p)).toArray] w fun e w' => e = .returned (.agg (wds p).toArray) ∧ Below w.heap.size w w' := by
  have := refWhere_any (tab p) (tab_length p) w
  rwa [wds_congr (q := p) fun b hb => by simp [List.getD, tab, hb]] at this
/-- The zero table, by a name that the walk does not look into. -/
theorem tab_zero : ∃ i : TypeInfo, Tryd.prog.info? 43 = some i ∧ i.zero = some (.agg (bools (tab fun _ => false)).toArray) := by
  have h : ((Tryd.prog.info? 43).map (·.zero)) = some (some (.agg (bools (tab fun _ => false)).toArray)) := by kernel_rfl
  cases hi : Tryd.prog.info? 43 with
  | none => rw [hi] at h; cases h
  | some i =>
    rw [hi] at h
    exact ⟨i, rfl, by simpa using h⟩

theorem tab_round {w : World} {g j : Nat} {t : TypeId} {r : Nat → Bool} (h : Blk w g t (bools (tab fun b => decide (b < j) && r b))) (hj : j < 256) :
    Blk (w.setCell ⟨g, j, none⟩ (.bool (r j))) g t (bools (tab fun b => decide (b < j + 1) && r b)) := by
  have := h.set j (.bool (r j))
  rw [tab_set _ _ _ hj] at this
  rw [tab_congr (q := fun b => if b = j then r j else decide (b < j) && r b) (fun b hb => ?_)]
  · exact this
  · by_cases hbj : b = j
    · rw [if_pos hbj, hbj, decide_eq_true (by omega), Bool.true_and]
    · rw [if_neg hbj]
      congr 1
      exact decide_eq_decide.2 (by omega)
theorem tab_done {w : World} {g : Nat} {t : TypeId} {r : Nat → Bool} (h : Blk w g t (bools (tab fun b => decide (b < 256) && r b))) : Blk w g t (bools (tab r)) := by
  rwa [tab_congr (q := r) fun b hb => by rw [decide_eq_true hb, Bool.true_and]] at h
set_option maxHeartbeats 2000000 in
set_option maxRecDepth 100000 in
theorem refRange_any (f t : Nat) (hf : f < 256) (ht : t < 256) (w : World) :
    Calls Tryd.prog 14 #[.int .u8 (f : Int), .int .u8 (t : Int)] w fun e w' => e = .returned (.agg (wds fun b => decide (f ≤ b ∧ b ≤ t)).toArray) ∧ Below w.heap.size w w' := by
  obtain ⟨r, hr⟩ : ∃ r : Nat → Bool, r = fun b => decide (f ≤ b ∧ b ≤ t) := ⟨_, rfl⟩
  rw [← hr]
  have HR := Lib.hid hr
  clear hr
  obtain ⟨i0, hi0, hz0⟩ := info_set
  obtain ⟨i1, hi1, hy0⟩ := tab_zero
  obtain ⟨z, hz⟩ : ∃ z : Nat → Bool, z = fun _ => false := ⟨_, rfl⟩
  rw [← hz] at hz0 hy0
  have HZ := Lib.hid hz
  clear hz
  have hw1 : IntKind.i64.wrap (f : Int) = (f : Int) := IntWalk.i64_in _ (by omega)
  have hw2 : IntKind.i64.wrap (t : Int) = (t : Int) := IntWalk.i64_in _ (by omega)
  go_enter Tryd.func14, Tryd.ntmps14
  go_wp2_with (first
    | ((with_reducible refine atDst 4 ?_); refine wpList_new rfl 24 rfl i0 _ (wds z) hi0 hz0 rfl (Below.refl w.heap.size w) (Nat.le_refl _) ?_; intro w1 hk1 hb1 hs1 _; have K1 := Lib.hid hk1; have B1 := Lib.hid hb1; clear hk1 hb1 hs1)
    | ((with_reducible refine atDst 5 ?_); refine wpList_new rfl 43 rfl i1 _ (bools (tab z)) hi1 hy0 rfl (Below.refl w1.heap.size w1) (Nat.le_refl _) ?_; intro w2 hk2 hb2 hs2 ho2; have K2 := Lib.hid hk2; have B2 := Lib.hid hb2; clear hk2 hb2 hs2 ho2))
  go_loopw [6] (fun i wl => ∃ j : Nat, f ≤ j ∧ (j ≤ f ∨ j ≤ t + 1) ∧ i = .int .i64 (j : Int) ∧ Blk wl w1.heap.size 43 (bools (tab fun b => decide (f ≤ b ∧ b < j))) ∧ Below w1.heap.size w1 wl) (fun i _ => 256 - (intOf i).toNat)
  case atStart => exact ⟨f, by omega, by omega, by simp, by rw [tab_congr (q := z) (fun b hb => by rw [HZ.out]; exact decide_eq_false (by omega))]; exact K2.out, B2.out⟩
  case round =>
    obtain ⟨j, hfj, hj, rfl, hk, hb⟩ := hrel
    have HK := Lib.hid hk
    have HB := Lib.hid hb
    clear hk hb
    by_cases hjl : j ≤ t
    · have j1 : (j : Int) ≤ (t : Int) := by omega
      have hc := HK.out.cell j
      rw [bools_get _ _ (by rw [tab_length]; omega)] at hc
      have hfz := HK.out.frozen j
      have j2 : (j : Int) < 256 := by omega
      go_wp2_with fail
      refine ⟨⟨j + 1, by omega, by omega, by congr 1, ?_, HB.out.setCell (p := ⟨w1.heap.size, j, none⟩) (Nat.le_refl _) _⟩, by simp [intOf] <;> omega⟩
      have := HK.out.set j (.bool true)
      rw [tab_set _ _ _ (by omega)] at this
      rw [tab_congr (q := fun b => if b = j then true else decide (f ≤ b ∧ b < j)) (fun b hb => ?_)]
      · exact this
      · by_cases hbj : b = j
        · rw [if_pos hbj]; exact decide_eq_true (by omega)
        · rw [if_neg hbj]; exact decide_eq_decide.2 (by omega)
    · have j1 : ¬ ((j : Int) ≤ (t : Int)) := by omega
      have hk9 := HK.out
      rw [tab_congr (q := r) (fun b hb => by rw [HR.out]; exact decide_eq_decide.2 (by omega))] at hk9
      have K9 := Lib.hid hk9
      have KA := Lib.hid (K1.out.below HB.out K1.out.lt)
      have B9 := Lib.hid (B1.out.trans (HB.out.mono B1.out.size))
      clear hk9 HK
      go_wp2_with ((with_reducible refine atDst 17 ?_); refine wpList_ldArr rfl 43 _ rfl w1.heap.size rfl 43 _ _ K9.out Tryd.underlying43 rfl (size_tab (tab_length _)) ?_)
      refine (where_tab r wr).mono ?_
      rintro e w4 ⟨rfl, hb4⟩
      have K10 := Lib.hid (Blk.below KA.out hb4 (Blk.lt KA.out))
      have B10 := Lib.hid (B9.out.trans (hb4.mono B9.out.size))
      clear hb4
      go_wp2_with ((with_reducible refine atStore 24 4 18 ?_); refine wpList_stBlk rfl 24 _ _ rfl w.heap.size (wds r) rfl rfl 24 _ K10.out (size_set r) rfl (wds_all _) B10.out (Nat.le_refl _) ?_; intro w5 hk5 hb5 hs5 _; have K5 := Lib.hid hk5; have B5 := Lib.hid hb5; clear hk5 hb5)
      refine bodyPost_ret (results_blk rfl _ _ w.heap.size 24 _ _ rfl K5.out Tryd.underlying24 rfl (size_set r)) rfl ?_
      exact ⟨rfl, B5.out⟩

/-! ### List -/
set_option maxHeartbeats 2000000 in
set_option maxRecDepth 100000 in
theorem refList_any (p : Nat → Bool) (w : World) :
    Calls Tryd.prog 22 #[.agg (wds p).toArray] w fun e w' => ∃ v, e = .returned v ∧ w'.ownsRow w.heap.size 5 1 v (memJ p 256).length (bvs (memJ p 256)) ∧ Below w.heap.size w w' := by
  obtain ⟨i1, hi1, hy0, hy1, hy2⟩ := infoP inf_u8
  go_enter Tryd.func22, Tryd.ntmps22
  go_wp2_with ((with_reducible refine atDst 1 ?_); refine wpList_box rfl 24 _ rfl (wds p) rfl (Below.refl w.heap.size w) (Nat.le_refl _) ?_; intro w1 hk1 hb1 hs1 _; have K1 := Lib.hid hk1; have B1 := Lib.hid hb1; clear hk1 hb1 hs1)
  go_loopw [3, 4] (fun v i wl => ∃ j : Nat, j ≤ 256 ∧ i = .int .i64 (j : Int) ∧ wl.ownsRow w1.heap.size 5 1 v (memJ p j).length (bvs (memJ p j)) ∧ Below w1.heap.size w1 wl) (fun _ i _ => 256 - (intOf i).toNat)
  case atStart => exact ⟨0, by omega, by simp, ownN _ _ _, Below.refl _ _⟩
  case round =>
    obtain ⟨j, hj, rfl, ho, hb⟩ := hrel
    have HO := Lib.hid ho
    have HB := Lib.hid hb
    clear ho hb
    by_cases hjl : j < 256
    · have j1 : (j : Int) < 256 := by omega
      have hw8 : IntKind.u8.wrap (j : Int) = (j : Int) := IntWalk.u8_in _ (by omega)
      have KR := Lib.hid (K1.out.below HB.out K1.out.lt)
      go_wp2_with ((with_reducible refine atDst 9 ?_); refine wpList_ldArr rfl 24 _ rfl w.heap.size rfl 24 _ _ KR.out Tryd.underlying24 rfl (size_set p) ?_)
      refine (refHas_any p j hjl wr).mono ?_
      rintro e w2 ⟨rfl, hb2⟩
      have B2 := Lib.hid (HB.out.trans (hb2.mono HB.out.size))
      have O2 := Lib.hid (ownBelow HO.out hb2 (Nat.le_refl _))
      clear hb2
      have HLN := Lib.hid (memJ_len p j)
      cases hq : p j with
      | true =>
        have HM := Lib.hid (show memJ p (j + 1) = memJ p j ++ [UInt8.ofNat j] by rw [memJ_succ, hq]; rfl)
        clear hq
        have R1 := Lib.hid (rowB (n := 1) (show Blk (w2.alloc (.cells #[.int .u8 (j : Int)] 5)) w2.heap.size 5 (bvs [UInt8.ofNat j]) by
          have := Blk.new w2 5 (bvs [UInt8.ofNat j])
          rw [show bvs [UInt8.ofNat j] = [.int .u8 (j : Int)] from congrArg (fun x => [x]) (bv_ofNat hjl)] at this ⊢
          exact this) rfl (by omega))
        go_wp2_with ((with_reducible refine atDst 17 ?_); refine wpList_appR (w0 := w1) rfl (.tmp 13) (.tmp 16) 25 rfl 5 i1 (.int .u8 0) 1 Tryd.underlying25 hi1 hy0 hy1 hy2 rfl _ _ _ rfl (O2.out.alloc _) _ (bvs [UInt8.ofNat j]) rfl R1.out (bvs_one _) (by have := HLN.out; rw [bvs_length]; simp; omega) (by omega) (B2.out.alloc B2.out.size _) ?_; intro v3 w3 ho3 _ hb3 _; have O3 := Lib.hid ho3; have B3 := Lib.hid hb3; clear ho3 hb3)
        refine ⟨⟨j + 1, by omega, by congr 1, ?_, B3.out⟩, by simp [intOf] <;> omega⟩
        rw [HM.out, bvs_append, List.length_append]
        exact O3.out
      | false =>
        have HM := Lib.hid (show memJ p (j + 1) = memJ p j by rw [memJ_succ, hq]; rfl)
        clear hq
        go_wp2_with fail
        refine ⟨⟨j + 1, by omega, by congr 1, ?_, B2.out⟩, by simp [intOf] <;> omega⟩
        rw [HM.out]
        exact O2.out
    · obtain rfl : j = 256 := by omega
      have j1 : ¬ ((256 : Int) < 256) := by omega
      have HO2 := Lib.hid (ownMono HO.out B1.out.size)
      have B9 := Lib.hid (B1.out.trans (HB.out.mono B1.out.size))
      clear HO
      go_wp2_with fail
      go_ret
      exact ⟨_, rfl, HO2.out, B9.out⟩

/-! ### Not, And -/
set_option maxHeartbeats 2000000 in
set_option maxRecDepth 100000 in
theorem refNot_any (p : Nat → Bool) (w : World) :
    Calls Tryd.prog 20 #[.agg (wds p).toArray] w fun e w' => e = .returned (.agg (wds fun b => !p b).toArray) ∧ Below w.heap.size w w' := by
  obtain ⟨r, hr⟩ : ∃ r : Nat → Bool, r = fun b => !p b := ⟨_, rfl⟩
  rw [← hr]
  have HR := Lib.hid hr
  clear hr
  obtain ⟨i0, hi0, hz0⟩ := info_set
  obtain ⟨i1, hi1, hy0⟩ := tab_zero
  obtain ⟨z, hz⟩ : ∃ z : Nat → Bool, z = fun _ => false := ⟨_, rfl⟩
  rw [← hz] at hz0 hy0
  have HZ := Lib.hid hz
  clear hz
  go_enter Tryd.func20, Tryd.ntmps20
  go_wp2_with (first
    | ((with_reducible refine atDst 1 ?_); refine wpList_box rfl 24 _ rfl (wds p) rfl (Below.refl w.heap.size w) (Nat.le_refl _) ?_; intro w1 hk1 hb1 hs1 _; have K1 := Lib.hid hk1; have B1 := Lib.hid hb1; clear hk1 hb1 hs1)
    | ((with_reducible refine atDst 2 ?_); refine wpList_new rfl 24 rfl i0 _ (wds z) hi0 hz0 rfl B1.out B1.out.size ?_; intro w2 hk2 hb2 hs2 ho2; have K2 := Lib.hid hk2; have B2 := Lib.hid hb2; have K1a := Lib.hid (show Blk w2 w.heap.size 24 (wds p) from (ho2 _ K1.out.lt).trans K1.out); clear hk2 hb2 hs2 ho2)
    | ((with_reducible refine atDst 3 ?_); refine wpList_new rfl 43 rfl i1 _ (bools (tab z)) hi1 hy0 rfl (Below.refl w2.heap.size w2) (Nat.le_refl _) ?_; intro w3 hk3 hb3 hs3 ho3; have K3 := Lib.hid hk3; have B3 := Lib.hid hb3; clear hk3 hb3 hs3 ho3))
  go_loopw [4] (fun i wl => ∃ j : Nat, j ≤ 256 ∧ i = .int .i64 (j : Int) ∧ Blk wl w2.heap.size 43 (bools (tab fun b => decide (b < j) && r b)) ∧ Below w2.heap.size w2 wl) (fun i _ => 256 - (intOf i).toNat)
  case atStart => exact ⟨0, by omega, by simp, by rw [tab_congr (q := z) (fun b hb => by rw [HZ.out]; simp)]; exact K3.out, B3.out⟩
  case round =>
    obtain ⟨j, hj, rfl, hk, hb⟩ := hrel
    have HK := Lib.hid hk
    have HB := Lib.hid hb
    clear hk hb
    by_cases hjl : j < 256
    · have j1 : (j : Int) < 256 := by omega
      have hw8 : IntKind.u8.wrap (j : Int) = (j : Int) := IntWalk.u8_in _ (by omega)
      have KR := Lib.hid (K1a.out.below HB.out K1a.out.lt)
      go_wp2_with ((with_reducible refine atDst 10 ?_); refine wpList_ldArr rfl 24 _ rfl w.heap.size rfl 24 _ _ KR.out Tryd.underlying24 rfl (size_set p) ?_)
      refine (refHas_any p j hjl wr).mono ?_
      rintro e w4 ⟨rfl, hb4⟩
      obtain ⟨q, hq⟩ : ∃ q, q = p j := ⟨_, rfl⟩
      rw [← hq]
      have HQ := Lib.hid (show (!q) = r j by rw [hq, HR.out])
      have K4 := Lib.hid (HK.out.below hb4 HK.out.lt)
      have B4 := Lib.hid (HB.out.trans (hb4.mono HB.out.size))
      have hc := K4.out.cell j
      rw [bools_get _ _ (by rw [tab_length]; omega)] at hc
      have hfz := K4.out.frozen j
      clear hb4 hq
      go_wp2_with fail
      refine ⟨⟨j + 1, by omega, by congr 1, ?_, B4.out.setCell (p := ⟨w2.heap.size, j, none⟩) (Nat.le_refl _) _⟩, by simp [intOf] <;> omega⟩
      rw [HQ.out]
      exact tab_round K4.out hjl
    · obtain rfl : j = 256 := by omega
      have j1 : ¬ ((256 : Int) < 256) := by omega
      have K9 := Lib.hid (tab_done HK.out)
      have KA := Lib.hid (K2.out.below HB.out K2.out.lt)
      have B9 := Lib.hid (B2.out.trans (HB.out.mono B2.out.size))
      clear HK
      go_wp2_with ((with_reducible refine atDst 16 ?_); refine wpList_ldArr rfl 43 _ rfl w2.heap.size rfl 43 _ _ K9.out Tryd.underlying43 rfl (size_tab (tab_length _)) ?_)
      refine (where_tab r wr).mono ?_
      rintro e w4 ⟨rfl, hb4⟩
      have K10 := Lib.hid (Blk.below KA.out hb4 (Blk.lt KA.out))
      have B10 := Lib.hid (B9.out.trans (hb4.mono B9.out.size))
      clear hb4
      go_wp2_with ((with_reducible refine atStore 24 2 17 ?_); refine wpList_stBlk rfl 24 _ _ rfl w1.heap.size (wds r) rfl rfl 24 _ K10.out (size_set r) rfl (wds_all _) B10.out B1.out.size ?_; intro w5 hk5 hb5 hs5 _; have K5 := Lib.hid hk5; have B5 := Lib.hid hb5; clear hk5 hb5)
      refine bodyPost_ret (results_blk rfl _ _ w1.heap.size 24 _ _ rfl K5.out Tryd.underlying24 rfl (size_set r)) rfl ?_
      exact ⟨rfl, B5.out⟩

set_option maxHeartbeats 2000000 in
set_option maxRecDepth 100000 in
theorem refAnd_any (p q : Nat → Bool) (w : World) :
    Calls Tryd.prog 18 #[.agg (wds p).toArray, .agg (wds q).toArray] w fun e w' => e = .returned (.agg (wds fun b => p b && q b).toArray) ∧ Below w.heap.size w w' := by
  obtain ⟨r, hr⟩ : ∃ r : Nat → Bool, r = fun b => p b && q b := ⟨_, rfl⟩
  rw [← hr]
  have HR := Lib.hid hr
  clear hr
  obtain ⟨i0, hi0, hz0⟩ := info_set
  obtain ⟨i1, hi1, hy0⟩ := tab_zero
  obtain ⟨z, hz⟩ : ∃ z : Nat → Bool, z = fun _ => false := ⟨_, rfl⟩
  rw [← hz] at hz0 hy0
  have HZ := Lib.hid hz
  clear hz
  go_enter Tryd.func18, Tryd.ntmps18
  go_wp2_with (first
    | ((with_reducible refine atDst 2 ?_); refine wpList_box rfl 24 _ rfl (wds p) rfl (Below.refl w.heap.size w) (Nat.le_refl _) ?_; intro w1 hk1 hb1 hs1 _; have K1 := Lib.hid hk1; have B1 := Lib.hid hb1; clear hk1 hb1 hs1)
    | ((with_reducible refine atDst 3 ?_); refine wpList_box rfl 24 _ rfl (wds q) rfl B1.out B1.out.size ?_; intro w2 hk2 hb2 hs2 ho2; have L2 := Lib.hid hk2; have B2 := Lib.hid hb2; have K2 := Lib.hid (show Blk w2 w.heap.size 24 (wds p) from (ho2 _ K1.out.lt).trans K1.out); clear hk2 hb2 hs2 ho2)
    | ((with_reducible refine atDst 4 ?_); refine wpList_new rfl 24 rfl i0 _ (wds z) hi0 hz0 rfl B2.out B2.out.size ?_; intro w3 hk3 hb3 hs3 ho3; have M3 := Lib.hid hk3; have B3 := Lib.hid hb3; have K3 := Lib.hid (show Blk w3 w.heap.size 24 (wds p) from (ho3 _ K2.out.lt).trans K2.out); have L3 := Lib.hid (show Blk w3 w1.heap.size 24 (wds q) from (ho3 _ L2.out.lt).trans L2.out); clear hk3 hb3 hs3 ho3)
    | ((with_reducible refine atDst 5 ?_); refine wpList_new rfl 43 rfl i1 _ (bools (tab z)) hi1 hy0 rfl (Below.refl w3.heap.size w3) (Nat.le_refl _) ?_; intro w4 hk4 hb4 hs4 ho4; have N4 := Lib.hid hk4; have B4 := Lib.hid hb4; clear hk4 hb4 hs4 ho4))
  go_loopw [6] (fun i wl => ∃ j : Nat, j ≤ 256 ∧ i = .int .i64 (j : Int) ∧ Blk wl w3.heap.size 43 (bools (tab fun b => decide (b < j) && r b)) ∧ Below w3.heap.size w3 wl) (fun i _ => 256 - (intOf i).toNat)
  case atStart => exact ⟨0, by omega, by simp, by rw [tab_congr (q := z) (fun b hb => by rw [HZ.out]; simp)]; exact N4.out, B4.out⟩
  case round =>
    obtain ⟨j, hj, rfl, hk, hb⟩ := hrel
    have HK := Lib.hid hk
    have HB := Lib.hid hb
    clear hk hb
    by_cases hjl : j < 256
    · have j1 : (j : Int) < 256 := by omega
      have hw8 : IntKind.u8.wrap (j : Int) = (j : Int) := IntWalk.u8_in _ (by omega)
      have KR := Lib.hid (K3.out.below HB.out K3.out.lt)
      have LR := Lib.hid (L3.out.below HB.out L3.out.lt)
      go_wp2_with ((with_reducible refine atDst 12 ?_); refine wpList_ldArr rfl 24 _ rfl w.heap.size rfl 24 _ _ KR.out Tryd.underlying24 rfl (size_set p) ?_)
      refine (refHas_any p j hjl wr).mono ?_
      rintro e w5 ⟨rfl, hb5⟩
      have HK5 := Lib.hid (HK.out.below hb5 HK.out.lt)
      have B5 := Lib.hid (HB.out.trans (hb5.mono HB.out.size))
      have L5 := Lib.hid (LR.out.below hb5 LR.out.lt)
      clear hb5
      cases hp : p j with
      | true =>
        have HQ0 := Lib.hid (show q j = r j by rw [HR.out]; simp [hp])
        clear hp
        go_wp2_with ((with_reducible refine atDst 17 ?_); refine wpList_ldArr rfl 24 _ rfl w1.heap.size rfl 24 _ _ L5.out Tryd.underlying24 rfl (size_set q) ?_)
        refine (refHas_any q j hjl w5).mono ?_
        rintro e w6 ⟨rfl, hb6⟩
        have HK6 := Lib.hid (HK5.out.below hb6 HK5.out.lt)
        have B6 := Lib.hid (B5.out.trans (hb6.mono B5.out.size))
        clear hb6
        obtain ⟨x, hx⟩ : ∃ x, x = q j := ⟨_, rfl⟩
        rw [← hx]
        have HQ := Lib.hid (show x = r j by rw [hx, HQ0.out])
        clear hx HQ0
        have hc := HK6.out.cell j
        rw [bools_get _ _ (by rw [tab_length]; omega)] at hc
        have hfz := HK6.out.frozen j
        go_wp2_with fail
        refine ⟨⟨j + 1, by omega, by congr 1, ?_, B6.out.setCell (p := ⟨w3.heap.size, j, none⟩) (Nat.le_refl _) _⟩, by simp [intOf] <;> omega⟩
        rw [HQ.out]
        exact tab_round HK6.out hjl
      | false =>
        have HQ := Lib.hid (show false = r j by rw [HR.out]; simp [hp])
        clear hp
        have hc := HK5.out.cell j
        rw [bools_get _ _ (by rw [tab_length]; omega)] at hc
        have hfz := HK5.out.frozen j
        go_wp2_with fail
        refine ⟨⟨j + 1, by omega, by congr 1, ?_, B5.out.setCell (p := ⟨w3.heap.size, j, none⟩) (Nat.le_refl _) _⟩, by simp [intOf] <;> omega⟩
        rw [HQ.out]
        exact tab_round HK5.out hjl
    · obtain rfl : j = 256 := by omega
      have j1 : ¬ ((256 : Int) < 256) := by omega
      have K9 := Lib.hid (tab_done HK.out)
      have KA := Lib.hid (M3.out.below HB.out M3.out.lt)
      have B9 := Lib.hid (B3.out.trans (HB.out.mono B3.out.size))
      clear HK
      go_wp2_with ((with_reducible refine atDst 23 ?_); refine wpList_ldArr rfl 43 _ rfl w3.heap.size rfl 43 _ _ K9.out Tryd.underlying43 rfl (size_tab (tab_length _)) ?_)
      refine (where_tab r wr).mono ?_
      rintro e w4 ⟨rfl, hb4⟩
      have K10 := Lib.hid (Blk.below KA.out hb4 (Blk.lt KA.out))
      have B10 := Lib.hid (B9.out.trans (hb4.mono B9.out.size))
      clear hb4
      go_wp2_with ((with_reducible refine atStore 24 4 24 ?_); refine wpList_stBlk rfl 24 _ _ rfl w2.heap.size (wds r) rfl rfl 24 _ K10.out (size_set r) rfl (wds_all _) B10.out B2.out.size ?_; intro w5 hk5 hb5 hs5 _; have K5 := Lib.hid hk5; have B5 := Lib.hid hb5; clear hk5 hb5)
      refine bodyPost_ret (results_blk rfl _ _ w2.heap.size 24 _ _ rfl K5.out Tryd.underlying24 rfl (size_set r)) rfl ?_
      exact ⟨rfl, B5.out⟩

/-- A whole block, loaded in whatever world extends the one at hand. -/
theorem ld_blk {P : Program} {a : Act} {oi : Oper} {B : Nat} {w0 : World} (ty : TypeId) (x : Operand) (ho : oi.op = .load ty x) (g : Nat) (hx : a.eval x = .pointer (some ⟨g, 0, none⟩)) (t : TypeId) (cs : List Value) (d : TypeDesc)
    (hg : Blk w0 g t cs) (hB : g < B) (hu : P.underlying ty = some d) (hd : (match d with | .struct _ | .array _ _ => true | _ => false) = true) (hi : (P.info? ty).map (·.size) = some cs.length) :
    ∀ W, Below B w0 W → (execOp a.eval oi).run P W = .ok (.value (.agg cs.toArray)) W := by
  intro W hW
  have hl := run_loadVar_row (P := P) W g t ty cs.toArray (0, 0) d (hg.below hW hB) hu hd (by simpa using hi)
  simp [execOp, ho, hx, Instr.loadAt, Instr.sureAddr, asAddr, hl]
/-! ### Or -/
theorem wds_or (p q : Nat → Bool) : (wds fun b => decide (UInt8.ofNat b ∈ memJ p 256 ++ memJ q 256)) = wds fun b => p b || q b := by
  refine wds_congr fun b hb => ?_
  have h1 := memJ_mem p b hb
  have h2 := memJ_mem q b hb
  rw [← h1, ← h2, Bool.eq_iff_iff, Bool.or_eq_true, decide_eq_true_iff, decide_eq_true_iff, decide_eq_true_iff, List.mem_append]
set_option maxHeartbeats 2000000 in
set_option maxRecDepth 100000 in
theorem refOr_any (p q : Nat → Bool) (w : World) :
    Calls Tryd.prog 16 #[.agg (wds p).toArray, .agg (wds q).toArray] w fun e w' => e = .returned (.agg (wds fun b => p b || q b).toArray) ∧ Below w.heap.size w w' := by
  obtain ⟨r, hr⟩ : ∃ r : Nat → Bool, r = fun b => p b || q b := ⟨_, rfl⟩
  have hor := wds_or p q
  rw [← hr] at hor ⊢
  have HR := Lib.hid hor
  clear hr hor
  obtain ⟨i0, hi0, hz0⟩ := info_set
  obtain ⟨i1, hi1, hy0, hy1, hy2⟩ := infoP inf_u8
  obtain ⟨z, hz⟩ : ∃ z : Nat → Bool, z = fun _ => false := ⟨_, rfl⟩
  rw [← hz] at hz0
  clear hz
  have LP := Lib.hid (memJ_len p 256)
  have LQ := Lib.hid (memJ_len q 256)
  go_enter Tryd.func16, Tryd.ntmps16
  go_wp2_with (first
    | ((with_reducible refine atDst 2 ?_); refine wpList_box rfl 24 _ rfl (wds p) rfl (Below.refl w.heap.size w) (Nat.le_refl _) ?_; intro w1 hk1 hb1 hs1 _; have K1 := Lib.hid hk1; have B1 := Lib.hid hb1; clear hk1 hb1 hs1)
    | ((with_reducible refine atDst 3 ?_); refine wpList_box rfl 24 _ rfl (wds q) rfl B1.out B1.out.size ?_; intro w2 hk2 hb2 hs2 ho2; have L2 := Lib.hid hk2; have B2 := Lib.hid hb2; have K2 := Lib.hid (show Blk w2 w.heap.size 24 (wds p) from (ho2 _ K1.out.lt).trans K1.out); clear hk2 hb2 hs2 ho2)
    | ((with_reducible refine atDst 4 ?_); refine wpList_new rfl 24 rfl i0 _ (wds z) hi0 hz0 rfl B2.out B2.out.size ?_; intro w3 hk3 hb3 hs3 ho3; have M3 := Lib.hid hk3; have B3 := Lib.hid hb3; have K3 := Lib.hid (show Blk w3 w.heap.size 24 (wds p) from (ho3 _ K2.out.lt).trans K2.out); have L3 := Lib.hid (show Blk w3 w1.heap.size 24 (wds q) from (ho3 _ L2.out.lt).trans L2.out); clear hk3 hb3 hs3 ho3))
  refine sx_startB (B := w2.heap.size) (w0 := w3) (by kernel_rfl) (Below.refl _ _) (fun wd hwd hX => ?_)
  have MD := Lib.hid (show Blk wd w2.heap.size 24 (wds z) by rw [hwd]; exact M3.out.drew)
  have SD := Lib.hid (Nat.le_trans (Nat.le_of_lt M3.out.lt) hX.size)
  have BD := Lib.hid (show Below w.heap.size w wd by rw [hwd]; exact B3.out.drew)
  clear hwd
  refine sx_take (i := 0) (oi := ⟨some 5, _, _, _, _, _⟩) (v := .agg (wds p).toArray) rfl (by kernel_rfl) (by kernel_rfl) (by kernel_rfl) (fun _ _ _ h => h) rfl hX (ld_blk 24 _ rfl w.heap.size rfl 24 _ _ K3.out K2.out.lt Tryd.underlying24 rfl (size_set p)) ?_
  simp only [Act.put, List.setIfInBounds_toArray, List.set_cons_zero, List.set_cons_succ]
  refine sx_take (i := 2) (oi := ⟨some 7, _, _, _, _, _⟩) (v := .agg (wds q).toArray) rfl (by kernel_rfl) (by kernel_rfl) (by kernel_rfl) (fun _ _ _ h => h) rfl hX (ld_blk 24 _ rfl w1.heap.size rfl 24 _ _ L3.out L2.out.lt Tryd.underlying24 rfl (size_set q)) ?_
  simp only [Act.put, List.setIfInBounds_toArray, List.set_cons_zero, List.set_cons_succ]
  refine sx_actB (i := 1) (o := ⟨some 6, _, _, _, _, _⟩) rfl (by kernel_rfl) rfl hX (fun K hK => ?_)
  go_wp2_with fail
  refine (refList_any p wd).mono ?_
  rintro e w5 ⟨v5, rfl, ho5, hb5⟩
  refine hK _ _ (hb5.mono SD.out) ?_
  clear hK K
  replace hX := hX.trans (hb5.mono SD.out)
  have O5 := Lib.hid ho5
  have M5 := Lib.hid (MD.out.below hb5 MD.out.lt)
  have S5 := Lib.hid (Nat.le_trans SD.out hb5.size)
  have BB5 := Lib.hid (BD.out.trans (hb5.mono BD.out.size))
  have D5 := Lib.hid hb5.size
  clear ho5 hb5
  refine sx_actB (i := 3) (o := ⟨some 8, _, _, _, _, _⟩) rfl (by kernel_rfl) rfl hX (fun K hK => ?_)
  go_wp2_with fail
  refine (refList_any q w5).mono ?_
  rintro e w6 ⟨v6, rfl, ho6, hb6⟩
  refine hK _ _ (hb6.mono S5.out) ?_
  clear hK K
  replace hX := hX.trans (hb6.mono S5.out)
  have O6 := Lib.hid (ownBelow O5.out hb6 (Nat.le_refl _))
  have R6 := Lib.hid (Row.of_own ho6)
  have M6 := Lib.hid (M5.out.below hb6 M5.out.lt)
  have S6 := Lib.hid (Nat.le_trans S5.out hb6.size)
  have BB6 := Lib.hid (BB5.out.trans (hb6.mono BB5.out.size))
  have D6 := Lib.hid (Nat.le_trans D5.out hb6.size)
  clear ho6 hb6
  refine sx_actB (i := 4) (o := ⟨some 9, _, _, _, _, _⟩) rfl (by kernel_rfl) rfl hX (fun K hK => ?_)
  refine wp_appG (base := wd.heap.size) (.tmp 6) (.tmp 8) 25 rfl 5 i1 (.int .u8 0) 1 Tryd.underlying25 hi1 hy0 hy1 hy2 rfl _ _ _ rfl O6.out _ (bvs (memJ q 256)) rfl R6.out (bvs_one _) (by have := LP.out; have := LQ.out; rw [bvs_length]; omega) (by omega) D6.out ?_
  intro v7 w7 ho7 hg7
  have hb7 : Below wd.heap.size w6 w7 := (Below.refl _ _).grown hg7 D6.out (own_above O6.out)
  refine hK _ _ (hb7.mono SD.out) ?_
  clear hK K
  replace hX := hX.trans (hb7.mono SD.out)
  have R7 := Lib.hid (Row.of_own ho7)
  have M7 := Lib.hid (M6.out.below hb7 MD.out.lt)
  have S7 := Lib.hid (Nat.le_trans S6.out hb7.size)
  have BB7 := Lib.hid (BB6.out.trans (hb7.mono BD.out.size))
  clear ho7 hg7 hb7
  refine sx_actB (i := 5) (o := ⟨some 10, _, _, _, _, _⟩) rfl (by kernel_rfl) rfl hX (fun K hK => ?_)
  go_wp2_with fail
  refine (refOf_any v7 (memJ p 256 ++ memJ q 256) w7 (by rw [bvs_append]; exact R7.out) (by have := LP.out; have := LQ.out; rw [List.length_append]; omega)).mono ?_
  rintro e w8 ⟨rfl, hb8⟩
  rw [HR.out]
  refine hK _ _ (hb8.mono S7.out) ?_
  clear hK K
  replace hX := hX.trans (hb8.mono S7.out)
  have M8 := Lib.hid (M7.out.below hb8 M7.out.lt)
  have BB8 := Lib.hid (BB7.out.trans (hb8.mono BB7.out.size))
  clear hb8
  refine sx_actB (i := 6) (o := ⟨none, _, _, _, _, _⟩) rfl (by kernel_rfl) rfl hX (fun K hK => ?_)
  refine wp_stBlk 24 _ _ rfl w2.heap.size (wds r) rfl rfl 24 _ M8.out (size_set r) rfl (wds_all _) BB8.out B2.out.size ?_
  intro w9 hk9 hb9 hs9 ho9 hbs9
  refine hK _ _ (hbs9 _ (Nat.le_refl _)) ?_
  clear hK K
  refine wpAnyH_done (by kernel_rfl) ?_ _
  go_wp2_with fail
  refine bodyPost_ret (results_blk rfl _ _ w2.heap.size 24 _ _ rfl hk9 Tryd.underlying24 rfl (size_set r)) rfl ?_
  exact ⟨rfl, hb9⟩
end Go.Proofs.YtaobeconjdeenaaDoor
