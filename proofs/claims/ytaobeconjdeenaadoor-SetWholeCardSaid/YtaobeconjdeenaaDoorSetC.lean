/-
  What the document's answer to byteset (SetLess, alike, Classes, Parts) answers and leaves. No statement is proved here.
-/
import Derived.Test.YtaobeconjdeenaaDoorSetB
import Derived.Test.YtaobeconjdeenaaDoorRowS
namespace Go.Proofs.YtaobeconjdeenaaDoor
open Go.RowKit
set_option linter.unusedSimpArgs false
set_option linter.unusedVariables false

/-- Does the first byte that is in one of two sets alone lie in the first one? -/
def lessS (p q : Nat → Bool) : Bool := match (List.range 256).find? fun b => p b != q b with
  | some b => p b
  | none => false
theorem lessS_at {p q : Nat → Bool} {j : Nat} (hj : j < 256) (h : ∀ b, b < j → p b = q b) (hne : p j ≠ q j) : lessS p q = p j := by
  have : (List.range 256).find? (fun b => p b != q b) = some j := by
    rw [List.find?_range_eq_some]
    exact ⟨by simpa using hne, List.mem_range.2 hj, fun b hb => by simp [h b hb]⟩
  unfold lessS
  rw [this]
theorem lessS_none {p q : Nat → Bool} (h : ∀ b, b < 256 → p b = q b) : lessS p q = false := by
  have : (List.range 256).find? (fun b => p b != q b) = none := by
    rw [List.find?_eq_none]
    intro b hb
    simp [h b (List.mem_range.1 hb)]
  unfold lessS
  rw [this]

set_option maxHeartbeats 2000000 in
set_option maxRecDepth 100000 in
theorem refSetLess_any (p q : Nat → Bool) (w : World) :
    Calls Tryd.prog 25 #[.agg (wds p).toArray, .agg (wds q).toArray] w fun e w' => e = .returned (.bool (lessS p q)) ∧ Below w.heap.size w w' := by
  go_enter Tryd.func25, Tryd.ntmps25
  go_wp2_with (first
    | ((with_reducible refine atDst 2 ?_); refine wpList_box rfl 24 _ rfl (wds p) rfl (Below.refl w.heap.size w) (Nat.le_refl _) ?_; intro w1 hk1 hb1 hs1 _; have K1 := Lib.hid hk1; have B1 := Lib.hid hb1; clear hk1 hb1 hs1)
    | ((with_reducible refine atDst 3 ?_); refine wpList_box rfl 24 _ rfl (wds q) rfl B1.out B1.out.size ?_; intro w2 hk2 hb2 hs2 ho2; have L2 := Lib.hid hk2; have B2 := Lib.hid hb2; have K2 := Lib.hid (show Blk w2 w.heap.size 24 (wds p) from (ho2 _ K1.out.lt).trans K1.out); clear hk2 hb2 hs2 ho2))
  go_loopw [5] (fun i wl => ∃ j : Nat, j ≤ 256 ∧ i = .int .i64 (j : Int) ∧ (∀ b, b < j → p b = q b) ∧ Below w2.heap.size w2 wl) (fun i _ => 256 - (intOf i).toNat)
  case atStart => exact ⟨0, by omega, by simp, fun b hb => by omega, Below.refl _ _⟩
  case round =>
    obtain ⟨j, hj, rfl, hpq, hb⟩ := hrel
    have HPQ := Lib.hid hpq
    have HB := Lib.hid hb
    clear hpq hb
    by_cases hjl : j < 256
    · have j1 : (j : Int) < 256 := by omega
      have hw8 : IntKind.u8.wrap (j : Int) = (j : Int) := IntWalk.u8_in _ (by omega)
      have KR := Lib.hid (K2.out.below HB.out K2.out.lt)
      have LR := Lib.hid (L2.out.below HB.out L2.out.lt)
      have SR := Lib.hid HB.out.size
      go_wp2_with fail
      refine sx_startB (B := w2.heap.size) (w0 := wr) (by kernel_rfl) (Below.refl _ _) (fun wd hwd hX => ?_)
      have SD := Lib.hid (Nat.le_trans SR.out hX.size)
      clear hwd
      refine sx_take (i := 0) (oi := ⟨some 10, _, _, _, _, _⟩) (v := .agg (wds p).toArray) rfl (by kernel_rfl) (by kernel_rfl) (by kernel_rfl) (fun _ _ _ h => h) rfl hX (ld_blk 24 _ rfl w.heap.size rfl 24 _ _ KR.out K2.out.lt Tryd.underlying24 rfl (size_set p)) ?_
      simp only [Act.put, List.setIfInBounds_toArray, List.set_cons_zero, List.set_cons_succ]
      refine sx_take (i := 4) (oi := ⟨some 14, _, _, _, _, _⟩) (v := .agg (wds q).toArray) rfl (by kernel_rfl) (by kernel_rfl) (by kernel_rfl) (fun _ _ _ h => h) rfl hX (ld_blk 24 _ rfl w1.heap.size rfl 24 _ _ LR.out L2.out.lt Tryd.underlying24 rfl (size_set q)) ?_
      simp only [Act.put, List.setIfInBounds_toArray, List.set_cons_zero, List.set_cons_succ]
      refine sx_take (i := 1) (oi := ⟨some 11, _, _, _, _, _⟩) (v := ?_) rfl (by kernel_rfl) (by kernel_rfl) (by kernel_rfl) (fun _ _ _ h => h) rfl hX ?_ ?_; rotate_left; (intro W hW; go_simp; try with_reducible rfl); simp only [Act.put, List.setIfInBounds_toArray, List.set_cons_zero, List.set_cons_succ]
      refine sx_take (i := 2) (oi := ⟨some 12, _, _, _, _, _⟩) (v := ?_) rfl (by kernel_rfl) (by kernel_rfl) (by kernel_rfl) (fun _ _ _ h => h) rfl hX ?_ ?_; rotate_left; (intro W hW; go_simp; try with_reducible rfl); simp only [Act.put, List.setIfInBounds_toArray, List.set_cons_zero, List.set_cons_succ]
      refine sx_take (i := 5) (oi := ⟨some 15, _, _, _, _, _⟩) (v := ?_) rfl (by kernel_rfl) (by kernel_rfl) (by kernel_rfl) (fun _ _ _ h => h) rfl hX ?_ ?_; rotate_left; (intro W hW; go_simp; try with_reducible rfl); simp only [Act.put, List.setIfInBounds_toArray, List.set_cons_zero, List.set_cons_succ]
      refine sx_take (i := 6) (oi := ⟨some 16, _, _, _, _, _⟩) (v := ?_) rfl (by kernel_rfl) (by kernel_rfl) (by kernel_rfl) (fun _ _ _ h => h) rfl hX ?_ ?_; rotate_left; (intro W hW; go_simp; try with_reducible rfl); simp only [Act.put, List.setIfInBounds_toArray, List.set_cons_zero, List.set_cons_succ]
      refine sx_actB (i := 3) (o := ⟨some 13, _, _, _, _, _⟩) rfl (by kernel_rfl) rfl hX (fun K hK => ?_)
      go_wp2_with fail
      refine (refHas_any p j hjl wd).mono ?_
      rintro e w5 ⟨rfl, hb5⟩
      refine hK _ _ (hb5.mono SD.out) ?_
      clear hK K
      replace hX := hX.trans (hb5.mono SD.out)
      have S5 := Lib.hid (Nat.le_trans SD.out hb5.size)
      clear hb5
      refine sx_actB (i := 7) (o := ⟨some 17, _, _, _, _, _⟩) rfl (by kernel_rfl) rfl hX (fun K hK => ?_)
      go_wp2_with fail
      refine (refHas_any q j hjl w5).mono ?_
      rintro e w6 ⟨rfl, hb6⟩
      refine hK _ _ (hb6.mono S5.out) ?_
      clear hK K
      replace hX := hX.trans (hb6.mono S5.out)
      have K6 := Lib.hid (KR.out.below hX K2.out.lt)
      have B6 := Lib.hid (HB.out.trans hX)
      clear hb6
      obtain ⟨x, hx⟩ : ∃ x, x = p j := ⟨_, rfl⟩
      obtain ⟨y, hy⟩ : ∃ y, y = q j := ⟨_, rfl⟩
      rw [← hx, ← hy]
      have HXX := Lib.hid hx
      have HYY := Lib.hid hy
      clear hx hy
      by_cases hxy : x = y
      · have hne : (x == y) = true := by simp [hxy]
        have HE := Lib.hid hxy
        clear hxy
        refine sx_take (i := 8) (oi := ⟨some 18, _, _, _, _, _⟩) (v := ?_) rfl (by kernel_rfl) (by kernel_rfl) (by kernel_rfl) (fun _ _ _ h => h) rfl hX ?_ ?_; rotate_left; (intro W hW; go_simp; try with_reducible rfl); simp only [Act.put, List.setIfInBounds_toArray, List.set_cons_zero, List.set_cons_succ]
        refine wpAnyH_done (by kernel_rfl) ?_ _
        go_wp2_with fail
        refine ⟨⟨j + 1, by omega, by congr 1, fun b hb => ?_, B6.out⟩, by simp [intOf] <;> omega⟩
        rcases Nat.lt_or_ge b j with h | h
        · exact HPQ.out b h
        · obtain rfl : b = j := by omega
          rw [← HXX.out, ← HYY.out, HE.out]
      · have hne : (x == y) = false := by simpa using hxy
        have HL := Lib.hid (lessS_at hjl HPQ.out (by rw [← HXX.out, ← HYY.out]; exact hxy))
        clear hxy
        refine sx_take (i := 8) (oi := ⟨some 18, _, _, _, _, _⟩) (v := ?_) rfl (by kernel_rfl) (by kernel_rfl) (by kernel_rfl) (fun _ _ _ h => h) rfl hX ?_ ?_; rotate_left; (intro W hW; go_simp; try with_reducible rfl); simp only [Act.put, List.setIfInBounds_toArray, List.set_cons_zero, List.set_cons_succ]
        refine wpAnyH_done (by kernel_rfl) ?_ _
        go_wp2_with ((with_reducible refine atDst 19 ?_); refine wpList_ldArr rfl 24 _ rfl w.heap.size rfl 24 _ _ K6.out Tryd.underlying24 rfl (size_set p) ?_)
        refine (refHas_any p j hjl w6).mono ?_
        rintro e w7 ⟨rfl, hb7⟩
        have B7 := Lib.hid ((B2.out.trans (B6.out.mono B2.out.size)).trans (hb7.mono (Nat.le_trans (Nat.le_trans B2.out.size HB.out.size) hX.size)))
        clear hb7
        go_wp2_with fail
        go_ret
        rw [HL.out]
        exact ⟨rfl, B7.out⟩
    · obtain rfl : j = 256 := by omega
      have j1 : ¬ ((256 : Int) < 256) := by omega
      have HL := Lib.hid (lessS_none HPQ.out)
      go_wp2_with fail
      go_ret
      rw [HL.out]
      exact ⟨rfl, B2.out.trans (HB.out.mono B2.out.size)⟩

/-! ### alike -/
/-- Are two bytes in the same ones? -/
def alikeS (ps : List (Nat → Bool)) (a b : Nat) : Bool := ps.all fun p => p a == p b

set_option maxHeartbeats 2000000 in
set_option maxRecDepth 100000 in
theorem refAlike_any (v : Value) (ps : List (Nat → Bool)) (a b : Nat) (ha : a < 256) (hb : b < 256) (w : World) (hr : RowS w v ps) (hl : ps.length ≤ 1048576) :
    Calls Tryd.prog 40 #[v, .int .u8 (a : Int), .int .u8 (b : Int)] w fun e w' => e = .returned (.bool (alikeS ps a b)) ∧ Below w.heap.size w w' := by
  have R0 := Lib.hid hr
  obtain ⟨A, cap, rfl, a1, a2, a0, a3⟩ := hr
  clear a3 a0 a2
  go_enter Tryd.func40, Tryd.ntmps40
  go_wp2_with fail
  go_loopw [7] (fun i wl => ∃ j : Nat, j ≤ ps.length ∧ i = .int .i64 (j : Int) ∧ (ps.take j).all (fun p => p a == p b) = true ∧ Below w.heap.size w wl) (fun i _ => ps.length - (intOf i).toNat)
  case atStart => exact ⟨0, by omega, by simp, by simp, Below.refl _ _⟩
  case round =>
    obtain ⟨j, hj, rfl, hall, hbr⟩ := hrel
    have HA := Lib.hid hall
    have HB := Lib.hid hbr
    clear hall hbr
    by_cases hjl : j < ps.length
    · have j1 : (j : Int) < (ps.length : Int) := by omega
      obtain ⟨b0, off, rfl, hb0, hcell⟩ := (R0.out).at_ (by omega)
      have HRG := Lib.hid (range_below (hcell j ps[j] (List.getElem?_eq_getElem hjl)) HB.out hb0)
      obtain ⟨p, hp⟩ : ∃ p, p = ps[j] := ⟨_, rfl⟩
      rw [← hp] at HRG
      have HP := Lib.hid hp
      have SR := Lib.hid HB.out.size
      clear hcell hp
      go_wp2_with fail
      refine sx_startB (B := w.heap.size) (w0 := wr) (by kernel_rfl) (Below.refl _ _) (fun wd hwd hX => ?_)
      have SD := Lib.hid (Nat.le_trans SR.out hX.size)
      clear hwd
      refine sx_take (i := 0) (oi := ⟨some 14, _, _, _, _, _⟩) (v := ?_) rfl (by kernel_rfl) (by kernel_rfl) (by kernel_rfl) (fun _ _ _ h => h) rfl hX ?_ ?_; rotate_left; (intro W hW; go_simp; try with_reducible rfl); simp only [Act.put, List.setIfInBounds_toArray, List.set_cons_zero, List.set_cons_succ]
      refine sx_take (i := 1) (oi := ⟨some 15, _, _, _, _, _⟩) (v := ?_) rfl (by kernel_rfl) (by kernel_rfl) (by kernel_rfl) (fun _ _ _ h => h) rfl hX ?_ ?_; rotate_left; (intro W hW; go_simp; try with_reducible rfl); simp only [Act.put, List.setIfInBounds_toArray, List.set_cons_zero, List.set_cons_succ]
      refine sx_take (i := 2) (oi := ⟨some 16, _, _, _, _, _⟩) (v := ?_) rfl (by kernel_rfl) (by kernel_rfl) (by kernel_rfl) (fun _ _ _ h => h) rfl hX ?_ ?_; rotate_left; (intro W hW; go_simp; try with_reducible rfl); simp only [Act.put, List.setIfInBounds_toArray, List.set_cons_zero, List.set_cons_succ]
      refine sx_take (i := 3) (oi := ⟨some 17, _, _, _, _, _⟩) (v := .agg (wds p).toArray) rfl (by kernel_rfl) (by kernel_rfl) (by kernel_rfl) (fun _ _ _ h => h) rfl hX (ld_mid 24 _ rfl b0 (off + j * 4) rfl _ _ HRG.out hb0 Tryd.underlying24 rfl (size_set p)) ?_
      simp only [Act.put, List.setIfInBounds_toArray, List.set_cons_zero, List.set_cons_succ]
      refine sx_take (i := 4) (oi := ⟨some 18, _, _, _, _, _⟩) (v := ?_) rfl (by kernel_rfl) (by kernel_rfl) (by kernel_rfl) (fun _ _ _ h => h) rfl hX ?_ ?_; rotate_left; (intro W hW; go_simp; try with_reducible rfl); simp only [Act.put, List.setIfInBounds_toArray, List.set_cons_zero, List.set_cons_succ]
      refine sx_take (i := 6) (oi := ⟨some 20, _, _, _, _, _⟩) (v := ?_) rfl (by kernel_rfl) (by kernel_rfl) (by kernel_rfl) (fun _ _ _ h => h) rfl hX ?_ ?_; rotate_left; (intro W hW; go_simp; try with_reducible rfl); simp only [Act.put, List.setIfInBounds_toArray, List.set_cons_zero, List.set_cons_succ]
      refine sx_take (i := 7) (oi := ⟨some 21, _, _, _, _, _⟩) (v := ?_) rfl (by kernel_rfl) (by kernel_rfl) (by kernel_rfl) (fun _ _ _ h => h) rfl hX ?_ ?_; rotate_left; (intro W hW; go_simp; try with_reducible rfl); simp only [Act.put, List.setIfInBounds_toArray, List.set_cons_zero, List.set_cons_succ]
      refine sx_take (i := 8) (oi := ⟨some 22, _, _, _, _, _⟩) (v := ?_) rfl (by kernel_rfl) (by kernel_rfl) (by kernel_rfl) (fun _ _ _ h => h) rfl hX ?_ ?_; rotate_left; (intro W hW; go_simp; try with_reducible rfl); simp only [Act.put, List.setIfInBounds_toArray, List.set_cons_zero, List.set_cons_succ]
      refine sx_take (i := 9) (oi := ⟨some 23, _, _, _, _, _⟩) (v := .agg (wds p).toArray) rfl (by kernel_rfl) (by kernel_rfl) (by kernel_rfl) (fun _ _ _ h => h) rfl hX (ld_mid 24 _ rfl b0 (off + j * 4) rfl _ _ HRG.out hb0 Tryd.underlying24 rfl (size_set p)) ?_
      simp only [Act.put, List.setIfInBounds_toArray, List.set_cons_zero, List.set_cons_succ]
      refine sx_take (i := 10) (oi := ⟨some 24, _, _, _, _, _⟩) (v := ?_) rfl (by kernel_rfl) (by kernel_rfl) (by kernel_rfl) (fun _ _ _ h => h) rfl hX ?_ ?_; rotate_left; (intro W hW; go_simp; try with_reducible rfl); simp only [Act.put, List.setIfInBounds_toArray, List.set_cons_zero, List.set_cons_succ]
      refine sx_actB (i := 5) (o := ⟨some 19, _, _, _, _, _⟩) rfl (by kernel_rfl) rfl hX (fun K hK => ?_)
      go_wp2_with fail
      refine (refHas_any p a ha wd).mono ?_
      rintro e w5 ⟨rfl, hb5⟩
      refine hK _ _ (hb5.mono SD.out) ?_
      clear hK K
      replace hX := hX.trans (hb5.mono SD.out)
      have S5 := Lib.hid (Nat.le_trans SD.out hb5.size)
      clear hb5
      refine sx_actB (i := 11) (o := ⟨some 25, _, _, _, _, _⟩) rfl (by kernel_rfl) rfl hX (fun K hK => ?_)
      go_wp2_with fail
      refine (refHas_any p b hb w5).mono ?_
      rintro e w6 ⟨rfl, hb6⟩
      refine hK _ _ (hb6.mono S5.out) ?_
      clear hK K
      replace hX := hX.trans (hb6.mono S5.out)
      have B6 := Lib.hid (HB.out.trans hX)
      clear hb6
      obtain ⟨x, hx⟩ : ∃ x, x = p a := ⟨_, rfl⟩
      obtain ⟨y, hy⟩ : ∃ y, y = p b := ⟨_, rfl⟩
      rw [← hx, ← hy]
      have HXX := Lib.hid hx
      have HYY := Lib.hid hy
      clear hx hy
      by_cases hxy : x = y
      · have hne : (x == y) = true := by simp [hxy]
        have HE := Lib.hid hne
        clear hxy
        refine sx_take (i := 12) (oi := ⟨some 26, _, _, _, _, _⟩) (v := ?_) rfl (by kernel_rfl) (by kernel_rfl) (by kernel_rfl) (fun _ _ _ h => h) rfl hX ?_ ?_; rotate_left; (intro W hW; go_simp; try with_reducible rfl); simp only [Act.put, List.setIfInBounds_toArray, List.set_cons_zero, List.set_cons_succ]
        refine wpAnyH_done (by kernel_rfl) ?_ _
        go_wp2_with fail
        refine ⟨⟨j + 1, by omega, by congr 1, ?_, B6.out⟩, by simp [intOf] <;> omega⟩
        rw [List.take_succ_eq_append_getElem hjl, List.all_append, HA.out, ← HP.out, Bool.true_and]
        simp only [List.all_cons, List.all_nil, Bool.and_true]
        rw [← HXX.out, ← HYY.out, HE.out]
      · have hne : (x == y) = false := by simpa using hxy
        have HL := Lib.hid (show alikeS ps a b = false by
          unfold alikeS
          rw [List.all_eq_false]
          exact ⟨ps[j], List.getElem_mem hjl, by rw [← HP.out, ← HXX.out, ← HYY.out, hne]; decide⟩)
        clear hxy
        refine sx_take (i := 12) (oi := ⟨some 26, _, _, _, _, _⟩) (v := ?_) rfl (by kernel_rfl) (by kernel_rfl) (by kernel_rfl) (fun _ _ _ h => h) rfl hX ?_ ?_; rotate_left; (intro W hW; go_simp; try with_reducible rfl); simp only [Act.put, List.setIfInBounds_toArray, List.set_cons_zero, List.set_cons_succ]
        refine wpAnyH_done (by kernel_rfl) ?_ _
        go_wp2_with fail
        go_ret
        rw [HL.out]
        exact ⟨rfl, B6.out⟩
    · obtain rfl : j = ps.length := by omega
      have j1 : ¬ ((ps.length : Int) < (ps.length : Int)) := by omega
      have hall := HA.out
      rw [List.take_length] at hall
      have HL := Lib.hid (show alikeS ps a b = true from hall)
      clear hall
      go_wp2_with fail
      go_ret
      rw [HL.out]
      exact ⟨rfl, HB.out⟩
end Go.Proofs.YtaobeconjdeenaaDoor
