/-
  The walk of the statement SetParts: the Go text returns true and turns nothing that was there, on the contracts of package byteset. Condition: the slice reads as sets.
-/
import Derived.Test.YtaobeconjdeenaaDoorSetL
namespace Go.Proofs.YtaobeconjdeenaaDoor
open Go.RowKit
set_option linter.unusedSimpArgs false
set_option linter.unusedVariables false

theorem parts_len (ps : List (Nat → Bool)) : (parts ps).length = (firstJ ps 256).length := by
  unfold parts
  exact outs_length _ _ _
set_option maxHeartbeats 4000000 in
set_option maxRecDepth 100000 in
theorem parts_walk (C : BySet) (v : Value) (ps : List (Nat → Bool)) (w : World) (hr : RowS w v ps) (hT : Tb w) :
    Calls Tryd.prog 4 #[v] w fun e w' => e = .returned (.bool true) ∧ Below w.heap.size w w' := by
  have HT := Lib.hid hT
  clear hT
  obtain ⟨n, hn⟩ : ∃ n, (firstJ ps 256).length = n := ⟨_, rfl⟩
  have hn256 : n ≤ 256 := by rw [← hn]; exact firstJ_len ps 256
  obtain ⟨qs, hqs⟩ : ∃ qs, parts ps = qs := ⟨_, rfl⟩
  have hql : qs.length = n := by rw [← hqs, ← hn]; exact parts_len ps
  have HQL := Lib.hid hql
  have R0 := Lib.hid hr
  have HC := Lib.hid (fun (w : World) (v : Value) (h : RowS w v ps) (hl : ps.length ≤ 2000) => hqs ▸ C.parts v ps w h hl)
  have HD := Lib.hid (fun (w : World) (v : Value) (h : RowS w v ps) (hl : ps.length ≤ 2000) =>
    (show Calls Tryd.prog 29 #[v] w fun e w' => ∃ g, e = .returned (.slice (some ⟨g, 0, none⟩) n n) ∧ Blk w' g 24 (sets qs) ∧ w.heap.size ≤ g ∧ Below w.heap.size w w' from by
      have := refParts_any v ps w h (by omega)
      rw [show outs ps (firstJ ps 256).length 256 = qs from hqs, hn] at this
      exact this))
  clear hn hqs hql
  obtain ⟨A0, cap0, rfl, a1, a2, a0, a3⟩ := hr
  clear a3 a0 a2 a1
  by_cases h12 : (12 : Int) < (ps.length : Int)
  · go_enter Tryd.func4, Tryd.ntmps4
    go_wp2_with fail
    refine (begun_any C w HT.out).mono ?_
    rintro e w1 ⟨rfl, hB1⟩
    go_wp2_with fail
    go_ret
    exact ⟨rfl, hB1⟩
  · go_enter Tryd.func4, Tryd.ntmps4
    go_wp2_with fail
    refine (begun_any C w HT.out).mono ?_
    rintro e w1 ⟨rfl, hb⟩
    have B1 := Lib.hid hb
    clear hb
    go_wp2_with fail
    refine (HC.out w1 _ (R0.out.below B1.out) (by omega)).mono ?_
    rintro e w2 ⟨v2, rfl, hr2, hb⟩
    have B2 := Lib.hid (B1.out.trans (hb.mono B1.out.size))
    have R2 := Lib.hid hr2
    obtain ⟨A2, cap2, rfl, a1, a2, a0, a3⟩ := hr2
    clear a3 a0 a2 a1
    rw [HQL.out] at R2 ⊢
    clear hb
    go_wp2_with fail
    refine (HD.out w2 _ (R0.out.below B2.out) (by omega)).mono ?_
    rintro e w3 ⟨g, rfl, hk, hg, hb⟩
    have K3 := Lib.hid hk
    have B3 := Lib.hid (B2.out.trans (hb.mono B2.out.size))
    have R3 := Lib.hid (R2.out.below hb)
    clear hb hk hg
    go_wp2_with fail
    go_loopw [5] (fun i wl => ∃ j : Nat, j ≤ n ∧ i = .int .i64 (j : Int) ∧ Below w3.heap.size w3 wl) (fun i _ => n - (intOf i).toNat)
    case atStart => exact ⟨0, by omega, by simp, Below.refl _ _⟩
    case round =>
      obtain ⟨j, hj, rfl, hbr⟩ := hrel
      have HB := Lib.hid hbr
      clear hbr
      by_cases hjl : j < n
      · have j1 : (j : Int) < (n : Int) := by omega
        obtain ⟨b0, off, rfl, hb0, hcell⟩ := R3.out.at_ (by rw [HQL.out]; omega)
        obtain ⟨p, hp⟩ : ∃ p, qs[j]? = some p := ⟨qs[j]'(by rw [HQL.out]; exact hjl), List.getElem?_eq_getElem _⟩
        have HR1 := Lib.hid (range_below (hcell j p hp) HB.out hb0)
        have HR2 := Lib.hid (range_below (K3.out.range hp) HB.out K3.out.lt)
        have hg3 := K3.out.lt
        have HNE := Lib.hid (show (!eqS p p) = false by rw [eqS_self]; rfl)
        clear hcell hp
        go_wp2_with fail
        refine sx_startB (B := w3.heap.size) (w0 := wr) (by kernel_rfl) (Below.refl _ _) (fun wd hwd hX => ?_)
        clear hwd
        refine sx_take (i := 0) (oi := ⟨some 26, _, _, _, _, _⟩) (v := ?_) rfl (by kernel_rfl) (by kernel_rfl) (by kernel_rfl) (fun _ _ _ h => h) rfl hX ?_ ?_; rotate_left; (intro W hW; go_simp; try with_reducible rfl); simp only [Act.put, List.setIfInBounds_toArray, List.set_cons_zero, List.set_cons_succ]
        refine sx_take (i := 1) (oi := ⟨some 27, _, _, _, _, _⟩) (v := ?_) rfl (by kernel_rfl) (by kernel_rfl) (by kernel_rfl) (fun _ _ _ h => h) rfl hX ?_ ?_; rotate_left; (intro W hW; go_simp; try with_reducible rfl); simp only [Act.put, List.setIfInBounds_toArray, List.set_cons_zero, List.set_cons_succ]
        refine sx_take (i := 2) (oi := ⟨some 28, _, _, _, _, _⟩) (v := ?_) rfl (by kernel_rfl) (by kernel_rfl) (by kernel_rfl) (fun _ _ _ h => h) rfl hX ?_ ?_; rotate_left; (intro W hW; go_simp; try with_reducible rfl); simp only [Act.put, List.setIfInBounds_toArray, List.set_cons_zero, List.set_cons_succ]
        refine sx_take (i := 3) (oi := ⟨some 29, _, _, _, _, _⟩) (v := .agg (wds p).toArray) rfl (by kernel_rfl) (by kernel_rfl) (by kernel_rfl) (fun _ _ _ h => h) rfl hX (ld_mid 24 _ rfl b0 (off + j * 4) rfl _ _ HR1.out hb0 Tryd.underlying24 rfl (size_set p)) ?_; simp only [Act.put, List.setIfInBounds_toArray, List.set_cons_zero, List.set_cons_succ]
        refine sx_take (i := 4) (oi := ⟨some 30, _, _, _, _, _⟩) (v := ?_) rfl (by kernel_rfl) (by kernel_rfl) (by kernel_rfl) (fun _ _ _ h => h) rfl hX ?_ ?_; rotate_left; (intro W hW; go_simp; try with_reducible rfl); simp only [Act.put, List.setIfInBounds_toArray, List.set_cons_zero, List.set_cons_succ]
        refine sx_take (i := 5) (oi := ⟨some 31, _, _, _, _, _⟩) (v := ?_) rfl (by kernel_rfl) (by kernel_rfl) (by kernel_rfl) (fun _ _ _ h => h) rfl hX ?_ ?_; rotate_left; (intro W hW; go_simp; try with_reducible rfl); simp only [Act.put, List.setIfInBounds_toArray, List.set_cons_zero, List.set_cons_succ]
        refine sx_take (i := 6) (oi := ⟨some 32, _, _, _, _, _⟩) (v := ?_) rfl (by kernel_rfl) (by kernel_rfl) (by kernel_rfl) (fun _ _ _ h => h) rfl hX ?_ ?_; rotate_left; (intro W hW; go_simp; try with_reducible rfl); simp only [Act.put, List.setIfInBounds_toArray, List.set_cons_zero, List.set_cons_succ]
        refine sx_take (i := 7) (oi := ⟨some 33, _, _, _, _, _⟩) (v := .agg (wds p).toArray) rfl (by kernel_rfl) (by kernel_rfl) (by kernel_rfl) (fun _ _ _ h => h) rfl hX (ld_mid 24 _ rfl g (j * 4) rfl _ _ HR2.out hg3 Tryd.underlying24 rfl (size_set p)) ?_; simp only [Act.put, List.setIfInBounds_toArray, List.set_cons_zero, List.set_cons_succ]
        refine sx_take (i := 8) (oi := ⟨some 34, _, _, _, _, _⟩) (v := .bool false) rfl (by kernel_rfl) (by kernel_rfl) (by kernel_rfl) (fun _ _ _ h => h) rfl hX (ne_is HNE.out 24 22 (.tmp 29) (.tmp 33) 24 rfl guard_set Tryd.underlying24 Tryd.underlying22 size_u64 rfl rfl) ?_; simp only [Act.put, List.setIfInBounds_toArray, List.set_cons_zero, List.set_cons_succ]
        refine wpAnyH_done (by kernel_rfl) ?_ _
        go_wp2_with fail
        exact ⟨⟨j + 1, by omega, by congr 1, HB.out.trans hX⟩, by simp [intOf] <;> omega⟩
      · obtain rfl : j = n := by omega
        have j1 : ¬ ((j : Int) < (j : Int)) := by omega
        have B9 := Lib.hid (B3.out.trans (HB.out.mono B3.out.size))
        go_wp2_with fail
        go_ret
        exact ⟨rfl, B9.out⟩
end Go.Proofs.YtaobeconjdeenaaDoor
