/-
  The walk of SetFirst: of two sets the one that has the first byte that is in one alone stands ahead. No statement is proved here.
-/
import Derived.Test.YtaobeconjdeenaaDoorSetL
import Derived.Test.YtaobeconjdeenaaDoorSetF
import Derived.Test.YtaobeconjdeenaaDoorBsH
namespace Go.Proofs.YtaobeconjdeenaaDoor
open Go.RowKit
set_option linter.unusedSimpArgs false
set_option linter.unusedVariables false

/-- 'var x T' at one operation. -/
theorem wp_newB {P : Program} {w : World} {o : Oper} {a : Act} {K : Act → World → Prop} {Q : Exit → Act → World → Prop} (ty : TypeId) (ho : o.op = .alloc ty) (i : TypeInfo) (z : Value) (cs : List Value) (hi : P.info? ty = some i) (hz : i.zero = some z) (hc : z.cells = cs.toArray)
    (h : ∀ w', Blk w' w.heap.size ty cs → Below w.heap.size w w' → w'.heap.size = w.heap.size + 1 → K (a.put o.dst (.pointer (some ⟨w.heap.size, 0, none⟩))) w') : o.wp P a w K Q := by
  unfold Oper.wp
  have hrun : (Instr.alloc ty true (.tuple #[])).run P w = .ok (.pointer (some ⟨w.heap.size, 0, none⟩)) (w.alloc (.cells cs.toArray ty)) := by
    have hzv : (zeroValue ty).run P w = .ok z w := by simp [zeroValue, typeInfo, hi, hz]
    simp [Instr.alloc, hzv, newVar, hc, run_newRow_blk]
  simp only [execOp, ho, hrun, Sem.run_bind, Result.andThen_ok, Sem.run_pure]
  exact h _ (Blk.new w ty cs) ((Below.refl _ _).alloc (Nat.le_refl _) _) (by simp)
/-- Several ways, one end: the end by itself. -/
theorem oneEnd {H X : Nat → World → Prop} {G : Prop} (main : (∀ g w', H g w' → X g w') → G) (fin : ∀ g w', H g w' → X g w') : G := main fin
/-- The first byte of a set that has one. -/
theorem first_of (x : Nat → Bool) (h : memJ x 256 ≠ []) : ∃ j, j < 256 ∧ x j = true ∧ (∀ b, b < j → x b = false) ∧ (memJ x 256)[0]? = some (UInt8.ofNat j) := by
  have hh : (memJ x 256)[0]? = ((List.range 256).find? x).map UInt8.ofNat := by
    unfold memJ
    rw [List.getElem?_map, ← List.head?_eq_getElem?, List.head?_filter]
  cases hf : (List.range 256).find? x with
  | none =>
    rw [hf] at hh
    cases hm : memJ x 256 with
    | nil => exact absurd hm h
    | cons a r => rw [hm] at hh; simp at hh
  | some j =>
    rw [hf] at hh
    obtain ⟨h1, h2, h3⟩ := List.find?_range_eq_some.1 hf
    exact ⟨j, List.mem_range.1 h2, h1, fun b hb => by simpa using h3 b hb, hh⟩
theorem none_of (x : Nat → Bool) (h : memJ x 256 = []) (b : Nat) (hb : b < 256) : x b = false := by
  have := memJ_mem x b hb
  rw [h] at this
  simpa using this.symm
theorem less_none {p q x : Nat → Bool} (hx : x = fun b => p b && !q b) (h : memJ x 256 = []) : lessS p q = false := by
  rw [Bool.eq_false_iff]
  intro hl
  obtain ⟨j, hj, _, h2, h3⟩ := (lessS_iff p q).1 hl
  have := none_of x h j hj
  rw [hx] at this
  simp [h2, h3] at this
theorem less_first {p q x y : Nat → Bool} {i j : Nat} (hx : x = fun b => p b && !q b) (hy : y = fun b => q b && !p b) (hi : i < 256) (h1 : x i = true) (h2 : ∀ b, b < i → x b = false) (h3 : ∀ b, b < i → y b = false) : lessS p q = true := by
  refine (lessS_iff p q).2 ⟨i, hi, fun b hb => ?_, ?_, ?_⟩
  · have a1 := h2 b hb
    have a2 := h3 b hb
    rw [hx] at a1
    rw [hy] at a2
    cases hp : p b <;> cases hq : q b <;> simp [hp, hq] at a1 a2 ⊢
  · rw [hx] at h1
    simp at h1
    exact h1.1
  · rw [hx] at h1
    simp at h1
    exact h1.2
theorem less_later {p q x y : Nat → Bool} {i j : Nat} (hx : x = fun b => p b && !q b) (hy : y = fun b => q b && !p b) (h1 : ∀ b, b < i → x b = false) (h2 : y j = true) (hij : ¬ i < j) : lessS p q = false := by
  rw [Bool.eq_false_iff]
  intro hl
  obtain ⟨k, hk, k1, k2, k3⟩ := (lessS_iff p q).1 hl
  have hki : ¬ k < i := fun h => by
    have := h1 k h
    rw [hx] at this
    simp [k2, k3] at this
  rw [hy] at h2
  simp only [Bool.and_eq_true, Bool.not_eq_true'] at h2
  rcases Nat.lt_or_ge j k with h | h
  · have := k1 j h
    rw [h2.1, h2.2] at this
    cases this
  · obtain rfl : k = j := by omega
    rw [k2] at h2
    exact absurd h2.2 (by decide)

set_option maxHeartbeats 8000000 in
set_option maxRecDepth 100000 in
theorem first_walk (C : BySet) (p q : Nat → Bool) (w : World) (hT : Tb w) :
    Calls Tryd.prog 8 #[.agg (wds p).toArray, .agg (wds q).toArray] w fun e w' => e = .returned (.bool true) ∧ Below w.heap.size w w' := by
  have HT := Lib.hid hT
  clear hT
  obtain ⟨cq, hcq⟩ : ∃ f : Nat → Bool, (fun b => !q b) = f := ⟨_, rfl⟩
  obtain ⟨cp, hcp⟩ : ∃ f : Nat → Bool, (fun b => !p b) = f := ⟨_, rfl⟩
  obtain ⟨x, hx⟩ : ∃ f : Nat → Bool, (fun b => p b && cq b) = f := ⟨_, rfl⟩
  obtain ⟨y, hy⟩ : ∃ f : Nat → Bool, (fun b => q b && cp b) = f := ⟨_, rfl⟩
  have HX0 := Lib.hid (show x = fun b => p b && !q b by rw [← hx, ← hcq])
  have HY0 := Lib.hid (show y = fun b => q b && !p b by rw [← hy, ← hcp])
  obtain ⟨m1, hm1⟩ : ∃ m, memJ x 256 = m := ⟨_, rfl⟩
  obtain ⟨m2, hm2⟩ : ∃ m, memJ y 256 = m := ⟨_, rfl⟩
  have HM1 := Lib.hid hm1
  have HM2 := Lib.hid hm2
  have HCQ := Lib.hid hcq
  have HCP := Lib.hid hcp
  have HX := Lib.hid hx
  have HY := Lib.hid hy
  obtain ⟨i0, hi0, hz0⟩ := info_set
  obtain ⟨z, hz⟩ : ∃ z : Nat → Bool, z = fun _ => false := ⟨_, rfl⟩
  rw [← hz] at hz0
  clear hz hcq hcp hx hy hm1 hm2
  go_enter Tryd.func8, Tryd.ntmps8
  go_wp2_with (first
    | ((with_reducible refine atDst 2 ?_); refine wpList_box rfl 24 _ rfl (wds p) rfl (Below.refl w.heap.size w) (Nat.le_refl _) ?_; intro w1 hk1 hb1 hs1 _; have K1 := Lib.hid hk1; have B1 := Lib.hid hb1; clear hk1 hb1 hs1)
    | ((with_reducible refine atDst 3 ?_); refine wpList_box rfl 24 _ rfl (wds q) rfl (Below.refl w1.heap.size w1) (Nat.le_refl _) ?_; intro w2 hk2 hb2 hs2 _; have K2 := Lib.hid hk2; have B2 := Lib.hid hb2; clear hk2 hb2 hs2))
  have BX := Lib.hid (B1.out.trans (B2.out.mono B1.out.size))
  have KA2 := Lib.hid (K1.out.below B2.out K1.out.lt)
  refine (begun_any C w2 (HT.out.belowG BX.out HT.out.lt)).mono ?_
  rintro e w3 ⟨rfl, hb⟩
  have KA := Lib.hid (KA2.out.below hb KA2.out.lt)
  have KB := Lib.hid (K2.out.below hb K2.out.lt)
  have B3 := Lib.hid (BX.out.trans (hb.mono BX.out.size))
  clear hb K1 K2 B1 B2 KA2 BX
  go_wp2_with fail
  refine sx_startB (B := w3.heap.size) (w0 := w3) (by kernel_rfl) (Below.refl _ _) (fun w4 hwd hX => ?_)
  have SZ := Lib.hid hX.size
  clear hwd
  refine sx_take (i := 0) (oi := ⟨some 12, _, _, _, _, _⟩) (v := .agg (wds p).toArray) rfl (by kernel_rfl) (by kernel_rfl) (by kernel_rfl) (fun _ _ _ h => h) rfl hX (ld_blk 24 _ rfl w.heap.size rfl 24 _ _ KA.out KA.out.lt Tryd.underlying24 rfl (size_set p)) ?_
  simp only [Act.put, List.setIfInBounds_toArray, List.set_cons_zero, List.set_cons_succ]
  refine sx_take (i := 1) (oi := ⟨some 13, _, _, _, _, _⟩) (v := .agg (wds q).toArray) rfl (by kernel_rfl) (by kernel_rfl) (by kernel_rfl) (fun _ _ _ h => h) rfl hX (ld_blk 24 _ rfl w1.heap.size rfl 24 _ _ KB.out KB.out.lt Tryd.underlying24 rfl (size_set q)) ?_
  simp only [Act.put, List.setIfInBounds_toArray, List.set_cons_zero, List.set_cons_succ]
  apply oneEnd (H := fun g w' => Blk w' g 24 (wds x) ∧ w3.heap.size ≤ g ∧ Below w3.heap.size w3 w')
  case main =>
    intro fin
    have FIN := Lib.hid fin
    clear fin
    refine sx_two (i := 2) (j := 4) (oi := ⟨some 14, _, _, _, _, _⟩) (oj := ⟨some 5, _, _, _, _, _⟩) rfl rfl (by kernel_rfl) rfl rfl hX (fun K hK => ?_) (fun K hK => ?_)
    · go_wp2_with fail
      refine (C.not_ q w4).mono ?_
      rintro e w5 ⟨rfl, hb⟩
      rw [HCQ.out]
      refine hK _ _ (hb.mono SZ.out) ?_
      clear hK K
      replace hX := hX.trans (hb.mono SZ.out)
      replace SZ := Lib.hid (Nat.le_trans SZ.out hb.size)
      skip
      clear hb
      refine sx_two (i := 3) (j := 4) (oi := ⟨some 15, _, _, _, _, _⟩) (oj := ⟨some 5, _, _, _, _, _⟩) rfl rfl (by kernel_rfl) rfl rfl hX (fun K hK => ?_) (fun K hK => ?_)
      · go_wp2_with fail
        refine (C.and_ p cq w5).mono ?_
        rintro e w6 ⟨rfl, hb⟩
        rw [HX.out]
        refine hK _ _ (hb.mono SZ.out) ?_
        clear hK K
        replace hX := hX.trans (hb.mono SZ.out)
        replace SZ := Lib.hid (Nat.le_trans SZ.out hb.size)
        skip
        clear hb
        refine sx_actB (i := 4) (o := ⟨some 5, _, _, _, _, _⟩) rfl (by kernel_rfl) rfl hX (fun K hK => ?_)
        refine wp_newB 24 rfl i0 _ (wds z) hi0 hz0 rfl ?_
        intro w7 hk hb hs
        refine hK _ _ (hb.mono SZ.out) ?_
        clear hK K
        have GB := Lib.hid (show w3.heap.size ≤ w6.heap.size from SZ.out)
        replace hX := hX.trans (hb.mono SZ.out)
        replace SZ := Lib.hid (Nat.le_trans SZ.out hb.size)
        obtain ⟨g, hg⟩ : ∃ g, g = w6.heap.size := ⟨_, rfl⟩
        rw [← hg] at hk GB ⊢
        have KG := Lib.hid hk
        clear hk hb hs hg
        refine sx_actB (i := 5) (o := ⟨none, _, _, _, _, _⟩) rfl (by kernel_rfl) rfl hX (fun K hK => ?_)
        refine wp_stBlk 24 _ _ rfl g (wds x) rfl rfl 24 _ KG.out (size_set x) rfl (wds_all _) hX GB.out ?_
        intro w9 hk9 hb9 hs9 ho9 hbs9
        refine hK _ _ (hbs9 _ GB.out) ?_
        clear hK K
        refine wpAnyH_done (by kernel_rfl) ?_ _
        exact FIN.out g w9 ⟨hk9, GB.out, hb9⟩
      · refine wp_newB 24 rfl i0 _ (wds z) hi0 hz0 rfl ?_
        intro w6 hk hb hs
        refine hK _ _ (hb.mono SZ.out) ?_
        clear hK K
        have GB := Lib.hid (show w3.heap.size ≤ w5.heap.size from SZ.out)
        replace hX := hX.trans (hb.mono SZ.out)
        replace SZ := Lib.hid (Nat.le_trans SZ.out hb.size)
        obtain ⟨g, hg⟩ : ∃ g, g = w5.heap.size := ⟨_, rfl⟩
        rw [← hg] at hk GB ⊢
        have KG := Lib.hid hk
        clear hk hb hs hg
        refine sx_actB (i := 3) (o := ⟨some 15, _, _, _, _, _⟩) rfl (by kernel_rfl) rfl hX (fun K hK => ?_)
        go_wp2_with fail
        refine (C.and_ p cq w6).mono ?_
        rintro e w7 ⟨rfl, hb⟩
        rw [HX.out]
        refine hK _ _ (hb.mono SZ.out) ?_
        clear hK K
        replace hX := hX.trans (hb.mono SZ.out)
        replace SZ := Lib.hid (Nat.le_trans SZ.out hb.size)
        replace KG := Lib.hid (KG.out.below hb KG.out.lt)
        clear hb
        refine sx_actB (i := 5) (o := ⟨none, _, _, _, _, _⟩) rfl (by kernel_rfl) rfl hX (fun K hK => ?_)
        refine wp_stBlk 24 _ _ rfl g (wds x) rfl rfl 24 _ KG.out (size_set x) rfl (wds_all _) hX GB.out ?_
        intro w9 hk9 hb9 hs9 ho9 hbs9
        refine hK _ _ (hbs9 _ GB.out) ?_
        clear hK K
        refine wpAnyH_done (by kernel_rfl) ?_ _
        exact FIN.out g w9 ⟨hk9, GB.out, hb9⟩
    · refine wp_newB 24 rfl i0 _ (wds z) hi0 hz0 rfl ?_
      intro w5 hk hb hs
      refine hK _ _ (hb.mono SZ.out) ?_
      clear hK K
      have GB := Lib.hid (show w3.heap.size ≤ w4.heap.size from SZ.out)
      replace hX := hX.trans (hb.mono SZ.out)
      replace SZ := Lib.hid (Nat.le_trans SZ.out hb.size)
      obtain ⟨g, hg⟩ : ∃ g, g = w4.heap.size := ⟨_, rfl⟩
      rw [← hg] at hk GB ⊢
      have KG := Lib.hid hk
      clear hk hb hs hg
      refine sx_actB (i := 2) (o := ⟨some 14, _, _, _, _, _⟩) rfl (by kernel_rfl) rfl hX (fun K hK => ?_)
      go_wp2_with fail
      refine (C.not_ q w5).mono ?_
      rintro e w6 ⟨rfl, hb⟩
      rw [HCQ.out]
      refine hK _ _ (hb.mono SZ.out) ?_
      clear hK K
      replace hX := hX.trans (hb.mono SZ.out)
      replace SZ := Lib.hid (Nat.le_trans SZ.out hb.size)
      replace KG := Lib.hid (KG.out.below hb KG.out.lt)
      clear hb
      refine sx_actB (i := 3) (o := ⟨some 15, _, _, _, _, _⟩) rfl (by kernel_rfl) rfl hX (fun K hK => ?_)
      go_wp2_with fail
      refine (C.and_ p cq w6).mono ?_
      rintro e w7 ⟨rfl, hb⟩
      rw [HX.out]
      refine hK _ _ (hb.mono SZ.out) ?_
      clear hK K
      replace hX := hX.trans (hb.mono SZ.out)
      replace SZ := Lib.hid (Nat.le_trans SZ.out hb.size)
      replace KG := Lib.hid (KG.out.below hb KG.out.lt)
      clear hb
      refine sx_actB (i := 5) (o := ⟨none, _, _, _, _, _⟩) rfl (by kernel_rfl) rfl hX (fun K hK => ?_)
      refine wp_stBlk 24 _ _ rfl g (wds x) rfl rfl 24 _ KG.out (size_set x) rfl (wds_all _) hX GB.out ?_
      intro w9 hk9 hb9 hs9 ho9 hbs9
      refine hK _ _ (hbs9 _ GB.out) ?_
      clear hK K
      refine wpAnyH_done (by kernel_rfl) ?_ _
      exact FIN.out g w9 ⟨hk9, GB.out, hb9⟩
  case fin =>
    rintro g1 w10 ⟨hk, hg, hb⟩
    have KX := Lib.hid hk
    replace KA := Lib.hid (KA.out.below hb KA.out.lt)
    replace KB := Lib.hid (KB.out.below hb KB.out.lt)
    have B10 := Lib.hid (B3.out.trans (hb.mono B3.out.size))
    clear hk hg hb B3
    go_wp2_with fail
    refine sx_startB (B := w10.heap.size) (w0 := w10) (by kernel_rfl) (Below.refl _ _) (fun w4 hwd hX => ?_)
    have SZ := Lib.hid hX.size
    clear hwd
    refine sx_take (i := 0) (oi := ⟨some 16, _, _, _, _, _⟩) (v := .agg (wds q).toArray) rfl (by kernel_rfl) (by kernel_rfl) (by kernel_rfl) (fun _ _ _ h => h) rfl hX (ld_blk 24 _ rfl w1.heap.size rfl 24 _ _ KB.out KB.out.lt Tryd.underlying24 rfl (size_set q)) ?_
    simp only [Act.put, List.setIfInBounds_toArray, List.set_cons_zero, List.set_cons_succ]
    refine sx_take (i := 1) (oi := ⟨some 17, _, _, _, _, _⟩) (v := .agg (wds p).toArray) rfl (by kernel_rfl) (by kernel_rfl) (by kernel_rfl) (fun _ _ _ h => h) rfl hX (ld_blk 24 _ rfl w.heap.size rfl 24 _ _ KA.out KA.out.lt Tryd.underlying24 rfl (size_set p)) ?_
    simp only [Act.put, List.setIfInBounds_toArray, List.set_cons_zero, List.set_cons_succ]
    apply oneEnd (H := fun g w' => Blk w' g 24 (wds y) ∧ w10.heap.size ≤ g ∧ Below w10.heap.size w10 w')
    case main =>
      intro fin
      have FIN := Lib.hid fin
      clear fin
      refine sx_two (i := 2) (j := 4) (oi := ⟨some 18, _, _, _, _, _⟩) (oj := ⟨some 6, _, _, _, _, _⟩) rfl rfl (by kernel_rfl) rfl rfl hX (fun K hK => ?_) (fun K hK => ?_)
      · go_wp2_with fail
        refine (C.not_ p w4).mono ?_
        rintro e w5 ⟨rfl, hb⟩
        rw [HCP.out]
        refine hK _ _ (hb.mono SZ.out) ?_
        clear hK K
        replace hX := hX.trans (hb.mono SZ.out)
        replace SZ := Lib.hid (Nat.le_trans SZ.out hb.size)
        skip
        clear hb
        refine sx_two (i := 3) (j := 4) (oi := ⟨some 19, _, _, _, _, _⟩) (oj := ⟨some 6, _, _, _, _, _⟩) rfl rfl (by kernel_rfl) rfl rfl hX (fun K hK => ?_) (fun K hK => ?_)
        · go_wp2_with fail
          refine (C.and_ q cp w5).mono ?_
          rintro e w6 ⟨rfl, hb⟩
          rw [HY.out]
          refine hK _ _ (hb.mono SZ.out) ?_
          clear hK K
          replace hX := hX.trans (hb.mono SZ.out)
          replace SZ := Lib.hid (Nat.le_trans SZ.out hb.size)
          skip
          clear hb
          refine sx_actB (i := 4) (o := ⟨some 6, _, _, _, _, _⟩) rfl (by kernel_rfl) rfl hX (fun K hK => ?_)
          refine wp_newB 24 rfl i0 _ (wds z) hi0 hz0 rfl ?_
          intro w7 hk hb hs
          refine hK _ _ (hb.mono SZ.out) ?_
          clear hK K
          have GB := Lib.hid (show w10.heap.size ≤ w6.heap.size from SZ.out)
          replace hX := hX.trans (hb.mono SZ.out)
          replace SZ := Lib.hid (Nat.le_trans SZ.out hb.size)
          obtain ⟨g, hg⟩ : ∃ g, g = w6.heap.size := ⟨_, rfl⟩
          rw [← hg] at hk GB ⊢
          have KG := Lib.hid hk
          clear hk hb hs hg
          refine sx_actB (i := 5) (o := ⟨none, _, _, _, _, _⟩) rfl (by kernel_rfl) rfl hX (fun K hK => ?_)
          refine wp_stBlk 24 _ _ rfl g (wds y) rfl rfl 24 _ KG.out (size_set y) rfl (wds_all _) hX GB.out ?_
          intro w9 hk9 hb9 hs9 ho9 hbs9
          refine hK _ _ (hbs9 _ GB.out) ?_
          clear hK K
          refine wpAnyH_done (by kernel_rfl) ?_ _
          exact FIN.out g w9 ⟨hk9, GB.out, hb9⟩
        · refine wp_newB 24 rfl i0 _ (wds z) hi0 hz0 rfl ?_
          intro w6 hk hb hs
          refine hK _ _ (hb.mono SZ.out) ?_
          clear hK K
          have GB := Lib.hid (show w10.heap.size ≤ w5.heap.size from SZ.out)
          replace hX := hX.trans (hb.mono SZ.out)
          replace SZ := Lib.hid (Nat.le_trans SZ.out hb.size)
          obtain ⟨g, hg⟩ : ∃ g, g = w5.heap.size := ⟨_, rfl⟩
          rw [← hg] at hk GB ⊢
          have KG := Lib.hid hk
          clear hk hb hs hg
          refine sx_actB (i := 3) (o := ⟨some 19, _, _, _, _, _⟩) rfl (by kernel_rfl) rfl hX (fun K hK => ?_)
          go_wp2_with fail
          refine (C.and_ q cp w6).mono ?_
          rintro e w7 ⟨rfl, hb⟩
          rw [HY.out]
          refine hK _ _ (hb.mono SZ.out) ?_
          clear hK K
          replace hX := hX.trans (hb.mono SZ.out)
          replace SZ := Lib.hid (Nat.le_trans SZ.out hb.size)
          replace KG := Lib.hid (KG.out.below hb KG.out.lt)
          clear hb
          refine sx_actB (i := 5) (o := ⟨none, _, _, _, _, _⟩) rfl (by kernel_rfl) rfl hX (fun K hK => ?_)
          refine wp_stBlk 24 _ _ rfl g (wds y) rfl rfl 24 _ KG.out (size_set y) rfl (wds_all _) hX GB.out ?_
          intro w9 hk9 hb9 hs9 ho9 hbs9
          refine hK _ _ (hbs9 _ GB.out) ?_
          clear hK K
          refine wpAnyH_done (by kernel_rfl) ?_ _
          exact FIN.out g w9 ⟨hk9, GB.out, hb9⟩
      · refine wp_newB 24 rfl i0 _ (wds z) hi0 hz0 rfl ?_
        intro w5 hk hb hs
        refine hK _ _ (hb.mono SZ.out) ?_
        clear hK K
        have GB := Lib.hid (show w10.heap.size ≤ w4.heap.size from SZ.out)
        replace hX := hX.trans (hb.mono SZ.out)
        replace SZ := Lib.hid (Nat.le_trans SZ.out hb.size)
        obtain ⟨g, hg⟩ : ∃ g, g = w4.heap.size := ⟨_, rfl⟩
        rw [← hg] at hk GB ⊢
        have KG := Lib.hid hk
        clear hk hb hs hg
        refine sx_actB (i := 2) (o := ⟨some 18, _, _, _, _, _⟩) rfl (by kernel_rfl) rfl hX (fun K hK => ?_)
        go_wp2_with fail
        refine (C.not_ p w5).mono ?_
        rintro e w6 ⟨rfl, hb⟩
        rw [HCP.out]
        refine hK _ _ (hb.mono SZ.out) ?_
        clear hK K
        replace hX := hX.trans (hb.mono SZ.out)
        replace SZ := Lib.hid (Nat.le_trans SZ.out hb.size)
        replace KG := Lib.hid (KG.out.below hb KG.out.lt)
        clear hb
        refine sx_actB (i := 3) (o := ⟨some 19, _, _, _, _, _⟩) rfl (by kernel_rfl) rfl hX (fun K hK => ?_)
        go_wp2_with fail
        refine (C.and_ q cp w6).mono ?_
        rintro e w7 ⟨rfl, hb⟩
        rw [HY.out]
        refine hK _ _ (hb.mono SZ.out) ?_
        clear hK K
        replace hX := hX.trans (hb.mono SZ.out)
        replace SZ := Lib.hid (Nat.le_trans SZ.out hb.size)
        replace KG := Lib.hid (KG.out.below hb KG.out.lt)
        clear hb
        refine sx_actB (i := 5) (o := ⟨none, _, _, _, _, _⟩) rfl (by kernel_rfl) rfl hX (fun K hK => ?_)
        refine wp_stBlk 24 _ _ rfl g (wds y) rfl rfl 24 _ KG.out (size_set y) rfl (wds_all _) hX GB.out ?_
        intro w9 hk9 hb9 hs9 ho9 hbs9
        refine hK _ _ (hbs9 _ GB.out) ?_
        clear hK K
        refine wpAnyH_done (by kernel_rfl) ?_ _
        exact FIN.out g w9 ⟨hk9, GB.out, hb9⟩
    case fin =>
      rintro g2 w11 ⟨hk, hg, hb⟩
      have KY := Lib.hid hk
      replace KX := Lib.hid (KX.out.below hb KX.out.lt)
      replace KA := Lib.hid (KA.out.below hb KA.out.lt)
      replace KB := Lib.hid (KB.out.below hb KB.out.lt)
      have B11 := Lib.hid (B10.out.trans (hb.mono B10.out.size))
      clear hk hg hb B10
      go_wp2_with fail
      have HM1L := Lib.hid (memJ_len x 256)
      have HM2L := Lib.hid (memJ_len y 256)
      refine sx_startB (B := w11.heap.size) (w0 := w11) (by kernel_rfl) (Below.refl _ _) (fun w12 hwd hX => ?_)
      have SZ := Lib.hid hX.size
      clear hwd
      refine sx_take (i := 0) (oi := ⟨some 20, _, _, _, _, _⟩) (v := .agg (wds x).toArray) rfl (by kernel_rfl) (by kernel_rfl) (by kernel_rfl) (fun _ _ _ h => h) rfl hX (ld_blk 24 _ rfl g1 rfl 24 _ _ KX.out KX.out.lt Tryd.underlying24 rfl (size_set x)) ?_; simp only [Act.put, List.setIfInBounds_toArray, List.set_cons_zero, List.set_cons_succ]
      refine sx_take (i := 2) (oi := ⟨some 22, _, _, _, _, _⟩) (v := .agg (wds y).toArray) rfl (by kernel_rfl) (by kernel_rfl) (by kernel_rfl) (fun _ _ _ h => h) rfl hX (ld_blk 24 _ rfl g2 rfl 24 _ _ KY.out KY.out.lt Tryd.underlying24 rfl (size_set y)) ?_; simp only [Act.put, List.setIfInBounds_toArray, List.set_cons_zero, List.set_cons_succ]
      refine sx_actB (i := 1) (o := ⟨some 21, _, _, _, _, _⟩) rfl (by kernel_rfl) rfl hX (fun K hK => ?_)
      go_wp2_with fail
      refine (C.list x w12 (HT.out.belowG (B11.out.trans (hX.mono B11.out.size)) HT.out.lt)).mono ?_
      rintro e w13 ⟨v13, rfl, hr13, hb⟩
      rw [HM1.out] at hr13
      have R13 := Lib.hid hr13
      clear hr13
      refine hK _ _ (hb.mono SZ.out) ?_
      clear hK K
      replace hX := hX.trans (hb.mono SZ.out)
      replace SZ := Lib.hid (Nat.le_trans SZ.out hb.size)
      clear hb
      refine sx_actB (i := 3) (o := ⟨some 23, _, _, _, _, _⟩) rfl (by kernel_rfl) rfl hX (fun K hK => ?_)
      go_wp2_with fail
      refine (C.list y w13 (HT.out.belowG (B11.out.trans (hX.mono B11.out.size)) HT.out.lt)).mono ?_
      rintro e w14 ⟨v14, rfl, hr14, hb⟩
      rw [HM2.out] at hr14
      have R1 := Lib.hid (R13.out.below (hb.mono (Nat.le_refl _)))
      have R2 := Lib.hid hr14
      clear hr14 R13
      refine hK _ _ (hb.mono SZ.out) ?_
      clear hK K
      replace hX := hX.trans (hb.mono SZ.out)
      replace SZ := Lib.hid (Nat.le_trans SZ.out hb.size)
      clear hb
      refine sx_take (i := 4) (oi := ⟨some 7, _, _, _, _, _⟩) (v := ?_) rfl (by kernel_rfl) (by kernel_rfl) (by kernel_rfl) (fun _ _ _ h => h) rfl hX ?_ ?_; rotate_left; (intro W hW; go_simp; try with_reducible rfl); simp only [Act.put, List.setIfInBounds_toArray, List.set_cons_zero, List.set_cons_succ]
      refine sx_take (i := 5) (oi := ⟨some 8, _, _, _, _, _⟩) (v := ?_) rfl (by kernel_rfl) (by kernel_rfl) (by kernel_rfl) (fun _ _ _ h => h) rfl hX ?_ ?_; rotate_left; (intro W hW; go_simp; try with_reducible rfl); simp only [Act.put, List.setIfInBounds_toArray, List.set_cons_zero, List.set_cons_succ]
      refine wpAnyH_done (by kernel_rfl) ?_ _
      have KA14 := Lib.hid (KA.out.below hX KA.out.lt)
      have KB14 := Lib.hid (KB.out.below hX KB.out.lt)
      have B14 := Lib.hid (B11.out.trans (hX.mono B11.out.size))
      clear hX SZ KA KB KX KY
      obtain ⟨A1, cap1, e1, _, _, _, _⟩ := R1.out
      obtain ⟨A2, cap2, e2, _, _, _, _⟩ := R2.out
      subst e1
      subst e2
      rw [bvs_length m1] at R1
      rw [bvs_length m2] at R2
      rw [bvs_length m1, bvs_length m2]
      obtain ⟨N1, hN1⟩ : ∃ N, m1.length = N := ⟨_, rfl⟩
      obtain ⟨N2, hN2⟩ : ∃ N, m2.length = N := ⟨_, rfl⟩
      rw [hN1] at R1 ⊢
      rw [hN2] at R2 ⊢
      have HN1 := Lib.hid hN1
      have HN2 := Lib.hid hN2
      have hle1 : N1 ≤ 256 := by rw [← hN1, ← HM1.out]; exact HM1L.out
      have hle2 : N2 ≤ 256 := by rw [← hN2, ← HM2.out]; exact HM2L.out
      clear hN1 hN2
      rcases Nat.eq_zero_or_pos N1 with h1 | h1
      · subst h1
        have HL := Lib.hid (show lessS p q = false from less_none HX0.out (by rw [HM1.out]; exact List.eq_nil_of_length_eq_zero HN1.out))
        go_wp2_with fail
        go_quiet (fail)
        have KA15 := Lib.hid (show Blk (w14.drewN nq) w.heap.size 24 (wds p) from KA14.out)
        have KB15 := Lib.hid (show Blk (w14.drewN nq) w1.heap.size 24 (wds q) from KB14.out)
        have B15 := Lib.hid (show Below w.heap.size w (w14.drewN nq) from ⟨B14.out.os, B14.out.tape, B14.out.output, B14.out.size, B14.out.block⟩)
        go_wp2_with (first
          | ((with_reducible refine atDst 41 ?_); refine wpList_ldArr rfl 24 _ rfl w.heap.size rfl 24 _ _ KA15.out Tryd.underlying24 rfl (size_set p) ?_)
          | ((with_reducible refine atDst 42 ?_); refine wpList_ldArr rfl 24 _ rfl w1.heap.size rfl 24 _ _ KB15.out Tryd.underlying24 rfl (size_set q) ?_))
        refine (C.less p q _).mono ?_
        rintro e w16 ⟨rfl, hb⟩
        rw [HL.out]
        have B16 := Lib.hid (B15.out.trans (hb.mono B15.out.size))
        clear hb
        go_wp2_with fail
        go_ret
        exact ⟨rfl, B16.out⟩
      · have c1 : (0 : Int) < (N1 : Int) := by omega
        obtain ⟨i, hi, hi1, hi2, hi3⟩ := first_of x (by rw [HM1.out]; intro h; have := HN1.out; rw [h] at this; simp at this; omega)
        rw [HM1.out] at hi3
        rcases Nat.eq_zero_or_pos N2 with h2 | h2
        · subst h2
          have HL := Lib.hid (show lessS p q = true from less_first (j := 0) HX0.out HY0.out hi hi1 hi2 fun b hb => none_of y (by rw [HM2.out]; exact List.eq_nil_of_length_eq_zero HN2.out) b (by omega))
          clear hi hi1 hi2 hi3
          go_wp2_with fail
          go_quiet (fail)
          have KA15 := Lib.hid (show Blk (w14.drewN nq) w.heap.size 24 (wds p) from KA14.out)
          have KB15 := Lib.hid (show Blk (w14.drewN nq) w1.heap.size 24 (wds q) from KB14.out)
          have B15 := Lib.hid (show Below w.heap.size w (w14.drewN nq) from ⟨B14.out.os, B14.out.tape, B14.out.output, B14.out.size, B14.out.block⟩)
          go_wp2_with (first
            | ((with_reducible refine atDst 41 ?_); refine wpList_ldArr rfl 24 _ rfl w.heap.size rfl 24 _ _ KA15.out Tryd.underlying24 rfl (size_set p) ?_)
            | ((with_reducible refine atDst 42 ?_); refine wpList_ldArr rfl 24 _ rfl w1.heap.size rfl 24 _ _ KB15.out Tryd.underlying24 rfl (size_set q) ?_))
          refine (C.less p q _).mono ?_
          rintro e w16 ⟨rfl, hb⟩
          rw [HL.out]
          have B16 := Lib.hid (B15.out.trans (hb.mono B15.out.size))
          clear hb
          go_wp2_with fail
          go_ret
          exact ⟨rfl, B16.out⟩
        · have c2 : (0 : Int) < (N2 : Int) := by omega
          obtain ⟨j, hj, hj1, hj2, hj3⟩ := first_of y (by rw [HM2.out]; intro h; have := HN2.out; rw [h] at this; simp at this; omega)
          rw [HM2.out] at hj3
          obtain ⟨b1, off1, rfl, hb1, hcell1⟩ := R1.out.at_ (by rw [bvs_length, HN1.out]; omega)
          obtain ⟨b2, off2, rfl, hb2, hcell2⟩ := R2.out.at_ (by rw [bvs_length, HN2.out]; omega)
          have e1 := hcell1 0 _ (bvs_get m1 0 _ hi3)
          have e2 := hcell2 0 _ (bvs_get m2 0 _ hj3)
          rw [bv_ofNat hi, Nat.add_zero] at e1
          rw [bv_ofNat hj, Nat.add_zero] at e2
          clear hcell1 hcell2
          have n1 : ¬ (N2 : Int) = 0 := by omega
          have n2 : ((N2 : Int) == 0) = false := by simpa using n1
          by_cases hij : i < j
          · have HL := Lib.hid (show lessS p q = true from less_first (j := 0) HX0.out HY0.out hi hi1 hi2 fun b hb => hj2 b (by omega))
            have c3 : (i : Int) < (j : Int) := by omega
            clear hi1 hi2 hi3 hj1 hj2 hj3 hij
            go_wp2_with fail
            go_quiet (fail)
            have KA15 := Lib.hid (show Blk (w14.drewN nq) w.heap.size 24 (wds p) from KA14.out)
            have KB15 := Lib.hid (show Blk (w14.drewN nq) w1.heap.size 24 (wds q) from KB14.out)
            have B15 := Lib.hid (show Below w.heap.size w (w14.drewN nq) from ⟨B14.out.os, B14.out.tape, B14.out.output, B14.out.size, B14.out.block⟩)
            go_wp2_with (first
              | ((with_reducible refine atDst 41 ?_); refine wpList_ldArr rfl 24 _ rfl w.heap.size rfl 24 _ _ KA15.out Tryd.underlying24 rfl (size_set p) ?_)
              | ((with_reducible refine atDst 42 ?_); refine wpList_ldArr rfl 24 _ rfl w1.heap.size rfl 24 _ _ KB15.out Tryd.underlying24 rfl (size_set q) ?_))
            refine (C.less p q _).mono ?_
            rintro e w16 ⟨rfl, hb⟩
            rw [HL.out]
            have B16 := Lib.hid (B15.out.trans (hb.mono B15.out.size))
            clear hb
            go_wp2_with fail
            go_ret
            exact ⟨rfl, B16.out⟩
          · have HL := Lib.hid (show lessS p q = false from less_later HX0.out HY0.out hi2 hj1 hij)
            have c3 : ¬ (i : Int) < (j : Int) := by omega
            have c4 : decide ((i : Int) < (j : Int)) = false := by simpa using c3
            have HIJ := Lib.hid hij
            clear hi1 hi2 hi3 hj1 hj2 hj3 hij
            go_wp2_with fail
            go_quiet (fail)
            have KA15 := Lib.hid (show Blk (w14.drewN nq) w.heap.size 24 (wds p) from KA14.out)
            have KB15 := Lib.hid (show Blk (w14.drewN nq) w1.heap.size 24 (wds q) from KB14.out)
            have B15 := Lib.hid (show Below w.heap.size w (w14.drewN nq) from ⟨B14.out.os, B14.out.tape, B14.out.output, B14.out.size, B14.out.block⟩)
            go_wp2_with (first
              | ((with_reducible refine atDst 41 ?_); refine wpList_ldArr rfl 24 _ rfl w.heap.size rfl 24 _ _ KA15.out Tryd.underlying24 rfl (size_set p) ?_)
              | ((with_reducible refine atDst 42 ?_); refine wpList_ldArr rfl 24 _ rfl w1.heap.size rfl 24 _ _ KB15.out Tryd.underlying24 rfl (size_set q) ?_))
            refine (C.less p q _).mono ?_
            rintro e w16 ⟨rfl, hb⟩
            rw [HL.out]
            have B16 := Lib.hid (B15.out.trans (hb.mono B15.out.size))
            clear hb
            go_wp2_with fail
            go_ret
            exact ⟨by have h := HIJ.out; simp [h], B16.out⟩
end Go.Proofs.YtaobeconjdeenaaDoor
