/-
  The walk of SetCoarse: a set more parts no less, and one that is there already, or its other side, no more. No statement is proved here.
-/
import Derived.Test.YtaobeconjdeenaaDoorSetL
import Derived.Test.YtaobeconjdeenaaDoorBsL
namespace Go.Proofs.YtaobeconjdeenaaDoor
open Go.RowKit
set_option linter.unusedSimpArgs false
set_option linter.unusedVariables false

theorem wr64 (k : Nat) (h : k < 256) : wrap64 (k : Int) = (k : Int) := IntWalk.wrap64_in _ (by omega)
theorem wr64i (k : Nat) (h : k < 256) : IntKind.i64.wrap (k : Int) = (k : Int) := IntWalk.i64_in _ (by omega)
theorem tmodN (k n : Nat) : (k : Int).tmod (n : Int) = ((k % n : Nat) : Int) := by
  rw [Int.tmod_eq_emod_of_nonneg (by omega), Int.natCast_emod]
/-- Several ways, one end: the end by itself. -/
theorem oneEnd5 {H X : Value → Value → Nat → Value → Value → World → Prop} {G : Prop} (main : (∀ a b c d e w', H a b c d e w' → X a b c d e w') → G) (fin : ∀ a b c d e w', H a b c d e w' → X a b c d e w') : G := main fin
set_option maxHeartbeats 8000000 in
set_option maxRecDepth 100000 in
theorem coarse_walk (C : BySet) (v : Value) (ps : List (Nat → Bool)) (s : Nat → Bool) (k : Nat) (w : World) (hr : RowS w v ps) (hk : k < 256) (hT : Tb w) :
    Calls Tryd.prog 9 #[v, .agg (wds s).toArray, .int .u8 (k : Int)] w fun e w' => e = .returned (.bool true) ∧ Below w.heap.size w w' := by
  have HT := Lib.hid hT
  clear hT
  have R0 := Lib.hid hr
  obtain ⟨A0, cap0, rfl, a1, a2, a0, a3⟩ := hr
  clear a3 a0 a2 a1
  obtain ⟨i1, hi1, hy0, hy1, hy2⟩ := infoP inf_set
  by_cases h10 : (10 : Int) < (ps.length : Int)
  · go_enter Tryd.func9, Tryd.ntmps9
    go_wp2_with ((with_reducible refine atDst 4 ?_); refine wpList_box rfl 24 _ rfl (wds s) rfl (Below.refl w.heap.size w) (Nat.le_refl _) ?_; intro w1 hk1 hb1 hs1 _; have B1 := Lib.hid hb1; clear hk1 hb1 hs1)
    refine (begun_any C w1 (HT.out.belowG B1.out HT.out.lt)).mono ?_
    rintro e w2 ⟨rfl, hb⟩
    have B2 := Lib.hid (B1.out.trans (hb.mono B1.out.size))
    clear hb
    go_wp2_with fail
    go_ret
    exact ⟨rfl, B2.out⟩
  · have HL10 := Lib.hid (show ps.length ≤ 10 by omega)
    obtain ⟨qa, hqa⟩ : ∃ q, parts ps = q := ⟨_, rfl⟩
    obtain ⟨qb, hqb⟩ : ∃ q, parts (ps ++ [s]) = q := ⟨_, rfl⟩
    have hab := parts_more ps s
    rw [hqa, hqb] at hab
    obtain ⟨na, hna⟩ : ∃ n, qa.length = n := ⟨_, rfl⟩
    obtain ⟨nb, hnb⟩ : ∃ n, qb.length = n := ⟨_, rfl⟩
    have ha256 : na ≤ 256 := by rw [← hna, ← hqa]; exact parts_le ps
    rw [hna, hnb] at hab
    obtain ⟨hab1, hab2⟩ := hab
    have HCA := Lib.hid (fun (w : World) (v : Value) (h : RowS w v ps) (hl : ps.length ≤ 2000) => hqa ▸ C.parts v ps w h hl)
    have HCB := Lib.hid (fun (w : World) (v : Value) (h : RowS w v (ps ++ [s])) (hl : (ps ++ [s]).length ≤ 2000) => hqb ▸ C.parts v (ps ++ [s]) w h hl)
    have HNA := Lib.hid hna
    have HNB := Lib.hid hnb
    have HNIL := Lib.hid (fun (h : ps = []) => (show na = 1 by rw [← hna, ← hqa, h]; exact parts_nil))
    have HSM := Lib.hid (fun (x : Nat → Bool) (hx : x ∈ ps) => (show (parts (ps ++ [fun b => !x b, x])).length = na by rw [← hna, ← hqa]; exact parts_same ps x hx))
    have HCC := Lib.hid (fun (w : World) (v : Value) (qs : List (Nat → Bool)) (h : RowS w v qs) (hl : qs.length ≤ 2000) => C.parts v qs w h hl)
    have d1 : ¬ (nb : Int) < (na : Int) := by omega
    have d2 : wrap64 (2 * (na : Int)) = 2 * (na : Int) := IntWalk.wrap64_in _ (by omega)
    have d3 : ¬ 2 * (na : Int) < (nb : Int) := by omega
    clear hqa hqb hna hnb hab1 hab2
    go_enter Tryd.func9, Tryd.ntmps9
    go_wp2_with ((with_reducible refine atDst 4 ?_); refine wpList_box rfl 24 _ rfl (wds s) rfl (Below.refl w.heap.size w) (Nat.le_refl _) ?_; intro w1 hk1 hb1 hs1 _; have K1 := Lib.hid hk1; have B1 := Lib.hid hb1; clear hk1 hb1 hs1)
    refine (begun_any C w1 (HT.out.belowG B1.out HT.out.lt)).mono ?_
    rintro e w2 ⟨rfl, hb⟩
    have B2 := Lib.hid (B1.out.trans (hb.mono B1.out.size))
    have K2 := Lib.hid (K1.out.below hb K1.out.lt)
    clear hb K1 B1
    go_wp2_with fail
    refine (HCA.out w2 _ (R0.out.below B2.out) (by have := HL10.out; omega)).mono ?_
    rintro e w4 ⟨v7, rfl, hr7, hb⟩
    have B4 := Lib.hid (B2.out.trans (hb.mono B2.out.size))
    have KS := Lib.hid (K2.out.below hb K2.out.lt)
    have RB := Lib.hid (R0.out.below B4.out)
    clear hb K2 B2
    obtain ⟨A7, cap7, rfl, _, _, _, _⟩ := hr7
    rw [HNA.out]
    go_wp2_with fail
    refine sx_startB (B := w4.heap.size) (w0 := w4) (by kernel_rfl) (Below.refl _ _) (fun w5 hwd hX => ?_)
    have SZ := Lib.hid hX.size
    clear hwd
    refine sx_take (i := 1) (oi := ⟨some 18, _, _, _, _, _⟩) (v := ?_) rfl (by kernel_rfl) (by kernel_rfl) (by kernel_rfl) (fun _ _ _ h => h) rfl hX ?_ ?_; rotate_left; (intro W hW; go_simp; try with_reducible rfl); simp only [Act.put, List.setIfInBounds_toArray, List.set_cons_zero, List.set_cons_succ]
    refine sx_take (i := 3) (oi := ⟨some 20, _, _, _, _, _⟩) (v := .agg (wds s).toArray) rfl (by kernel_rfl) (by kernel_rfl) (by kernel_rfl) (fun _ _ _ h => h) rfl hX (ld_blk 24 _ rfl w.heap.size rfl 24 _ _ KS.out KS.out.lt Tryd.underlying24 rfl (size_set s)) ?_
    simp only [Act.put, List.setIfInBounds_toArray, List.set_cons_zero, List.set_cons_succ]
    apply oneEnd5 (H := fun v17 v19 g21 v22 v8 w' => RowS w' v8 qb ∧ Below w4.heap.size w4 w')
    case main =>
      intro fin
      have FIN := Lib.hid fin
      clear fin
      refine sx_two (i := 0) (j := 4) (oi := ⟨some 17, _, _, _, _, _⟩) (oj := ⟨some 21, _, _, _, _, _⟩) rfl rfl (by kernel_rfl) rfl rfl hX (fun K hK => ?_) (fun K hK => ?_)
      · refine wp_bldSet0 36 24 rfl i1 Tryd.underlying36 hi1 hy0 hy1 ?_
        intro w6 hk hb
        refine hK _ _ (hb.mono SZ.out) ?_
        clear hK K
        have o17 := own4_new hk SZ.out
        obtain ⟨v17, hv17⟩ : ∃ v, v = Value.slice (some ⟨w5.heap.size, 0, none⟩) 0 0 := ⟨_, rfl⟩
        rw [← hv17] at o17 ⊢
        skip
        have O17 := Lib.hid o17
        replace hX := hX.trans (hb.mono SZ.out)
        replace SZ := Lib.hid (Nat.le_trans SZ.out hb.size)
        clear hk hb o17 hv17
        refine sx_two (i := 2) (j := 4) (oi := ⟨some 19, _, _, _, _, _⟩) (oj := ⟨some 21, _, _, _, _, _⟩) rfl rfl (by kernel_rfl) rfl rfl hX (fun K hK => ?_) (fun K hK => ?_)
        · refine wp_appQ (base := w4.heap.size) (.tmp 17) (.tmp 18) 36 rfl 24 i1 Tryd.underlying36 hi1 hy0 hy1 hy2 v17 [] rfl O17.out _ ps rfl (RB.out.below hX) (by have := HL10.out; simp; omega) SZ.out ?_
          intro v19 w7 ho hg
          have hb : Below w4.heap.size w6 w7 := (Below.refl _ _).grown hg SZ.out (own4_above O17.out)
          refine hK _ _ hb ?_
          clear hK K
          skip
          have O19 := Lib.hid (show w7.ownsRow w4.heap.size 24 4 v19 ps.length (sets ps) by simpa using ho)
          replace hX := hX.trans hb
          replace SZ := Lib.hid (Nat.le_trans SZ.out hb.size)
          clear ho hg hb O17
          refine sx_actB (i := 4) (o := ⟨some 21, _, _, _, _, _⟩) rfl (by kernel_rfl) rfl hX (fun K hK => ?_)
          refine wp_bldSet1B 36 24 (.tmp 20) rfl i1 Tryd.underlying36 hi1 hy0 hy1 s rfl ?_
          intro w8 hk hb
          refine hK _ _ (hb.mono SZ.out) ?_
          clear hK K
          obtain ⟨g21, hg21⟩ : ∃ g, g = w7.heap.size := ⟨_, rfl⟩
          rw [← hg21] at hk ⊢
          have K21 := Lib.hid hk
          replace O19 := Lib.hid (own4Below O19.out hb (Nat.le_refl _))
          replace hX := hX.trans (hb.mono SZ.out)
          replace SZ := Lib.hid (Nat.le_trans SZ.out hb.size)
          clear hk hb hg21
          refine sx_actB (i := 5) (o := ⟨some 22, _, _, _, _, _⟩) rfl (by kernel_rfl) rfl hX (fun K hK => ?_)
          refine wp_appQ (base := w4.heap.size) (.tmp 19) (.tmp 21) 36 rfl 24 i1 Tryd.underlying36 hi1 hy0 hy1 hy2 v19 ps rfl O19.out _ [s] rfl (rowS_blk K21.out (by simp)) (by have := HL10.out; simp; omega) SZ.out ?_
          intro v22 w81 ho hg
          have hb : Below w4.heap.size w8 w81 := (Below.refl _ _).grown hg SZ.out (own4_above O19.out)
          refine hK _ _ hb ?_
          clear hK K
          have O22 := Lib.hid ho
          replace hX := hX.trans hb
          replace SZ := Lib.hid (Nat.le_trans SZ.out hb.size)
          clear ho hg hb
          refine sx_actB (i := 6) (o := ⟨some 23, _, _, _, _, _⟩) rfl (by kernel_rfl) rfl hX (fun K hK => ?_)
          go_wp2_with fail
          refine (HCB.out w81 v22 (own4_row O22.out) (by have := HL10.out; simp; omega)).mono ?_
          rintro e w9 ⟨v8, rfl, hr8, hb⟩
          refine hK _ _ (hb.mono SZ.out) ?_
          clear hK K
          replace hX := hX.trans (hb.mono SZ.out)
          clear hb
          refine sx_take (i := 7) (oi := ⟨some 8, _, _, _, _, _⟩) (v := ?_) rfl (by kernel_rfl) (by kernel_rfl) (by kernel_rfl) (fun _ _ _ h => h) rfl hX ?_ ?_; rotate_left; (intro W hW; go_simp; try with_reducible rfl); simp only [Act.put, List.setIfInBounds_toArray, List.set_cons_zero, List.set_cons_succ]
          refine wpAnyH_done (by kernel_rfl) ?_ _
          exact FIN.out v17 v19 g21 v22 v8 w9 ⟨hr8, hX⟩
        · refine wp_bldSet1B 36 24 (.tmp 20) rfl i1 Tryd.underlying36 hi1 hy0 hy1 s rfl ?_
          intro w7 hk hb
          refine hK _ _ (hb.mono SZ.out) ?_
          clear hK K
          obtain ⟨g21, hg21⟩ : ∃ g, g = w6.heap.size := ⟨_, rfl⟩
          rw [← hg21] at hk ⊢
          have K21 := Lib.hid hk
          have HNE := Lib.hid (show some g21 ≠ v17.ownBlock from fun h => by have h2 := own4_lt O17.out g21 h.symm; omega)
          replace O17 := Lib.hid (own4Below O17.out hb (Nat.le_refl _))
          replace hX := hX.trans (hb.mono SZ.out)
          replace SZ := Lib.hid (Nat.le_trans SZ.out hb.size)
          clear hk hb hg21
          refine sx_actB (i := 2) (o := ⟨some 19, _, _, _, _, _⟩) rfl (by kernel_rfl) rfl hX (fun K hK => ?_)
          refine wp_appQ (base := w4.heap.size) (.tmp 17) (.tmp 18) 36 rfl 24 i1 Tryd.underlying36 hi1 hy0 hy1 hy2 v17 [] rfl O17.out _ ps rfl (RB.out.below hX) (by have := HL10.out; simp; omega) SZ.out ?_
          intro v19 w8 ho hg
          have hb : Below w4.heap.size w7 w8 := (Below.refl _ _).grown hg SZ.out (own4_above O17.out)
          refine hK _ _ hb ?_
          clear hK K
          replace K21 := Lib.hid (K21.out.grown hg HNE.out)
          have O19 := Lib.hid (show w8.ownsRow w4.heap.size 24 4 v19 ps.length (sets ps) by simpa using ho)
          replace hX := hX.trans hb
          replace SZ := Lib.hid (Nat.le_trans SZ.out hb.size)
          clear ho hg hb O17
          refine sx_actB (i := 5) (o := ⟨some 22, _, _, _, _, _⟩) rfl (by kernel_rfl) rfl hX (fun K hK => ?_)
          refine wp_appQ (base := w4.heap.size) (.tmp 19) (.tmp 21) 36 rfl 24 i1 Tryd.underlying36 hi1 hy0 hy1 hy2 v19 ps rfl O19.out _ [s] rfl (rowS_blk K21.out (by simp)) (by have := HL10.out; simp; omega) SZ.out ?_
          intro v22 w81 ho hg
          have hb : Below w4.heap.size w8 w81 := (Below.refl _ _).grown hg SZ.out (own4_above O19.out)
          refine hK _ _ hb ?_
          clear hK K
          have O22 := Lib.hid ho
          replace hX := hX.trans hb
          replace SZ := Lib.hid (Nat.le_trans SZ.out hb.size)
          clear ho hg hb
          refine sx_actB (i := 6) (o := ⟨some 23, _, _, _, _, _⟩) rfl (by kernel_rfl) rfl hX (fun K hK => ?_)
          go_wp2_with fail
          refine (HCB.out w81 v22 (own4_row O22.out) (by have := HL10.out; simp; omega)).mono ?_
          rintro e w9 ⟨v8, rfl, hr8, hb⟩
          refine hK _ _ (hb.mono SZ.out) ?_
          clear hK K
          replace hX := hX.trans (hb.mono SZ.out)
          clear hb
          refine sx_take (i := 7) (oi := ⟨some 8, _, _, _, _, _⟩) (v := ?_) rfl (by kernel_rfl) (by kernel_rfl) (by kernel_rfl) (fun _ _ _ h => h) rfl hX ?_ ?_; rotate_left; (intro W hW; go_simp; try with_reducible rfl); simp only [Act.put, List.setIfInBounds_toArray, List.set_cons_zero, List.set_cons_succ]
          refine wpAnyH_done (by kernel_rfl) ?_ _
          exact FIN.out v17 v19 g21 v22 v8 w9 ⟨hr8, hX⟩
      · refine wp_bldSet1B 36 24 (.tmp 20) rfl i1 Tryd.underlying36 hi1 hy0 hy1 s rfl ?_
        intro w6 hk hb
        refine hK _ _ (hb.mono SZ.out) ?_
        clear hK K
        obtain ⟨g21, hg21⟩ : ∃ g, g = w5.heap.size := ⟨_, rfl⟩
        rw [← hg21] at hk ⊢
        have K21 := Lib.hid hk
        have HG21 := Lib.hid (show g21 < w6.heap.size from hk.lt)
        replace hX := hX.trans (hb.mono SZ.out)
        replace SZ := Lib.hid (Nat.le_trans SZ.out hb.size)
        clear hk hb hg21
        refine sx_actB (i := 0) (o := ⟨some 17, _, _, _, _, _⟩) rfl (by kernel_rfl) rfl hX (fun K hK => ?_)
        refine wp_bldSet0 36 24 rfl i1 Tryd.underlying36 hi1 hy0 hy1 ?_
        intro w7 hk hb
        refine hK _ _ (hb.mono SZ.out) ?_
        clear hK K
        have o17 := own4_new hk SZ.out
        obtain ⟨v17, hv17⟩ : ∃ v, v = Value.slice (some ⟨w6.heap.size, 0, none⟩) 0 0 := ⟨_, rfl⟩
        rw [← hv17] at o17 ⊢
        replace K21 := Lib.hid (K21.out.below hb K21.out.lt)
        have HNE := Lib.hid (show some g21 ≠ v17.ownBlock by rw [hv17]; intro h; have h2 : g21 = w6.heap.size := Option.some.inj h; have h3 := HG21.out; omega)
        have O17 := Lib.hid o17
        replace hX := hX.trans (hb.mono SZ.out)
        replace SZ := Lib.hid (Nat.le_trans SZ.out hb.size)
        clear hk hb o17 hv17
        refine sx_actB (i := 2) (o := ⟨some 19, _, _, _, _, _⟩) rfl (by kernel_rfl) rfl hX (fun K hK => ?_)
        refine wp_appQ (base := w4.heap.size) (.tmp 17) (.tmp 18) 36 rfl 24 i1 Tryd.underlying36 hi1 hy0 hy1 hy2 v17 [] rfl O17.out _ ps rfl (RB.out.below hX) (by have := HL10.out; simp; omega) SZ.out ?_
        intro v19 w8 ho hg
        have hb : Below w4.heap.size w7 w8 := (Below.refl _ _).grown hg SZ.out (own4_above O17.out)
        refine hK _ _ hb ?_
        clear hK K
        replace K21 := Lib.hid (K21.out.grown hg HNE.out)
        have O19 := Lib.hid (show w8.ownsRow w4.heap.size 24 4 v19 ps.length (sets ps) by simpa using ho)
        replace hX := hX.trans hb
        replace SZ := Lib.hid (Nat.le_trans SZ.out hb.size)
        clear ho hg hb O17
        refine sx_actB (i := 5) (o := ⟨some 22, _, _, _, _, _⟩) rfl (by kernel_rfl) rfl hX (fun K hK => ?_)
        refine wp_appQ (base := w4.heap.size) (.tmp 19) (.tmp 21) 36 rfl 24 i1 Tryd.underlying36 hi1 hy0 hy1 hy2 v19 ps rfl O19.out _ [s] rfl (rowS_blk K21.out (by simp)) (by have := HL10.out; simp; omega) SZ.out ?_
        intro v22 w81 ho hg
        have hb : Below w4.heap.size w8 w81 := (Below.refl _ _).grown hg SZ.out (own4_above O19.out)
        refine hK _ _ hb ?_
        clear hK K
        have O22 := Lib.hid ho
        replace hX := hX.trans hb
        replace SZ := Lib.hid (Nat.le_trans SZ.out hb.size)
        clear ho hg hb
        refine sx_actB (i := 6) (o := ⟨some 23, _, _, _, _, _⟩) rfl (by kernel_rfl) rfl hX (fun K hK => ?_)
        go_wp2_with fail
        refine (HCB.out w81 v22 (own4_row O22.out) (by have := HL10.out; simp; omega)).mono ?_
        rintro e w9 ⟨v8, rfl, hr8, hb⟩
        refine hK _ _ (hb.mono SZ.out) ?_
        clear hK K
        replace hX := hX.trans (hb.mono SZ.out)
        clear hb
        refine sx_take (i := 7) (oi := ⟨some 8, _, _, _, _, _⟩) (v := ?_) rfl (by kernel_rfl) (by kernel_rfl) (by kernel_rfl) (fun _ _ _ h => h) rfl hX ?_ ?_; rotate_left; (intro W hW; go_simp; try with_reducible rfl); simp only [Act.put, List.setIfInBounds_toArray, List.set_cons_zero, List.set_cons_succ]
        refine wpAnyH_done (by kernel_rfl) ?_ _
        exact FIN.out v17 v19 g21 v22 v8 w9 ⟨hr8, hX⟩
    case fin =>
      rintro v17 v19 g21 v22 v8 w6 ⟨hr8, hb⟩
      obtain ⟨A8, cap8, rfl, _, _, _, _⟩ := hr8
      rw [HNB.out]
      have B6 := Lib.hid (B4.out.trans (hb.mono B4.out.size))
      have R6 := Lib.hid (RB.out.below hb)
      clear hb B4 KS RB
      rcases Nat.eq_zero_or_pos ps.length with h0 | h0
      · have e1 := HNIL.out (List.eq_nil_of_length_eq_zero h0)
        subst e1
        have h0' : ((ps.length : Int) == 0) = true := by rw [h0]; rfl
        go_wp2_with fail
        go_ret
        exact ⟨rfl, B6.out⟩
      · have h0' : ((ps.length : Int) == 0) = false := by rw [beq_eq_false_iff_ne]; omega
        have h0'' : ¬ (ps.length : Int) = 0 := by omega
        go_wp2_with fail
        obtain ⟨m, hm⟩ : ∃ m, m = k % ps.length := ⟨_, rfl⟩
        have hml : m < ps.length := by rw [hm]; exact Nat.mod_lt _ h0
        have g1 : (k : Int).tmod (ps.length : Int) = (m : Int) := by rw [hm]; exact tmodN k ps.length
        have g2 : wrap64 (k : Int) = (k : Int) := wr64 k hk
        have g3 : (m : Int) < (ps.length : Int) := Int.ofNat_lt.2 hml
        have g4 : IntKind.i64.wrap (k : Int) = (k : Int) := wr64i k hk
        have hne : ¬ ps = [] := by rintro rfl; simp at h0
        obtain ⟨b0, off, rfl, hb0, hrng⟩ := R6.out.at_ h0
        obtain ⟨x, hx⟩ : ∃ x, x = ps[m]'hml := ⟨_, rfl⟩
        have HRG := Lib.hid (hrng m x (by rw [hx]; exact List.getElem?_eq_getElem hml))
        have hnc := HSM.out x (by rw [hx]; exact List.getElem_mem hml)
        obtain ⟨cx, hcx⟩ : ∃ f : Nat → Bool, (fun b => !x b) = f := ⟨_, rfl⟩
        rw [hcx] at hnc
        obtain ⟨qc, hqc⟩ : ∃ q, parts (ps ++ [cx, x]) = q := ⟨_, rfl⟩
        rw [hqc] at hnc
        have HNC := Lib.hid hnc
        have HCX := Lib.hid hcx
        have HCQ := Lib.hid (fun (w : World) (v : Value) (h : RowS w v (ps ++ [cx, x])) (hl : (ps ++ [cx, x]).length ≤ 2000) => hqc ▸ C.parts v (ps ++ [cx, x]) w h hl)
        have HX := Lib.hid hx
        have HM := Lib.hid hm
        clear hm hrng hx hcx hqc hnc
        go_wp2_with fail
        refine sx_startB (B := w6.heap.size) (w0 := w6) (by kernel_rfl) (Below.refl _ _) (fun w7 hwd hX => ?_)
        have SZ := Lib.hid hX.size
        clear hwd
        refine sx_take (i := 1) (oi := ⟨some 44, _, _, _, _, _⟩) (v := ?_) rfl (by kernel_rfl) (by kernel_rfl) (by kernel_rfl) (fun _ _ _ h => h) rfl hX ?_ ?_; rotate_left; (intro W hW; go_simp; try first | with_reducible rfl | (simp only [g1, g2]; with_reducible rfl)); simp only [Act.put, List.setIfInBounds_toArray, List.set_cons_zero, List.set_cons_succ]
        refine sx_take (i := 3) (oi := ⟨some 46, _, _, _, _, _⟩) (v := ?_) rfl (by kernel_rfl) (by kernel_rfl) (by kernel_rfl) (fun _ _ _ h => h) rfl hX ?_ ?_; rotate_left; (intro W hW; go_simp; try first | with_reducible rfl | (simp only [g1, g2]; with_reducible rfl)); simp only [Act.put, List.setIfInBounds_toArray, List.set_cons_zero, List.set_cons_succ]
        refine sx_take (i := 4) (oi := ⟨some 47, _, _, _, _, _⟩) (v := ?_) rfl (by kernel_rfl) (by kernel_rfl) (by kernel_rfl) (fun _ _ _ h => h) rfl hX ?_ ?_; rotate_left; (intro W hW; go_simp; try first | with_reducible rfl | (simp only [g1, g2]; with_reducible rfl)); simp only [Act.put, List.setIfInBounds_toArray, List.set_cons_zero, List.set_cons_succ]
        refine sx_take (i := 5) (oi := ⟨some 48, _, _, _, _, _⟩) (v := ?_) rfl (by kernel_rfl) (by kernel_rfl) (by kernel_rfl) (fun _ _ _ h => h) rfl hX ?_ ?_; rotate_left; (intro W hW; go_simp; try first | with_reducible rfl | (simp only [g1, g2]; with_reducible rfl)); simp only [Act.put, List.setIfInBounds_toArray, List.set_cons_zero, List.set_cons_succ]
        refine sx_take (i := 6) (oi := ⟨some 49, _, _, _, _, _⟩) (v := ?_) rfl (by kernel_rfl) (by kernel_rfl) (by kernel_rfl) (fun _ _ _ h => h) rfl hX ?_ ?_; rotate_left; (intro W hW; go_simp; try first | with_reducible rfl | (simp only [g1, g2]; with_reducible rfl)); simp only [Act.put, List.setIfInBounds_toArray, List.set_cons_zero, List.set_cons_succ]
        refine sx_take (i := 7) (oi := ⟨some 50, _, _, _, _, _⟩) (v := ?_) rfl (by kernel_rfl) (by kernel_rfl) (by kernel_rfl) (fun _ _ _ h => h) rfl hX ?_ ?_; rotate_left; (intro W hW; go_simp; try first | with_reducible rfl | (simp only [g1, g2]; with_reducible rfl)); simp only [Act.put, List.setIfInBounds_toArray, List.set_cons_zero, List.set_cons_succ]
        refine sx_take (i := 8) (oi := ⟨some 51, _, _, _, _, _⟩) (v := .int .i64 (m : Int)) rfl (by kernel_rfl) (by kernel_rfl) (by kernel_rfl) (fun _ _ _ h => h) rfl hX (by intro W hW; go_simp; try simp [hne, g4, g1]) ?_; simp only [Act.put, List.setIfInBounds_toArray, List.set_cons_zero, List.set_cons_succ]
        refine sx_take (i := 9) (oi := ⟨some 52, _, _, _, _, _⟩) (v := ?_) rfl (by kernel_rfl) (by kernel_rfl) (by kernel_rfl) (fun _ _ _ h => h) rfl hX ?_ ?_; rotate_left; (intro W hW; go_simp; try first | with_reducible rfl | (simp only [g1, g2]; with_reducible rfl)); simp only [Act.put, List.setIfInBounds_toArray, List.set_cons_zero, List.set_cons_succ]
        refine sx_take (i := 10) (oi := ⟨some 53, _, _, _, _, _⟩) (v := .agg (wds x).toArray) rfl (by kernel_rfl) (by kernel_rfl) (by kernel_rfl) (fun _ _ _ h => h) rfl hX (ld_mid 24 _ rfl b0 (off + m * 4) rfl _ _ HRG.out hb0 Tryd.underlying24 rfl (size_set x)) ?_; simp only [Act.put, List.setIfInBounds_toArray, List.set_cons_zero, List.set_cons_succ]
        refine sx_take (i := 12) (oi := ⟨some 55, _, _, _, _, _⟩) (v := ?_) rfl (by kernel_rfl) (by kernel_rfl) (by kernel_rfl) (fun _ _ _ h => h) rfl hX ?_ ?_; rotate_left; (intro W hW; go_simp; try first | with_reducible rfl | (simp only [g1, g2]; with_reducible rfl)); simp only [Act.put, List.setIfInBounds_toArray, List.set_cons_zero, List.set_cons_succ]
        refine sx_take (i := 13) (oi := ⟨some 56, _, _, _, _, _⟩) (v := ?_) rfl (by kernel_rfl) (by kernel_rfl) (by kernel_rfl) (fun _ _ _ h => h) rfl hX ?_ ?_; rotate_left; (intro W hW; go_simp; try first | with_reducible rfl | (simp only [g1, g2]; with_reducible rfl)); simp only [Act.put, List.setIfInBounds_toArray, List.set_cons_zero, List.set_cons_succ]
        refine sx_take (i := 14) (oi := ⟨some 57, _, _, _, _, _⟩) (v := ?_) rfl (by kernel_rfl) (by kernel_rfl) (by kernel_rfl) (fun _ _ _ h => h) rfl hX ?_ ?_; rotate_left; (intro W hW; go_simp; try first | with_reducible rfl | (simp only [g1, g2]; with_reducible rfl)); simp only [Act.put, List.setIfInBounds_toArray, List.set_cons_zero, List.set_cons_succ]
        refine sx_take (i := 15) (oi := ⟨some 58, _, _, _, _, _⟩) (v := ?_) rfl (by kernel_rfl) (by kernel_rfl) (by kernel_rfl) (fun _ _ _ h => h) rfl hX ?_ ?_; rotate_left; (intro W hW; go_simp; try first | with_reducible rfl | (simp only [g1, g2]; with_reducible rfl)); simp only [Act.put, List.setIfInBounds_toArray, List.set_cons_zero, List.set_cons_succ]
        refine sx_take (i := 16) (oi := ⟨some 59, _, _, _, _, _⟩) (v := ?_) rfl (by kernel_rfl) (by kernel_rfl) (by kernel_rfl) (fun _ _ _ h => h) rfl hX ?_ ?_; rotate_left; (intro W hW; go_simp; try first | with_reducible rfl | (simp only [g1, g2]; with_reducible rfl)); simp only [Act.put, List.setIfInBounds_toArray, List.set_cons_zero, List.set_cons_succ]
        refine sx_take (i := 17) (oi := ⟨some 60, _, _, _, _, _⟩) (v := .int .i64 (m : Int)) rfl (by kernel_rfl) (by kernel_rfl) (by kernel_rfl) (fun _ _ _ h => h) rfl hX (by intro W hW; go_simp; try simp [hne, g4, g1]) ?_; simp only [Act.put, List.setIfInBounds_toArray, List.set_cons_zero, List.set_cons_succ]
        refine sx_take (i := 18) (oi := ⟨some 61, _, _, _, _, _⟩) (v := ?_) rfl (by kernel_rfl) (by kernel_rfl) (by kernel_rfl) (fun _ _ _ h => h) rfl hX ?_ ?_; rotate_left; (intro W hW; go_simp; try first | with_reducible rfl | (simp only [g1, g2]; with_reducible rfl)); simp only [Act.put, List.setIfInBounds_toArray, List.set_cons_zero, List.set_cons_succ]
        refine sx_take (i := 19) (oi := ⟨some 62, _, _, _, _, _⟩) (v := .agg (wds x).toArray) rfl (by kernel_rfl) (by kernel_rfl) (by kernel_rfl) (fun _ _ _ h => h) rfl hX (ld_mid 24 _ rfl b0 (off + m * 4) rfl _ _ HRG.out hb0 Tryd.underlying24 rfl (size_set x)) ?_; simp only [Act.put, List.setIfInBounds_toArray, List.set_cons_zero, List.set_cons_succ]
        refine sx_actB (i := 0) (o := ⟨some 43, _, _, _, _, _⟩) rfl (by kernel_rfl) rfl hX (fun K hK => ?_)
        refine wp_bldSet0 36 24 rfl i1 Tryd.underlying36 hi1 hy0 hy1 ?_
        intro w8 hk hb
        refine hK _ _ (hb.mono SZ.out) ?_
        clear hK K
        have o43 := own4_new hk SZ.out
        obtain ⟨v43, hv43⟩ : ∃ v, v = Value.slice (some ⟨w7.heap.size, 0, none⟩) 0 0 := ⟨_, rfl⟩
        rw [← hv43] at o43 ⊢
        skip
        have O43 := Lib.hid o43
        replace hX := hX.trans (hb.mono SZ.out)
        replace SZ := Lib.hid (Nat.le_trans SZ.out hb.size)
        clear hk hb o43 hv43
        refine sx_actB (i := 2) (o := ⟨some 45, _, _, _, _, _⟩) rfl (by kernel_rfl) rfl hX (fun K hK => ?_)
        refine wp_appQ (base := w6.heap.size) (.tmp 43) (.tmp 44) 36 rfl 24 i1 Tryd.underlying36 hi1 hy0 hy1 hy2 v43 [] rfl O43.out _ ps rfl (R6.out.below hX) (by have := HL10.out; simp; omega) SZ.out ?_
        intro v45 w9 ho hg
        have hb : Below w6.heap.size w8 w9 := (Below.refl _ _).grown hg SZ.out (own4_above O43.out)
        refine hK _ _ hb ?_
        clear hK K
        skip
        have O19 := Lib.hid (show w9.ownsRow w6.heap.size 24 4 v45 ps.length (sets ps) by simpa using ho)
        replace hX := hX.trans hb
        replace SZ := Lib.hid (Nat.le_trans SZ.out hb.size)
        clear ho hg hb O43
        refine sx_actB (i := 11) (o := ⟨some 54, _, _, _, _, _⟩) rfl (by kernel_rfl) rfl hX (fun K hK => ?_)
        go_wp2_with fail
        refine (C.not_ x w9).mono ?_
        rintro e w10 ⟨rfl, hb⟩
        rw [HCX.out]
        refine hK _ _ (hb.mono SZ.out) ?_
        clear hK K
        replace O19 := Lib.hid (own4Below O19.out hb (Nat.le_refl _))
        replace hX := hX.trans (hb.mono SZ.out)
        replace SZ := Lib.hid (Nat.le_trans SZ.out hb.size)
        clear hb
        refine sx_actB (i := 20) (o := ⟨some 63, _, _, _, _, _⟩) rfl (by kernel_rfl) rfl hX (fun K hK => ?_)
        refine wp_bldSet2 36 24 (.tmp 54) (.tmp 62) rfl i1 Tryd.underlying36 hi1 hy0 hy1 cx x rfl rfl ?_
        intro w11 hk hb
        refine hK _ _ (hb.mono SZ.out) ?_
        clear hK K
        replace O19 := Lib.hid (own4Below O19.out hb (Nat.le_refl _))
        have K63 := Lib.hid hk
        replace hX := hX.trans (hb.mono SZ.out)
        replace SZ := Lib.hid (Nat.le_trans SZ.out hb.size)
        clear hk hb
        refine sx_actB (i := 21) (o := ⟨some 64, _, _, _, _, _⟩) rfl (by kernel_rfl) rfl hX (fun K hK => ?_)
        refine wp_appQ (base := w6.heap.size) (.tmp 45) (.tmp 63) 36 rfl 24 i1 Tryd.underlying36 hi1 hy0 hy1 hy2 v45 ps rfl O19.out _ [cx, x] rfl (rowS_blk K63.out (by simp)) (by have := HL10.out; simp; omega) SZ.out ?_
        intro v64 w12 ho hg
        have hb : Below w6.heap.size w11 w12 := (Below.refl _ _).grown hg SZ.out (own4_above O19.out)
        refine hK _ _ hb ?_
        clear hK K
        have O64 := Lib.hid ho
        replace hX := hX.trans hb
        replace SZ := Lib.hid (Nat.le_trans SZ.out hb.size)
        clear ho hg hb
        refine sx_actB (i := 22) (o := ⟨some 65, _, _, _, _, _⟩) rfl (by kernel_rfl) rfl hX (fun K hK => ?_)
        go_wp2_with fail
        refine (HCQ.out w12 v64 (own4_row O64.out) (by have := HL10.out; simp; omega)).mono ?_
        rintro e w13 ⟨v65, rfl, hr65, hb⟩
        refine hK _ _ (hb.mono SZ.out) ?_
        clear hK K
        replace hX := hX.trans (hb.mono SZ.out)
        clear hb
        obtain ⟨A65, cap65, rfl, _, _, _, _⟩ := hr65
        rw [HNC.out]
        refine sx_take (i := 23) (oi := ⟨some 9, _, _, _, _, _⟩) (v := ?_) rfl (by kernel_rfl) (by kernel_rfl) (by kernel_rfl) (fun _ _ _ h => h) rfl hX ?_ ?_; rotate_left; (intro W hW; go_simp; try first | with_reducible rfl | (simp only [g1, g2]; with_reducible rfl)); simp only [Act.put, List.setIfInBounds_toArray, List.set_cons_zero, List.set_cons_succ]
        refine wpAnyH_done (by kernel_rfl) ?_ _
        have B13 := Lib.hid (B6.out.trans (hX.mono B6.out.size))
        clear hX
        go_wp2_with fail
        go_ret
        exact ⟨by simp, B13.out⟩
end Go.Proofs.YtaobeconjdeenaaDoor
