/-
  What the document's answer to byteset (Parts) answers and leaves. No statement is proved here.
-/
import Derived.Test.YtaobeconjdeenaaDoorSetD
import Derived.Test.YtaobeconjdeenaaDoorSetS
namespace Go.Proofs.YtaobeconjdeenaaDoor
open Go.RowKit
set_option linter.unusedSimpArgs false
set_option linter.unusedVariables false

theorem firstJ_mono (ps : List (Nat → Bool)) (j : Nat) : ∀ d, (firstJ ps j).length ≤ (firstJ ps (j + d)).length
  | 0 => Nat.le_refl _
  | d + 1 => by
    refine Nat.le_trans (firstJ_mono ps j d) ?_
    rw [show j + (d + 1) = (j + d) + 1 from rfl]
    simp only [firstJ]
    split
    · exact Nat.le_refl _
    · rw [List.length_append]; omega
theorem clsOf_lt (ps : List (Nat → Bool)) {j : Nat} (hj : j < 256) : clsOf ps j < (firstJ ps 256).length := by
  have h1 := firstJ_mono ps (j + 1) (256 - (j + 1))
  rw [show j + 1 + (256 - (j + 1)) = 256 from by omega] at h1
  have h2 := clsOf_le ps j
  rcases Nat.lt_or_ge (clsOf ps j) (firstJ ps j).length with h | h
  · rw [firstJ_hit h] at h1
    omega
  · rw [firstJ_new (by omega), List.length_append] at h1
    simp at h1
    omega
/-- The parts behind j bytes. -/
def outs (ps : List (Nat → Bool)) (n j : Nat) : List (Nat → Bool) := (List.range n).map fun k b => decide (b < j) && decide (clsOf ps b = k)
theorem outs_length (ps : List (Nat → Bool)) (n j : Nat) : (outs ps n j).length = n := by simp [outs]
theorem outs_at (ps : List (Nat → Bool)) (n j i : Nat) (h : i < (outs ps n j).length) : (outs ps n j)[i] = fun b => decide (b < j) && decide (clsOf ps b = i) := by
  simp only [outs, List.getElem_map, List.getElem_range]
theorem outs_get {ps : List (Nat → Bool)} {n j k : Nat} (hk : k < n) : (outs ps n j)[k]? = some fun b => decide (b < j) && decide (clsOf ps b = k) := by simp [outs, hk]
theorem sets_congr : ∀ {ps qs : List (Nat → Bool)}, ps.length = qs.length → (∀ (i : Nat) (h1 : i < ps.length) (h2 : i < qs.length), wds ps[i] = wds qs[i]) → sets ps = sets qs
  | [], [], _, _ => rfl
  | [], _ :: _, h, _ => by simp at h
  | _ :: _, [], h, _ => by simp at h
  | p :: r, q :: s, h, hw => by
    rw [sets_cons, sets_cons]
    have h0 := hw 0 (by simp) (by simp)
    simp only [List.getElem_cons_zero] at h0
    rw [h0, sets_congr (ps := r) (qs := s) (by simpa using h) (fun i h1 h2 => hw (i + 1) (by simpa using h1) (by simpa using h2))]
theorem outs_zero (ps : List (Nat → Bool)) (n : Nat) : sets (List.replicate n fun _ => false) = sets (outs ps n 0) :=
  sets_congr (by simp [outs]) fun i h1 h2 => by
    refine wds_congr fun b hb => ?_
    rw [outs_at, List.getElem_replicate]
    simp
theorem outs_next (ps : List (Nat → Bool)) (n j : Nat) (hj : j < 256) (hk : clsOf ps j < n) :
    sets ((outs ps n j).set (clsOf ps j) (fun b => (decide (b < j) && decide (clsOf ps b = clsOf ps j)) || decide (UInt8.ofNat b ∈ [UInt8.ofNat j]))) = sets (outs ps n (j + 1)) :=
  sets_congr (by simp [outs]) fun i h1 h2 => by
    refine wds_congr fun b hb => ?_
    have hbj : decide (UInt8.ofNat b ∈ [UInt8.ofNat j]) = decide (b = j) := by
      have := mem_next b (UInt8.ofNat j) j hb (by rw [UInt8.toNat_ofNat', Nat.mod_eq_of_lt hj]) []
      simpa using this
    rw [List.getElem_set]
    by_cases hi : clsOf ps j = i
    · subst hi
      rw [if_pos rfl]
      rw [outs_at, hbj]
      by_cases hb1 : b = j
      · subst hb1; simp
      · have e : decide (b < j + 1) = decide (b < j) := decide_eq_decide.2 (by omega)
        simp [hb1, e]
    · rw [if_neg hi, outs_at, outs_at]
      by_cases hb1 : b = j
      · subst hb1; simp [hi]
      · have e : decide (b < j + 1) = decide (b < j) := decide_eq_decide.2 (by omega)
        simp only [e]
theorem inf_set : (Tryd.prog.info? 24).map (fun i => (i.zero, i.size, i.bytes)) = some (some (.agg (wds fun _ => false).toArray), 4, 32) := by kernel_rfl

set_option maxHeartbeats 8000000 in
set_option maxRecDepth 100000 in
theorem refParts_any (v : Value) (ps : List (Nat → Bool)) (w : World) (hr : RowS w v ps) (hl : ps.length ≤ 1048576) :
    Calls Tryd.prog 29 #[v] w fun e w' => ∃ g, e = .returned (.slice (some ⟨g, 0, none⟩) (firstJ ps 256).length (firstJ ps 256).length) ∧ Blk w' g 24 (sets (outs ps (firstJ ps 256).length 256)) ∧ w.heap.size ≤ g ∧ Below w.heap.size w w' := by
  have R0 := Lib.hid hr
  clear hr
  obtain ⟨n, hn⟩ : ∃ n, n = (firstJ ps 256).length := ⟨_, rfl⟩
  have hn256 : n ≤ 256 := by rw [hn]; exact firstJ_len ps 256
  obtain ⟨c, hc⟩ : ∃ c, c = ctab ps 256 := ⟨_, rfl⟩
  have HCL := Lib.hid (show c.length = 256 by rw [hc]; exact ctab_length _ _)
  have HC := Lib.hid hc
  rw [← hn]
  have HN := Lib.hid hn
  clear hn hc
  obtain ⟨i0, hi0, hz0⟩ := ctab_zero
  obtain ⟨z, hz⟩ : ∃ z, z = ctab [] 0 := ⟨_, rfl⟩
  have HZL := Lib.hid (show z.length = 256 by rw [hz]; exact ctab_length _ _)
  rw [← hz] at hz0
  clear hz
  obtain ⟨i1, hi1, hy0, hy1, hy2⟩ := infoP inf_set
  go_enter Tryd.func29, Tryd.ntmps29
  go_wp2_with fail
  refine (refClasses_any v ps w R0.out hl).mono ?_
  rintro e w1 ⟨rfl, hb1⟩
  rw [← HC.out, ← HN.out]
  have B1 := Lib.hid hb1
  clear hb1
  go_wp2_with (first
    | ((with_reducible refine atDst 3 ?_); refine wpList_new rfl 49 rfl i0 _ (bvs z) hi0 hz0 rfl B1.out B1.out.size ?_; intro w2 hk2 hb2 hs2 ho2; have K2 := Lib.hid hk2; have B2 := Lib.hid hb2; clear hk2 hb2 hs2 ho2)
    | ((with_reducible refine atStore 49 3 10 ?_); refine wpList_stBlk rfl 49 _ _ rfl w1.heap.size (bvs c) rfl rfl 49 _ K2.out (size_ctab HCL.out) (by rw [bvs_length, bvs_length, HZL.out, HCL.out]) (bvs_all' _) B2.out B1.out.size ?_; intro w3 hk3 hb3 hs3 _; have K3 := Lib.hid hk3; have B3 := Lib.hid hb3; clear hk3 hb3 hs3)
    | ((with_reducible refine atDst 13 ?_); refine wpList_mkSets rfl (.tmp 12) (.tmp 12) 36 rfl 24 i1 Tryd.underlying36 hi1 hy0 hy1 hy2 n rfl rfl (by omega) ?_; intro w4 hk4 hb4 hs4; have G4 := Lib.hid hk4; have K4 := Lib.hid (K3.out.below hb4 K3.out.lt); have B4 := Lib.hid (B3.out.trans (hb4.mono B3.out.size)); have S4 := Lib.hid hs4; clear hk4 hb4 hs4))
  go_loopw [6] (fun i wl => ∃ j : Nat, j ≤ 256 ∧ i = .int .i64 (j : Int) ∧ Blk wl w3.heap.size 24 (sets (outs ps n j)) ∧ Below w3.heap.size w4 wl) (fun i _ => 256 - (intOf i).toNat)
  case atStart => exact ⟨0, by omega, by simp, by rw [← outs_zero]; exact G4.out, Below.refl _ _⟩
  case round =>
    obtain ⟨j, hj, rfl, hk, hb⟩ := hrel
    have HK := Lib.hid hk
    have HB := Lib.hid hb
    clear hk hb
    by_cases hjl : j < 256
    · have j1 : (j : Int) < 256 := by omega
      have hw8 : IntKind.u8.wrap (j : Int) = (j : Int) := IntWalk.u8_in _ (by omega)
      obtain ⟨k, hk⟩ : ∃ k, k = clsOf ps j := ⟨_, rfl⟩
      have hkn : k < n := by rw [hk, HN.out]; exact clsOf_lt ps hjl
      have hck := (K4.out.below HB.out K3.out.lt).cell j
      rw [bvs_get c j (UInt8.ofNat k) (by rw [HC.out, hk]; simp [ctab, hjl]), bv_ofNat (by omega)] at hck
      have hcW : ∀ W, Below w3.heap.size wr W → W.cell? ⟨w1.heap.size, j, none⟩ = some (.int .u8 (k : Int)) := fun W hW => (hW.cell (p := ⟨w1.heap.size, j, none⟩) K3.out.lt).trans hck
      have SR := Lib.hid HB.out.size
      have HKK := Lib.hid hk
      clear hk
      have k1 : (k : Int) < (n : Int) := by omega
      go_wp2_with fail
      refine sx_startB (B := w3.heap.size) (w0 := wr) (by kernel_rfl) (Below.refl _ _) (fun wd hwd hX => ?_)
      have HKD := Lib.hid (show Blk wd w3.heap.size 24 (sets (outs ps n j)) by rw [hwd]; exact HK.out.drew)
      clear hwd hck
      obtain ⟨q, hq⟩ : ∃ q : Nat → Bool, q = fun b => decide (b < j) && decide (clsOf ps b = k) := ⟨_, rfl⟩
      obtain ⟨r, hr⟩ : ∃ r : Nat → Bool, r = fun b => decide (UInt8.ofNat b ∈ [UInt8.ofNat j]) := ⟨_, rfl⟩
      obtain ⟨s, hs⟩ : ∃ s : Nat → Bool, s = fun b => q b || r b := ⟨_, rfl⟩
      have HQQ := Lib.hid (show (outs ps n j)[k]? = some q by rw [hq]; exact outs_get hkn)
      have HSX := Lib.hid (show sets ((outs ps n j).set k s) = sets (outs ps n (j + 1)) by
        rw [hs, hq, hr, HKK.out]
        exact outs_next ps n j hjl (by rw [← HKK.out]; exact hkn))
      have HRR := Lib.hid hr
      have HSS := Lib.hid hs
      have SD := Lib.hid (show w3.heap.size ≤ wd.heap.size from Nat.le_of_lt HKD.out.lt)
      clear hq hr hs
      refine sx_take (i := 0) (oi := ⟨some 18, _, _, _, _, _⟩) (v := ?_) rfl (by kernel_rfl) (by kernel_rfl) (by kernel_rfl) (fun _ _ _ h => h) rfl hX ?_ ?_; rotate_left; (intro W hW; go_simp; try with_reducible rfl); simp only [Act.put, List.setIfInBounds_toArray, List.set_cons_zero, List.set_cons_succ]
      refine sx_take (i := 1) (oi := ⟨some 19, _, _, _, _, _⟩) (v := ?_) rfl (by kernel_rfl) (by kernel_rfl) (by kernel_rfl) (fun _ _ _ h => h) rfl hX ?_ ?_; rotate_left; (intro W hW; go_simp; try with_reducible rfl); simp only [Act.put, List.setIfInBounds_toArray, List.set_cons_zero, List.set_cons_succ]
      refine sx_take (i := 2) (oi := ⟨some 20, _, _, _, _, _⟩) (v := ?_) rfl (by kernel_rfl) (by kernel_rfl) (by kernel_rfl) (fun _ _ _ h => h) rfl hX ?_ ?_; rotate_left; (intro W hW; go_simp; try with_reducible rfl); simp only [Act.put, List.setIfInBounds_toArray, List.set_cons_zero, List.set_cons_succ]
      refine sx_take (i := 3) (oi := ⟨some 21, _, _, _, _, _⟩) (v := ?_) rfl (by kernel_rfl) (by kernel_rfl) (by kernel_rfl) (fun _ _ _ h => h) rfl hX ?_ ?_; rotate_left; (intro W hW; go_simp; try with_reducible rfl); simp only [Act.put, List.setIfInBounds_toArray, List.set_cons_zero, List.set_cons_succ]
      refine sx_take (i := 4) (oi := ⟨some 22, _, _, _, _, _⟩) (v := ?_) rfl (by kernel_rfl) (by kernel_rfl) (by kernel_rfl) (fun _ _ _ h => h) rfl hX ?_ ?_; rotate_left; (intro W hW; go_simp; try with_reducible rfl); simp only [Act.put, List.setIfInBounds_toArray, List.set_cons_zero, List.set_cons_succ]
      refine sx_take (i := 5) (oi := ⟨some 23, _, _, _, _, _⟩) (v := ?_) rfl (by kernel_rfl) (by kernel_rfl) (by kernel_rfl) (fun _ _ _ h => h) rfl hX ?_ ?_; rotate_left; (intro W hW; go_simp; try with_reducible rfl); simp only [Act.put, List.setIfInBounds_toArray, List.set_cons_zero, List.set_cons_succ]
      refine sx_take (i := 6) (oi := ⟨some 24, _, _, _, _, _⟩) (v := ?_) rfl (by kernel_rfl) (by kernel_rfl) (by kernel_rfl) (fun _ _ _ h => h) rfl hX ?_ ?_; rotate_left; (intro W hW; go_simp; try with_reducible rfl); simp only [Act.put, List.setIfInBounds_toArray, List.set_cons_zero, List.set_cons_succ]
      refine sx_take (i := 7) (oi := ⟨some 25, _, _, _, _, _⟩) (v := ?_) rfl (by kernel_rfl) (by kernel_rfl) (by kernel_rfl) (fun _ _ _ h => h) rfl hX ?_ ?_; rotate_left; (intro W hW; go_simp; try with_reducible rfl); simp only [Act.put, List.setIfInBounds_toArray, List.set_cons_zero, List.set_cons_succ]
      refine sx_take (i := 8) (oi := ⟨some 26, _, _, _, _, _⟩) (v := ?_) rfl (by kernel_rfl) (by kernel_rfl) (by kernel_rfl) (fun _ _ _ h => h) rfl hX ?_ ?_; rotate_left; (intro W hW; go_simp; try with_reducible rfl); simp only [Act.put, List.setIfInBounds_toArray, List.set_cons_zero, List.set_cons_succ]
      refine sx_take (i := 10) (oi := ⟨some 28, _, _, _, _, _⟩) (v := ?_) rfl (by kernel_rfl) (by kernel_rfl) (by kernel_rfl) (fun _ _ _ h => h) rfl hX ?_ ?_; rotate_left; (intro W hW; go_simp; try with_reducible rfl); simp only [Act.put, List.setIfInBounds_toArray, List.set_cons_zero, List.set_cons_succ]
      refine sx_take (i := 11) (oi := ⟨some 29, _, _, _, _, _⟩) (v := ?_) rfl (by kernel_rfl) (by kernel_rfl) (by kernel_rfl) (fun _ _ _ h => h) rfl hX ?_ ?_; rotate_left; (intro W hW; go_simp; try with_reducible rfl); simp only [Act.put, List.setIfInBounds_toArray, List.set_cons_zero, List.set_cons_succ]
      refine sx_two (i := 9) (j := 12) (oi := ⟨some 27, _, _, _, _, _⟩) (oj := ⟨some 30, _, _, _, _, _⟩) rfl rfl (by kernel_rfl) rfl rfl hX (fun K hK => ?_) (fun K hK => ?_)
      · refine wp_load_mid 24 _ rfl w3.heap.size (k * 4) rfl (wds q) _ (HKD.out.range HQQ.out) Tryd.underlying24 rfl (size_set q) ?_
        refine hK _ _ (Below.refl _ _) ?_
        clear hK K
        simp only [Act.put, List.setIfInBounds_toArray, List.set_cons_zero, List.set_cons_succ]
        refine sx_actB (i := 12) (o := ⟨some 30, _, _, _, _, _⟩) rfl (by kernel_rfl) rfl hX (fun K hK => ?_)
        go_wp2_with fail
        refine hK _ _ ((Below.refl _ _).alloc SD.out _) ?_
        clear hK K
        replace hX := hX.alloc SD.out (.cells #[.int .u8 (j : Int)] 5)
        have HK12 := Lib.hid (HKD.out.alloc (.cells #[.int .u8 (j : Int)] 5))
        have S12 := Lib.hid (show w3.heap.size ≤ (wd.alloc (.cells #[.int .u8 (j : Int)] 5)).heap.size from Nat.le_of_lt HK12.out.lt)
        have R12 := Lib.hid (rowB (n := 1) (show Blk (wd.alloc (.cells #[.int .u8 (j : Int)] 5)) wd.heap.size 5 (bvs [UInt8.ofNat j]) by
          have := Blk.new wd 5 (bvs [UInt8.ofNat j])
          rw [show bvs [UInt8.ofNat j] = [.int .u8 (j : Int)] from congrArg (fun x => [x]) (bv_ofNat hjl)] at this ⊢
          exact this) rfl (by omega))
        refine sx_actB (i := 13) (o := ⟨some 31, _, _, _, _, _⟩) rfl (by kernel_rfl) rfl hX (fun K hK => ?_)
        go_wp2_with fail
        refine (refOf_any _ [UInt8.ofNat j] _ R12.out (by simp)).mono ?_
        rintro e w6 ⟨rfl, hb6⟩
        rw [← HRR.out]
        refine hK _ _ (hb6.mono S12.out) ?_
        clear hK K
        replace hX := hX.trans (hb6.mono S12.out)
        have HK13 := Lib.hid (HK12.out.below hb6 HK12.out.lt)
        have S13 := Lib.hid (Nat.le_trans S12.out hb6.size)
        clear hb6
        refine sx_actB (i := 14) (o := ⟨some 32, _, _, _, _, _⟩) rfl (by kernel_rfl) rfl hX (fun K hK => ?_)
        go_wp2_with fail
        refine (refOr_any q r w6).mono ?_
        rintro e w7 ⟨rfl, hb7⟩
        rw [← HSS.out]
        refine hK _ _ (hb7.mono S13.out) ?_
        clear hK K
        replace hX := hX.trans (hb7.mono S13.out)
        have HK14 := Lib.hid (HK13.out.below hb7 HK13.out.lt)
        clear hb7
        refine sx_take (i := 15) (oi := ⟨some 33, _, _, _, _, _⟩) (v := ?_) rfl (by kernel_rfl) (by kernel_rfl) (by kernel_rfl) (fun _ _ _ h => h) rfl hX ?_ ?_; rotate_left; (intro W hW; go_simp; try with_reducible rfl); simp only [Act.put, List.setIfInBounds_toArray, List.set_cons_zero, List.set_cons_succ]
        refine sx_actB (i := 16) (o := ⟨none, _, _, _, _, _⟩) rfl (by kernel_rfl) rfl hX (fun K hK => ?_)
        refine wp_store_mid 24 _ _ rfl w3.heap.size (k * 4) (wds s).toArray rfl rfl (HK14.out.there (by rw [sets_length, outs_length]; show k * 4 + 4 ≤ n * 4; omega)) (by have := size_set s; simpa using this) (by have := wds_all s; simpa using this) ?_
        refine hK _ _ (below_setCells (Nat.le_refl _) (Below.refl _ _)) ?_
        clear hK K
        refine wpAnyH_done (by kernel_rfl) ?_ _
        have HKZ := Lib.hid (show Blk (w7.setCells w3.heap.size (k * 4) (wds s)) w3.heap.size 24 (sets (outs ps n (j + 1))) by
          have := HK14.out.setCells (o := k * 4) (vs := wds s) (by rw [sets_length, outs_length]; show k * 4 + 4 ≤ n * 4; omega)
          rw [sets_set _ _ _ (by rw [outs_length]; exact hkn), HSX.out] at this
          exact this)
        have HBZ := Lib.hid (HB.out.trans (below_setCells (vs := wds s) (o := k * 4) (Nat.le_refl w3.heap.size) hX))
        go_wp2_with fail
        exact ⟨⟨j + 1, by omega, by congr 1, HKZ.out, HBZ.out⟩, by simp [intOf] <;> omega⟩
      · go_wp2_with fail
        refine hK _ _ ((Below.refl _ _).alloc SD.out _) ?_
        clear hK K
        replace hX := hX.alloc SD.out (.cells #[.int .u8 (j : Int)] 5)
        have HK12 := Lib.hid (HKD.out.alloc (.cells #[.int .u8 (j : Int)] 5))
        have S12 := Lib.hid (show w3.heap.size ≤ (wd.alloc (.cells #[.int .u8 (j : Int)] 5)).heap.size from Nat.le_of_lt HK12.out.lt)
        have R12 := Lib.hid (rowB (n := 1) (show Blk (wd.alloc (.cells #[.int .u8 (j : Int)] 5)) wd.heap.size 5 (bvs [UInt8.ofNat j]) by
          have := Blk.new wd 5 (bvs [UInt8.ofNat j])
          rw [show bvs [UInt8.ofNat j] = [.int .u8 (j : Int)] from congrArg (fun x => [x]) (bv_ofNat hjl)] at this ⊢
          exact this) rfl (by omega))
        refine sx_two (i := 9) (j := 13) (oi := ⟨some 27, _, _, _, _, _⟩) (oj := ⟨some 31, _, _, _, _, _⟩) rfl rfl (by kernel_rfl) rfl rfl hX (fun K hK => ?_) (fun K hK => ?_)
        · refine wp_load_mid 24 _ rfl w3.heap.size (k * 4) rfl (wds q) _ (HK12.out.range HQQ.out) Tryd.underlying24 rfl (size_set q) ?_
          refine hK _ _ (Below.refl _ _) ?_
          clear hK K
          simp only [Act.put, List.setIfInBounds_toArray, List.set_cons_zero, List.set_cons_succ]
          refine sx_actB (i := 13) (o := ⟨some 31, _, _, _, _, _⟩) rfl (by kernel_rfl) rfl hX (fun K hK => ?_)
          go_wp2_with fail
          refine (refOf_any _ [UInt8.ofNat j] _ R12.out (by simp)).mono ?_
          rintro e w6 ⟨rfl, hb6⟩
          rw [← HRR.out]
          refine hK _ _ (hb6.mono S12.out) ?_
          clear hK K
          replace hX := hX.trans (hb6.mono S12.out)
          have HK13 := Lib.hid (HK12.out.below hb6 HK12.out.lt)
          have S13 := Lib.hid (Nat.le_trans S12.out hb6.size)
          clear hb6
          refine sx_actB (i := 14) (o := ⟨some 32, _, _, _, _, _⟩) rfl (by kernel_rfl) rfl hX (fun K hK => ?_)
          go_wp2_with fail
          refine (refOr_any q r w6).mono ?_
          rintro e w7 ⟨rfl, hb7⟩
          rw [← HSS.out]
          refine hK _ _ (hb7.mono S13.out) ?_
          clear hK K
          replace hX := hX.trans (hb7.mono S13.out)
          have HK14 := Lib.hid (HK13.out.below hb7 HK13.out.lt)
          clear hb7
          refine sx_take (i := 15) (oi := ⟨some 33, _, _, _, _, _⟩) (v := ?_) rfl (by kernel_rfl) (by kernel_rfl) (by kernel_rfl) (fun _ _ _ h => h) rfl hX ?_ ?_; rotate_left; (intro W hW; go_simp; try with_reducible rfl); simp only [Act.put, List.setIfInBounds_toArray, List.set_cons_zero, List.set_cons_succ]
          refine sx_actB (i := 16) (o := ⟨none, _, _, _, _, _⟩) rfl (by kernel_rfl) rfl hX (fun K hK => ?_)
          refine wp_store_mid 24 _ _ rfl w3.heap.size (k * 4) (wds s).toArray rfl rfl (HK14.out.there (by rw [sets_length, outs_length]; show k * 4 + 4 ≤ n * 4; omega)) (by have := size_set s; simpa using this) (by have := wds_all s; simpa using this) ?_
          refine hK _ _ (below_setCells (Nat.le_refl _) (Below.refl _ _)) ?_
          clear hK K
          refine wpAnyH_done (by kernel_rfl) ?_ _
          have HKZ := Lib.hid (show Blk (w7.setCells w3.heap.size (k * 4) (wds s)) w3.heap.size 24 (sets (outs ps n (j + 1))) by
            have := HK14.out.setCells (o := k * 4) (vs := wds s) (by rw [sets_length, outs_length]; show k * 4 + 4 ≤ n * 4; omega)
            rw [sets_set _ _ _ (by rw [outs_length]; exact hkn), HSX.out] at this
            exact this)
          have HBZ := Lib.hid (HB.out.trans (below_setCells (vs := wds s) (o := k * 4) (Nat.le_refl w3.heap.size) hX))
          go_wp2_with fail
          exact ⟨⟨j + 1, by omega, by congr 1, HKZ.out, HBZ.out⟩, by simp [intOf] <;> omega⟩
        · go_wp2_with fail
          refine (refOf_any _ [UInt8.ofNat j] _ R12.out (by simp)).mono ?_
          rintro e w6 ⟨rfl, hb6⟩
          rw [← HRR.out]
          refine hK _ _ (hb6.mono S12.out) ?_
          clear hK K
          replace hX := hX.trans (hb6.mono S12.out)
          have HK13 := Lib.hid (HK12.out.below hb6 HK12.out.lt)
          have S13 := Lib.hid (Nat.le_trans S12.out hb6.size)
          clear hb6
          refine sx_actB (i := 9) (o := ⟨some 27, _, _, _, _, _⟩) rfl (by kernel_rfl) rfl hX (fun K hK => ?_)
          refine wp_load_mid 24 _ rfl w3.heap.size (k * 4) rfl (wds q) _ (HK13.out.range HQQ.out) Tryd.underlying24 rfl (size_set q) ?_
          refine hK _ _ (Below.refl _ _) ?_
          clear hK K
          simp only [Act.put, List.setIfInBounds_toArray, List.set_cons_zero, List.set_cons_succ]
          refine sx_actB (i := 14) (o := ⟨some 32, _, _, _, _, _⟩) rfl (by kernel_rfl) rfl hX (fun K hK => ?_)
          go_wp2_with fail
          refine (refOr_any q r w6).mono ?_
          rintro e w7 ⟨rfl, hb7⟩
          rw [← HSS.out]
          refine hK _ _ (hb7.mono S13.out) ?_
          clear hK K
          replace hX := hX.trans (hb7.mono S13.out)
          have HK14 := Lib.hid (HK13.out.below hb7 HK13.out.lt)
          clear hb7
          refine sx_take (i := 15) (oi := ⟨some 33, _, _, _, _, _⟩) (v := ?_) rfl (by kernel_rfl) (by kernel_rfl) (by kernel_rfl) (fun _ _ _ h => h) rfl hX ?_ ?_; rotate_left; (intro W hW; go_simp; try with_reducible rfl); simp only [Act.put, List.setIfInBounds_toArray, List.set_cons_zero, List.set_cons_succ]
          refine sx_actB (i := 16) (o := ⟨none, _, _, _, _, _⟩) rfl (by kernel_rfl) rfl hX (fun K hK => ?_)
          refine wp_store_mid 24 _ _ rfl w3.heap.size (k * 4) (wds s).toArray rfl rfl (HK14.out.there (by rw [sets_length, outs_length]; show k * 4 + 4 ≤ n * 4; omega)) (by have := size_set s; simpa using this) (by have := wds_all s; simpa using this) ?_
          refine hK _ _ (below_setCells (Nat.le_refl _) (Below.refl _ _)) ?_
          clear hK K
          refine wpAnyH_done (by kernel_rfl) ?_ _
          have HKZ := Lib.hid (show Blk (w7.setCells w3.heap.size (k * 4) (wds s)) w3.heap.size 24 (sets (outs ps n (j + 1))) by
            have := HK14.out.setCells (o := k * 4) (vs := wds s) (by rw [sets_length, outs_length]; show k * 4 + 4 ≤ n * 4; omega)
            rw [sets_set _ _ _ (by rw [outs_length]; exact hkn), HSX.out] at this
            exact this)
          have HBZ := Lib.hid (HB.out.trans (below_setCells (vs := wds s) (o := k * 4) (Nat.le_refl w3.heap.size) hX))
          go_wp2_with fail
          exact ⟨⟨j + 1, by omega, by congr 1, HKZ.out, HBZ.out⟩, by simp [intOf] <;> omega⟩
    · obtain rfl : j = 256 := by omega
      have j1 : ¬ ((256 : Int) < 256) := by omega
      have G9 := Lib.hid HK.out
      have B9 := Lib.hid (B4.out.trans (HB.out.mono B3.out.size))
      clear HK
      go_wp2_with fail
      go_ret
      exact ⟨w3.heap.size, rfl, G9.out, B3.out.size, B9.out⟩
end Go.Proofs.YtaobeconjdeenaaDoor
