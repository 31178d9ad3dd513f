/-
  What the document's answer to byteset (Classes) answers and leaves. No statement is proved here.
-/
import Derived.Test.YtaobeconjdeenaaDoorSetC
namespace Go.Proofs.YtaobeconjdeenaaDoor
open Go.RowKit
set_option linter.unusedSimpArgs false
set_option linter.unusedVariables false

/-- The first bytes of the parts, among the bytes below j. -/
def firstJ (ps : List (Nat → Bool)) : Nat → List Nat
  | 0 => []
  | j + 1 => if (firstJ ps j).any (fun f => alikeS ps j f) then firstJ ps j else firstJ ps j ++ [j]
/-- The number of a byte's part. -/
def clsOf (ps : List (Nat → Bool)) (j : Nat) : Nat := (firstJ ps j).findIdx fun f => alikeS ps j f
theorem firstJ_len (ps : List (Nat → Bool)) : ∀ j, (firstJ ps j).length ≤ j
  | 0 => Nat.le_refl _
  | j + 1 => by
    have := firstJ_len ps j
    simp only [firstJ]
    split
    · omega
    · rw [List.length_append]; simp; omega
theorem firstJ_lt (ps : List (Nat → Bool)) : ∀ (j f : Nat), f ∈ firstJ ps j → f < j
  | 0, _, h => by simp [firstJ] at h
  | j + 1, f, h => by
    simp only [firstJ] at h
    split at h
    · exact Nat.lt_succ_of_lt (firstJ_lt ps j f h)
    · rcases List.mem_append.1 h with h | h
      · exact Nat.lt_succ_of_lt (firstJ_lt ps j f h)
      · have : f = j := by simpa using h
        omega
theorem clsOf_le (ps : List (Nat → Bool)) (j : Nat) : clsOf ps j ≤ (firstJ ps j).length := List.findIdx_le_length
theorem firstJ_hit {ps : List (Nat → Bool)} {j : Nat} (h : clsOf ps j < (firstJ ps j).length) : firstJ ps (j + 1) = firstJ ps j := by
  have : (firstJ ps j).any (fun f => alikeS ps j f) = true := by
    rw [List.any_eq_true]
    exact ⟨(firstJ ps j)[clsOf ps j], List.getElem_mem h, List.findIdx_getElem (w := h)⟩
  simp only [firstJ]
  rw [if_pos this]
theorem firstJ_new {ps : List (Nat → Bool)} {j : Nat} (h : clsOf ps j = (firstJ ps j).length) : firstJ ps (j + 1) = firstJ ps j ++ [j] := by
  have : ¬ (firstJ ps j).any (fun f => alikeS ps j f) = true := by
    rw [List.any_eq_true]
    rintro ⟨f, hf, ha⟩
    have := List.findIdx_lt_length_of_exists (p := fun f => alikeS ps j f) ⟨f, hf, ha⟩
    unfold clsOf at h
    omega
  simp only [firstJ]
  rw [if_neg this]
theorem clsOf_next {ps : List (Nat → Bool)} {j k : Nat} (hk : k ≤ clsOf ps j) (hl : k < (firstJ ps j).length) (h : alikeS ps j (firstJ ps j)[k] = false) : k + 1 ≤ clsOf ps j := by
  rcases Nat.lt_or_ge k (clsOf ps j) with h1 | h1
  · exact h1
  · have e : k = clsOf ps j := by omega
    subst e
    have := List.findIdx_getElem (p := fun f => alikeS ps j f) (w := hl)
    exact absurd (this.symm.trans h) (by simp)
theorem clsOf_stop {ps : List (Nat → Bool)} {j k : Nat} (hk : k ≤ clsOf ps j) (hl : k < (firstJ ps j).length) (h : alikeS ps j (firstJ ps j)[k] = true) : clsOf ps j = k := by
  refine Nat.le_antisymm ?_ hk
  exact Nat.le_of_not_lt fun hlt => by
    have := List.not_of_lt_findIdx (p := fun f => alikeS ps j f) (xs := firstJ ps j) hlt
    rw [h] at this
    cases this
/-- The table of numbers behind j bytes. -/
def ctab (ps : List (Nat → Bool)) (j : Nat) : List UInt8 := (List.range 256).map fun b => if b < j then UInt8.ofNat (clsOf ps b) else 0
theorem ctab_length (ps : List (Nat → Bool)) (j : Nat) : (ctab ps j).length = 256 := by simp [ctab]
theorem ctab_next (ps : List (Nat → Bool)) (j : Nat) (hj : j < 256) : (ctab ps j).set j (UInt8.ofNat (clsOf ps j)) = ctab ps (j + 1) := by
  apply List.ext_getElem
  · simp [ctab]
  · intro i h1 h2
    simp only [ctab, List.getElem_set, List.getElem_map, List.getElem_range]
    by_cases h : j = i
    · subst h
      simp
    · rw [if_neg h]
      by_cases hi : i < j
      · rw [if_pos hi, if_pos (by omega)]
      · rw [if_neg hi, if_neg (by omega)]
theorem ctab_zero : ∃ i : TypeInfo, Tryd.prog.info? 49 = some i ∧ i.zero = some (.agg (bvs (ctab [] 0)).toArray) := by
  have h : ((Tryd.prog.info? 49).map (·.zero)) = some (some (.agg (bvs (ctab [] 0)).toArray)) := by kernel_rfl
  cases hi : Tryd.prog.info? 49 with
  | none => rw [hi] at h; cases h
  | some i =>
    rw [hi] at h
    exact ⟨i, rfl, by simpa using h⟩
theorem ctab_null (ps qs : List (Nat → Bool)) : ctab ps 0 = ctab qs 0 := by
  unfold ctab
  refine List.map_congr_left fun b _ => ?_
  rw [if_neg (by omega), if_neg (by omega)]
theorem size_ctab {l : List UInt8} (h : l.length = 256) : (Tryd.prog.info? 49).map (·.size) = some (bvs l).length := by
  rw [bvs_length, h]
  kernel_rfl
theorem inf_int : (Tryd.prog.info? 3).map (fun i => (i.zero, i.size, i.bytes)) = some (some (.int .i64 0), 1, 8) := by kernel_rfl
/-- The first bytes, as cells. -/
abbrev fcs (ps : List (Nat → Bool)) (j : Nat) : List Value := nums .i64 ((firstJ ps j).map fun (n : Nat) => (n : Int))
theorem fcs_length (ps : List (Nat → Bool)) (j : Nat) : (fcs ps j).length = (firstJ ps j).length := by simp [fcs, nums]
theorem bvs_all' (l : List UInt8) : (bvs l).all (·.oneCell') = true := by
  rw [List.all_eq_true]
  exact bvs_one l

theorem own_far {w : World} {base g i : Nat} {e : TypeId} {v : Value} {n : Nat} {xs : List Value} (h : w.ownsRow base e 1 v n xs) (hg : g < base) (u : Value) : (w.setCell ⟨g, i, none⟩ u).ownsRow base e 1 v n xs := by
  refine ⟨h.1, ?_⟩
  rcases h.2 with h0 | ⟨g2, cap, cur, rfl, hb, hg2, h3⟩
  · exact .inl h0
  · exact .inr ⟨g2, cap, cur, rfl, hb, (Below.heap_setCell w ⟨g, i, none⟩ u g2 (by simp; omega)).trans hg2, h3⟩
theorem ctab_put {w : World} {g j : Nat} {t : TypeId} {ps : List (Nat → Bool)} (h : Blk w g t (bvs (ctab ps j))) (hj : j < 256) (hc : clsOf ps j < 256) :
    Blk (w.setCell ⟨g, j, none⟩ (.int .u8 (clsOf ps j : Int))) g t (bvs (ctab ps (j + 1))) := by
  have := h.set j (bv (UInt8.ofNat (clsOf ps j)))
  rw [show (bvs (ctab ps j)).set j (bv (UInt8.ofNat (clsOf ps j))) = bvs ((ctab ps j).set j (UInt8.ofNat (clsOf ps j))) from by unfold bvs; rw [List.map_set], ctab_next ps j hj, bv_ofNat hc] at this
  exact this
set_option maxHeartbeats 4000000 in
set_option maxRecDepth 100000 in
theorem refClasses_any (v : Value) (ps : List (Nat → Bool)) (w : World) (hr : RowS w v ps) (hl : ps.length ≤ 1048576) :
    Calls Tryd.prog 37 #[v] w fun e w' => e = .returned (.tuple #[.agg (bvs (ctab ps 256)).toArray, .int .i64 ((firstJ ps 256).length : Int)]) ∧ Below w.heap.size w w' := by
  have R0 := Lib.hid hr
  obtain ⟨i0, hi0, hz0⟩ := ctab_zero
  rw [ctab_null [] ps] at hz0
  obtain ⟨z, hz⟩ : ∃ z, z = ctab ps 0 := ⟨_, rfl⟩
  rw [← hz] at hz0
  have HZ := Lib.hid hz
  have HZL := Lib.hid (show z.length = 256 by rw [hz]; exact ctab_length _ _)
  obtain ⟨i1, hi1, hy0, hy1, hy2⟩ := infoP inf_int
  clear hz hr
  go_enter Tryd.func37, Tryd.ntmps37
  go_wp2_with (first
    | ((with_reducible refine atDst 2 ?_); refine wpList_new rfl 49 rfl i0 _ (bvs z) hi0 hz0 rfl (Below.refl w.heap.size w) (Nat.le_refl _) ?_; intro w1 hk1 hb1 hs1 _; have K1 := Lib.hid hk1; have B1 := Lib.hid hb1; clear hk1 hb1 hs1)
    | ((with_reducible refine atDst 4 ?_); refine wpList_new rfl 49 rfl i0 _ (bvs z) hi0 hz0 rfl (Below.refl w1.heap.size w1) (Nat.le_refl _) ?_; intro w2 hk2 hb2 hs2 ho2; have K2 := Lib.hid hk2; have B2 := Lib.hid hb2; clear hk2 hb2 hs2 ho2))
  have R2 := Lib.hid (R0.out.below (B1.out.trans (B2.out.mono B1.out.size)))
  go_loopw [5, 6] (fun f i wl => ∃ j : Nat, j ≤ 256 ∧ i = .int .i64 (j : Int) ∧ wl.ownsRow w2.heap.size 3 1 f (firstJ ps j).length (fcs ps j) ∧ Blk wl w1.heap.size 49 (bvs (ctab ps j)) ∧ Below w1.heap.size w1 wl ∧ w2.heap.size ≤ wl.heap.size) (fun _ i _ => 256 - (intOf i).toNat)
  case atStart => exact ⟨0, by omega, by simp, ownN _ _ _, by rw [← HZ.out]; exact K2.out, B2.out, Nat.le_refl _⟩
  case round =>
    obtain ⟨j, hj, rfl, ho, hk, hb, hs⟩ := hrel
    have HO := Lib.hid ho
    have HK := Lib.hid hk
    have HB := Lib.hid hb
    have HSZ := Lib.hid hs
    clear ho hk hb hs
    obtain ⟨wo, hwo⟩ : ∃ wo : World, wo = wr := ⟨_, rfl⟩
    subst hwo
    by_cases hjl : j < 256
    · have j1 : (j : Int) < 256 := by omega
      have hw8 : IntKind.u8.wrap (j : Int) = (j : Int) := IntWalk.u8_in _ (by omega)
      have HFL := Lib.hid (firstJ_len ps j)
      obtain ⟨n, hn⟩ : ∃ n, n = (firstJ ps j).length := ⟨_, rfl⟩
      rw [← hn] at HO HFL
      have HN := Lib.hid hn
      clear hn
      have HCL := Lib.hid (clsOf_le ps j)
      obtain ⟨A, cap, hu5, _, _, _, _⟩ := Row.of_own HO.out
      rw [fcs_length, ← HN.out] at hu5
      subst hu5
      go_wp2_with fail
      go_loopw [7] (fun kk wl => ∃ k : Nat, k ≤ clsOf ps j ∧ kk = .int .i64 (k : Int) ∧ Below wo.heap.size wo wl) (fun kk _ => n - (intOf kk).toNat)
      case atStart => exact ⟨0, by omega, by simp, Below.refl _ _⟩
      case round =>
        obtain ⟨k, hk, rfl, hbi⟩ := hrel
        have HBI := Lib.hid hbi
        have HKC := Lib.hid hk
        clear hbi hk
        have HKR := Lib.hid (HK.out.below HBI.out HK.out.lt)
        have HOR := Lib.hid (ownBelow HO.out HBI.out (Nat.le_refl _))
        have BR := Lib.hid (HB.out.trans (HBI.out.mono HB.out.size))
        have SR := Lib.hid (Nat.le_trans HSZ.out HBI.out.size)
        by_cases hkn : k < n
        · have k1 : (k : Int) < (n : Int) := by omega
          have k256 : k < 256 := by have := HFL.out; omega
          obtain ⟨b0, off, rfl, hb0, hcell⟩ := (show Row wr (.slice A (fcs ps j).length cap) (fcs ps j) by rw [fcs_length, ← HN.out]; exact Row.of_own HOR.out).at_ (by rw [fcs_length, ← HN.out]; omega)
          have hkl : k < (firstJ ps j).length := by rw [← HN.out]; exact hkn
          obtain ⟨f, hf⟩ : ∃ f, f = (firstJ ps j)[k] := ⟨_, rfl⟩
          have hck := hcell k (.int .i64 (f : Int)) (by rw [hf]; simp [fcs, nums, hkl])
          have hf256 : f < 256 := by have := firstJ_lt ps j f (by rw [hf]; exact List.getElem_mem hkl); omega
          have hwf : IntKind.u8.wrap (f : Int) = (f : Int) := IntWalk.u8_in _ (by omega)
          have HF := Lib.hid hf
          clear hcell hf
          go_wp2_with fail
          refine (refAlike_any v ps j f hjl hf256 wr (R0.out.below (B1.out.trans (BR.out.mono B1.out.size))) hl).mono ?_
          rintro e w4 ⟨rfl, hb4⟩
          have BI4 := Lib.hid (HBI.out.trans (hb4.mono HBI.out.size))
          have K4 := Lib.hid (HKR.out.below hb4 HKR.out.lt)
          have O4 := Lib.hid (ownBelow HOR.out hb4 (Nat.le_refl _))
          have B4 := Lib.hid (BR.out.trans (hb4.mono BR.out.size))
          have S4 := Lib.hid (Nat.le_trans SR.out hb4.size)
          clear hb4
          cases hx : alikeS ps j f with
          | false =>
            have HNX := Lib.hid (clsOf_next HKC.out hkl (by rw [← HF.out]; exact hx))
            clear hx
            go_wp2_with fail
            refine ⟨⟨k + 1, HNX.out, by congr 1, BI4.out⟩, by simp [intOf] <;> omega⟩
          | true =>
            have HST := Lib.hid (clsOf_stop HKC.out hkl (by rw [← HF.out]; exact hx))
            have HFN := Lib.hid (firstJ_hit (ps := ps) (j := j) (by rw [HST.out]; exact hkl))
            have hkb : ((k : Int) == (n : Int)) = false := by rw [beq_eq_false_iff_ne]; omega
            have hwk : IntKind.u8.wrap (k : Int) = (k : Int) := IntWalk.u8_in _ (by have := HFL.out; omega)
            clear hx
            have hgc := K4.out.cell j
            obtain ⟨u, hu⟩ : ∃ u, (ctab ps j)[j]? = some u := ⟨_, List.getElem?_eq_getElem (by rw [ctab_length]; omega)⟩
            rw [bvs_get _ _ _ hu] at hgc
            have hfz := K4.out.frozen j
            clear hu
            go_wp2_with fail
            refine ⟨⟨j + 1, by omega, by congr 1, ?_, ?_, B4.out.setCell (p := ⟨w1.heap.size, j, none⟩) (Nat.le_refl _) _, by simpa using S4.out⟩, by simp [intOf] <;> omega⟩
            · rw [show fcs ps (j + 1) = fcs ps j by unfold fcs; rw [HFN.out], HFN.out, ← HN.out]
              exact own_far O4.out (by have := K2.out.lt; exact this) _
            · rw [← HST.out]
              exact ctab_put K4.out hjl (by have := HCL.out; rw [← HN.out] at this; have := HFL.out; omega)
        · obtain rfl : k = n := by have := HKC.out; have := HCL.out; have := HN.out; omega
          have k1 : ¬ ((k : Int) < (k : Int)) := by omega
          have hkb : ((k : Int) == (k : Int)) = true := by simp
          have k256 : k < 256 := by have := HFL.out; omega
          have hwk : IntKind.u8.wrap (k : Int) = (k : Int) := IntWalk.u8_in _ (by omega)
          have HST := Lib.hid (show clsOf ps j = k by have := HKC.out; have := HCL.out; have := HN.out; omega)
          have HFN := Lib.hid (firstJ_new (ps := ps) (j := j) (by rw [HST.out, HN.out]))
          have R1 := Lib.hid (rowB (n := 1) (show Blk (wr.alloc (.cells #[.int .i64 (j : Int)] 3)) wr.heap.size 3 [.int .i64 (j : Int)] from Blk.new wr 3 [.int .i64 (j : Int)]) rfl (by omega))
          obtain ⟨u, hu⟩ : ∃ u, (ctab ps j)[j]? = some u := ⟨_, List.getElem?_eq_getElem (by rw [ctab_length]; omega)⟩
          have HU := Lib.hid hu
          clear hu
          go_wp2_with ((with_reducible refine atDst 37 ?_); refine wpList_appG (base := w2.heap.size) rfl (.tmp 34) (.tmp 36) 57 rfl 3 i1 (.int .i64 0) 8 Tryd.underlying57 hi1 hy0 hy1 hy2 rfl _ _ _ rfl (HOR.out.alloc _) _ [.int .i64 (j : Int)] rfl R1.out (by simp [Value.oneCell']) (by simp; omega) (by omega) (by have := SR.out; simp; omega) ?_; intro v3 w3 ho3 hg3; have O3 := Lib.hid ho3; have B3 := Lib.hid ((BR.out.alloc BR.out.size _).grown hg3 (by have := BR.out.size; simp; omega) (fun q hq => by have := own_above HOR.out q hq; have := K2.out.lt; omega)); have K3 := Lib.hid ((HKR.out.alloc (.cells #[.int .i64 (j : Int)] 3)).grown hg3 (fun h => by have := own_above HOR.out _ h.symm; have := K2.out.lt; omega)); have S3 := Lib.hid (hg3.size); have c3 := K3.out.cell j; rw [bvs_get _ _ _ HU.out] at c3; have f3 := K3.out.frozen j; clear ho3 hg3)
          refine ⟨⟨j + 1, by omega, by congr 1, ?_, ?_, B3.out.setCell (p := ⟨w1.heap.size, j, none⟩) (Nat.le_refl _) _, by have q1 := S3.out; have q2 := SR.out; simp at q1 ⊢; omega⟩, by simp [intOf] <;> omega⟩
          · rw [show fcs ps (j + 1) = fcs ps j ++ [.int .i64 (j : Int)] by unfold fcs; rw [HFN.out, List.map_append, nums_append]; rfl, HFN.out, List.length_append, ← HN.out]
            exact own_far O3.out (by have := K2.out.lt; exact this) _
          · rw [← HST.out]
            exact ctab_put K3.out hjl (by rw [HST.out]; exact k256)
    · obtain rfl : j = 256 := by omega
      have j1 : ¬ ((256 : Int) < 256) := by omega
      obtain ⟨c, hc⟩ : ∃ c, c = ctab ps 256 := ⟨_, rfl⟩
      have HCT := Lib.hid hc
      have HCL := Lib.hid (show c.length = 256 by rw [hc]; exact ctab_length _ _)
      have KC := Lib.hid (show Blk wo w1.heap.size 49 (bvs c) by rw [hc]; exact HK.out)
      have KA := Lib.hid (K1.out.below HB.out K1.out.lt)
      have B9 := Lib.hid (B1.out.trans (HB.out.mono B1.out.size))
      obtain ⟨n, hn⟩ : ∃ n, n = (firstJ ps 256).length := ⟨_, rfl⟩
      rw [← hn] at HO
      obtain ⟨A, cap, hu5, _, _, _, _⟩ := Row.of_own HO.out
      rw [fcs_length, ← hn] at hu5
      subst hu5
      have HN := Lib.hid hn
      clear hc HK HO hn
      go_wp2_with (first
        | ((with_reducible refine atDst 42 ?_); refine wpList_ldArr rfl 49 _ rfl w1.heap.size rfl 49 _ _ KC.out Tryd.underlying49 rfl (size_ctab HCL.out) ?_)
        | ((with_reducible refine atStore 49 2 42 ?_); refine wpList_stBlk rfl 49 _ _ rfl w.heap.size (bvs c) rfl rfl 49 _ KA.out (size_ctab HCL.out) (by rw [bvs_length, bvs_length, HZL.out, HCL.out]) (bvs_all' _) B9.out (Nat.le_refl _) ?_; intro w3 hk3 hb3 hs3 _; have K3 := Lib.hid hk3; have B3 := Lib.hid hb3; clear hk3 hb3))
      refine bodyPost_ret (results_blk2 rfl _ _ w.heap.size 49 _ _ _ rfl rfl K3.out Tryd.underlying49 rfl (size_ctab HCL.out)) rfl ?_
      exact ⟨by rw [HCT.out, ← HN.out]; rfl, B3.out⟩
end Go.Proofs.YtaobeconjdeenaaDoor
