/-
  What the reference's Chain answers and leaves. No statement is proved here.
-/
import Derived.Test.YtiagcbedmdfjpaaDoorRefIn
import Derived.Test.YtiagcbedmdfjpaaDoorCodes
import Derived.Test.YtiagcbedmdfjpaaDoorReg
import Derived.Deep.RegionHeld
namespace Go.Proofs.YtiagcbedmdfjpaaDoor
open Go.RowKit Go.Extern.Stop Go.Stop Go.Extern
set_option linter.unusedSimpArgs false
set_option linter.unusedVariables false

theorem size_told2 : (Tryd.prog.info? 30).map (·.size) = some 5 := by kernel_rfl
theorem own_nil (w : World) (B : Nat) (e : TypeId) : w.ownsRow B e 1 (.slice none 0 0) 0 [] := ⟨by simp, .inl ⟨rfl, rfl⟩⟩
theorem fl_step (l : List Int) (j : Nat) (h : j < l.length) : fl (l.take (j + 1)) = if l[j] = 0 then fl (l.take j) else fl (l.take j) ++ [l[j]] := by
  rw [List.take_succ_eq_append_getElem h, fl_append]
  by_cases hk : l[j] = 0
  · simp [fl, hk]
  · rw [if_neg hk]
    simp [fl, hk]
theorem fl_le (l : List Int) : (fl l).length ≤ l.length := List.length_filter_le _ _
theorem grown_then {w0 w w' : World} {g : Nat} {row : Option Nat} (h : w0.grownBy w (some g)) (h2 : w.grownBy w' row) (hr : ∀ k, row = some k → w0.heap.size ≤ k ∨ k = g) : w0.grownBy w' (some g) := by
  obtain ⟨a1, a2, a3, a4, a5⟩ := h
  obtain ⟨b1, b2, b3, b4, b5⟩ := h2
  refine ⟨b1.trans a1, b2.trans a2, b3.trans a3, Nat.le_trans a4 b4, fun i hi hne => (b5 i (Nat.lt_of_lt_of_le hi a4) ?_).trans (a5 i hi hne)⟩
  intro hr'
  rcases hr i hr'.symm with h | h
  · omega
  · exact hne (by rw [h])
theorem grown_set (w : World) (g i : Nat) (v : Value) : w.grownBy (w.setCell ⟨g, i, none⟩ v) (some g) :=
  ⟨rfl, rfl, rfl, by simp, fun k _ hk => Below.heap_setCell w ⟨g, i, none⟩ v k (fun e => hk (by rw [e]))⟩

theorem isb_step (l qs : List Int) (j : Nat) (h : j < qs.length) : bools ((qs.take (j + 1)).map fun k => decide (k ∈ chn l l.length)) = bools ((qs.take j).map fun k => decide (k ∈ chn l l.length)) ++ bools [decide (qs[j] ∈ chn l l.length)] := by
  rw [List.take_succ_eq_append_getElem h, List.map_append]
  simp [bools]

theorem chn_all (l : List Int) : chn l l.length = (fl l).reverse := by unfold chn; rw [List.take_length]
theorem first_last (l : List Int) (h : 0 < (fl l).length) : firstOf l = (fl l)[(fl l).length - 1] := by
  unfold firstOf
  rw [chn_all, List.headD_eq_head?_getD, List.head?_reverse, List.getLast?_eq_getElem?, List.getElem?_eq_getElem (by omega)]
  rfl
theorem first_none (l : List Int) (h : (fl l).length = 0) : firstOf l = 0 := by
  unfold firstOf
  rw [chn_all, List.eq_nil_of_length_eq_zero h]
  rfl
theorem RL0 {w3 wr : World} {B b g : Nat} {v : Value} {e : TypeId} {n : Nat} {xs : List Value} (h : w3.ownsRow B e 1 v n xs) (hg : w3.grownBy wr (some g)) (ne : ∀ k, v.ownBlock = some k → g + 1 ≤ k ∧ k < b) : Row wr v xs :=
  Row.of_own (h.kept hg (.inr (fun h => by have := ne _ h; omega)))

theorem own_other {w w' : World} {base : Nat} {e : TypeId} {v : Value} {n : Nat} {xs : List Value} (h : w.ownsRow base e 1 v n xs) (hk : ∀ k, base ≤ k → w'.heap[k]? = w.heap[k]?) : w'.ownsRow base e 1 v n xs := by
  refine ⟨h.1, ?_⟩
  rcases h.2 with h0 | ⟨g, cap, cur, rfl, hb, hg, h3⟩
  · exact .inl h0
  · exact .inr ⟨g, cap, cur, rfl, hb, (hk g hb).trans hg, h3⟩

set_option maxHeartbeats 8000000 in
set_option maxRecDepth 1000000 in
theorem refChain_any {W : World} (vk va : Value) (l qs : List Int) (a : Int) (hr : Row W vk (ints l)) (hq : Row W va (ints qs)) (hl : l.length ≤ 1000) (hql : qs.length ≤ 1000) :
    Calls Tryd.prog 10 #[vk, .int .i64 a, va] W fun e w' => ∃ v,
      e = .returned (.agg #[v, .int .i64 (firstOf l), .int .i64 ((placeOf l a).getD 0), .bool (placeOf l a).isSome, .int .i64 (deepOf l : Int)]) ∧
      Row w' v (bools (qs.map fun k => decide (k ∈ chn l l.length))) ∧ Below W.heap.size W w' := by
  have HR := Lib.hid hr
  have HQ := Lib.hid hq
  obtain ⟨A, cap, rfl, a1, a2, a0, a3⟩ := hr
  obtain ⟨A2, cap2, rfl, c1, c2, c0, c3⟩ := hq
  rw [nums_length] at a1 c1 HR HQ ⊢
  rw [nums_length]
  clear a3 a0 a1 a2 c0 c1 c2 c3
  obtain ⟨i0, hi0, hz0, hz1, hz2⟩ := info_parts' info_errno
  obtain ⟨i1, hi1, hy0, hy1, hy2⟩ := info_parts' info_bool
  go_enter Tryd.func10, Tryd.ntmps10
  go_wp2_with fail
  obtain ⟨w2, hw2⟩ : ∃ w2, w2 = (W.alloc (.cells #[.slice none 0 0, .int .i64 0, .int .i64 0, .bool false, .int .i64 0] 30)).alloc (.cells #[.slice none 0 0, .int .i64 0, .int .i64 0, .bool false, .int .i64 0] 30) := ⟨_, rfl⟩
  have s2 : w2.heap.size = W.heap.size + 2 := by rw [hw2]; simp
  have k6 : Blk w2 W.heap.size 30 [.slice none 0 0, .int .i64 0, .int .i64 0, .bool false, .int .i64 0] := by rw [hw2]; exact (Blk.new W 30 [.slice none 0 0, .int .i64 0, .int .i64 0, .bool false, .int .i64 0]).alloc _
  have k8 : Blk w2 (W.heap.size + 1) 30 [.slice none 0 0, .int .i64 0, .int .i64 0, .bool false, .int .i64 0] := by
    have := Blk.new (W.alloc (.cells #[.slice none 0 0, .int .i64 0, .int .i64 0, .bool false, .int .i64 0] 30)) 30 [.slice none 0 0, .int .i64 0, .int .i64 0, .bool false, .int .i64 0]
    rw [show (W.alloc (.cells #[.slice none 0 0, .int .i64 0, .int .i64 0, .bool false, .int .i64 0] 30)).heap.size = W.heap.size + 1 by simp] at this
    rw [hw2]
    exact this
  have b2 : Below W.heap.size W w2 := by rw [hw2]; exact ((Below.refl _ _).alloc (Nat.le_refl _) _).alloc (by simp) _
  have HW2 := Lib.hid hw2
  have S2 := Lib.hid s2
  have K6 := Lib.hid k6
  have K8 := Lib.hid k8
  have B2 := Lib.hid b2
  clear hw2 s2 k6 k8 b2
  go_loopw [7, 9] (fun v i wl => ∃ j : Nat, j ≤ l.length ∧ i = .int .i64 (j : Int) ∧ wl.ownsRow w2.heap.size 26 1 v (fl (l.take j)).length (ints (fl (l.take j))) ∧ Below w2.heap.size w2 wl) (fun _ i _ => l.length - (intOf i).toNat)
  case atStart => exact ⟨0, by omega, by simp, own_nil _ _ _, by rw [HW2.out]; exact Below.refl _ _⟩
  case round =>
    obtain ⟨j, hj, rfl, hown, hbr⟩ := hrel
    have HBR := Lib.hid hbr
    have HOW := Lib.hid hown
    clear hbr hown
    by_cases hjl : j < l.length
    · obtain ⟨b0, off, rfl, hb0, hcell⟩ := (HR.out.below (B2.out.trans (HBR.out.mono B2.out.size))).at_ (by rw [nums_length]; omega)
      have hcj := hcell j _ (nums_get _ l j hjl)
      have j1 : (j : Int) < (l.length : Int) := by omega
      obtain ⟨k, hk⟩ : ∃ k, k = l[j] := ⟨_, rfl⟩
      rw [← hk] at hcj
      have hfs := fl_step l j hjl
      rw [← hk] at hfs
      have HFS := Lib.hid hfs
      clear hcell hk hfs
      by_cases hk0 : k = 0
      · subst hk0
        go_wp2_with fail
        exact ⟨⟨j + 1, by omega, by congr 1, by rw [HFS.out, if_pos rfl]; exact HOW.out, HBR.out⟩, by simp [intOf] <;> omega⟩
      · have hk0' : (k != 0) = true := by simp [hk0]
        have hn := fl_le (l.take j)
        rw [List.length_take] at hn
        have HN := Lib.hid hn
        have HK0 := Lib.hid hk0
        clear hn hk0
        have R1 := Lib.hid (row_blk (n := 1) (show Blk (wr.alloc (.cells #[.int .i64 k] 26)) wr.heap.size 26 (ints [k]) from Blk.new wr 26 (ints [k])) rfl (by omega))
        go_wp2_with ((with_reducible refine atDst 28 ?_); refine wpList_appR (w0 := w2) rfl (.tmp 22) (.tmp 27) 22 rfl 26 i0 (.int .i64 0) 8 Tryd.underlying22 hi0 hz0 hz1 hz2 rfl _ _ _ rfl (HOW.out.alloc _) _ (ints [k]) rfl R1.out (nums_one _ _) (by have := HN.out; simp only [nums_length, List.length_cons, List.length_nil]; omega) (by omega) (HBR.out.alloc HBR.out.size _) ?_; intro v3 w3 ho3 _ hb3 _; have O3 := Lib.hid ho3; have B3 := Lib.hid hb3; clear ho3 hb3)
        refine ⟨⟨j + 1, by omega, by congr 1, ?_, B3.out⟩, by simp [intOf] <;> omega⟩
        have := O3.out
        rw [HFS.out, if_neg HK0.out, List.length_append]
        rw [show ints (fl (l.take j) ++ [k]) = ints (fl (l.take j)) ++ ints [k] from nums_append _ _ _]
        exact this
    · obtain rfl : j = l.length := by omega
      have j1 : ¬ ((l.length : Int) < (l.length : Int)) := by omega
      have ho := HOW.out
      rw [List.take_length] at ho
      have HO3 := Lib.hid ho
      clear ho HOW
      go_wp2_with fail
      obtain ⟨w3, hw3⟩ : ∃ w3 : World, w3 = wr := ⟨_, rfl⟩
      subst hw3
      have hlf := fl_le l
      obtain ⟨A7, c7, hu7, _, _, _, _⟩ := Row.of_own HO3.out
      rw [nums_length] at hu7
      obtain ⟨n7, hn7⟩ : ∃ n7, n7 = (fl l).length := ⟨_, rfl⟩
      rw [← hn7] at hu7 hlf
      have HN7 := Lib.hid hn7
      subst hu7
      have HB3 := Lib.hid (B2.out.trans (HBR.out.mono B2.out.size))
      have K83 := Lib.hid (K8.out.below HBR.out K8.out.lt)
      have K63 := Lib.hid (K6.out.below HBR.out K6.out.lt)
      have S3 := Lib.hid (show W.heap.size + 2 ≤ w3.heap.size by rw [← S2.out]; exact HBR.out.size)
      have NE := Lib.hid (show ∀ k, (Value.slice A7 n7 c7).ownBlock = some k → W.heap.size + 2 ≤ k ∧ k < w3.heap.size from fun k hk => by have := HO3.out.lt k hk; rw [S2.out] at this; exact this)
      clear hn7 hjl j1 hj
      go_loopw [10] (fun i wl => ∃ (j : Nat) (vis : Value), j ≤ qs.length ∧ i = .int .i64 (j : Int) ∧ wl.ownsRow w3.heap.size 4 1 vis j (bools ((qs.take j).map fun k => decide (k ∈ chn l l.length))) ∧
        Blk wl (W.heap.size + 1) 30 [vis, .int .i64 0, .int .i64 0, .bool false, .int .i64 0] ∧ w3.grownBy wl (some (W.heap.size + 1))) (fun i _ => qs.length - (intOf i).toNat)
      case atStart => exact ⟨0, .slice none 0 0, by omega, by simp, own_nil _ _ _, K83.out, World.grownBy.refl _ _⟩
      case round =>
        obtain ⟨j, vis, hj, rfl, hown, hblk, hgr⟩ := hrel
        have HOW := Lib.hid hown
        have HBK := Lib.hid hblk
        have HG := Lib.hid hgr
        have HBW := Lib.hid (HB3.out.grown hgr HB3.out.size (fun k hk => by cases hk; omega))
        have SZ := Lib.hid (show w3.heap.size ≤ wr.heap.size from hgr.size)
        clear hown hblk hgr
        by_cases hjl : j < qs.length
        · obtain ⟨b0, off, rfl, hb0, hcell⟩ := HQ.out.at_ (by rw [nums_length]; omega)
          have hcj := hcell j _ (nums_get _ qs j hjl)
          have j1 : (j : Int) < (qs.length : Int) := by omega
          obtain ⟨q, hq⟩ : ∃ q, q = qs[j] := ⟨_, rfl⟩
          rw [← hq] at hcj
          have hld : ∀ w', Below W.heap.size W w' → w'.cell? ⟨b0, off + j, none⟩ = some (.int .i64 q) := fun w' hw => (hw.cell (p := ⟨b0, off + j, none⟩) hb0).trans hcj
          have HQJ := Lib.hid hq
          have RL := Lib.hid (show ∀ w', wr.grownBy w' none → Row w' (.slice A7 n7 c7) (ints (fl l)) from fun w' hw => by
            have h1 := HO3.out.kept HG.out (.inr (fun h => by have := NE.out _ h; omega))
            exact Row.of_own (h1.kept hw (by
              cases h : (Value.slice A7 n7 c7).ownBlock with
              | none => exact .inl rfl
              | some k => exact .inr (by simp))))
          clear hcell hq
          go_wp2_with fail
          refine sx_startB (by kernel_rfl) HBW.out (fun wd hwd hX => ?_)
          have OWK := Lib.hid (show wd.ownsRow w3.heap.size 4 1 vis j (bools ((qs.take j).map fun k => decide (k ∈ chn l l.length))) by rw [hwd]; exact HOW.out.drew)
          have HRL := Lib.hid (show Row wd (.slice A7 n7 c7) (ints (fl l)) by rw [hwd]; exact RL.out wr.drew ⟨rfl, rfl, rfl, Nat.le_refl _, fun _ _ _ => rfl⟩)
          have SZD := Lib.hid (show w3.heap.size ≤ wd.heap.size by rw [hwd]; exact SZ.out)
          have HS4 := Lib.hid (show W.heap.size ≤ wd.heap.size from Nat.le_trans (by have := S3.out; omega) SZD.out)
          have HLE := Lib.hid (show W.heap.size ≤ w3.heap.size by have := S3.out; omega)
          have HB := Lib.hid (isb_step l qs j hjl)
          rw [← HQJ.out] at HB
          obtain ⟨qb, hqb⟩ : ∃ qb, qb = decide (q ∈ chn l l.length) := ⟨_, rfl⟩
          rw [← hqb] at HB
          have hbd : Blk wd (W.heap.size + 1) 30 [vis, .int .i64 0, .int .i64 0, .bool false, .int .i64 0] := by rw [hwd]; exact HBK.out.drew
          have gd : w3.grownBy wd (some (W.heap.size + 1)) := by
            obtain ⟨a1, a2, a3, a4, a5⟩ := HG.out
            rw [hwd]
            exact ⟨a1, a2, a3, a4, a5⟩
          obtain ⟨w5, hw5⟩ : ∃ w5, w5 = wd.alloc (.cells #[.bool qb] 4) := ⟨_, rfl⟩
          have KB5 := Lib.hid (show Blk w5 (W.heap.size + 1) 30 [vis, .int .i64 0, .int .i64 0, .bool false, .int .i64 0] by rw [hw5]; exact hbd.alloc _)
          have OW5 := Lib.hid (show w5.ownsRow w3.heap.size 4 1 vis j (bools ((qs.take j).map fun k => decide (k ∈ chn l l.length))) by rw [hw5]; exact OWK.out.alloc _)
          have R5 := Lib.hid (show Row w5 (.slice (some ⟨wd.heap.size, 0, none⟩) 1 1) (bools [qb]) by rw [hw5]; exact row_blk (n := 1) (Blk.new wd 4 (bools [qb])) rfl (by omega))
          have HS5 := Lib.hid (show w3.heap.size ≤ w5.heap.size by rw [hw5]; exact Nat.le_trans SZD.out ((Below.refl wd.heap.size wd).alloc (Nat.le_refl _) _).size)
          have gr5 : wd.grownBy w5 none := by
            rw [hw5]
            exact World.grownBy_alloc wd (.cells #[.bool qb] 4) none
          have G5 := Lib.hid (show ∀ w' : World, w5.grownBy w' vis.ownBlock → w3.grownBy w' (some (W.heap.size + 1)) from fun w' h =>
            grown_then (grown_then gd gr5 (fun k hk => by cases hk)) h (fun k hk => .inl (own_above OW5.out k hk)))
          have HW5 := Lib.hid hw5
          have c8 := hbd.cell 0
          simp only [List.getElem?_cons_zero] at c8
          have c85 := KB5.out.cell 0
          simp only [List.getElem?_cons_zero] at c85
          clear hw5 gr5 gd hbd hwd
          by_cases hq0 : q = 0
          · subst hq0
            have hqf : qb = false := by rw [hqb]; simp [mem_chn]
            subst hqf
            clear hqb
            refine sx_take (i := 0) (oi := ⟨some 35, _, _, _, _, _⟩) (v := ?_) rfl (by kernel_rfl) (by kernel_rfl) (by kernel_rfl) (fun _ _ _ h => h) rfl hX ?_ ?_; rotate_left; (intro W hW; go_simp; try with_reducible rfl); simp only [Act.put, List.setIfInBounds_toArray, List.set_cons_zero, List.set_cons_succ]
            refine sx_take (i := 2) (oi := ⟨some 37, _, _, _, _, _⟩) (v := ?_) rfl (by kernel_rfl) (by kernel_rfl) (by kernel_rfl) (fun _ _ _ h => h) rfl hX ?_ ?_; rotate_left; (intro W hW; go_simp; try with_reducible rfl); simp only [Act.put, List.setIfInBounds_toArray, List.set_cons_zero, List.set_cons_succ]
            refine sx_take (i := 3) (oi := ⟨some 38, _, _, _, _, _⟩) (v := ?_) rfl (by kernel_rfl) (by kernel_rfl) (by kernel_rfl) (fun _ _ _ h => h) rfl hX ?_ ?_; rotate_left; (intro W hW; go_simp; try with_reducible rfl); simp only [Act.put, List.setIfInBounds_toArray, List.set_cons_zero, List.set_cons_succ]
            refine sx_take (i := 4) (oi := ⟨some 39, _, _, _, _, _⟩) (v := ?_) rfl (by kernel_rfl) (by kernel_rfl) (by kernel_rfl) (fun _ _ _ h => h) rfl hX ?_ ?_; rotate_left; (intro W hW; go_simp; try with_reducible rfl); simp only [Act.put, List.setIfInBounds_toArray, List.set_cons_zero, List.set_cons_succ]
            refine sx_take (i := 5) (oi := ⟨some 40, _, _, _, _, _⟩) (v := ?_) rfl (by kernel_rfl) (by kernel_rfl) (by kernel_rfl) (fun _ _ _ h => h) rfl hX ?_ ?_; rotate_left; (intro W hW; go_simp; try with_reducible rfl); simp only [Act.put, List.setIfInBounds_toArray, List.set_cons_zero, List.set_cons_succ]
            refine sx_take (i := 6) (oi := ⟨some 41, _, _, _, _, _⟩) (v := ?_) rfl (by kernel_rfl) (by kernel_rfl) (by kernel_rfl) (fun _ _ _ h => h) rfl hX ?_ ?_; rotate_left; (intro W hW; go_simp; try with_reducible rfl); simp only [Act.put, List.setIfInBounds_toArray, List.set_cons_zero, List.set_cons_succ]
            refine sx_take (i := 7) (oi := ⟨some 42, _, _, _, _, _⟩) (v := ?_) rfl (by kernel_rfl) (by kernel_rfl) (by kernel_rfl) (fun _ _ _ h => h) rfl hX ?_ ?_; rotate_left; (intro W hW; go_simp; try with_reducible rfl); simp only [Act.put, List.setIfInBounds_toArray, List.set_cons_zero, List.set_cons_succ]
            refine sx_skip (i := 8) (oi := ⟨some 43, _, _, _, _, _⟩) rfl (by kernel_rfl) (by kernel_rfl) (by kernel_rfl) (fun _ _ _ h => h) rfl hX ?_; simp only [Act.put, List.setIfInBounds_toArray, List.set_cons_zero, List.set_cons_succ]
            refine sx_skip (i := 9) (oi := ⟨some 44, _, _, _, _, _⟩) rfl (by kernel_rfl) (by kernel_rfl) (by kernel_rfl) (fun _ _ _ h => h) rfl hX ?_; simp only [Act.put, List.setIfInBounds_toArray, List.set_cons_zero, List.set_cons_succ]
            refine sx_skip (i := 10) (oi := ⟨some 45, _, _, _, _, _⟩) rfl (by kernel_rfl) (by kernel_rfl) (by kernel_rfl) (fun _ _ _ h => h) rfl hX ?_; simp only [Act.put, List.setIfInBounds_toArray, List.set_cons_zero, List.set_cons_succ]
            refine sx_skip (i := 11) (oi := ⟨some 46, _, _, _, _, _⟩) rfl (by kernel_rfl) (by kernel_rfl) (by kernel_rfl) (fun _ _ _ h => h) rfl hX ?_; simp only [Act.put, List.setIfInBounds_toArray, List.set_cons_zero, List.set_cons_succ]
            refine sx_skip (i := 12) (oi := ⟨some 47, _, _, _, _, _⟩) rfl (by kernel_rfl) (by kernel_rfl) (by kernel_rfl) (fun _ _ _ h => h) rfl hX ?_; simp only [Act.put, List.setIfInBounds_toArray, List.set_cons_zero, List.set_cons_succ]
            refine sx_skip (i := 13) (oi := ⟨some 48, _, _, _, _, _⟩) rfl (by kernel_rfl) (by kernel_rfl) (by kernel_rfl) (fun _ _ _ h => h) rfl hX ?_; simp only [Act.put, List.setIfInBounds_toArray, List.set_cons_zero, List.set_cons_succ]
            refine sx_take (i := 14) (oi := ⟨some 49, _, _, _, _, _⟩) (v := ?_) rfl (by kernel_rfl) (by kernel_rfl) (by kernel_rfl) (fun _ _ _ h => h) rfl hX ?_ ?_; rotate_left; (intro W hW; go_simp; try with_reducible rfl); simp only [Act.put, List.setIfInBounds_toArray, List.set_cons_zero, List.set_cons_succ]
            refine sx_two (i := 1) (j := 15) (oi := ⟨some 36, _, _, _, _, _⟩) (oj := ⟨some 50, _, _, _, _, _⟩) rfl rfl (by kernel_rfl) rfl rfl hX (fun K hK => ?_) (fun K hK => ?_)
            · go_wp2_with fail
              refine hK _ _ (Below.refl _ _) ?_
              clear hK K
              refine sx_actB (i := 15) (o := ⟨some 50, _, _, _, _, _⟩) rfl (by kernel_rfl) rfl hX (fun K hK => ?_)
              go_wp2_with fail
              refine hK _ _ ((Below.refl _ _).alloc HS4.out _) ?_
              clear hK K
              have hX := hX.alloc HS4.out (.cells #[.bool false] 4)
              have hw5 := HW5.out
              subst hw5
              clear HW5
              refine sx_actB (i := 16) (o := ⟨some 51, _, _, _, _, _⟩) rfl (by kernel_rfl) rfl hX (fun K hK => ?_)
              refine wp_appG (base := w3.heap.size) (.tmp 36) (.tmp 50) 25 rfl 4 i1 (.bool false) 1 Tryd.underlying25 hi1 hy0 hy1 hy2 rfl _ _ _ rfl OW5.out _ (bools [false]) rfl R5.out (bools_one _) (by simp [bools]; omega) (by omega) HS5.out ?_
              intro v6 w6 ho6 hg6
              have hb6 : Below W.heap.size (wd.alloc (.cells #[.bool false] 4)) w6 := (Below.refl _ _).grown hg6 (Nat.le_trans HLE.out HS5.out) (fun k hk => Nat.le_trans HLE.out (own_above OW5.out k hk))
              obtain ⟨g6, c6, hv6, hg6b, _, _, _⟩ := own_form ho6 (by simp [bools])
              subst hv6
              refine hK _ _ hb6 ?_
              clear hK K
              have hX := hX.trans hb6
              have KB6 := KB5.out.grown hg6 (fun h => by have := own_above OW5.out _ h.symm; have := S3.out; omega)
              have O6 := Lib.hid ho6
              have G6 := Lib.hid hg6
              have c61 := KB6.cell 0
              simp only [List.getElem?_cons_zero] at c61
              have f61 := KB6.frozen 0
              have KB7 := Lib.hid (KB6.set 0 (.slice (some ⟨g6, 0, none⟩) (j + (bools [false]).length) c6))
              have O7 := Lib.hid (ho6.kept (grown_set w6 (W.heap.size + 1) 0 (.slice (some ⟨g6, 0, none⟩) (j + (bools [false]).length) c6)) (.inr (fun h => by have := own_above ho6 _ h; have := S3.out; omega)))
              have G7 := Lib.hid (grown_then (G5.out _ hg6) (grown_set w6 (W.heap.size + 1) 0 (.slice (some ⟨g6, 0, none⟩) (j + (bools [false]).length) c6)) (fun k hk => .inr (by cases hk; rfl)))
              clear ho6 hg6 hb6 KB6
              refine sx_take (i := 17) (oi := ⟨some 52, _, _, _, _, _⟩) (v := ?_) rfl (by kernel_rfl) (by kernel_rfl) (by kernel_rfl) (fun _ _ _ h => h) rfl hX ?_ ?_; rotate_left; (intro W hW; go_simp; try with_reducible rfl); simp only [Act.put, List.setIfInBounds_toArray, List.set_cons_zero, List.set_cons_succ]
              refine sx_actB (i := 18) (o := ⟨none, _, _, _, _, _⟩) rfl (by kernel_rfl) rfl hX (fun K hK => ?_)
              go_wp2_with fail
              refine hK _ _ ((Below.refl _ _).setCell (by show W.heap.size ≤ W.heap.size + 1; omega) _) ?_
              clear hK K
              refine wpAnyH_done (by kernel_rfl) ?_ _
              go_wp2_with fail
              refine ⟨⟨j + 1, _, by omega, by congr 1, ?_, KB7.out, G7.out⟩, by simp [intOf] <;> omega⟩
              have h7 := O7.out
              rw [HB.out]
              exact h7
            · go_wp2_with fail
              refine hK _ _ ((Below.refl _ _).alloc HS4.out _) ?_
              clear hK K
              have hX := hX.alloc HS4.out (.cells #[.bool false] 4)
              have hw5 := HW5.out
              subst hw5
              clear HW5
              refine sx_actB (i := 1) (o := ⟨some 36, _, _, _, _, _⟩) rfl (by kernel_rfl) rfl hX (fun K hK => ?_)
              go_wp2_with fail
              refine hK _ _ (Below.refl _ _) ?_
              clear hK K
              refine sx_actB (i := 16) (o := ⟨some 51, _, _, _, _, _⟩) rfl (by kernel_rfl) rfl hX (fun K hK => ?_)
              refine wp_appG (base := w3.heap.size) (.tmp 36) (.tmp 50) 25 rfl 4 i1 (.bool false) 1 Tryd.underlying25 hi1 hy0 hy1 hy2 rfl _ _ _ rfl OW5.out _ (bools [false]) rfl R5.out (bools_one _) (by simp [bools]; omega) (by omega) HS5.out ?_
              intro v6 w6 ho6 hg6
              have hb6 : Below W.heap.size (wd.alloc (.cells #[.bool false] 4)) w6 := (Below.refl _ _).grown hg6 (Nat.le_trans HLE.out HS5.out) (fun k hk => Nat.le_trans HLE.out (own_above OW5.out k hk))
              obtain ⟨g6, c6, hv6, hg6b, _, _, _⟩ := own_form ho6 (by simp [bools])
              subst hv6
              refine hK _ _ hb6 ?_
              clear hK K
              have hX := hX.trans hb6
              have KB6 := KB5.out.grown hg6 (fun h => by have := own_above OW5.out _ h.symm; have := S3.out; omega)
              have O6 := Lib.hid ho6
              have G6 := Lib.hid hg6
              have c61 := KB6.cell 0
              simp only [List.getElem?_cons_zero] at c61
              have f61 := KB6.frozen 0
              have KB7 := Lib.hid (KB6.set 0 (.slice (some ⟨g6, 0, none⟩) (j + (bools [false]).length) c6))
              have O7 := Lib.hid (ho6.kept (grown_set w6 (W.heap.size + 1) 0 (.slice (some ⟨g6, 0, none⟩) (j + (bools [false]).length) c6)) (.inr (fun h => by have := own_above ho6 _ h; have := S3.out; omega)))
              have G7 := Lib.hid (grown_then (G5.out _ hg6) (grown_set w6 (W.heap.size + 1) 0 (.slice (some ⟨g6, 0, none⟩) (j + (bools [false]).length) c6)) (fun k hk => .inr (by cases hk; rfl)))
              clear ho6 hg6 hb6 KB6
              refine sx_take (i := 17) (oi := ⟨some 52, _, _, _, _, _⟩) (v := ?_) rfl (by kernel_rfl) (by kernel_rfl) (by kernel_rfl) (fun _ _ _ h => h) rfl hX ?_ ?_; rotate_left; (intro W hW; go_simp; try with_reducible rfl); simp only [Act.put, List.setIfInBounds_toArray, List.set_cons_zero, List.set_cons_succ]
              refine sx_actB (i := 18) (o := ⟨none, _, _, _, _, _⟩) rfl (by kernel_rfl) rfl hX (fun K hK => ?_)
              go_wp2_with fail
              refine hK _ _ ((Below.refl _ _).setCell (by show W.heap.size ≤ W.heap.size + 1; omega) _) ?_
              clear hK K
              refine wpAnyH_done (by kernel_rfl) ?_ _
              go_wp2_with fail
              refine ⟨⟨j + 1, _, by omega, by congr 1, ?_, KB7.out, G7.out⟩, by simp [intOf] <;> omega⟩
              have h7 := O7.out
              rw [HB.out]
              exact h7
          · have hqt : (q != 0) = true := by simp [hq0]
            have HQB := Lib.hid (show decide (q ∈ fl l) = qb by rw [hqb]; simp [mem_chn, fl, hq0])
            have HQ0 := Lib.hid hq0
            clear hqb hq0
            refine sx_take (i := 0) (oi := ⟨some 35, _, _, _, _, _⟩) (v := ?_) rfl (by kernel_rfl) (by kernel_rfl) (by kernel_rfl) (fun _ _ _ h => h) rfl hX ?_ ?_; rotate_left; (intro W hW; go_simp; try with_reducible rfl); simp only [Act.put, List.setIfInBounds_toArray, List.set_cons_zero, List.set_cons_succ]
            refine sx_take (i := 2) (oi := ⟨some 37, _, _, _, _, _⟩) (v := ?_) rfl (by kernel_rfl) (by kernel_rfl) (by kernel_rfl) (fun _ _ _ h => h) rfl hX ?_ ?_; rotate_left; (intro W hW; go_simp; try with_reducible rfl); simp only [Act.put, List.setIfInBounds_toArray, List.set_cons_zero, List.set_cons_succ]
            refine sx_take (i := 3) (oi := ⟨some 38, _, _, _, _, _⟩) (v := ?_) rfl (by kernel_rfl) (by kernel_rfl) (by kernel_rfl) (fun _ _ _ h => h) rfl hX ?_ ?_; rotate_left; (intro W hW; go_simp; try with_reducible rfl); simp only [Act.put, List.setIfInBounds_toArray, List.set_cons_zero, List.set_cons_succ]
            refine sx_take (i := 4) (oi := ⟨some 39, _, _, _, _, _⟩) (v := ?_) rfl (by kernel_rfl) (by kernel_rfl) (by kernel_rfl) (fun _ _ _ h => h) rfl hX ?_ ?_; rotate_left; (intro W hW; go_simp; try with_reducible rfl); simp only [Act.put, List.setIfInBounds_toArray, List.set_cons_zero, List.set_cons_succ]
            refine sx_take (i := 5) (oi := ⟨some 40, _, _, _, _, _⟩) (v := ?_) rfl (by kernel_rfl) (by kernel_rfl) (by kernel_rfl) (fun _ _ _ h => h) rfl hX ?_ ?_; rotate_left; (intro W hW; go_simp; try with_reducible rfl); simp only [Act.put, List.setIfInBounds_toArray, List.set_cons_zero, List.set_cons_succ]
            refine sx_take (i := 6) (oi := ⟨some 41, _, _, _, _, _⟩) (v := ?_) rfl (by kernel_rfl) (by kernel_rfl) (by kernel_rfl) (fun _ _ _ h => h) rfl hX ?_ ?_; rotate_left; (intro W hW; go_simp; try with_reducible rfl); simp only [Act.put, List.setIfInBounds_toArray, List.set_cons_zero, List.set_cons_succ]
            refine sx_take (i := 7) (oi := ⟨some 42, _, _, _, _, _⟩) (v := ?_) rfl (by kernel_rfl) (by kernel_rfl) (by kernel_rfl) (fun _ _ _ h => h) rfl hX ?_ ?_; rotate_left; (intro W hW; go_simp; try with_reducible rfl); simp only [Act.put, List.setIfInBounds_toArray, List.set_cons_zero, List.set_cons_succ]
            refine sx_take (i := 8) (oi := ⟨some 43, _, _, _, _, _⟩) (v := ?_) rfl (by kernel_rfl) (by kernel_rfl) (by kernel_rfl) (fun _ _ _ h => h) rfl hX ?_ ?_; rotate_left; (intro W hW; go_simp; try with_reducible rfl); simp only [Act.put, List.setIfInBounds_toArray, List.set_cons_zero, List.set_cons_succ]
            refine sx_take (i := 9) (oi := ⟨some 44, _, _, _, _, _⟩) (v := ?_) rfl (by kernel_rfl) (by kernel_rfl) (by kernel_rfl) (fun _ _ _ h => h) rfl hX ?_ ?_; rotate_left; (intro W hW; go_simp; try with_reducible rfl); simp only [Act.put, List.setIfInBounds_toArray, List.set_cons_zero, List.set_cons_succ]
            refine sx_take (i := 10) (oi := ⟨some 45, _, _, _, _, _⟩) (v := ?_) rfl (by kernel_rfl) (by kernel_rfl) (by kernel_rfl) (fun _ _ _ h => h) rfl hX ?_ ?_; rotate_left; (intro W hW; go_simp; try with_reducible rfl); simp only [Act.put, List.setIfInBounds_toArray, List.set_cons_zero, List.set_cons_succ]
            refine sx_take (i := 11) (oi := ⟨some 46, _, _, _, _, _⟩) (v := ?_) rfl (by kernel_rfl) (by kernel_rfl) (by kernel_rfl) (fun _ _ _ h => h) rfl hX ?_ ?_; rotate_left; (intro W hW; go_simp; try with_reducible rfl); simp only [Act.put, List.setIfInBounds_toArray, List.set_cons_zero, List.set_cons_succ]
            refine sx_take (i := 12) (oi := ⟨some 47, _, _, _, _, _⟩) (v := ?_) rfl (by kernel_rfl) (by kernel_rfl) (by kernel_rfl) (fun _ _ _ h => h) rfl hX ?_ ?_; rotate_left; (intro W hW; go_simp; try with_reducible rfl); simp only [Act.put, List.setIfInBounds_toArray, List.set_cons_zero, List.set_cons_succ]
            refine sx_two (i := 1) (j := 13) (oi := ⟨some 36, _, _, _, _, _⟩) (oj := ⟨some 48, _, _, _, _, _⟩) rfl rfl (by kernel_rfl) rfl rfl hX (fun K hK => ?_) (fun K hK => ?_)
            · go_wp2_with fail
              refine hK _ _ (Below.refl _ _) ?_
              clear hK K
              refine sx_actB (i := 13) (o := ⟨some 48, _, _, _, _, _⟩) rfl (by kernel_rfl) rfl hX (fun K hK => ?_)
              go_wp2_with fail
              refine (refIn_any _ (fl l) q HRL.out (by rw [← HN7.out]; omega)).mono ?_
              rintro e w' ⟨he, hwe⟩
              rw [HQB.out] at he
              subst he
              have hwe2 := hwe.symm
              subst hwe2
              go_wp2_with fail
              refine hK _ _ (Below.refl _ _) ?_
              clear hK K
              refine sx_take (i := 14) (oi := ⟨some 49, _, _, _, _, _⟩) (v := ?_) rfl (by kernel_rfl) (by kernel_rfl) (by kernel_rfl) (fun _ _ _ h => h) rfl hX ?_ ?_; rotate_left; (intro W hW; go_simp; try with_reducible rfl); simp only [Act.put, List.setIfInBounds_toArray, List.set_cons_zero, List.set_cons_succ]
              refine sx_actB (i := 15) (o := ⟨some 50, _, _, _, _, _⟩) rfl (by kernel_rfl) rfl hX (fun K hK => ?_)
              go_wp2_with fail
              refine hK _ _ ((Below.refl _ _).alloc HS4.out _) ?_
              clear hK K
              have hX := hX.alloc HS4.out (.cells #[.bool qb] 4)
              have hw5 := HW5.out
              subst hw5
              clear HW5
              refine sx_actB (i := 16) (o := ⟨some 51, _, _, _, _, _⟩) rfl (by kernel_rfl) rfl hX (fun K hK => ?_)
              refine wp_appG (base := w3.heap.size) (.tmp 36) (.tmp 50) 25 rfl 4 i1 (.bool false) 1 Tryd.underlying25 hi1 hy0 hy1 hy2 rfl _ _ _ rfl OW5.out _ (bools [qb]) rfl R5.out (bools_one _) (by simp [bools]; omega) (by omega) HS5.out ?_
              intro v6 w6 ho6 hg6
              have hb6 : Below W.heap.size (wd.alloc (.cells #[.bool qb] 4)) w6 := (Below.refl _ _).grown hg6 (Nat.le_trans HLE.out HS5.out) (fun k hk => Nat.le_trans HLE.out (own_above OW5.out k hk))
              obtain ⟨g6, c6, hv6, hg6b, _, _, _⟩ := own_form ho6 (by simp [bools])
              subst hv6
              refine hK _ _ hb6 ?_
              clear hK K
              have hX := hX.trans hb6
              have KB6 := KB5.out.grown hg6 (fun h => by have := own_above OW5.out _ h.symm; have := S3.out; omega)
              have O6 := Lib.hid ho6
              have G6 := Lib.hid hg6
              have c61 := KB6.cell 0
              simp only [List.getElem?_cons_zero] at c61
              have f61 := KB6.frozen 0
              have KB7 := Lib.hid (KB6.set 0 (.slice (some ⟨g6, 0, none⟩) (j + (bools [qb]).length) c6))
              have O7 := Lib.hid (ho6.kept (grown_set w6 (W.heap.size + 1) 0 (.slice (some ⟨g6, 0, none⟩) (j + (bools [qb]).length) c6)) (.inr (fun h => by have := own_above ho6 _ h; have := S3.out; omega)))
              have G7 := Lib.hid (grown_then (G5.out _ hg6) (grown_set w6 (W.heap.size + 1) 0 (.slice (some ⟨g6, 0, none⟩) (j + (bools [qb]).length) c6)) (fun k hk => .inr (by cases hk; rfl)))
              clear ho6 hg6 hb6 KB6
              refine sx_take (i := 17) (oi := ⟨some 52, _, _, _, _, _⟩) (v := ?_) rfl (by kernel_rfl) (by kernel_rfl) (by kernel_rfl) (fun _ _ _ h => h) rfl hX ?_ ?_; rotate_left; (intro W hW; go_simp; try with_reducible rfl); simp only [Act.put, List.setIfInBounds_toArray, List.set_cons_zero, List.set_cons_succ]
              refine sx_actB (i := 18) (o := ⟨none, _, _, _, _, _⟩) rfl (by kernel_rfl) rfl hX (fun K hK => ?_)
              go_wp2_with fail
              refine hK _ _ ((Below.refl _ _).setCell (by show W.heap.size ≤ W.heap.size + 1; omega) _) ?_
              clear hK K
              refine wpAnyH_done (by kernel_rfl) ?_ _
              go_wp2_with fail
              refine ⟨⟨j + 1, _, by omega, by congr 1, ?_, KB7.out, G7.out⟩, by simp [intOf] <;> omega⟩
              have h7 := O7.out
              rw [HB.out]
              exact h7
            · go_wp2_with fail
              refine (refIn_any _ (fl l) q HRL.out (by rw [← HN7.out]; omega)).mono ?_
              rintro e w' ⟨he, hwe⟩
              rw [HQB.out] at he
              subst he
              have hwe2 := hwe.symm
              subst hwe2
              go_wp2_with fail
              refine hK _ _ (Below.refl _ _) ?_
              clear hK K
              refine sx_take (i := 14) (oi := ⟨some 49, _, _, _, _, _⟩) (v := ?_) rfl (by kernel_rfl) (by kernel_rfl) (by kernel_rfl) (fun _ _ _ h => h) rfl hX ?_ ?_; rotate_left; (intro W hW; go_simp; try with_reducible rfl); simp only [Act.put, List.setIfInBounds_toArray, List.set_cons_zero, List.set_cons_succ]
              refine sx_two (i := 1) (j := 15) (oi := ⟨some 36, _, _, _, _, _⟩) (oj := ⟨some 50, _, _, _, _, _⟩) rfl rfl (by kernel_rfl) rfl rfl hX (fun K hK => ?_) (fun K hK => ?_)
              · go_wp2_with fail
                refine hK _ _ (Below.refl _ _) ?_
                clear hK K
                refine sx_actB (i := 15) (o := ⟨some 50, _, _, _, _, _⟩) rfl (by kernel_rfl) rfl hX (fun K hK => ?_)
                go_wp2_with fail
                refine hK _ _ ((Below.refl _ _).alloc HS4.out _) ?_
                clear hK K
                have hX := hX.alloc HS4.out (.cells #[.bool qb] 4)
                have hw5 := HW5.out
                subst hw5
                clear HW5
                refine sx_actB (i := 16) (o := ⟨some 51, _, _, _, _, _⟩) rfl (by kernel_rfl) rfl hX (fun K hK => ?_)
                refine wp_appG (base := w3.heap.size) (.tmp 36) (.tmp 50) 25 rfl 4 i1 (.bool false) 1 Tryd.underlying25 hi1 hy0 hy1 hy2 rfl _ _ _ rfl OW5.out _ (bools [qb]) rfl R5.out (bools_one _) (by simp [bools]; omega) (by omega) HS5.out ?_
                intro v6 w6 ho6 hg6
                have hb6 : Below W.heap.size (wd.alloc (.cells #[.bool qb] 4)) w6 := (Below.refl _ _).grown hg6 (Nat.le_trans HLE.out HS5.out) (fun k hk => Nat.le_trans HLE.out (own_above OW5.out k hk))
                obtain ⟨g6, c6, hv6, hg6b, _, _, _⟩ := own_form ho6 (by simp [bools])
                subst hv6
                refine hK _ _ hb6 ?_
                clear hK K
                have hX := hX.trans hb6
                have KB6 := KB5.out.grown hg6 (fun h => by have := own_above OW5.out _ h.symm; have := S3.out; omega)
                have O6 := Lib.hid ho6
                have G6 := Lib.hid hg6
                have c61 := KB6.cell 0
                simp only [List.getElem?_cons_zero] at c61
                have f61 := KB6.frozen 0
                have KB7 := Lib.hid (KB6.set 0 (.slice (some ⟨g6, 0, none⟩) (j + (bools [qb]).length) c6))
                have O7 := Lib.hid (ho6.kept (grown_set w6 (W.heap.size + 1) 0 (.slice (some ⟨g6, 0, none⟩) (j + (bools [qb]).length) c6)) (.inr (fun h => by have := own_above ho6 _ h; have := S3.out; omega)))
                have G7 := Lib.hid (grown_then (G5.out _ hg6) (grown_set w6 (W.heap.size + 1) 0 (.slice (some ⟨g6, 0, none⟩) (j + (bools [qb]).length) c6)) (fun k hk => .inr (by cases hk; rfl)))
                clear ho6 hg6 hb6 KB6
                refine sx_take (i := 17) (oi := ⟨some 52, _, _, _, _, _⟩) (v := ?_) rfl (by kernel_rfl) (by kernel_rfl) (by kernel_rfl) (fun _ _ _ h => h) rfl hX ?_ ?_; rotate_left; (intro W hW; go_simp; try with_reducible rfl); simp only [Act.put, List.setIfInBounds_toArray, List.set_cons_zero, List.set_cons_succ]
                refine sx_actB (i := 18) (o := ⟨none, _, _, _, _, _⟩) rfl (by kernel_rfl) rfl hX (fun K hK => ?_)
                go_wp2_with fail
                refine hK _ _ ((Below.refl _ _).setCell (by show W.heap.size ≤ W.heap.size + 1; omega) _) ?_
                clear hK K
                refine wpAnyH_done (by kernel_rfl) ?_ _
                go_wp2_with fail
                refine ⟨⟨j + 1, _, by omega, by congr 1, ?_, KB7.out, G7.out⟩, by simp [intOf] <;> omega⟩
                have h7 := O7.out
                rw [HB.out]
                exact h7
              · go_wp2_with fail
                refine hK _ _ ((Below.refl _ _).alloc HS4.out _) ?_
                clear hK K
                have hX := hX.alloc HS4.out (.cells #[.bool qb] 4)
                have hw5 := HW5.out
                subst hw5
                clear HW5
                refine sx_actB (i := 1) (o := ⟨some 36, _, _, _, _, _⟩) rfl (by kernel_rfl) rfl hX (fun K hK => ?_)
                go_wp2_with fail
                refine hK _ _ (Below.refl _ _) ?_
                clear hK K
                refine sx_actB (i := 16) (o := ⟨some 51, _, _, _, _, _⟩) rfl (by kernel_rfl) rfl hX (fun K hK => ?_)
                refine wp_appG (base := w3.heap.size) (.tmp 36) (.tmp 50) 25 rfl 4 i1 (.bool false) 1 Tryd.underlying25 hi1 hy0 hy1 hy2 rfl _ _ _ rfl OW5.out _ (bools [qb]) rfl R5.out (bools_one _) (by simp [bools]; omega) (by omega) HS5.out ?_
                intro v6 w6 ho6 hg6
                have hb6 : Below W.heap.size (wd.alloc (.cells #[.bool qb] 4)) w6 := (Below.refl _ _).grown hg6 (Nat.le_trans HLE.out HS5.out) (fun k hk => Nat.le_trans HLE.out (own_above OW5.out k hk))
                obtain ⟨g6, c6, hv6, hg6b, _, _, _⟩ := own_form ho6 (by simp [bools])
                subst hv6
                refine hK _ _ hb6 ?_
                clear hK K
                have hX := hX.trans hb6
                have KB6 := KB5.out.grown hg6 (fun h => by have := own_above OW5.out _ h.symm; have := S3.out; omega)
                have O6 := Lib.hid ho6
                have G6 := Lib.hid hg6
                have c61 := KB6.cell 0
                simp only [List.getElem?_cons_zero] at c61
                have f61 := KB6.frozen 0
                have KB7 := Lib.hid (KB6.set 0 (.slice (some ⟨g6, 0, none⟩) (j + (bools [qb]).length) c6))
                have O7 := Lib.hid (ho6.kept (grown_set w6 (W.heap.size + 1) 0 (.slice (some ⟨g6, 0, none⟩) (j + (bools [qb]).length) c6)) (.inr (fun h => by have := own_above ho6 _ h; have := S3.out; omega)))
                have G7 := Lib.hid (grown_then (G5.out _ hg6) (grown_set w6 (W.heap.size + 1) 0 (.slice (some ⟨g6, 0, none⟩) (j + (bools [qb]).length) c6)) (fun k hk => .inr (by cases hk; rfl)))
                clear ho6 hg6 hb6 KB6
                refine sx_take (i := 17) (oi := ⟨some 52, _, _, _, _, _⟩) (v := ?_) rfl (by kernel_rfl) (by kernel_rfl) (by kernel_rfl) (fun _ _ _ h => h) rfl hX ?_ ?_; rotate_left; (intro W hW; go_simp; try with_reducible rfl); simp only [Act.put, List.setIfInBounds_toArray, List.set_cons_zero, List.set_cons_succ]
                refine sx_actB (i := 18) (o := ⟨none, _, _, _, _, _⟩) rfl (by kernel_rfl) rfl hX (fun K hK => ?_)
                go_wp2_with fail
                refine hK _ _ ((Below.refl _ _).setCell (by show W.heap.size ≤ W.heap.size + 1; omega) _) ?_
                clear hK K
                refine wpAnyH_done (by kernel_rfl) ?_ _
                go_wp2_with fail
                refine ⟨⟨j + 1, _, by omega, by congr 1, ?_, KB7.out, G7.out⟩, by simp [intOf] <;> omega⟩
                have h7 := O7.out
                rw [HB.out]
                exact h7
        · obtain rfl : j = qs.length := by omega
          have j1 : ¬ ((qs.length : Int) < (qs.length : Int)) := by omega
          have how := HOW.out
          rw [List.take_length] at how
          have HOQ := Lib.hid how
          have K6R := Lib.hid (show Blk wr W.heap.size 30 [.slice none 0 0, .int .i64 0, .int .i64 0, .bool false, .int .i64 0] from K63.out.grown HG.out (by simp))
          have RLR := Lib.hid (RL0 HO3.out HG.out NE.out)
          have hne68 : W.heap.size ≠ W.heap.size + 1 := by omega
          have hd7 : (n7 : Int) = (deepOf l : Int) := by rw [HN7.out]; unfold deepOf; rw [chn_all, List.length_reverse]
          have HD7 := Lib.hid hd7
          clear how HOW hj hjl hd7
          obtain ⟨A8, c8, hu8, _, _, _, _⟩ := Row.of_own HOQ.out
          obtain ⟨m8, hm8⟩ : ∃ m8, m8 = (bools (qs.map fun k => decide (k ∈ chn l l.length))).length := ⟨_, rfl⟩
          rw [← hm8] at hu8
          clear hm8
          subst hu8
          by_cases hl0 : l.length = 0
          · have hn0 : n7 = 0 := by omega
            have k0 := HBK.out
            have c4 := k0.cell 4
            have f4 := k0.frozen 4
            have k1 := k0.set 4 (.int .i64 (n7 : Int))
            have m1 : ¬ (0 : Int) < (n7 : Int) := by omega
            have p1 : ¬ (0 : Int) < (l.length : Int) := by omega
            simp only [List.set_cons_zero, List.set_cons_succ, List.getElem?_cons_zero, List.getElem?_cons_succ] at c4 k1
            have KF := Lib.hid k1
            have J6 := Lib.hid (K6R.out.far (p := ⟨W.heap.size + 1, 4, none⟩) hne68 (.int .i64 (n7 : Int)))
            have BF := Lib.hid (HBW.out.setCell (p := ⟨W.heap.size + 1, 4, none⟩) (by show W.heap.size ≤ W.heap.size + 1; omega) (.int .i64 (n7 : Int)))
            have OF := Lib.hid (show (wr.setCell ⟨W.heap.size + 1, 4, none⟩ (.int .i64 (n7 : Int))).ownsRow w3.heap.size 4 1 (.slice A8 m8 c8) qs.length _ from own_other HOQ.out (fun k hk => by
              have h8 := S3.out
              rw [Below.heap_setCell _ _ _ _ (by show k ≠ W.heap.size + 1; omega)]
              ))
            clear k0 k1
            have HL0 := Lib.hid hl0
            have HN0 := Lib.hid hn0
            try clear hl0
            clear hn0
            go_wp2_with (first
              | ((with_reducible refine atDst 78 ?_); refine wpList_ldBlk rfl 30 _ rfl (W.heap.size + 1) rfl 30 _ _ KF.out Tryd.underlying30 rfl size_told2 ?_)
              | ((with_reducible refine atStore 30 6 78 ?_); refine wpList_stBlk rfl 30 _ _ rfl W.heap.size _ rfl rfl 30 _ J6.out size_told2 rfl rfl BF.out (Nat.le_refl _) ?_; intro w9 hk9 hB9 hs9 ho9; have H9 := Lib.hid hk9; have O9 := Lib.hid (own_other OF.out (fun k hk => ho9 k (by have := S3.out; omega))); have HB9 := Lib.hid hB9; clear hk9 hB9 ho9)
              | go_in)
            refine bodyPost_ret (results_blk rfl _ _ W.heap.size 30 _ _ rfl H9.out Tryd.underlying30 rfl size_told2) rfl ?_
            refine ⟨_, ?_, Row.of_own O9.out, HB9.out⟩
            have e1 : (0 : Int) = firstOf l := (first_none l (by have := HN7.out; have := HN0.out; omega)).symm
            have e2 : placeOf l a = none := by simp [placeOf, plc, List.eq_nil_of_length_eq_zero (show l.length = 0 from HL0.out)]
            rw [← e1, e2, ← HD7.out]
            rfl
          · obtain ⟨b0, off, rfl, hb0, hcell⟩ := HR.out.at_ (by rw [nums_length]; omega)
            obtain ⟨k0v, hk0v⟩ : ∃ k, k = l[0] := ⟨_, rfl⟩
            have hc00 := hcell 0 _ (nums_get _ l 0 (by omega))
            rw [← hk0v, Nat.add_zero] at hc00
            have HK0 := Lib.hid hk0v
            clear hcell hk0v
            by_cases h06 : k0v = 6
            · subst h06
              have h06 : (6 : Int) = 6 := rfl
              by_cases hn0 : n7 = 0
              · exfalso
                have h1 := HN7.out
                have h2 : (6 : Int) ∈ fl l := by
                  unfold fl
                  rw [List.mem_filter]
                  exact ⟨by rw [HK0.out]; exact List.getElem_mem _, by decide⟩
                rw [hn0] at h1
                rw [List.eq_nil_of_length_eq_zero h1.symm] at h2
                cases h2
              · have hn1 : 0 < n7 := by omega
                clear h06
                have k0 := HBK.out
                have c4 := k0.cell 4
                have f4 := k0.frozen 4
                have k1 := k0.set 4 (.int .i64 (n7 : Int))
                obtain ⟨gl, cl, hv7, hgl, hgl2, _, _⟩ := own_form HO3.out (by rw [← HN7.out]; omega)
                injection hv7 with hA7 hn7' hc7'
                subst hA7
                subst hc7'
                clear hn7' hgl2
                have hglb : W.heap.size + 2 ≤ gl := by rw [← S2.out]; exact hgl
                obtain ⟨f, hf⟩ : ∃ f, f = firstOf l := ⟨_, rfl⟩
                have hcl : (wr.setCell ⟨W.heap.size + 1, 4, none⟩ (.int .i64 (n7 : Int))).cell? ⟨gl, n7 - 1, none⟩ = some (.int .i64 f) := by
                  rw [World.cell?_setCell_other _ _ _ _ (by intro h; simp only [Addr.mk.injEq] at h; omega)]
                  obtain ⟨b7, o7, hA, _, hc⟩ := RLR.out.at_ (by rw [nums_length, ← HN7.out]; omega)
                  cases hA
                  have := hc (n7 - 1) _ (nums_get _ (fl l) (n7 - 1) (by rw [← HN7.out]; omega))
                  rw [Nat.zero_add] at this
                  rw [this, hf, first_last l (by rw [← HN7.out]; omega)]
                  simp only [HN7.out]
                have HFF := Lib.hid hf
                clear hf
                have c1 := k1.cell 1
                have f1 := k1.frozen 1
                have k2 := k1.set 1 (.int .i64 f)
                have m1 : (0 : Int) < (n7 : Int) := by omega
                have m2 : (n7 : Int) - 1 < (n7 : Int) := by omega
                have m3 : (0 : Int) ≤ (n7 : Int) - 1 := by omega
                have m4 : ((n7 : Int) - 1).toNat = n7 - 1 := by omega
                have p1 : (0 : Int) < (l.length : Int) := by omega
                have hc0 : ((wr.setCell ⟨W.heap.size + 1, 4, none⟩ (.int .i64 (n7 : Int))).setCell ⟨W.heap.size + 1, 1, none⟩ (.int .i64 f)).cell? ⟨b0, off, none⟩ = some (.int .i64 6) := by
                  rw [World.cell?_setCell_other _ _ _ _ (by intro h; simp only [Addr.mk.injEq] at h; omega)]
                  rw [World.cell?_setCell_other _ _ _ _ (by intro h; simp only [Addr.mk.injEq] at h; omega)]
                  exact (HBW.out.cell (p := ⟨b0, off, none⟩) hb0).trans hc00
                have c3 := k2.cell 3
                have f3 := k2.frozen 3
                have k3 := k2.set 3 (.bool true)
                have c2 := k3.cell 2
                have f2 := k3.frozen 2
                have k4 := k3.set 2 (.int .i64 a)
                simp only [List.set_cons_zero, List.set_cons_succ, List.getElem?_cons_zero, List.getElem?_cons_succ] at c4 c1 c3 c2 k4
                have KF := Lib.hid k4
                have J6 := Lib.hid ((((K6R.out.far (p := ⟨W.heap.size + 1, 4, none⟩) hne68 (.int .i64 (n7 : Int))).far (p := ⟨W.heap.size + 1, 1, none⟩) hne68 (.int .i64 f)).far (p := ⟨W.heap.size + 1, 3, none⟩) hne68 (.bool true)).far (p := ⟨W.heap.size + 1, 2, none⟩) hne68 (.int .i64 a))
                have BF := Lib.hid ((((HBW.out.setCell (p := ⟨W.heap.size + 1, 4, none⟩) (by show W.heap.size ≤ W.heap.size + 1; omega) (.int .i64 (n7 : Int))).setCell (p := ⟨W.heap.size + 1, 1, none⟩) (by show W.heap.size ≤ W.heap.size + 1; omega) (.int .i64 f)).setCell (p := ⟨W.heap.size + 1, 3, none⟩) (by show W.heap.size ≤ W.heap.size + 1; omega) (.bool true)).setCell (p := ⟨W.heap.size + 1, 2, none⟩) (by show W.heap.size ≤ W.heap.size + 1; omega) (.int .i64 a))
                have OF := Lib.hid (show ((((wr.setCell ⟨W.heap.size + 1, 4, none⟩ (.int .i64 (n7 : Int))).setCell ⟨W.heap.size + 1, 1, none⟩ (.int .i64 f)).setCell ⟨W.heap.size + 1, 3, none⟩ (.bool true)).setCell ⟨W.heap.size + 1, 2, none⟩ (.int .i64 a)).ownsRow w3.heap.size 4 1 (.slice A8 m8 c8) qs.length _ from own_other HOQ.out (fun k hk => by
                  have h8 := S3.out
                  rw [Below.heap_setCell _ _ _ _ (by show k ≠ W.heap.size + 1; omega)]
                  rw [Below.heap_setCell _ _ _ _ (by show k ≠ W.heap.size + 1; omega)]
                  rw [Below.heap_setCell _ _ _ _ (by show k ≠ W.heap.size + 1; omega)]
                  rw [Below.heap_setCell _ _ _ _ (by show k ≠ W.heap.size + 1; omega)]
                  ))
                clear k0 k1 k2 k3 k4
                have HL0 := Lib.hid hl0
                have HN0 := Lib.hid hn0
                try clear hl0
                clear hn0
                go_wp2_with (first
                  | ((with_reducible refine atDst 78 ?_); refine wpList_ldBlk rfl 30 _ rfl (W.heap.size + 1) rfl 30 _ _ KF.out Tryd.underlying30 rfl size_told2 ?_)
                  | ((with_reducible refine atStore 30 6 78 ?_); refine wpList_stBlk rfl 30 _ _ rfl W.heap.size _ rfl rfl 30 _ J6.out size_told2 rfl rfl BF.out (Nat.le_refl _) ?_; intro w9 hk9 hB9 hs9 ho9; have H9 := Lib.hid hk9; have O9 := Lib.hid (own_other OF.out (fun k hk => ho9 k (by have := S3.out; omega))); have HB9 := Lib.hid hB9; clear hk9 hB9 ho9)
                  | go_in)
                refine bodyPost_ret (results_blk rfl _ _ W.heap.size 30 _ _ rfl H9.out Tryd.underlying30 rfl size_told2) rfl ?_
                refine ⟨_, ?_, Row.of_own O9.out, HB9.out⟩
                have e1 : f = firstOf l := HFF.out
                have e2 : placeOf l a = some a := by rw [place_head l a (by have := HL0.out; omega), ← HK0.out]; simp
                rw [← e1, e2, ← HD7.out]
                rfl
            · have h06' : (k0v == 6) = false := by simp [h06]
              by_cases hn0 : n7 = 0
              · skip
                have k0 := HBK.out
                have c4 := k0.cell 4
                have f4 := k0.frozen 4
                have k1 := k0.set 4 (.int .i64 (n7 : Int))
                have m1 : ¬ (0 : Int) < (n7 : Int) := by omega
                have p1 : (0 : Int) < (l.length : Int) := by omega
                have hc0 : (wr.setCell ⟨W.heap.size + 1, 4, none⟩ (.int .i64 (n7 : Int))).cell? ⟨b0, off, none⟩ = some (.int .i64 k0v) := by
                  rw [World.cell?_setCell_other _ _ _ _ (by intro h; simp only [Addr.mk.injEq] at h; omega)]
                  exact (HBW.out.cell (p := ⟨b0, off, none⟩) hb0).trans hc00
                simp only [List.set_cons_zero, List.set_cons_succ, List.getElem?_cons_zero, List.getElem?_cons_succ] at c4 k1
                have KF := Lib.hid k1
                have J6 := Lib.hid (K6R.out.far (p := ⟨W.heap.size + 1, 4, none⟩) hne68 (.int .i64 (n7 : Int)))
                have BF := Lib.hid (HBW.out.setCell (p := ⟨W.heap.size + 1, 4, none⟩) (by show W.heap.size ≤ W.heap.size + 1; omega) (.int .i64 (n7 : Int)))
                have OF := Lib.hid (show (wr.setCell ⟨W.heap.size + 1, 4, none⟩ (.int .i64 (n7 : Int))).ownsRow w3.heap.size 4 1 (.slice A8 m8 c8) qs.length _ from own_other HOQ.out (fun k hk => by
                  have h8 := S3.out
                  rw [Below.heap_setCell _ _ _ _ (by show k ≠ W.heap.size + 1; omega)]
                  ))
                clear k0 k1
                have HL0 := Lib.hid hl0
                have HN0 := Lib.hid hn0
                try clear hl0
                clear hn0
                go_wp2_with (first
                  | ((with_reducible refine atDst 78 ?_); refine wpList_ldBlk rfl 30 _ rfl (W.heap.size + 1) rfl 30 _ _ KF.out Tryd.underlying30 rfl size_told2 ?_)
                  | ((with_reducible refine atStore 30 6 78 ?_); refine wpList_stBlk rfl 30 _ _ rfl W.heap.size _ rfl rfl 30 _ J6.out size_told2 rfl rfl BF.out (Nat.le_refl _) ?_; intro w9 hk9 hB9 hs9 ho9; have H9 := Lib.hid hk9; have O9 := Lib.hid (own_other OF.out (fun k hk => ho9 k (by have := S3.out; omega))); have HB9 := Lib.hid hB9; clear hk9 hB9 ho9)
                  | go_in)
                refine bodyPost_ret (results_blk rfl _ _ W.heap.size 30 _ _ rfl H9.out Tryd.underlying30 rfl size_told2) rfl ?_
                refine ⟨_, ?_, Row.of_own O9.out, HB9.out⟩
                have e1 : (0 : Int) = firstOf l := (first_none l (by have := HN7.out; have := HN0.out; omega)).symm
                have e2 : placeOf l a = none := by rw [place_head l a (by have := HL0.out; omega), ← HK0.out]; simp [h06]
                rw [← e1, e2, ← HD7.out]
                rfl
              · have hn1 : 0 < n7 := by omega
                have k0 := HBK.out
                have c4 := k0.cell 4
                have f4 := k0.frozen 4
                have k1 := k0.set 4 (.int .i64 (n7 : Int))
                obtain ⟨gl, cl, hv7, hgl, hgl2, _, _⟩ := own_form HO3.out (by rw [← HN7.out]; omega)
                injection hv7 with hA7 hn7' hc7'
                subst hA7
                subst hc7'
                clear hn7' hgl2
                have hglb : W.heap.size + 2 ≤ gl := by rw [← S2.out]; exact hgl
                obtain ⟨f, hf⟩ : ∃ f, f = firstOf l := ⟨_, rfl⟩
                have hcl : (wr.setCell ⟨W.heap.size + 1, 4, none⟩ (.int .i64 (n7 : Int))).cell? ⟨gl, n7 - 1, none⟩ = some (.int .i64 f) := by
                  rw [World.cell?_setCell_other _ _ _ _ (by intro h; simp only [Addr.mk.injEq] at h; omega)]
                  obtain ⟨b7, o7, hA, _, hc⟩ := RLR.out.at_ (by rw [nums_length, ← HN7.out]; omega)
                  cases hA
                  have := hc (n7 - 1) _ (nums_get _ (fl l) (n7 - 1) (by rw [← HN7.out]; omega))
                  rw [Nat.zero_add] at this
                  rw [this, hf, first_last l (by rw [← HN7.out]; omega)]
                  simp only [HN7.out]
                have HFF := Lib.hid hf
                clear hf
                have c1 := k1.cell 1
                have f1 := k1.frozen 1
                have k2 := k1.set 1 (.int .i64 f)
                have m1 : (0 : Int) < (n7 : Int) := by omega
                have m2 : (n7 : Int) - 1 < (n7 : Int) := by omega
                have m3 : (0 : Int) ≤ (n7 : Int) - 1 := by omega
                have m4 : ((n7 : Int) - 1).toNat = n7 - 1 := by omega
                have p1 : (0 : Int) < (l.length : Int) := by omega
                have hc0 : ((wr.setCell ⟨W.heap.size + 1, 4, none⟩ (.int .i64 (n7 : Int))).setCell ⟨W.heap.size + 1, 1, none⟩ (.int .i64 f)).cell? ⟨b0, off, none⟩ = some (.int .i64 k0v) := by
                  rw [World.cell?_setCell_other _ _ _ _ (by intro h; simp only [Addr.mk.injEq] at h; omega)]
                  rw [World.cell?_setCell_other _ _ _ _ (by intro h; simp only [Addr.mk.injEq] at h; omega)]
                  exact (HBW.out.cell (p := ⟨b0, off, none⟩) hb0).trans hc00
                simp only [List.set_cons_zero, List.set_cons_succ, List.getElem?_cons_zero, List.getElem?_cons_succ] at c4 c1 k2
                have KF := Lib.hid k2
                have J6 := Lib.hid ((K6R.out.far (p := ⟨W.heap.size + 1, 4, none⟩) hne68 (.int .i64 (n7 : Int))).far (p := ⟨W.heap.size + 1, 1, none⟩) hne68 (.int .i64 f))
                have BF := Lib.hid ((HBW.out.setCell (p := ⟨W.heap.size + 1, 4, none⟩) (by show W.heap.size ≤ W.heap.size + 1; omega) (.int .i64 (n7 : Int))).setCell (p := ⟨W.heap.size + 1, 1, none⟩) (by show W.heap.size ≤ W.heap.size + 1; omega) (.int .i64 f))
                have OF := Lib.hid (show ((wr.setCell ⟨W.heap.size + 1, 4, none⟩ (.int .i64 (n7 : Int))).setCell ⟨W.heap.size + 1, 1, none⟩ (.int .i64 f)).ownsRow w3.heap.size 4 1 (.slice A8 m8 c8) qs.length _ from own_other HOQ.out (fun k hk => by
                  have h8 := S3.out
                  rw [Below.heap_setCell _ _ _ _ (by show k ≠ W.heap.size + 1; omega)]
                  rw [Below.heap_setCell _ _ _ _ (by show k ≠ W.heap.size + 1; omega)]
                  ))
                clear k0 k1 k2
                have HL0 := Lib.hid hl0
                have HN0 := Lib.hid hn0
                try clear hl0
                clear hn0
                go_wp2_with (first
                  | ((with_reducible refine atDst 78 ?_); refine wpList_ldBlk rfl 30 _ rfl (W.heap.size + 1) rfl 30 _ _ KF.out Tryd.underlying30 rfl size_told2 ?_)
                  | ((with_reducible refine atStore 30 6 78 ?_); refine wpList_stBlk rfl 30 _ _ rfl W.heap.size _ rfl rfl 30 _ J6.out size_told2 rfl rfl BF.out (Nat.le_refl _) ?_; intro w9 hk9 hB9 hs9 ho9; have H9 := Lib.hid hk9; have O9 := Lib.hid (own_other OF.out (fun k hk => ho9 k (by have := S3.out; omega))); have HB9 := Lib.hid hB9; clear hk9 hB9 ho9)
                  | go_in)
                refine bodyPost_ret (results_blk rfl _ _ W.heap.size 30 _ _ rfl H9.out Tryd.underlying30 rfl size_told2) rfl ?_
                refine ⟨_, ?_, Row.of_own O9.out, HB9.out⟩
                have e1 : f = firstOf l := HFF.out
                have e2 : placeOf l a = none := by rw [place_head l a (by have := HL0.out; omega), ← HK0.out]; simp [h06]
                rw [← e1, e2, ← HD7.out]
                rfl
end Go.Proofs.YtiagcbedmdfjpaaDoor
