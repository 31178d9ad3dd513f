/-
  The walk of the statement CauseCodes: the Go text returns true and turns nothing that was there. Conditions: the slice reads as kinds, the uint8 fits its kind; the two variables of the packages' own hold what the program lays.
-/
import Derived.Test.YtiagcbedmdfjpaaDoorWraps
import Derived.Test.YtiagcbedmdfjpaaDoorReg
import Derived.Deep.RegionHeld
namespace Go.Proofs.YtiagcbedmdfjpaaDoor
open Go.RowKit Go.Extern.Stop Go.Stop Go.Extern
set_option linter.unusedSimpArgs false
set_option linter.unusedVariables false

/-- Whether some kind of the order is in a list. -/
def listedB (l : List Int) : Bool := l.any fun k => decide (k ∈ ord)
theorem codeOf_some {l : List Int} {k : Int} (h : ord.find? (fun k => decide (k ∈ l)) = some k) : codeOf l = k := by simp [codeOf, h]
/-- The code hangs on which kinds there are alone, if one of the order is there. -/
theorem codeOf_same {l m : List Int} (h : ∀ k, k ∈ l ↔ k ∈ m) (hl : ∃ k ∈ ord, k ∈ l) : codeOf l = codeOf m := by
  have e : (ord.find? fun k => decide (k ∈ l)) = ord.find? fun k => decide (k ∈ m) := by
    congr 1
    funext k
    simp [h k]
  unfold codeOf
  rw [e]
  obtain ⟨k, hk, hkl⟩ := hl
  cases hf : ord.find? fun k => decide (k ∈ m) with
  | some x => rfl
  | none =>
    have := List.find?_eq_none.1 hf k hk
    simp [← h k, hkl] at this
theorem ord_pos (k : Int) (h : k ∈ ord) : k ≠ 0 := by
  simp [ord] at h
  omega
theorem codeK_rot (l : List Int) (k : Nat) (h : listedB l = true) : codeK (l.drop k ++ l.take k) = codeK l := by
  unfold codeK
  refine (codeOf_same (fun x => ?_) ?_).symm
  · rw [mem_chn, mem_chn]
    constructor
    · rintro ⟨h1, h2⟩
      refine ⟨?_, h2⟩
      rw [← List.take_append_drop k l] at h1
      rcases List.mem_append.1 h1 with h | h
      · exact List.mem_append_right _ h
      · exact List.mem_append_left _ h
    · rintro ⟨h1, h2⟩
      refine ⟨?_, h2⟩
      rw [← List.take_append_drop k l]
      rcases List.mem_append.1 h1 with h | h
      · exact List.mem_append_right _ h
      · exact List.mem_append_left _ h
  · obtain ⟨x, hx, ho⟩ := List.any_eq_true.1 h
    have ho' : x ∈ ord := by simpa using ho
    exact ⟨x, ho', (mem_chn x l).2 ⟨hx, ord_pos x ho'⟩⟩
theorem place_head (l : List Int) (a : Int) (h : 0 < l.length) : placeOf l a = if l[0] = 6 then some a else none := by
  cases l with
  | nil => simp at h
  | cons x r => simp [placeOf, plc]
theorem codeAt_zero (l : List Int) (a : Int) (h : 0 < l.length) (hp : ¬ (codeK l = 6 ∧ l[0] = 6)) : codeAt l a = 0 := by
  unfold codeAt
  rw [place_head l a h]
  by_cases h1 : codeK l = 6
  · have : ¬ l[0] = 6 := fun h2 => hp ⟨h1, h2⟩
    simp [this]
  · simp [h1]
theorem codeAt_at (l : List Int) (a : Int) (h : 0 < l.length) (hp : codeK l = 6 ∧ l[0] = 6) : codeAt l a = a := by
  unfold codeAt
  rw [place_head l a h]
  simp [hp.1, hp.2]
theorem listed_take (l : List Int) (j : Nat) (h : j < l.length) : listedB (l.take (j + 1)) = (listedB (l.take j) || decide (l[j] ∈ ord)) := by
  unfold listedB
  rw [List.take_succ_eq_append_getElem h, List.any_append]
  simp

/-- What the inner loop has behind n rounds. -/
def inl (l : List Int) (j : Nat) (k : Int) (n : Nat) : Bool := listedB (l.take j) || (ord.take n).any fun o => k == o
theorem inl_step (l : List Int) (j : Nat) (k : Int) (n : Nat) (h : n < 10) : inl l j k (n + 1) = (inl l j k n || (k == ord.getD n 0)) := by
  unfold inl
  have hn : n < ord.length := h
  rw [List.take_succ_eq_append_getElem hn, List.any_append]
  simp [List.getD, hn, Bool.or_assoc]
theorem inl_all (l : List Int) (j : Nat) (h : j < l.length) : inl l j l[j] 10 = listedB (l.take (j + 1)) := by
  rw [listed_take l j h]
  unfold inl
  congr 1
  rw [show ord.take 10 = ord from rfl, Bool.eq_iff_iff]
  simp [List.any_eq_true]

set_option maxHeartbeats 8000000 in
set_option maxRecDepth 1000000 in
theorem codes_walk {W : World} (vk : Value) (l : List Int) (a : Int) (tn : Nat) (hr : Row W vk (ints l)) (he : EtAt W) (ho : OrdAt W) (htn : tn < 256) :
    Calls Tryd.prog 5 #[vk, .int .i64 a, .int .u8 (tn : Int)] W fun e w' => e = .returned (.bool true) ∧ Below W.heap.size W w' := by
  have HR := Lib.hid hr
  have HE := Lib.hid he
  have HO := Lib.hid ho
  obtain ⟨A, cap, rfl, a1, a2, a0, a3⟩ := hr
  rw [nums_length] at a1 HR ⊢
  have hll : l.length ≤ 9223372036854775807 := by unfold maxLen at a2; omega
  have hcap : cap ≤ 9223372036854775807 := by unfold maxLen at a2; omega
  have HC1 := Lib.hid a1
  have HC2 := Lib.hid hcap
  clear a3 a0 a1 a2 he ho hcap
  obtain ⟨i0, hi0, hz0, hz1, hz2⟩ := info_parts' info_errno
  go_enter Tryd.func5, Tryd.ntmps5
  go_wp2_with fail
  refine (begun_any HE.out HO.out).mono ?_
  rintro e w1 ⟨rfl, hb1⟩
  have HB1 := Lib.hid hb1
  clear hb1
  go_wp2_with fail
  refine (kinds_any _ l (HR.out.below HB1.out)).mono ?_
  rintro e w1 ⟨he, rfl⟩
  cases hok : okK l with
  | false =>
    rw [hok] at he
    subst he
    go_wp2_with fail
    go_ret
    exact ⟨rfl, HB1.out⟩
  | true =>
  rw [hok] at he
  subst he
  by_cases h0 : l.length = 0
  · have n0 : ((l.length : Int) == 0) = true := by simp [h0]
    go_wp2_with fail
    go_ret
    exact ⟨rfl, HB1.out⟩
  have n0 : ((l.length : Int) == 0) = false := by simp; intro h; exact h0 (by simp [h])
  by_cases h20 : 20 < l.length
  · have n2 : 20 < (l.length : Int) := by omega
    go_wp2_with fail
    go_ret
    exact ⟨rfl, HB1.out⟩
  have n2 : ¬ 20 < (l.length : Int) := by omega
  obtain ⟨b0, off, rfl, hb0, hcell⟩ := (HR.out.below HB1.out).at_ (by rw [nums_length]; omega)
  clear hcell
  obtain ⟨q, hq⟩ : ∃ q, q = tn % l.length := ⟨_, rfl⟩
  have hql : q < l.length := by rw [hq]; exact Nat.mod_lt _ (by omega)
  have hmod : (tn : Int) % (l.length : Int) = (q : Int) := by rw [hq]; rfl
  have htm : (tn : Int).tmod (l.length : Int) = (q : Int) := by rw [Int.tmod_eq_emod_of_nonneg (by omega)]; exact hmod
  have w8 : IntKind.i64.wrap (tn : Int) = (tn : Int) := IntWalk.i64_in _ (by omega)
  have HQ := Lib.hid hq
  clear hq
  go_wp2_with fail
  have ko := Blk.new w1 26 (ints ord)
  have bo : Below w1.heap.size w1 (w1.alloc (.cells (ints ord).toArray 26)) := (Below.refl _ _).alloc (Nat.le_refl _) _
  refine sx_start (by kernel_rfl) (fun wS hS hSz => ?_)
  have KO := Lib.hid (show Blk wS w1.heap.size 26 (ints ord) from ko.below hS ko.lt)
  have HBS := Lib.hid (HB1.out.trans ((bo.trans (hS.mono bo.size)).mono HB1.out.size))
  have hX := Below.refl wS.heap.size wS
  have q1 : (q : Int) < (l.length : Int) := by omega
  have q2 : (q : Int) ≤ (cap : Int) := by have := HC1.out; omega
  have q3 : (l.length : Int) ≤ (cap : Int) := by have := HC1.out; omega
  have q4 : q ≤ l.length := by omega
  have q5 : ¬ cap = q := by have := HC1.out; omega
  have q6 : q ≤ cap := by have := HC1.out; omega
  have RD := Lib.hid (show Row W (.slice (some ⟨b0, off + q, none⟩) (l.length - q) (cap - q)) (ints (l.drop q)) by
    have h := HR.out
    rw [← nums_length .i64 l] at h
    obtain ⟨b', o', he, h2⟩ := h.drop q (by rw [nums_length]; exact hql)
    cases he
    rw [nums_length] at h2
    simpa [nums] using h2)
  have RT := Lib.hid (show Row W (.slice (some ⟨b0, off, none⟩) q cap) (ints (l.take q)) by
    have h := HR.out
    rw [← nums_length .i64 l] at h
    have h2 := h.take q (by rw [nums_length]; omega)
    simpa [nums] using h2)
  have LD := Lib.hid (show (ints (l.drop q)).length ≤ 20 by rw [nums_length, List.length_drop]; omega)
  have LT := Lib.hid (show (ints (l.take q)).length ≤ 20 by rw [nums_length, List.length_take]; omega)
  have AS := Lib.hid (show Below wS.heap.size wS (wS.alloc (.cells #[] 26)) from (Below.refl _ _).alloc (Nat.le_refl _) _)
  have OS := Lib.hid (World.ownsRow_made (base := wS.heap.size) (e := 26) (size := 1) wS #[] 0 (Nat.le_refl _) (by unfold maxLen; omega) (by simp))
  clear hS hSz ko bo
  refine sx_take (i := 1) (oi := ⟨some 40, _, _, _, _, _⟩) (v := ?_) rfl (by kernel_rfl) (by kernel_rfl) (by kernel_rfl) (fun _ _ _ h => h) rfl hX ?_ ?_; rotate_left; (intro W hW; go_simp; try first | with_reducible rfl | (simp only [if_pos q4, if_neg q5, if_pos q6]; with_reducible rfl)); simp only [Act.put, List.setIfInBounds_toArray, List.set_cons_zero, List.set_cons_succ]
  refine sx_take (i := 2) (oi := ⟨some 41, _, _, _, _, _⟩) (v := ?_) rfl (by kernel_rfl) (by kernel_rfl) (by kernel_rfl) (fun _ _ _ h => h) rfl hX ?_ ?_; rotate_left; (intro W hW; go_simp; try first | with_reducible rfl | (simp only [if_pos q4, if_neg q5, if_pos q6]; with_reducible rfl)); simp only [Act.put, List.setIfInBounds_toArray, List.set_cons_zero, List.set_cons_succ]
  refine sx_take (i := 3) (oi := ⟨some 42, _, _, _, _, _⟩) (v := ?_) rfl (by kernel_rfl) (by kernel_rfl) (by kernel_rfl) (fun _ _ _ h => h) rfl hX ?_ ?_; rotate_left; (intro W hW; go_simp; try first | with_reducible rfl | (simp only [if_pos q4, if_neg q5, if_pos q6]; with_reducible rfl)); simp only [Act.put, List.setIfInBounds_toArray, List.set_cons_zero, List.set_cons_succ]
  refine sx_take (i := 5) (oi := ⟨some 44, _, _, _, _, _⟩) (v := ?_) rfl (by kernel_rfl) (by kernel_rfl) (by kernel_rfl) (fun _ _ _ h => h) rfl hX ?_ ?_; rotate_left; (intro W hW; go_simp; try first | with_reducible rfl | (simp only [if_pos q4, if_neg q5, if_pos q6]; with_reducible rfl)); simp only [Act.put, List.setIfInBounds_toArray, List.set_cons_zero, List.set_cons_succ]
  refine sx_take (i := 6) (oi := ⟨some 45, _, _, _, _, _⟩) (v := ?_) rfl (by kernel_rfl) (by kernel_rfl) (by kernel_rfl) (fun _ _ _ h => h) rfl hX ?_ ?_; rotate_left; (intro W hW; go_simp; try first | with_reducible rfl | (simp only [if_pos q4, if_neg q5, if_pos q6]; with_reducible rfl)); simp only [Act.put, List.setIfInBounds_toArray, List.set_cons_zero, List.set_cons_succ]
  refine sx_take (i := 7) (oi := ⟨some 46, _, _, _, _, _⟩) (v := ?_) rfl (by kernel_rfl) (by kernel_rfl) (by kernel_rfl) (fun _ _ _ h => h) rfl hX ?_ ?_; rotate_left; (intro W hW; go_simp; try first | with_reducible rfl | (simp only [if_pos q4, if_neg q5, if_pos q6]; with_reducible rfl)); simp only [Act.put, List.setIfInBounds_toArray, List.set_cons_zero, List.set_cons_succ]
  refine sx_actB (i := 0) (o := ⟨some 39, _, _, _, _, _⟩) rfl (by kernel_rfl) rfl hX (fun K hK => ?_)
  go_wp2_with fail
  refine hK _ _ AS.out ?_
  clear hK K hX
  have hX := AS.out
  refine sx_actB (i := 4) (o := ⟨some 43, _, _, _, _, _⟩) rfl (by kernel_rfl) rfl hX (fun K hK => ?_)
  refine wp_appR (w0 := wS) (.tmp 39) (.tmp 42) 22 rfl 26 i0 (.int .i64 0) 8 Tryd.underlying22 hi0 hz0 hz1 hz2 rfl _ _ _ rfl OS.out _ (ints (l.drop q)) rfl ((RD.out.below HBS.out).below AS.out) (nums_one _ _) (by have := LD.out; omega) (by omega) AS.out ?_
  intro v4 w4 ho4 hr4 hb4 hg4
  refine hK _ _ ((Below.refl _ _).grown hg4 AS.out.size (own_above OS.out)) ?_
  clear hK K hX
  have hX := hb4
  have O4 := Lib.hid ho4
  clear ho4 hr4 hg4
  refine sx_actB (i := 8) (o := ⟨some 47, _, _, _, _, _⟩) rfl (by kernel_rfl) rfl hX (fun K hK => ?_)
  refine wp_appR (w0 := wS) (.tmp 43) (.tmp 46) 22 rfl 26 i0 (.int .i64 0) 8 Tryd.underlying22 hi0 hz0 hz1 hz2 rfl _ _ _ rfl O4.out _ (ints (l.take q)) rfl ((RT.out.below HBS.out).below hb4) (nums_one _ _) (by have := LD.out; have := LT.out; omega) (by omega) hb4 ?_
  intro v5 w5 _ hr5 hb5 hg5
  refine hK _ _ ((Below.refl _ _).grown hg5 hb4.size (own_above O4.out)) ?_
  clear hK K hX
  have hX := hb5
  have R5 := Lib.hid (show Row w5 v5 (nums .i64 (l.drop q ++ l.take q)) by rw [nums_append]; exact hr5)
  clear hr5 hg5
  refine sx_take (i := 9) (oi := ⟨some 9, _, _, _, _, _⟩) (v := ?_) rfl (by kernel_rfl) (by kernel_rfl) (by kernel_rfl) (fun _ _ _ h => h) rfl hX ?_ ?_; rotate_left; (intro W hW; go_simp; try first | with_reducible rfl | (simp only [if_pos q4, if_neg q5, if_pos q6]; with_reducible rfl)); simp only [Act.put, List.setIfInBounds_toArray, List.set_cons_zero, List.set_cons_succ]
  refine wpAnyH_done (by kernel_rfl) ?_ _
  have HB5 := Lib.hid (HBS.out.trans (hb5.mono HBS.out.size))
  have K5 := Lib.hid (KO.out.below hb5 KO.out.lt)
  clear hb4 hb5 hX
  obtain ⟨cv, hcv⟩ : ∃ cv, cv = codeK l := ⟨_, rfl⟩
  obtain ⟨cx, hcx⟩ : ∃ cx, cx = codeAt l a := ⟨_, rfl⟩
  obtain ⟨cm, hcm⟩ : ∃ cm, cm = codeK (l.drop q ++ l.take q) := ⟨_, rfl⟩
  obtain ⟨cy, hcy⟩ : ∃ cy, cy = codeAt (l.drop q ++ l.take q) a := ⟨_, rfl⟩
  have HCV := Lib.hid hcv
  have HCX := Lib.hid hcx
  have HCM := Lib.hid hcm
  have HCY := Lib.hid hcy
  clear hcv hcx hcm hcy
  go_wp2_with fail
  refine (code_any _ l a (HR.out.below HB5.out) (by omega) (HE.out.stay HB5.out) (HO.out.stay HB5.out)).mono ?_
  rintro e w6 ⟨he6, hb6⟩
  rw [← HCV.out, ← HCX.out] at he6
  subst he6
  have HB6 := Lib.hid (HB5.out.trans (hb6.mono HB5.out.size))
  have K6 := Lib.hid (K5.out.below hb6 K5.out.lt)
  have R6 := Lib.hid (R5.out.below hb6)
  clear hb6
  go_wp2_with fail
  refine (code_any _ (l.drop q ++ l.take q) a R6.out (by simp; omega) (HE.out.stay HB6.out) (HO.out.stay HB6.out)).mono ?_
  rintro e w7 ⟨he7, hb7⟩
  rw [← HCM.out, ← HCY.out] at he7
  subst he7
  have HB7 := Lib.hid (HB6.out.trans (hb7.mono HB6.out.size))
  have K7 := Lib.hid (K6.out.below hb7 K6.out.lt)
  clear hb7
  go_wp2_with fail
  go_loopw [14, 15] (fun b i wl => ∃ j : Nat, j ≤ l.length ∧ i = .int .i64 (j : Int) ∧ b = .bool (listedB (l.take j)) ∧ Below w7.heap.size w7 wl) (fun _ i _ => l.length - (intOf i).toNat)
  case atStart => exact ⟨0, by omega, by simp, by simp [listedB], Below.refl _ _⟩
  case round =>
    obtain ⟨j, hj, rfl, rfl, hbr⟩ := hrel
    have HBR := Lib.hid hbr
    clear hbr
    by_cases hjl : j < l.length
    · have i1 : (j : Int) < (l.length : Int) := by omega
      obtain ⟨k, hk⟩ : ∃ k, k = l[j] := ⟨_, rfl⟩
      have HK := Lib.hid hk
      clear hk
      go_wp2_with fail
      obtain ⟨wo, hwo⟩ : ∃ wo : World, wo = wr := ⟨_, rfl⟩
      rw [← hwo] at HBR
      have HWO := Lib.hid hwo
      clear hwo
      go_loopw [14, 16] (fun b i wl => ∃ n : Nat, n ≤ 10 ∧ i = .int .i64 (n : Int) ∧ b = .bool (inl l j k n) ∧ Below w7.heap.size w7 wl) (fun _ i _ => 10 - (intOf i).toNat)
      case atStart => exact ⟨0, by omega, by simp, by simp [inl], by rw [← HWO.out]; exact HBR.out⟩
      case round =>
        obtain ⟨n, hn, rfl, rfl, hbr2⟩ := hrel
        have HBR2 := Lib.hid hbr2
        clear hbr2
        by_cases hn10 : n < 10
        · have i2 : (n : Int) < 10 := by omega
          have K8 := K7.out.below HBR2.out K7.out.lt
          have c1 := K8.cell n
          have hor := HR.out.below (HB7.out.trans (HBR2.out.mono HB7.out.size))
          obtain ⟨b1, off1, hA1, hb1, hcell⟩ := hor.at_ (by rw [nums_length]; omega)
          cases hA1
          have hcj := hcell j _ (nums_get _ l j hjl)
          rw [← HK.out] at hcj
          obtain ⟨o, ho⟩ : ∃ o, o = ord.getD n 0 := ⟨_, rfl⟩
          have hc1 : wr.cell? ⟨w1.heap.size, n, none⟩ = some (.int .i64 o) := by
            rw [c1, nums_get _ ord n hn10, ho]
            simp [List.getD, show n < ord.length from hn10]
            rfl
          have hst := inl_step l j k n hn10
          rw [← ho] at hst
          have HST := Lib.hid hst
          clear hcell hor c1 K8 hb1 hst ho
          cases hb : inl l j k n with
          | true =>
            rw [hb] at HST
            go_wp2_with fail
            go_quiet (fail)
            go_wp2_with fail
            exact ⟨⟨n + 1, by omega, by congr 1, by rw [HST.out]; rfl, below_drewN HBR2.out _⟩, by simp [intOf] <;> omega⟩
          | false =>
            rw [hb] at HST
            go_wp2_with fail
            go_quiet (fail)
            go_wp2_with fail
            exact ⟨⟨n + 1, by omega, by congr 1, by rw [HST.out]; rfl, below_drewN HBR2.out _⟩, by simp [intOf] <;> omega⟩
        · obtain rfl : n = 10 := by omega
          have hfin := inl_all l j hjl
          rw [← HK.out] at hfin
          have HFIN := Lib.hid hfin
          clear hfin
          go_wp2_with fail
          exact ⟨⟨j + 1, by omega, by congr 1, by rw [HFIN.out], HBR2.out⟩, by simp [intOf] <;> omega⟩
    · obtain rfl : j = l.length := by omega
      have i1 : ¬ ((l.length : Int) < (l.length : Int)) := by omega
      rw [List.take_length]
      have HB8 := Lib.hid (HB7.out.trans (HBR.out.mono HB7.out.size))
      obtain ⟨b1, off1, hA1, hb1, hcell⟩ := (HR.out.below HB8.out).at_ (by rw [nums_length]; omega)
      cases hA1
      obtain ⟨k0, hk0⟩ : ∃ k0, k0 = l[0] := ⟨_, rfl⟩
      have hc0 := hcell 0 _ (nums_get _ l 0 (by omega))
      rw [← hk0, Nat.add_zero] at hc0
      have HK0 := Lib.hid hk0
      have i4 : (0 : Int) < (l.length : Int) := by omega
      clear hcell hb1 hk0
      have hsame : listedB l = true → cm = cv := fun h => by rw [HCM.out, HCV.out]; exact codeK_rot l q h
      have hzero : ¬ (cv = 6 ∧ k0 = 6) → cx = 0 := fun h => by rw [HCX.out]; exact codeAt_zero l a (by omega) (by rw [← HCV.out, ← HK0.out]; exact h)
      have hat : cv = 6 ∧ k0 = 6 → cx = a := fun h => by rw [HCX.out]; exact codeAt_at l a (by omega) (by rw [← HCV.out, ← HK0.out]; exact h)
      obtain ⟨lb, hlb⟩ : ∃ lb, lb = listedB l := ⟨_, rfl⟩
      rw [← hlb] at hsame ⊢
      have HS := Lib.hid hsame
      have HZ := Lib.hid hzero
      have HA := Lib.hid hat
      clear hsame hzero hat hlb
      by_cases h6 : cv = 6
      · subst h6
        by_cases h06 : k0 = 6
        · subst h06
          have hxa : cx = a := HA.out ⟨rfl, rfl⟩
          subst hxa
          by_cases ha0 : cx = 0
          · subst ha0
            cases lb with
            | true =>
              have hcm := HS.out rfl
              subst hcm
              go_wp2_with fail
              go_ret
              exact ⟨rfl, HB8.out⟩
            | false =>
              go_wp2_with fail
              go_ret
              exact ⟨rfl, HB8.out⟩
          · have ha0' : (cx == 0) = false := by simp [ha0]
            cases lb with
            | true =>
              have hcm := HS.out rfl
              subst hcm
              go_wp2_with fail
              go_ret
              exact ⟨by simp, HB8.out⟩
            | false =>
              go_wp2_with fail
              go_ret
              exact ⟨by simp, HB8.out⟩
        · have hx0 := HZ.out (fun h => h06 h.2)
          subst hx0
          have h06' : (k0 == 6) = false := by simp [h06]
          cases lb with
          | true =>
            have hcm := HS.out rfl
            subst hcm
            go_wp2_with fail
            go_ret
            exact ⟨by simp, HB8.out⟩
          | false =>
            go_wp2_with fail
            go_ret
            exact ⟨by simp, HB8.out⟩
      · have hx0 := HZ.out (fun h => h6 h.1)
        subst hx0
        have h6' : (cv == 6) = false := by simp [h6]
        cases lb with
        | true =>
          have hcm := HS.out rfl
          subst hcm
          go_wp2_with fail
          go_ret
          exact ⟨by simp, HB8.out⟩
        | false =>
          go_wp2_with fail
          go_ret
          exact ⟨by simp, HB8.out⟩
end Go.Proofs.YtiagcbedmdfjpaaDoor
