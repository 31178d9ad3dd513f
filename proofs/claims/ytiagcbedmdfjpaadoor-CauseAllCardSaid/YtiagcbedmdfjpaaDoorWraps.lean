/-
  The walk of the statement CauseWraps: the Go text returns true and turns nothing that was there. Conditions: the slice reads as kinds, the further kind fits; the two variables of the packages' own hold what the program lays.
-/
import Derived.Test.YtiagcbedmdfjpaaDoorPlaces
namespace Go.Proofs.YtiagcbedmdfjpaaDoor
open Go.RowKit Go.Extern.Stop Go.Stop Go.Extern
set_option linter.unusedSimpArgs false
set_option linter.unusedVariables false

theorem mem_chn (k : Int) (l : List Int) : k ∈ chn l l.length ↔ k ∈ l ∧ k ≠ 0 := by simp [chn, fl]
theorem chn_snoc (l : List Int) (m : Int) (hm : m ≠ 0) : chn (l ++ [m]) (l ++ [m]).length = m :: chn l l.length := by
  unfold chn
  rw [List.take_length, List.take_length, fl_append, List.reverse_append]
  simp [fl, hm]
theorem first_snoc (l : List Int) (m : Int) (hm : m ≠ 0) : firstOf (l ++ [m]) = m := by
  unfold firstOf
  rw [chn_snoc l m hm]
  rfl
theorem deep_snoc (l : List Int) (m : Int) (hm : m ≠ 0) : deepOf (l ++ [m]) = deepOf l + 1 := by
  unfold deepOf
  rw [chn_snoc l m hm]
  rfl
theorem place_snoc (l : List Int) (m a : Int) (hl : 0 < l.length) : placeOf (l ++ [m]) a = placeOf l a := by
  cases l with
  | nil => simp at hl
  | cons x r => simp [placeOf, plc]
theorem deep_le (l : List Int) : deepOf l ≤ l.length := chn_len l l.length
/-- The answers on the kinds themselves, and one more. -/
theorem is_self (l : List Int) : l.map (fun k => decide (k ∈ chn l l.length)) = l.map fun k => decide (k ≠ 0) := by
  apply List.map_congr_left
  intro k hk
  simp [mem_chn, hk]
theorem is_more (l : List Int) (m : Int) (hm : m ≠ 0) : (l ++ [m]).map (fun k => decide (k ∈ chn (l ++ [m]) (l ++ [m]).length)) = (l.map fun k => decide (k ≠ 0)) ++ [true] := by
  rw [is_self, List.map_append]
  simp [hm]

theorem below_drewN {B : Nat} {w w' : World} (h : Below B w w') (n : Nat) : Below B w (w'.drewN n) := ⟨h.os, h.tape, h.output, h.size, h.block⟩

set_option maxHeartbeats 8000000 in
set_option maxRecDepth 1000000 in
theorem wraps_walk {W : World} (vk : Value) (l : List Int) (a m : Int) (hr : Row W vk (ints l)) (hf : ∀ n ∈ l, (Lit.int .i64 n).wf = true) (he : EtAt W) (ho : OrdAt W) :
    Calls Tryd.prog 4 #[vk, .int .i64 a, .int .i64 m] W fun e w' => e = .returned (.bool true) ∧ Below W.heap.size W w' := by
  have HR := Lib.hid hr
  have HE := Lib.hid he
  have HO := Lib.hid ho
  have HF := Lib.hid hf
  obtain ⟨A, cap, rfl, a1, a2, a0, a3⟩ := hr
  rw [nums_length] at a1 HR ⊢
  have hll : l.length ≤ 9223372036854775807 := by unfold maxLen at a2; omega
  clear a3 a0 a1 a2 he ho hf
  obtain ⟨i0, hi0, hz0, hz1, hz2⟩ := info_parts' info_errno
  go_enter Tryd.func4, Tryd.ntmps4
  go_wp2_with fail
  refine (begun_any HE.out HO.out).mono ?_
  rintro e w1 ⟨rfl, hb1⟩
  have HB1 := Lib.hid hb1
  clear hb1
  go_wp2_with fail
  refine (kinds_any _ l (HR.out.below HB1.out)).mono ?_
  rintro e w1 ⟨he, rfl⟩
  cases hok : okK l with
  | false =>
    rw [hok] at he
    subst he
    go_wp2_with fail
    go_ret
    exact ⟨rfl, HB1.out⟩
  | true =>
  rw [hok] at he
  subst he
  go_wp2_with fail
  have b2 : Below w1.heap.size w1 (w1.alloc (.cells #[.int .i64 m] 26)) := (Below.refl _ _).alloc (Nat.le_refl _) _
  have k2 := Blk.new w1 26 (ints [m])
  refine (kinds_any _ [m] (row_blk (n := 1) k2 rfl (by omega))).mono ?_
  rintro e w2 ⟨he, hw2⟩
  have HB2 := Lib.hid (show Below W.heap.size W w2 by rw [hw2]; exact HB1.out.trans (b2.mono HB1.out.size))
  clear k2 b2 hw2
  cases hok2 : okK [m] with
  | false =>
    rw [hok2] at he
    subst he
    go_wp2_with fail
    go_ret
    exact ⟨rfl, HB2.out⟩
  | true =>
  rw [hok2] at he
  subst he
  have hm16 := (okK_all hok2).2 m (by simp)
  clear hok2 hok
  by_cases h0 : l.length = 0
  · have n0 : ((l.length : Int) == 0) = true := by simp [h0]
    go_wp2_with fail
    go_ret
    exact ⟨rfl, HB2.out⟩
  have n0 : ((l.length : Int) == 0) = false := by simp; intro h; exact h0 (by simp [h])
  by_cases h20 : 20 < l.length
  · have n2 : 20 < (l.length : Int) := by omega
    go_wp2_with fail
    go_ret
    exact ⟨rfl, HB2.out⟩
  have n2 : ¬ 20 < (l.length : Int) := by omega
  by_cases hm0 : m = 0
  · subst hm0
    go_wp2_with fail
    go_ret
    exact ⟨rfl, HB2.out⟩
  have hm0' : (m == 0) = false := by simp [hm0]
  have HM := Lib.hid hm0
  clear hm0
  have O2 := Lib.hid (World.ownsRow_made (base := w2.heap.size) (e := 26) (size := 1) w2 #[] 0 (Nat.le_refl _) (by unfold maxLen; omega) (by simp))
  have A2 := Lib.hid (show Below w2.heap.size w2 (w2.alloc (.cells #[] 26)) from (Below.refl _ _).alloc (Nat.le_refl _) _)
  go_wp2_with (first
    | ((with_reducible refine atDst 38 ?_); refine wpList_appR (w0 := w2) rfl (.tmp 36) (.tmp 37) 22 rfl 26 i0 (.int .i64 0) 8 Tryd.underlying22 hi0 hz0 hz1 hz2 rfl _ _ _ rfl O2.out _ (ints l) rfl ((HR.out.below HB2.out).below A2.out) (nums_one _ l) (by rw [nums_length]; omega) (by omega) A2.out ?_
       intro v3 w3 ho hr hb _
       have O3 := Lib.hid ho
       have B3 := Lib.hid hb
       have A3 := Lib.hid (show Below w2.heap.size w2 (w3.alloc (.cells #[.int .i64 m] 26)) from hb.alloc hb.size _)
       have R3 := Lib.hid (row_blk (n := 1) (show Blk (w3.alloc (.cells #[.int .i64 m] 26)) w3.heap.size 26 (ints [m]) from Blk.new w3 26 (ints [m])) rfl (by omega))
       clear ho hr hb)
    | ((with_reducible refine atDst 41 ?_); refine wpList_appR (w0 := w2) rfl (.tmp 38) (.tmp 40) 22 rfl 26 i0 (.int .i64 0) 8 Tryd.underlying22 hi0 hz0 hz1 hz2 rfl _ _ _ rfl (O3.out.alloc _) _ (ints [m]) rfl R3.out (nums_one _ _) (by simp only [nums_length, List.length_cons, List.length_nil]; omega) (by omega) A3.out ?_
       intro v4 w4 ho hr hb _
       have R4 := Lib.hid (show Row w4 v4 (nums .i64 (l ++ [m])) by rw [nums_append]; exact hr)
       have B4 := Lib.hid hb
       have HB4 := Lib.hid (HB2.out.trans (hb.mono HB2.out.size))
       clear ho hr hb))
  clear O2 A2 O3 B3 A3 R3
  obtain ⟨f1, hf1⟩ : ∃ f1, f1 = firstOf l := ⟨_, rfl⟩
  obtain ⟨pa, hpa⟩ : ∃ pa, pa = (placeOf l a).getD 0 := ⟨_, rfl⟩
  obtain ⟨pb, hpb⟩ : ∃ pb, pb = (placeOf l a).isSome := ⟨_, rfl⟩
  obtain ⟨dd, hdd⟩ : ∃ dd : Nat, dd = deepOf l := ⟨_, rfl⟩
  have hd20 : dd ≤ 20 := by have := deep_le l; omega
  have HF1 := Lib.hid hf1
  have HPA := Lib.hid hpa
  have HPB := Lib.hid hpb
  have HDD := Lib.hid hdd
  clear hf1 hpa hpb hdd
  refine (chain_any _ _ l l a (HR.out.below HB4.out) (HR.out.below HB4.out) (by omega) (by omega) HF.out (HE.out.stay HB4.out)).mono ?_
  rintro e w5 ⟨g5, _, he5, hk5, hb5⟩
  rw [← HF1.out, ← HPA.out, ← HPB.out, ← HDD.out] at he5
  subst he5
  rw [is_self] at hk5
  have R5 := Lib.hid (R4.out.below hb5)
  have HB5 := Lib.hid (HB4.out.trans (hb5.mono HB4.out.size))
  have K5 := Lib.hid hk5
  clear hk5 hb5
  have O5 := Lib.hid (World.ownsRow_made (base := w5.heap.size) (e := 26) (size := 1) w5 #[] 0 (Nat.le_refl _) (by unfold maxLen; omega) (by simp))
  have A5 := Lib.hid (show Below w5.heap.size w5 (w5.alloc (.cells #[] 26)) from (Below.refl _ _).alloc (Nat.le_refl _) _)
  go_wp2_with (first
    | ((with_reducible refine atDst 50 ?_); refine wpList_appR (w0 := w5) rfl (.tmp 48) (.tmp 49) 22 rfl 26 i0 (.int .i64 0) 8 Tryd.underlying22 hi0 hz0 hz1 hz2 rfl _ _ _ rfl O5.out _ (ints l) rfl ((HR.out.below HB5.out).below A5.out) (nums_one _ l) (by rw [nums_length]; omega) (by omega) A5.out ?_
       intro v6 w6 ho hr hb _
       have O6 := Lib.hid ho
       have B6 := Lib.hid hb
       have A6 := Lib.hid (show Below w5.heap.size w5 (w6.alloc (.cells #[.int .i64 m] 26)) from hb.alloc hb.size _)
       have R6 := Lib.hid (row_blk (n := 1) (show Blk (w6.alloc (.cells #[.int .i64 m] 26)) w6.heap.size 26 (ints [m]) from Blk.new w6 26 (ints [m])) rfl (by omega))
       clear ho hr hb)
    | ((with_reducible refine atDst 53 ?_); refine wpList_appR (w0 := w5) rfl (.tmp 50) (.tmp 52) 22 rfl 26 i0 (.int .i64 0) 8 Tryd.underlying22 hi0 hz0 hz1 hz2 rfl _ _ _ rfl (O6.out.alloc _) _ (ints [m]) rfl R6.out (nums_one _ _) (by simp only [nums_length, List.length_cons, List.length_nil]; omega) (by omega) A6.out ?_
       intro v7 w7 ho hr hb _
       have R7 := Lib.hid (show Row w7 v7 (nums .i64 (l ++ [m])) by rw [nums_append]; exact hr)
       have B7 := Lib.hid hb
       have HB7 := Lib.hid (HB5.out.trans (hb.mono HB5.out.size))
       clear ho hr hb))
  refine (chain_any _ _ (l ++ [m]) (l ++ [m]) a (R5.out.below B7.out) R7.out (by simp; omega) (by simp; omega) (by
    intro k hk
    rcases List.mem_append.1 hk with h | h
    · exact HF.out k h
    · rw [List.mem_singleton.1 h]
      have h1 : IntKind.i64.min = -9223372036854775808 := rfl
      have h2 : IntKind.i64.max = 9223372036854775807 := rfl
      simp only [Lit.wf, Bool.and_eq_true, decide_eq_true_eq, h1, h2]
      omega) (HE.out.stay HB7.out)).mono ?_
  rintro e w8 ⟨g8, _, he8, hk8, hb8⟩
  rw [first_snoc l m HM.out, place_snoc l m a (by omega), deep_snoc l m HM.out, ← HPA.out, ← HPB.out, ← HDD.out] at he8
  rw [is_more l m HM.out] at hk8
  replace he8 : e = .returned (.agg #[.slice (some ⟨g8, 0, none⟩) (l.length + 1) (l.length + 1), .int .i64 m, .int .i64 pa, .bool pb, .int .i64 ((dd : Int) + 1)]) := by
    rw [he8]
    simp
  subst he8
  have HB8 := Lib.hid (HB7.out.trans (hb8.mono HB7.out.size))
  have K8 := Lib.hid hk8
  have J8 := Lib.hid ((K5.out.below B7.out K5.out.lt).below hb8 (K5.out.below B7.out K5.out.lt).lt)
  clear hk8 hb8 O5 A5 O6 B6 A6 R6 B7 R7 R5 K5 R4 B4
  go_wp2_with fail
  have s9 : (w8.alloc (.cells #[.slice (some ⟨g5, 0, none⟩) l.length l.length, .int .i64 f1, .int .i64 pa, .bool pb, .int .i64 (dd : Int)] 28)).heap.size = w8.heap.size + 1 := by simp
  have t1 := (Blk.new w8 28 [.slice (some ⟨g5, 0, none⟩) l.length l.length, .int .i64 f1, .int .i64 pa, .bool pb, .int .i64 (dd : Int)]).alloc (.cells #[.slice (some ⟨g8, 0, none⟩) (l.length + 1) (l.length + 1), .int .i64 m, .int .i64 pa, .bool pb, .int .i64 ((dd : Int) + 1)] 28)
  have t2 := Blk.new (w8.alloc (.cells #[.slice (some ⟨g5, 0, none⟩) l.length l.length, .int .i64 f1, .int .i64 pa, .bool pb, .int .i64 (dd : Int)] 28)) 28 [.slice (some ⟨g8, 0, none⟩) (l.length + 1) (l.length + 1), .int .i64 m, .int .i64 pa, .bool pb, .int .i64 ((dd : Int) + 1)]
  rw [s9] at t2
  have b9 : Below w8.heap.size w8 ((w8.alloc (.cells #[.slice (some ⟨g5, 0, none⟩) l.length l.length, .int .i64 f1, .int .i64 pa, .bool pb, .int .i64 (dd : Int)] 28)).alloc (.cells #[.slice (some ⟨g8, 0, none⟩) (l.length + 1) (l.length + 1), .int .i64 m, .int .i64 pa, .bool pb, .int .i64 ((dd : Int) + 1)] 28)) := ((Below.refl _ _).alloc (Nat.le_refl _) _).alloc (by simp) _
  obtain ⟨WW, hWW⟩ : ∃ WW, WW = (w8.alloc (.cells #[.slice (some ⟨g5, 0, none⟩) l.length l.length, .int .i64 f1, .int .i64 pa, .bool pb, .int .i64 (dd : Int)] 28)).alloc (.cells #[.slice (some ⟨g8, 0, none⟩) (l.length + 1) (l.length + 1), .int .i64 m, .int .i64 pa, .bool pb, .int .i64 ((dd : Int) + 1)] 28) := ⟨_, rfl⟩
  have t1' : Blk WW w8.heap.size 28 [.slice (some ⟨g5, 0, none⟩) l.length l.length, .int .i64 f1, .int .i64 pa, .bool pb, .int .i64 (dd : Int)] := by rw [hWW]; exact t1
  have t2' : Blk WW (w8.heap.size + 1) 28 [.slice (some ⟨g8, 0, none⟩) (l.length + 1) (l.length + 1), .int .i64 m, .int .i64 pa, .bool pb, .int .i64 ((dd : Int) + 1)] := by rw [hWW]; exact t2
  have k1 : Blk WW g5 4 (bools (l.map fun k => decide (k ≠ 0))) := by rw [hWW]; exact J8.out.below b9 J8.out.lt
  have k2 : Blk WW g8 4 (bools ((l.map fun k => decide (k ≠ 0)) ++ [true])) := by rw [hWW]; exact K8.out.below b9 K8.out.lt
  have b9' : Below W.heap.size W WW := by rw [hWW]; exact HB8.out.trans (b9.mono HB8.out.size)
  have T1 := Lib.hid t1'
  have T2 := Lib.hid t2'
  have K1 := Lib.hid k1
  have K2 := Lib.hid k2
  have HB9 := Lib.hid b9'
  have HWW := Lib.hid hWW
  clear s9 t1 t2 b9 t1' t2' k1 k2 b9' hWW J8 K8
  go_loopw [10] (fun i wl => ∃ j : Nat, j ≤ l.length ∧ i = .int .i64 (j : Int) ∧ Below WW.heap.size WW wl) (fun i _ => l.length - (intOf i).toNat)
  case atStart => exact ⟨0, by omega, by simp, by rw [HWW.out]; exact Below.refl _ _⟩
  case round =>
    obtain ⟨j, hj, rfl, hbr⟩ := hrel
    have HBR := Lib.hid hbr
    have T1 := Lib.hid (T1.out.below hbr T1.out.lt)
    have T2 := Lib.hid (T2.out.below hbr T2.out.lt)
    have K1 := Lib.hid (K1.out.below hbr K1.out.lt)
    have K2 := Lib.hid (K2.out.below hbr K2.out.lt)
    have HB9 := Lib.hid (HB9.out.trans (hbr.mono HB9.out.size))
    clear hbr
    by_cases hjl : j < l.length
    · obtain ⟨b0, off, rfl, hb0, hcell⟩ := (HR.out.below HB9.out).at_ (by rw [nums_length]; omega)
      have hcj := hcell j _ (nums_get _ l j hjl)
      have i1 : (j : Int) < (l.length : Int) := by omega
      have i2 : (j : Int) < (l.length : Int) + 1 := by omega
      obtain ⟨k, hk⟩ : ∃ k, k = l[j] := ⟨_, rfl⟩
      rw [← hk] at hcj
      have c1 := T1.out.cell 0
      have c2 := T2.out.cell 0
      simp only [List.getElem?_cons_zero] at c1 c2
      have d1 : wr.cell? ⟨g5, j, none⟩ = some (.bool (decide (k ≠ 0))) := by
        rw [K1.out.cell j, bools_get _ _ (by rw [List.length_map]; exact hjl), List.getElem_map, hk]
      have d2 : wr.cell? ⟨g8, j, none⟩ = some (.bool (decide (k ≠ 0))) := by
        rw [K2.out.cell j, bools_get _ _ (by simp; omega), List.getElem_append_left (by rw [List.length_map]; exact hjl), List.getElem_map, hk]
      clear hcell hk
      by_cases hk0 : k = 0
      · subst hk0
        rw [show decide ((0 : Int) ≠ 0) = false by decide] at d1 d2
        go_wp2_with fail
        go_quiet (fail)
        go_wp2_with fail
        exact ⟨⟨j + 1, by omega, by congr 1, below_drewN HBR.out _⟩, by simp [intOf] <;> omega⟩
      · rw [show decide (k ≠ 0) = true by simp [hk0]] at d1 d2
        have hkn : (k != 0) = true := by simp [hk0]
        go_wp2_with fail
        go_quiet (fail)
        go_wp2_with fail
        exact ⟨⟨j + 1, by omega, by congr 1, below_drewN HBR.out _⟩, by simp [intOf] <;> omega⟩
    · obtain rfl : j = l.length := by omega
      have i1 : ¬ ((l.length : Int) < (l.length : Int)) := by omega
      have c10 := T1.out.cell 0
      have c12 := T1.out.cell 2
      have c13 := T1.out.cell 3
      have c14 := T1.out.cell 4
      have c20 := T2.out.cell 0
      have c21 := T2.out.cell 1
      have c22 := T2.out.cell 2
      have c23 := T2.out.cell 3
      have c24 := T2.out.cell 4
      simp only [List.getElem?_cons_zero, List.getElem?_cons_succ] at c10 c12 c13 c14 c20 c21 c22 c23 c24
      have d2 : wr.cell? ⟨g8, l.length, none⟩ = some (.bool true) := by
        rw [K2.out.cell l.length]
        simp [bools]
      have i3 : (l.length : Int) < (l.length : Int) + 1 := by omega
      go_wp2_with fail
      go_ret
      exact ⟨rfl, HB9.out⟩
end Go.Proofs.YtiagcbedmdfjpaaDoor
