/-
  What package octet's Take, Text, TakeText and bytes.Clone answer and leave, as contracts over the whole program. No statement is proved here; each contract names its own conditions.
-/
import Derived.Test.YtofimimnjfhmfaaOctB
import Derived.WalkSpells
import Derived.BigQuiet
import Derived.Deep.QuietTactic
namespace Go.Proofs.Ytofimimnjfhmfaa
open Go.RowKit
set_option linter.unusedSimpArgs false
set_option linter.unusedVariables false

theorem num_slice {w : World} {A : Option Addr} {cap : Nat} {l : List UInt8} (h : Row w (.slice A l.length cap) (bvs l)) (a k : Nat) (hk : a + k ≤ l.length) (hp : 0 < k) (c : Nat) (hc : k ≤ c) (hm : c ≤ maxLen) :
    ∃ b off, A = some ⟨b, off, none⟩ ∧ Row w (.slice (some ⟨b, off + a, none⟩) k c) (bvs ((l.drop a).take k)) := by
  obtain ⟨A', cap', he, h1, h2, h0, h3⟩ := h
  injection he with hA
  subst hA
  obtain ⟨b, off, rfl, hb, hcell⟩ := h3 (by intro e; have := congrArg List.length e; simp [bvs] at this; subst this; simp at hk; omega)
  have hlen : (bvs ((l.drop a).take k)).length = k := by simp [bvs]; omega
  refine ⟨b, off, rfl, some ⟨b, off + a, none⟩, c, by rw [hlen], by omega, hm, (fun h => by cases h), fun _ => ⟨b, off + a, rfl, hb, fun i u hu => ?_⟩⟩
  rw [Nat.add_assoc]
  refine hcell (a + i) u ?_
  rw [← hu]
  simp only [bvs, List.map_take, List.map_drop, List.getElem?_take, List.getElem?_drop]
  have : i < k := by
    have := (List.getElem?_eq_some_iff.1 hu).1
    rwa [hlen] at this
  rw [if_pos this]

set_option maxHeartbeats 400000 in
theorem take_ok (vb : Value) (l : List UInt8) (at_ n : Int) (a k : Nat) (w : World) (h : Row w vb (bvs l)) (hl : l.length ≤ 1048576) (ha : at_ = (a : Int)) (hn : n = (k : Int)) (hk : k ≤ 8) (hlen : a + k ≤ l.length) :
    Calls Try.prog 16 #[vb, .int .i64 at_, .int .i64 n] w fun e w' => e = .returned (.tuple #[.int .u64 ((num ((l.drop a).take k) : Nat) : Int), .int .i64 0]) ∧ w = w' := by
  subst ha; subst hn
  have HR := Lib.hid h
  obtain ⟨A, cap, rfl, h1, h2, h0, h3⟩ := h
  clear h3
  rw [bvs_length] at h1 HR ⊢
  unfold maxLen at h2
  have n1 : ¬ ((a : Int) < 0) := by omega
  have n2 : ¬ ((k : Int) < 0) := by omega
  have n3 : ¬ (8 < (k : Int)) := by omega
  rcases Nat.eq_zero_or_pos k with rfl | hp
  · go_enter Try.func16, Try.ntmps16
    go_wp2_with fail
    refine (number_0 _ _ w).mono ?_
    rintro e w' ⟨rfl, rfl⟩
    go_wp2
    go_ret2
    exact ⟨by simp, rfl⟩
  · obtain ⟨b, off, rfl, hR⟩ := num_slice HR.out a k hlen hp (k) (Nat.le_refl _) (by unfold maxLen; omega)
    have hne : ¬ (cap = a) := by omega
    have HN := Lib.hid hR
    clear hR
    go_enter Try.func16, Try.ntmps16
    go_wp2_with fail
    refine (number_any _ ((l.drop a).take k) w HN.out (by simp; omega)).mono ?_
    rintro e w' ⟨rfl, rfl⟩
    go_wp2
    go_ret2
    exact ⟨rfl, rfl⟩

set_option maxHeartbeats 400000 in
theorem take_short (vb : Value) (l : List UInt8) (at_ n : Int) (a k : Nat) (w : World) (h : Row w vb (bvs l)) (hl : l.length ≤ 1048576) (ha : at_ = (a : Int)) (ha2 : a < 4611686018427387904) (hn : n = (k : Int)) (hk : k ≤ 8) (hlen : l.length < a + k ∨ l.length < a) :
    Calls Try.prog 16 #[vb, .int .i64 at_, .int .i64 n] w fun e w' => e = .returned (.tuple #[.int .u64 0, .int .i64 2]) ∧ w = w' := by
  subst ha; subst hn
  obtain ⟨A, cap, rfl, h1, h2, h0, h3⟩ := h
  clear h3 h0
  rw [bvs_length] at h1 ⊢
  unfold maxLen at h2
  have n1 : ¬ ((a : Int) < 0) := by omega
  have n2 : ¬ ((k : Int) < 0) := by omega
  have n3 : ¬ (8 < (k : Int)) := by omega
  have n4 : (l.length : Int) - (a : Int) < (k : Int) := by omega
  go_enter Try.func16, Try.ntmps16
  go_wp2_with fail
  go_ret2
  exact ⟨rfl, rfl⟩

set_option maxHeartbeats 400000 in
theorem text_any (vb vs : Value) (l s : List UInt8) (w : World) (h : Row w vb (bvs l)) (hs : Row w vs (bvs s)) (hl : l.length ≤ 1048576) (hls : s.length ≤ 65535) :
    Calls Try.prog 11 #[vb, vs] w fun e w' => ∃ v', e = .returned v' ∧
      w'.ownsRow w.heap.size 5 1 v' (l.length + 2 + s.length) (bvs (l ++ le s.length 2 ++ s)) ∧ Below w.heap.size w w' := by
  obtain ⟨i0, hi0, hz0, hz1, hz2⟩ := info_parts info_u8
  have HR := Lib.hid h
  have HS := Lib.hid hs
  obtain ⟨A, cap, rfl, h1, h2, h0, h3⟩ := hs
  clear h h3 h0
  rw [bvs_length] at h1 HS ⊢
  go_enter Try.func11, Try.ntmps11
  go_wp2_with fail
  refine (put_any vb l s.length 2 2 w HR.out hl (by omega) (.inr (.inr ⟨rfl, by omega⟩))).mono ?_
  rintro e w1 ⟨g, hg, rfl, hb1, hB1⟩
  have HB1 := Lib.hid hb1
  clear hb1
  have hlen : (bvs (l ++ le s.length 2)).length = l.length + 2 := by simp [bvs, le_length]
  have how := HB1.out.own hg (by rw [hlen]; unfold maxLen; omega)
  rw [hlen] at how
  have HO := Lib.hid how
  have HSL := Lib.hid (bvs_length s)
  have HW1 := hB1.size
  clear how hlen
  go_wp2_with (((with_reducible refine atDst 11 ?_); refine wpList_app rfl (.tmp 9) (.tmp 10) 22 rfl w.heap.size 5 i0 (.int .u8 0) 1 Try.underlying22 hi0 hz0 hz1 hz2 rfl _ _ _ rfl HO.out _ (bvs s) rfl (HS.out.below hB1) (bvs_one s) (by rw [bvs_length]; unfold maxLen; omega) (by rw [bvs_length]; omega) HW1 ?_; intro v2 w2 ho2 hg2; have HO2 := Lib.hid ho2; clear ho2))
  go_ret
  refine ⟨v2, rfl, ?_, hB1.grown hg2 HW1 (fun k hk => ?_)⟩
  · have := HO2.out
    rw [HSL.out, ← bvs_append] at this
    exact this
  · have hk' : some g = some k := hk
    injection hk' with hk'
    omega

set_option maxHeartbeats 400000 in
theorem clone_any (vs : Value) (s : List UInt8) (w : World) (hs : Row w vs (bvs s)) (hls : s.length ≤ 1048576) :
    Calls Try.prog 21 #[vs] w fun e w' => ∃ v', e = .returned v' ∧
      w'.ownsRow w.heap.size 5 1 v' s.length (bvs s) ∧ Below w.heap.size w w' := by
  obtain ⟨i0, hi0, hz0, hz1, hz2⟩ := info_parts info_u8
  have HS := Lib.hid hs
  obtain ⟨A, cap, rfl, h1, h2, h0, h3⟩ := hs
  clear h3
  rw [bvs_length] at h1 HS ⊢
  cases A with
  | none =>
    have hc := h0 rfl
    subst hc
    have hs0 : s = [] := List.eq_nil_of_length_eq_zero (by omega)
    subst hs0
    have qT := fun (W : World) (r : Option Addr) (n c : Nat) => Lib.run_eql_slice_nil (P := Try.prog) W 22 5 r n c 0 0 Try.underlying22
    go_enter Try.func21, Try.ntmps21
    go_wp2_with fail
    go_ret
    exact ⟨_, rfl, World.ownsRow_nil _ _ _ _, Below.refl _ _⟩
  | some ad =>
    clear h0
    have HSL := Lib.hid (bvs_length s)
    have qT := fun (W : World) (r : Option Addr) (n c : Nat) => Lib.run_eql_slice_nil (P := Try.prog) W 22 5 r n c 0 0 Try.underlying22
    go_enter Try.func21, Try.ntmps21
    have HO := Lib.hid (World.ownsRow_made (base := w.heap.size) (e := 5) (size := 1) w #[] 0 (Nat.le_refl _) (by unfold maxLen; omega) (by simp))
    go_wp2_with (((with_reducible refine atDst 7 ?_); refine wpList_app rfl (.tmp 5) (.tmp 6) 22 rfl w.heap.size 5 i0 (.int .u8 0) 1 Try.underlying22 hi0 hz0 hz1 hz2 rfl _ _ _ rfl HO.out _ (bvs s) rfl (HS.out.below ((Below.refl _ _).alloc (Nat.le_refl _) _)) (bvs_one s) (by rw [bvs_length]; unfold maxLen; omega) (by rw [bvs_length]; omega) (by simp) ?_; intro v2 w2 ho2 hg2; have HO2 := Lib.hid ho2; clear ho2))
    go_ret
    refine ⟨v2, rfl, ?_, ((Below.refl _ _).alloc (Nat.le_refl _) _).grown hg2 (by simp) (fun k hk => ?_)⟩
    · have := HO2.out
      rw [HSL.out, Nat.zero_add, List.nil_append] at this
      exact this
    · have hk' : some w.heap.size = some k := hk
      injection hk' with hk'
      omega

theorem num_two_lt (l : List UInt8) : num (l.take 2) < 65536 := by
  have h := num_lt (l.take 2)
  have h2 : (l.take 2).length ≤ 2 := by simp; omega
  have h3 : 256 ^ (l.take 2).length ≤ 256 ^ 2 := Nat.pow_le_pow_right (by omega) h2
  omega

set_option maxHeartbeats 400000 in
theorem takeText_none (vb : Value) (l : List UInt8) (most : Int) (w : World) (h : Row w vb (bvs l)) (hl : l.length ≤ 1048576) (h2 : l.length < 2) :
    Calls Try.prog 17 #[vb, .int .i64 most] w fun e w' => e = .returned (.tuple #[.slice none 0 0, .int .i64 0, .int .i64 2]) ∧ w = w' := by
  go_enter Try.func17, Try.ntmps17
  have HR := Lib.hid h
  clear h
  go_wp2_with fail
  refine (take_short vb l 0 2 0 2 w HR.out hl rfl (by omega) rfl (by omega) (by omega)).mono ?_
  rintro e w' ⟨rfl, rfl⟩
  go_wp2_with fail
  go_ret3
  exact ⟨rfl, rfl⟩

set_option maxHeartbeats 400000 in
theorem takeText_long (vb : Value) (l : List UInt8) (most : Int) (w : World) (h : Row w vb (bvs l)) (hl : l.length ≤ 1048576) (h2 : 2 ≤ l.length) (hm : most < (num (l.take 2) : Int)) :
    Calls Try.prog 17 #[vb, .int .i64 most] w fun e w' => e = .returned (.tuple #[.slice none 0 0, .int .i64 0, .int .i64 4]) ∧ w = w' := by
  have HR := Lib.hid h
  clear h
  have hn := num_two_lt l
  obtain ⟨m, hM⟩ : ∃ m, m = num (l.take 2) := ⟨_, rfl⟩
  rw [← hM] at hn hm
  have HM := Lib.hid hM
  clear hM
  have hk := take_ok vb l 0 2 0 2 w HR.out hl rfl rfl (by omega) (by omega)
  rw [List.drop_zero, ← HM.out] at hk
  have HK := Lib.hid hk
  clear hk
  have hw : IntKind.i64.wrap (m : Int) = (m : Int) := IntWalk.i64_in _ (by omega)
  go_enter Try.func17, Try.ntmps17
  go_wp2_with fail
  refine HK.out.mono ?_
  rintro e w' ⟨rfl, rfl⟩
  go_wp2_with fail
  go_ret3
  exact ⟨rfl, rfl⟩

set_option maxHeartbeats 400000 in
theorem takeText_short (vb : Value) (l : List UInt8) (most : Int) (w : World) (h : Row w vb (bvs l)) (hl : l.length ≤ 1048576) (h2 : 2 ≤ l.length) (hm : (num (l.take 2) : Int) ≤ most) (h3 : l.length < 2 + num (l.take 2)) :
    Calls Try.prog 17 #[vb, .int .i64 most] w fun e w' => e = .returned (.tuple #[.slice none 0 0, .int .i64 0, .int .i64 2]) ∧ w = w' := by
  have HR := Lib.hid h
  clear h
  have hn := num_two_lt l
  obtain ⟨m, hM⟩ : ∃ m, m = num (l.take 2) := ⟨_, rfl⟩
  rw [← hM] at hn hm h3
  have HM := Lib.hid hM
  clear hM
  have hk := take_ok vb l 0 2 0 2 w HR.out hl rfl rfl (by omega) (by omega)
  rw [List.drop_zero, ← HM.out] at hk
  have HK := Lib.hid hk
  clear hk
  have hw : IntKind.i64.wrap (m : Int) = (m : Int) := IntWalk.i64_in _ (by omega)
  obtain ⟨A, cap, rfl, h1, hcm, h0, hc⟩ := HR.out
  rw [bvs_length] at *
  clear h0 hc
  have hms : (l.length : Int) < 2 + (m : Int) := by omega
  go_enter Try.func17, Try.ntmps17
  go_wp2_with fail
  refine HK.out.mono ?_
  rintro e w' ⟨rfl, rfl⟩
  go_wp2_with fail
  go_ret3
  exact ⟨rfl, rfl⟩

set_option maxHeartbeats 400000 in
theorem takeText_ok (vb : Value) (l : List UInt8) (most : Int) (w : World) (h : Row w vb (bvs l)) (hl : l.length ≤ 1048576) (h2 : 2 ≤ l.length) (hm : (num (l.take 2) : Int) ≤ most) (h3 : 2 + num (l.take 2) ≤ l.length) :
    Calls Try.prog 17 #[vb, .int .i64 most] w fun e w' => ∃ v', e = .returned (.tuple #[v', .int .i64 ((2 + num (l.take 2) : Nat) : Int), .int .i64 0]) ∧
      w'.ownsRow w.heap.size 5 1 v' (num (l.take 2)) (bvs ((l.drop 2).take (num (l.take 2)))) ∧ Below w.heap.size w w' := by
  have HR := Lib.hid h
  clear h
  have hn := num_two_lt l
  obtain ⟨m, hM⟩ : ∃ m, m = num (l.take 2) := ⟨_, rfl⟩
  rw [← hM] at hn hm h3
  have HM := Lib.hid hM
  have hk := take_ok vb l 0 2 0 2 w HR.out hl rfl rfl (by omega) (by omega)
  rw [List.drop_zero, ← hM] at hk
  have HK := Lib.hid hk
  rw [← hM]
  clear hk hM
  have hw : IntKind.i64.wrap (m : Int) = (m : Int) := IntWalk.i64_in _ (by omega)
  obtain ⟨A, cap, rfl, h1, hcm, h0, hc⟩ := HR.out
  obtain ⟨b, off, rfl, hb, hcell⟩ := hc (by intro e; have := congrArg List.length e; simp [bvs] at this; subst this; simp at h2)
  clear h0 hc hcell
  rw [bvs_length] at h1 HR HK ⊢
  unfold maxLen at hcm
  have hms : ¬ ((l.length : Int) < 2 + (m : Int)) := by omega
  have hlen : ((l.drop 2).take m).length = m := by simp; omega
  rcases Nat.eq_zero_or_pos m with hz | hp
  · subst hz
    go_enter Try.func17, Try.ntmps17
    go_wp2_with fail
    refine HK.out.mono ?_
    rintro e w' ⟨rfl, rfl⟩
    go_wp2_with fail
    refine (clone_any _ [] w ⟨some ⟨b, off, none⟩, 0, rfl, Nat.le_refl _, Nat.zero_le _, (fun h => by cases h), fun h => absurd rfl h⟩ (by simp)).mono ?_
    rintro e w2 ⟨v2, rfl, ho2, hB2⟩
    have HO := Lib.hid ho2
    clear ho2
    go_wp2
    go_ret3
    exact ⟨v2, rfl, HO.out, hB2⟩
  · obtain ⟨b', off', hA, hR⟩ := num_slice HR.out 2 m h3 hp m (Nat.le_refl _) (by unfold maxLen; omega)
    injection hA with hA
    injection hA with hb' ho' hs'
    subst hb'
    subst ho'
    have HC := Lib.hid (clone_any _ _ w hR (by rw [hlen]; omega))
    clear hR hs'
    go_enter Try.func17, Try.ntmps17
    go_wp2_with fail
    refine HK.out.mono ?_
    rintro e w' ⟨rfl, rfl⟩
    go_wp2_with fail
    refine HC.out.mono ?_
    rintro e w2 ⟨v2, rfl, ho2, hB2⟩
    have HO := Lib.hid ho2
    clear ho2
    go_wp2
    go_ret3
    refine ⟨v2, by rw [Int.natCast_add]; rfl, ?_, hB2⟩
    have := HO.out
    rwa [hlen] at this
end Go.Proofs.Ytofimimnjfhmfaa
