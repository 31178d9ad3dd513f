/-
  The walk of the statement OctetWrites: the Go text returns true and turns nothing that was there. Conditions: the slices read as bytes; the numbers fit their kinds.
-/
import Derived.Test.YtofimimnjfhmfaaRef1
namespace Go.Proofs.Ytofimimnjfhmfaa
open Go.RowKit
set_option linter.unusedSimpArgs false
set_option linter.unusedVariables false

theorem own_blk {w : World} {base : Nat} {e : TypeId} {v : Value} {n : Nat} {xs : List Value} (h : w.ownsRow base e 1 v n xs) (hn : 0 < n) :
    ∃ g cap cur, v = .slice (some ⟨g, 0, none⟩) n cap ∧ base ≤ g ∧ g < w.heap.size ∧ n ≤ cap ∧ cap ≤ maxLen ∧ Blk w g e cur ∧ cur.length = cap := by
  rcases h.2 with ⟨_, h0⟩ | ⟨g, cap, cur, rfl, hb, hg, hnc, hcm, hs, _⟩
  · omega
  · exact ⟨g, cap, cur.toList, rfl, hb, (Array.getElem?_eq_some_iff.1 hg).1, hnc, hcm, by simpa [Blk] using hg, by simpa using hs⟩
theorem twin_row {w : World} {g : Nat} {l : List UInt8} (h : Blk w g 5 (bvs (l ++ [0xe5, 0xe5, 0xe5]))) (hl : l.length ≤ 1048576) : Row w (.slice (some ⟨g, 0, none⟩) l.length (l.length + 3)) (bvs l) := by
  have L3 : (bvs (l ++ [0xe5, 0xe5, 0xe5])).length = l.length + 3 := by simp [bvs]
  have R1 := Row.take (w := w) (A := some ⟨g, 0, none⟩) (cap := l.length + 3) (xs := bvs (l ++ [0xe5, 0xe5, 0xe5])) (by
    have := Row.of_own (h.own (Nat.zero_le _) (by rw [L3]; unfold maxLen; omega))
    rw [L3] at this ⊢
    exact this) l.length (by omega)
  rwa [kept_bytes] at R1
theorem blk_row {w : World} {g n : Nat} {l : List UInt8} (h : Blk w g 5 (bvs l)) (hn : l.length = n) (hl : n ≤ 1048576) : Row w (.slice (some ⟨g, 0, none⟩) n n) (bvs l) := by
  have L : (bvs l).length = n := by rw [bvs_length, hn]
  have := Row.of_own (h.own (Nat.zero_le _) (by rw [L]; unfold maxLen; omega))
  rwa [L] at this

set_option maxHeartbeats 2000000 in
theorem writes_walk (vb vs : Value) (b s : List UInt8) (v k : Nat) (n : Int) (w : World) (hb : Row w vb (bvs b)) (hs : Row w vs (bvs s)) (hv : v < 18446744073709551616)
    (hk : (n < 0 ∧ k = 0) ∨ (8 < n ∧ k = 8) ∨ (n = k ∧ k ≤ 8)) (l1 : b.length ≤ 4096) (l2 : s.length ≤ 4096) :
    Calls Try.prog 3 #[vb, vs, .int .u64 v, .int .i64 n] w fun e w' => e = .returned (.bool true) ∧ Below w.heap.size w w' := by
  have HB := Lib.hid hb
  have HS := Lib.hid hs
  obtain ⟨A, cap, rfl, a1, a2, a0, a3⟩ := hb
  obtain ⟨A', cap', rfl, b1, b2, b0, b3⟩ := hs
  clear a3 b3 a0 b0
  rw [bvs_length] at a1 b1 HB HS
  rw [bvs_length, bvs_length]
  have n1 : ¬ (4096 < (b.length : Int)) := by omega
  have n2 : ¬ (4096 < (s.length : Int)) := by omega
  have hk8 : k ≤ 8 := by omega
  have HK := Lib.hid hk
  clear hk
  have LX := Lib.hid (show (b ++ le v k).length = b.length + k by simp [le_length])
  go_enter Try.func3, Try.ntmps3
  go_wp2_with fail
  refine (begun_any w).mono ?_
  rintro e w1 ⟨rfl, hB1⟩
  go_wp2_with fail
  refine (twin_any _ b w1 (HB.out.below hB1) (by omega)).mono ?_
  rintro e w2 ⟨g1, hg1, rfl, t1, hB2⟩
  replace hB2 := hB1.trans (hB2.mono hB1.size)
  have T1 := Lib.hid t1
  have G1 := t1.lt
  have S1 := hB1.size
  clear t1 hB1
  go_wp2_with fail
  refine (twin_any _ s w2 (HS.out.below hB2) (by omega)).mono ?_
  rintro e w3 ⟨g2, hg2, rfl, t2, hB3⟩
  replace T1 := Lib.hid (T1.out.below hB3 G1)
  have T2 := Lib.hid t2
  have G2 := t2.lt
  have S2 := hB3.size
  replace hB3 := hB2.trans (hB3.mono hB2.size)
  clear t2 hB2
  go_wp2_with fail
  refine (put_any _ b v k n w3 (twin_row T1.out (by omega)) (by omega) hv HK.out).mono ?_
  rintro e w4 ⟨g3, hg3, rfl, t3, hB4⟩
  replace T1 := Lib.hid (T1.out.below hB4 (by omega))
  replace T2 := Lib.hid (T2.out.below hB4 G2)
  have T3 := Lib.hid t3
  have G3 := t3.lt
  have S3 := hB4.size
  have S3' := hB3.size
  replace hB4 := hB3.trans (hB4.mono hB3.size)
  clear t3 hB3
  go_wp2_with fail
  refine (text_any _ _ b s w4 (twin_row T1.out (by omega)) (twin_row T2.out (by omega)) (by omega) (by omega)).mono ?_
  rintro e w5 ⟨v5, rfl, ho5, hB5⟩
  obtain ⟨g4, c4, cur, rfl, hg4, G4, hc4, hm4, t4, lc4⟩ := own_blk ho5 (by omega)
  replace T1 := Lib.hid (T1.out.below hB5 (by omega))
  replace T2 := Lib.hid (T2.out.below hB5 (by omega))
  replace T3 := Lib.hid (T3.out.below hB5 G3)
  have T4 := Lib.hid t4
  have LC4 := Lib.hid lc4
  have R5 := Lib.hid (Row.of_own ho5)
  have S4 := hB5.size
  replace hB5 := hB4.trans (hB5.mono hB4.size)
  clear ho5 t4 hB4 lc4
  go_wp2_with fail
  refine sx_start (by kernel_rfl) (fun w6 hS hSz => ?_)
  replace T1 := Lib.hid (T1.out.below hS (by omega))
  replace T2 := Lib.hid (T2.out.below hS (by omega))
  replace T3 := Lib.hid (T3.out.below hS (by omega))
  replace T4 := Lib.hid (T4.out.below hS G4)
  replace R5 := Lib.hid (R5.out.below hS)
  replace hB5 : Below w.heap.size w w6 := hB5.trans (hS.mono hB5.size)
  have hX := Below.refl w6.heap.size w6
  have S5 := hB5.size
  have c3 := cvx (blk_row T3.out LX.out (by omega))
  have c5 := cvx R5.out
  have G1' := T1.out.lt
  have G2' := T2.out.lt
  have G3' := T3.out.lt
  have G4' := T4.out.lt
  clear hS hSz
  refine sx_take (i := 0) (oi := ⟨some 35, _, _, _, _, _⟩) (v := ?_) rfl (by kernel_rfl) (by kernel_rfl) (by kernel_rfl) (fun _ _ _ h => h) rfl hX ?_ ?_; rotate_left; (intro W hW; go_simp; try with_reducible rfl); simp only [Act.put, List.setIfInBounds_toArray, List.set_cons_zero, List.set_cons_succ]
  refine sx_take (i := 1) (oi := ⟨some 36, _, _, _, _, _⟩) (v := ?_) rfl (by kernel_rfl) (by kernel_rfl) (by kernel_rfl) (fun _ _ _ h => h) rfl hX ?_ ?_; rotate_left; (intro W hW; go_simp; try with_reducible rfl); simp only [Act.put, List.setIfInBounds_toArray, List.set_cons_zero, List.set_cons_succ]
  refine sx_take (i := 2) (oi := ⟨some 37, _, _, _, _, _⟩) (v := ?_) rfl (by kernel_rfl) (by kernel_rfl) (by kernel_rfl) (fun _ _ _ h => h) rfl hX ?_ ?_; rotate_left; (intro W hW; go_simp; try with_reducible rfl); simp only [Act.put, List.setIfInBounds_toArray, List.set_cons_zero, List.set_cons_succ]
  refine sx_take (i := 3) (oi := ⟨some 38, _, _, _, _, _⟩) (v := ?_) rfl (by kernel_rfl) (by kernel_rfl) (by kernel_rfl) (fun _ _ _ h => h) rfl hX ?_ ?_; rotate_left; (intro W hW; go_simp; try with_reducible rfl); simp only [Act.put, List.setIfInBounds_toArray, List.set_cons_zero, List.set_cons_succ]
  refine sx_take (i := 4) (oi := ⟨some 39, _, _, _, _, _⟩) (v := ?_) rfl (by kernel_rfl) (by kernel_rfl) (by kernel_rfl) (fun _ _ _ h => h) rfl hX ?_ ?_; rotate_left; (intro W hW; go_simp; try with_reducible rfl); simp only [Act.put, List.setIfInBounds_toArray, List.set_cons_zero, List.set_cons_succ]
  refine sx_act (i := 5) (o := ⟨some 40, _, _, _, _, _⟩) rfl (by kernel_rfl) rfl hX (Nat.le_refl _) (fun K hK => ?_)
  go_wp2_with fail
  refine (refPut_any _ b v k n _ (HB.out.below hB5) (by omega) hv HK.out).mono ?_
  rintro e w7 ⟨v7, rfl, ho7, hB7⟩
  go_wp2_with fail
  refine hK _ _ hB7 ?_
  clear hK K hX c3 c5
  have hX := Below.refl w7.heap.size w7
  replace T1 := Lib.hid (T1.out.below hB7 G1')
  replace T2 := Lib.hid (T2.out.below hB7 G2')
  replace T3 := Lib.hid (T3.out.below hB7 G3')
  replace T4 := Lib.hid (T4.out.below hB7 G4')
  replace R5 := Lib.hid (R5.out.below hB7)
  have S6 := hB7.size
  replace hB7 : Below w.heap.size w w7 := hB5.trans (hB7.mono hB5.size)
  have c7 := cvx (Row.of_own ho7)
  have c5 := cvx R5.out
  clear ho7 hB5
  refine sx_take (i := 6) (oi := ⟨some 41, _, _, _, _, _⟩) (v := ?_) rfl (by kernel_rfl) (by kernel_rfl) (by kernel_rfl) (fun _ _ _ h => h) rfl hX ?_ ?_; rotate_left; (intro W hW; go_simp; try with_reducible rfl); simp only [Act.put, List.setIfInBounds_toArray, List.set_cons_zero, List.set_cons_succ]
  refine sx_take (i := 7) (oi := ⟨some 42, _, _, _, _, _⟩) (v := ?_) rfl (by kernel_rfl) (by kernel_rfl) (by kernel_rfl) (fun _ _ _ h => h) rfl hX ?_ ?_; rotate_left; (intro W hW; go_simp; try with_reducible rfl); simp only [Act.put, List.setIfInBounds_toArray, List.set_cons_zero, List.set_cons_succ]
  refine sx_take (i := 8) (oi := ⟨some 43, _, _, _, _, _⟩) (v := ?_) rfl (by kernel_rfl) (by kernel_rfl) (by kernel_rfl) (fun _ _ _ h => h) rfl hX ?_ ?_; rotate_left; (intro W hW; go_simp; try with_reducible rfl); simp only [Act.put, List.setIfInBounds_toArray, List.set_cons_zero, List.set_cons_succ]
  refine sx_take (i := 9) (oi := ⟨some 44, _, _, _, _, _⟩) (v := ?_) rfl (by kernel_rfl) (by kernel_rfl) (by kernel_rfl) (fun _ _ _ h => h) rfl hX ?_ ?_; rotate_left; (intro W hW; go_simp; try with_reducible rfl); simp only [Act.put, List.setIfInBounds_toArray, List.set_cons_zero, List.set_cons_succ]
  refine sx_take (i := 10) (oi := ⟨some 45, _, _, _, _, _⟩) (v := ?_) rfl (by kernel_rfl) (by kernel_rfl) (by kernel_rfl) (fun _ _ _ h => h) rfl hX ?_ ?_; rotate_left; (intro W hW; go_simp; try with_reducible rfl); simp only [Act.put, List.setIfInBounds_toArray, List.set_cons_zero, List.set_cons_succ]
  refine sx_take (i := 11) (oi := ⟨some 46, _, _, _, _, _⟩) (v := ?_) rfl (by kernel_rfl) (by kernel_rfl) (by kernel_rfl) (fun _ _ _ h => h) rfl hX ?_ ?_; rotate_left; (intro W hW; go_simp; try with_reducible rfl); simp only [Act.put, List.setIfInBounds_toArray, List.set_cons_zero, List.set_cons_succ]
  refine sx_take (i := 12) (oi := ⟨some 47, _, _, _, _, _⟩) (v := ?_) rfl (by kernel_rfl) (by kernel_rfl) (by kernel_rfl) (fun _ _ _ h => h) rfl hX ?_ ?_; rotate_left; (intro W hW; go_simp; try with_reducible rfl); simp only [Act.put, List.setIfInBounds_toArray, List.set_cons_zero, List.set_cons_succ]
  refine sx_act (i := 13) (o := ⟨some 48, _, _, _, _, _⟩) rfl (by kernel_rfl) rfl hX (Nat.le_refl _) (fun K hK => ?_)
  go_wp2_with fail
  refine (refText_any _ _ b s _ (HB.out.below hB7) (HS.out.below hB7) (by omega) (by omega)).mono ?_
  rintro e w8 ⟨v8, rfl, ho8, hB8⟩
  go_wp2_with fail
  refine hK _ _ hB8 ?_
  clear hK K hX c5 c7
  have hX := Below.refl w8.heap.size w8
  replace T1 := Lib.hid (T1.out.below hB8 (by omega))
  replace T2 := Lib.hid (T2.out.below hB8 (by omega))
  replace T3 := Lib.hid (T3.out.below hB8 (by omega))
  replace T4 := Lib.hid (T4.out.below hB8 (by omega))
  replace hB8 : Below w.heap.size w w8 := hB7.trans (hB8.mono hB7.size)
  have c8 := cvx (Row.of_own ho8)
  clear ho8 hB7 R5
  refine sx_take (i := 14) (oi := ⟨some 49, _, _, _, _, _⟩) (v := ?_) rfl (by kernel_rfl) (by kernel_rfl) (by kernel_rfl) (fun _ _ _ h => h) rfl hX ?_ ?_; rotate_left; (intro W hW; go_simp; try with_reducible rfl); simp only [Act.put, List.setIfInBounds_toArray, List.set_cons_zero, List.set_cons_succ]
  refine sx_take (i := 15) (oi := ⟨some 50, _, _, _, _, _⟩) (v := ?_) rfl (by kernel_rfl) (by kernel_rfl) (by kernel_rfl) (fun _ _ _ h => h) rfl hX ?_ ?_; rotate_left; (intro W hW; go_simp; try with_reducible rfl); simp only [Act.put, List.setIfInBounds_toArray, List.set_cons_zero, List.set_cons_succ]
  refine sx_take (i := 16) (oi := ⟨some 51, _, _, _, _, _⟩) (v := ?_) rfl (by kernel_rfl) (by kernel_rfl) (by kernel_rfl) (fun _ _ _ h => h) rfl hX ?_ ?_; rotate_left; (intro W hW; go_simp; try with_reducible rfl); simp only [Act.put, List.setIfInBounds_toArray, List.set_cons_zero, List.set_cons_succ]
  refine sx_take (i := 17) (oi := ⟨some 52, _, _, _, _, _⟩) (v := ?_) rfl (by kernel_rfl) (by kernel_rfl) (by kernel_rfl) (fun _ _ _ h => h) rfl hX ?_ ?_; rotate_left; (intro W hW; go_simp; try with_reducible rfl); simp only [Act.put, List.setIfInBounds_toArray, List.set_cons_zero, List.set_cons_succ]
  refine sx_take (i := 18) (oi := ⟨some 53, _, _, _, _, _⟩) (v := ?_) rfl (by kernel_rfl) (by kernel_rfl) (by kernel_rfl) (fun _ _ _ h => h) rfl hX ?_ ?_; rotate_left; (intro W hW; go_simp; try with_reducible rfl); simp only [Act.put, List.setIfInBounds_toArray, List.set_cons_zero, List.set_cons_succ]
  refine sx_take (i := 19) (oi := ⟨some 54, _, _, _, _, _⟩) (v := ?_) rfl (by kernel_rfl) (by kernel_rfl) (by kernel_rfl) (fun _ _ _ h => h) rfl hX ?_ ?_; rotate_left; (intro W hW; go_simp; try with_reducible rfl); simp only [Act.put, List.setIfInBounds_toArray, List.set_cons_zero, List.set_cons_succ]
  refine sx_act (i := 20) (o := ⟨some 55, _, _, _, _, _⟩) rfl (by kernel_rfl) rfl hX (Nat.le_refl _) (fun K hK => ?_)
  go_wp2_with fail
  refine (kept_any _ g1 b w8 T1.out (HB.out.below hB8) (by omega)).mono ?_
  rintro e w9 ⟨rfl, rfl⟩
  go_wp2_with fail
  refine hK _ _ (Below.refl _ _) ?_
  clear hK K
  refine sx_take (i := 21) (oi := ⟨some 56, _, _, _, _, _⟩) (v := ?_) rfl (by kernel_rfl) (by kernel_rfl) (by kernel_rfl) (fun _ _ _ h => h) rfl hX ?_ ?_; rotate_left; (intro W hW; go_simp; try with_reducible rfl); simp only [Act.put, List.setIfInBounds_toArray, List.set_cons_zero, List.set_cons_succ]
  refine sx_take (i := 22) (oi := ⟨some 57, _, _, _, _, _⟩) (v := ?_) rfl (by kernel_rfl) (by kernel_rfl) (by kernel_rfl) (fun _ _ _ h => h) rfl hX ?_ ?_; rotate_left; (intro W hW; go_simp; try with_reducible rfl); simp only [Act.put, List.setIfInBounds_toArray, List.set_cons_zero, List.set_cons_succ]
  refine sx_take (i := 23) (oi := ⟨some 58, _, _, _, _, _⟩) (v := ?_) rfl (by kernel_rfl) (by kernel_rfl) (by kernel_rfl) (fun _ _ _ h => h) rfl hX ?_ ?_; rotate_left; (intro W hW; go_simp; try with_reducible rfl); simp only [Act.put, List.setIfInBounds_toArray, List.set_cons_zero, List.set_cons_succ]
  refine sx_take (i := 24) (oi := ⟨some 59, _, _, _, _, _⟩) (v := ?_) rfl (by kernel_rfl) (by kernel_rfl) (by kernel_rfl) (fun _ _ _ h => h) rfl hX ?_ ?_; rotate_left; (intro W hW; go_simp; try with_reducible rfl); simp only [Act.put, List.setIfInBounds_toArray, List.set_cons_zero, List.set_cons_succ]
  refine sx_act (i := 25) (o := ⟨some 60, _, _, _, _, _⟩) rfl (by kernel_rfl) rfl hX (Nat.le_refl _) (fun K hK => ?_)
  go_wp2_with fail
  refine (kept_any _ g2 s w8 T2.out (HS.out.below hB8) (by omega)).mono ?_
  rintro e w9 ⟨rfl, rfl⟩
  go_wp2_with fail
  refine hK _ _ (Below.refl _ _) ?_
  clear hK K
  refine sx_take (i := 26) (oi := ⟨some 61, _, _, _, _, _⟩) (v := ?_) rfl (by kernel_rfl) (by kernel_rfl) (by kernel_rfl) (fun _ _ _ h => h) rfl hX ?_ ?_; rotate_left; (intro W hW; go_simp; try with_reducible rfl); simp only [Act.put, List.setIfInBounds_toArray, List.set_cons_zero, List.set_cons_succ]
  refine sx_take (i := 27) (oi := ⟨some 13, _, _, _, _, _⟩) (v := ?_) rfl (by kernel_rfl) (by kernel_rfl) (by kernel_rfl) (fun _ _ _ h => h) rfl hX ?_ ?_; rotate_left; (intro W hW; go_simp; try with_reducible rfl); simp only [Act.put, List.setIfInBounds_toArray, List.set_cons_zero, List.set_cons_succ]
  refine wpAnyH_done (by kernel_rfl) ?_ _
  clear hX c8
  go_wp2_with fail
  refine (spoil_any g3 (b.length + k) (b.length + k) _ w8 T3.out (by rw [bvs_length, LX.out]) (by unfold maxLen; omega) (Nat.le_refl _)).mono ?_
  rintro e w9 ⟨rfl, hG9⟩
  replace T1 := Lib.hid (T1.out.grown hG9 (by intro e; injection e with e; omega))
  replace T2 := Lib.hid (T2.out.grown hG9 (by intro e; injection e with e; omega))
  replace T4 := Lib.hid (T4.out.grown hG9 (by intro e; injection e with e; omega))
  have hB9 := hB8.grown hG9 hB8.size (fun q hq => by injection hq with hq; omega)
  clear hG9 hB8
  go_wp2_with fail
  refine (spoil_any g4 (b.length + 2 + s.length) c4 _ w9 T4.out LC4.out hm4 hc4).mono ?_
  rintro e w10 ⟨rfl, hG10⟩
  replace T1 := Lib.hid (T1.out.grown hG10 (by intro e; injection e with e; omega))
  replace T2 := Lib.hid (T2.out.grown hG10 (by intro e; injection e with e; omega))
  have hB10 := hB9.grown hG10 hB9.size (fun q hq => by injection hq with hq; omega)
  clear hG10 hB9
  go_wp2_with fail
  refine (kept_any _ g1 b w10 T1.out (HB.out.below hB10) (by omega)).mono ?_
  rintro e w11 ⟨rfl, rfl⟩
  go_wp2_with fail
  refine (kept_any _ g2 s w10 T2.out (HS.out.below hB10) (by omega)).mono ?_
  rintro e w12 ⟨rfl, rfl⟩
  go_wp2
  go_ret
  exact ⟨rfl, hB10⟩
set_option maxHeartbeats 400000 in
theorem writes_early (vb vs : Value) (b s : List UInt8) (v : Nat) (n : Int) (w : World) (hb : Row w vb (bvs b)) (hs : Row w vs (bvs s)) (hl : 4096 < b.length ∨ 4096 < s.length) :
    Calls Try.prog 3 #[vb, vs, .int .u64 v, .int .i64 n] w fun e w' => e = .returned (.bool true) ∧ Below w.heap.size w w' := by
  obtain ⟨A, cap, rfl, a1, a2, a0, a3⟩ := hb
  obtain ⟨A', cap', rfl, b1, b2, b0, b3⟩ := hs
  clear a3 b3 a0 b0
  rw [bvs_length, bvs_length]
  by_cases m1 : 4096 < (b.length : Int)
  · clear hl
    go_enter Try.func3, Try.ntmps3
    go_wp2_with fail
    refine (begun_any w).mono ?_
    rintro e w1 ⟨rfl, hB1⟩
    go_wp2_with fail
    go_ret
    exact ⟨rfl, hB1⟩
  have m2 : 4096 < (s.length : Int) := by omega
  clear hl
  · go_enter Try.func3, Try.ntmps3
    go_wp2_with fail
    refine (begun_any w).mono ?_
    rintro e w1 ⟨rfl, hB1⟩
    go_wp2_with fail
    go_ret
    exact ⟨rfl, hB1⟩

theorem writes_all (vb vs : Value) (b s : List UInt8) (v : Nat) (n : Int) (w : World) (hb : Row w vb (bvs b)) (hs : Row w vs (bvs s)) (hv : v < 18446744073709551616) :
    Calls Try.prog 3 #[vb, vs, .int .u64 v, .int .i64 n] w fun e w' => e = .returned (.bool true) ∧ Below w.heap.size w w' := by
  by_cases h : 4096 < b.length ∨ 4096 < s.length
  · exact writes_early vb vs b s v n w hb hs h
  · rcases Int.lt_or_le n 0 with h0 | h0
    · exact writes_walk vb vs b s v 0 n w hb hs hv (.inl ⟨h0, rfl⟩) (by omega) (by omega)
    · rcases Int.lt_or_le 8 n with h8 | h8
      · exact writes_walk vb vs b s v 8 n w hb hs hv (.inr (.inl ⟨h8, rfl⟩)) (by omega) (by omega)
      · exact writes_walk vb vs b s v n.toNat n w hb hs hv (.inr (.inr ⟨by omega, by omega⟩)) (by omega) (by omega)
end Go.Proofs.Ytofimimnjfhmfaa
