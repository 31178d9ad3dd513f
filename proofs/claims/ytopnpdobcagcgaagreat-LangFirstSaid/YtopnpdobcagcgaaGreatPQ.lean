/-
  Texts of this proof, put together: (RxM) What slices.CompactFunc answers and leaves over a row of expressions of the call's own, by Equal. No statement is proved here. (LayR) DERIVED: THE SHELF's CONTRACTS AT THIS DUMP, IN PLAIN WORDS (tools/lay-plain.mjs out of 'YtopnpdobcagcgaaGreatScrLayR.lean', which tools/lay-shelf.mjs wrote): THE SAME DECLARATIONS UNDER THE SAME NAMES: 'import', 'namespace', 'open', 'def', 'theorem' AND NOTHING ELSE: no command of the shelf's: FOR A HAND-IN. Each laying: the table of numbers ('.._ren') and one theorem, a field a fact of the dump's own or the kernel's comparison; each contract: ONE APPLICATION. (RxH) What slices.SortFunc answers and leaves over a row of expressions of the call's own, by Compare. No statement is proved here.
-/
import Derived.Test.YtopnpdobcagcgaaGreatPP
import Derived.Test.YtopnpdobcagcgaaGreatPF
import Derived.Shelf.SlSortCmp.WholeK
import Derived.Test.YtopnpdobcagcgaaGreatProg
import Derived.Test.YtopnpdobcagcgaaGreatPO
import Derived.Shelf.SlSortCmp.NoneTotal
import Derived.Lib.OwnBridge
namespace Go.Proofs.YtopnpdobcagcgaaGreat
open Go.RowKit
set_option linter.unusedSimpArgs false
set_option linter.unusedVariables false
abbrev eqV : Value := .func (.func 92) #[] #[]
set_option maxHeartbeats 8000000 in
set_option maxRecDepth 100000 in
theorem compactT_any {D : Nat → Prop} (base : Nat) (v : Value) (l : List T) (w : World) (h : OwnT D base w v l) (hl : l.length ≤ 1099511627776) (hM : ∀ t ∈ l, t.nodes ≤ 1099511627776) :
  Calls Tryz.prog 91 #[v, eqV] w fun e w' => ∃ v', e = .returned v' ∧
   RowD (fun k => (D k ∨ base ≤ k) ∧ k < w'.heap.size) w' v' (ddU l l.length) ∧ w.grownBy w' v.ownBlock := by
 have HO := Lib.hid h
 by_cases h2 : l.length < 2
 ·have h2i : (l.length : Int) < 2 := by omega
  have HE := Lib.hid (show ddU l l.length = l by
   have := ddU_all l l.length (Nat.le_refl _) (fun j h0 hj => by omega)
   rw [this, List.take_length])
  obtain ⟨A, cap, rfl⟩ := h.slice
  clear h h2
  go_enter Tryz.func91, Tryz.ntmps91
  go_wp2_with fail
  go_ret
  exact ⟨_, rfl, by rw [HE.out]; exact HO.out.rowD, World.grownBy.refl _ _⟩
 ·have h2i : ¬ (l.length : Int) < 2 := by omega
  obtain ⟨g, cap, f, rfl, m1, m2, m3, m4, m5, m6, m7⟩ := h.mid (by omega)
  have HB0 := Lib.hid m1
  have HG := Lib.hid m2
  have HCL := Lib.hid m3
  have HCM := Lib.hid m4
  have HT := Lib.hid m5
  have HR := Lib.hid m6
  have HX := Lib.hid m7
  have HL := Lib.hid hl
  have HM := Lib.hid hM
  have HN2 := Lib.hid h2
  obtain ⟨n, hn⟩ : ∃ n, n = l.length := ⟨_, rfl⟩
  have HN := Lib.hid hn
  rw [← hn] at h2i HCL HT HR HL HN2 ⊢
  have hcl : (n : Int) ≤ (cap : Int) := by have := HCL.out; omega
  clear h m1 m2 m3 m4 m5 m6 m7 hl hM h2 hn HO
  go_enter Tryz.func91, Tryz.ntmps91
  go_wp2_with fail
  go_loopw [5] (fun i wl => ∃ k : Nat, 1 ≤ k ∧ k ≤ n ∧ i = .int .i64 (k : Int) ∧ (∀ j, 0 < j → j < k → cmpT (nthT l j) (nthT l (j - 1)) ≠ 0) ∧ Below w.heap.size w wl) (fun i _ => n - (intOf i).toNat)
  case atStart => exact ⟨1, by omega, by have := HN2.out; omega, by simp, fun j h0 hj => by omega, Below.refl _ _⟩
  case round =>
   obtain ⟨k, hk1, hk, rfl, hne, hb⟩ := hrel
   have HNE := Lib.hid hne
   have HB := Lib.hid hb
   clear hne hb
   by_cases hkn : k < n
   ·have j1 : (k : Int) < (n : Int) := Int.ofNat_lt.2 hkn
    obtain ⟨p, hp⟩ : ∃ p, k = p + 1 := ⟨k - 1, by omega⟩
    have HP := Lib.hid hp
    have p1 : (p : Int) < (n : Int) := by omega
    have hk62 : k ≤ 4611686018427387904 := by have := HL.out; omega
    have e1 : wrap64 ((k : Int) - 1) = (p : Int) := by rw [hp]; simp only [Int.natCast_add, Int.cast_ofNat_Int, Int.add_sub_cancel]; exact IntWalk.wrap64_in _ (by omega)
    have e2 : IntKind.i64.wrap ((k : Int) - 1) = (p : Int) := by rw [hp]; simp only [Int.natCast_add, Int.cast_ofNat_Int, Int.add_sub_cancel]; exact IntWalk.i64_in _ (by omega)
    have e3 := wrap_one k hk62
    have e4 := wrap_one' k hk62
    have HXK := Lib.hid ((HX.out k _ (nthT_some (by rw [← HN.out]; exact hkn))).keep HB.out fun q hq => hq.2.1)
    have HXP := Lib.hid ((HX.out p _ (nthT_some (by rw [← HN.out]; omega))).keep HB.out fun q hq => hq.2.1)
    have HRK := Lib.hid (range_below (HR.out k hkn) HB.out HG.out)
    have HRP := Lib.hid (range_below (HR.out p (by omega)) HB.out HG.out)
    have HGS := Lib.hid (Nat.lt_of_lt_of_le HG.out HB.out.size)
    have HMK := Lib.hid (HM.out (nthT l k) (List.mem_of_getElem? (nthT_some (by rw [← HN.out]; exact hkn))))
    obtain ⟨wo, hwo⟩ : ∃ wo : World, wo = wr := ⟨_, rfl⟩
    subst hwo
    clear hp hk62
    go_wp2_with fail
    refine sx_startB (B := wo.heap.size) (w0 := wo) (by kernel_rfl) (Below.refl _ _) (fun wd hwd hX => ?_)
    have SZ := Lib.hid hX.size
    clear hwd
    refine sx_take (i := 0) (oi := ⟨some 18, _, _, _, _, _⟩) (v := ?_) rfl (by kernel_rfl) (by kernel_rfl) (by kernel_rfl) (fun _ _ _ h => h) rfl hX ?_ ?_; rotate_left; (intro W hW; go_simp; try with_reducible rfl); simp only [Act.put, qA, qB, qC]
    refine sx_take (i := 1) (oi := ⟨some 19, _, _, _, _, _⟩) (v := ?_) rfl (by kernel_rfl) (by kernel_rfl) (by kernel_rfl) (fun _ _ _ h => h) rfl hX ?_ ?_; rotate_left; (intro W hW; go_simp; try with_reducible rfl); simp only [Act.put, qA, qB, qC]
    refine sx_take (i := 2) (oi := ⟨some 20, _, _, _, _, _⟩) (v := ?_) rfl (by kernel_rfl) (by kernel_rfl) (by kernel_rfl) (fun _ _ _ h => h) rfl hX ?_ ?_; rotate_left; (intro W hW; go_simp; try with_reducible rfl); simp only [Act.put, qA, qB, qC]
    refine sx_take (i := 3) (oi := ⟨some 21, _, _, _, _, _⟩) (v := ?_) rfl (by kernel_rfl) (by kernel_rfl) (by kernel_rfl) (fun _ _ _ h => h) rfl hX ?_ ?_; rotate_left; (intro W hW; go_simp; try with_reducible rfl); simp only [Act.put, qA, qB, qC]
    refine sx_take (i := 4) (oi := ⟨some 22, _, _, _, _, _⟩) (v := .agg (f k).toArray) rfl (by kernel_rfl) (by kernel_rfl) (by kernel_rfl) (fun _ _ _ h => h) rfl hX (ld_mid 29 _ rfl g (k * 6) rfl _ _ HRK.out HGS.out Tryz.underlying29 rfl (size_rx HXK.out.length)) ?_; simp only [Act.put, qA, qB, qC]
    refine sx_take (i := 5) (oi := ⟨some 23, _, _, _, _, _⟩) (v := ?_) rfl (by kernel_rfl) (by kernel_rfl) (by kernel_rfl) (fun _ _ _ h => h) rfl hX ?_ ?_; rotate_left; (intro W hW; go_simp; try with_reducible rfl); simp only [Act.put, qA, qB, qC]
    refine sx_take (i := 6) (oi := ⟨some 24, _, _, _, _, _⟩) (v := ?_) rfl (by kernel_rfl) (by kernel_rfl) (by kernel_rfl) (fun _ _ _ h => h) rfl hX ?_ ?_; rotate_left; (intro W hW; go_simp; try with_reducible rfl); simp only [Act.put, qA, qB, qC]
    refine sx_take (i := 7) (oi := ⟨some 25, _, _, _, _, _⟩) (v := ?_) rfl (by kernel_rfl) (by kernel_rfl) (by kernel_rfl) (fun _ _ _ h => h) rfl hX ?_ ?_; rotate_left; (intro W hW; go_simp; try with_reducible rfl); simp only [Act.put, qA, qB, qC]
    refine sx_take (i := 8) (oi := ⟨some 26, _, _, _, _, _⟩) (v := ?_) rfl (by kernel_rfl) (by kernel_rfl) (by kernel_rfl) (fun _ _ _ h => h) rfl hX ?_ ?_; rotate_left; (intro W hW; go_simp; try with_reducible rfl); simp only [Act.put, qA, qB, qC]
    refine sx_take (i := 9) (oi := ⟨some 27, _, _, _, _, _⟩) (v := .agg (f p).toArray) rfl (by kernel_rfl) (by kernel_rfl) (by kernel_rfl) (fun _ _ _ h => h) rfl hX (ld_mid 29 _ rfl g (p * 6) rfl _ _ HRP.out HGS.out Tryz.underlying29 rfl (size_rx HXP.out.length)) ?_; simp only [Act.put, qA, qB, qC]
    refine sx_actB (i := 10) (o := ⟨some 28, _, _, _, _, _⟩) rfl (by kernel_rfl) rfl hX (fun K hK => ?_)
    go_wp2_with fail
    refine (rxEqual_gr (nthT l k) (nthT l p) HMK.out (f k) (f p) wd (RxD.mono (HXK.out.keep hX fun q hq => Nat.lt_of_lt_of_le hq.2.1 HB.out.size) fun q hq => Nat.lt_of_lt_of_le hq.2.1 (Nat.le_trans HB.out.size SZ.out)) (RxD.mono (HXP.out.keep hX fun q hq => Nat.lt_of_lt_of_le hq.2.1 HB.out.size) fun q hq => Nat.lt_of_lt_of_le hq.2.1 (Nat.le_trans HB.out.size SZ.out))).mono ?_
    rintro e w6 ⟨rfl, hg⟩
    have hb := hg.below
    obtain ⟨x, hx⟩ : ∃ x, (cmpT (nthT l k) (nthT l p) == 0) = x := ⟨_, rfl⟩
    rw [hx]
    have HXX := Lib.hid hx
    refine hK _ _ (hb.mono SZ.out) ?_
    clear hK K hx hg
    replace hX := hX.trans (hb.mono SZ.out)
    clear hb
    refine wpAnyH_done (by kernel_rfl) ?_ _
    have B6 := Lib.hid (HB.out.trans (hX.mono HB.out.size))
    clear hX SZ
    cases x with
    | false =>
     have HC := Lib.hid (show cmpT (nthT l k) (nthT l p) ≠ 0 by have := HXX.out; simpa using this)
     go_wp2_with fail
     refine ⟨⟨k + 1, by omega, by omega, by congr 1, fun j h0 hj => ?_, B6.out⟩, by simp [intOf] <;> omega⟩
     by_cases hjk : j < k
     ·exact HNE.out j h0 hjk
     ·obtain rfl : j = k := by omega
      rw [show j - 1 = p by have := HP.out; omega]
      exact HC.out
    | true =>
     have HC := Lib.hid (show cmpT (nthT l k) (nthT l p) = 0 by have := HXX.out; simpa using this)
     have hkc : (k : Int) ≤ (cap : Int) := by omega
     have hk0 : (0 : Int) ≤ (k : Int) := by omega
     obtain ⟨m, hm⟩ : ∃ m, m = n - k := ⟨_, rfl⟩
     have HMN := Lib.hid (show n = k + m by omega)
     have HM1 := Lib.hid (show 1 ≤ m by omega)
     obtain ⟨c2, hc2⟩ : ∃ c2, c2 = cap - k := ⟨_, rfl⟩
     have HC2 := Lib.hid (show cap = k + c2 by omega)
     have HD0 := Lib.hid (ddU_all l k (by rw [← HN.out]; omega) HNE.out)
     have HD1 := Lib.hid (show ddU l (k + 1) = l.take k by
      rw [ddU_next, HD0.out, if_neg (by rw [show k - 1 = p by have := HP.out; omega]; rintro (h | h); omega; exact h HC.out), List.append_nil])
     have HLK := Lib.hid (show (l.take k).length = k by rw [List.length_take, ← HN.out]; omega)
     go_wp2_with fail
     rw [← hm, ← hc2]
     clear hm hc2 hkc hk0 hkn hk j1 p1 e1 e2 e3 e4
     have HK1 := Lib.hid hk1
     clear hk1
     go_loopw [5, 7] (fun kk qq wl => ∃ (a q : Nat) (ys : Nat → List Value), kk = .int .i64 (a : Int) ∧ qq = .int .i64 (q : Int) ∧ 1 ≤ q ∧ q ≤ m ∧ a = (ddU l (k + q)).length ∧ a + 1 ≤ k + q ∧ (∀ j, j < a → wl.rangeAt g (j * 6) (ys j)) ∧
      (∀ j t, (ddU l (k + q))[j]? = some t → RxD (fun k => D k ∧ k < w.heap.size ∧ k ≠ g) w (ys j) t) ∧ (∀ j, k + q ≤ j + 1 → j < n → wl.rangeAt g (j * 6) (f j)) ∧ ThereT wl g n ∧ w.grownBy wl (some g)) (fun _ qq _ => m - (intOf qq).toNat)
     case atStart =>
      refine ⟨k, 1, f, by simp, by simp, by omega, HM1.out, by rw [HD1.out, HLK.out], by omega, fun j hj => range_below (HR.out j (by have := HMN.out; omega)) B6.out HG.out, fun j t ht => ?_, fun j _ hj => range_below (HR.out j hj) B6.out HG.out, fun j hj => there_below (HT.out j hj) B6.out HG.out, ⟨B6.out.os, B6.out.tape, B6.out.output, B6.out.size, fun q hq _ => B6.out.block q hq⟩⟩
      rw [HD1.out] at ht
      have hj : j < k := by have := (List.getElem?_eq_some_iff.1 ht).1; rw [HLK.out] at this; exact this
      rw [List.getElem?_take, if_pos hj] at ht
      exact HX.out j t ht
     case round =>
      obtain ⟨a, q, ys, rfl, rfl, hq1, hqm, ha, hai, hys, hyt, hfr, hth, hgr⟩ := hrel
      have HAL := Lib.hid ha
      have HYS := Lib.hid hys
      have HYT := Lib.hid hyt
      have HFR := Lib.hid hfr
      have HTH := Lib.hid hth
      have HGR := Lib.hid hgr
      have HSW := Lib.hid hgr.size
      have HAI := Lib.hid hai
      have hn62 : n ≤ 4611686018427387904 := by have := HL.out; omega
      have HNX := Lib.hid (ddU_next l (k + q))
      clear ha hys hyt hfr hth hgr hai
      by_cases hqm' : q < m
      ·have j1 : (q : Int) < (m : Int) := Int.ofNat_lt.2 hqm'
       obtain ⟨r, hr⟩ : ∃ r, q = r + 1 := ⟨q - 1, by omega⟩
       have HRQ := Lib.hid hr
       have r1 : (r : Int) < (m : Int) := by omega
       have a1 : (a : Int) < (n : Int) := by have := HAI.out; have := HMN.out; omega
       have hq62 : q ≤ 4611686018427387904 := by have := HMN.out; omega
       have ha62 : a ≤ 4611686018427387904 := by have := HAI.out; have := HMN.out; omega
       have e1 : wrap64 ((q : Int) - 1) = (r : Int) := by rw [hr]; simp only [Int.natCast_add, Int.cast_ofNat_Int, Int.add_sub_cancel]; exact IntWalk.wrap64_in _ (by omega)
       have e2 : IntKind.i64.wrap ((q : Int) - 1) = (r : Int) := by rw [hr]; simp only [Int.natCast_add, Int.cast_ofNat_Int, Int.add_sub_cancel]; exact IntWalk.i64_in _ (by omega)
       have e3 := wrap_one q hq62
       have e4 := wrap_one' q hq62
       have e5 := wrap_one a ha62
       have e6 := wrap_one' a ha62
       have HQN := Lib.hid (show k + q < n by have := HMN.out; omega)
       have HRK := Lib.hid (show wr.rangeAt g (k * 6 + q * 6) (f (k + q)) by
        have := HFR.out (k + q) (by omega) HQN.out
        rwa [Nat.add_mul] at this)
       have HRP := Lib.hid (show wr.rangeAt g (k * 6 + r * 6) (f (k + r)) by
        have := HFR.out (k + r) (by omega) (by have := HQN.out; omega)
        rwa [Nat.add_mul] at this)
       have HGS := Lib.hid (Nat.lt_of_lt_of_le HG.out HSW.out)
       have key := fun (j : Nat) (hj : j < n) => (HX.out j _ (nthT_some (by rw [← HN.out]; exact hj))).stay (w' := wr) fun q hq => HGR.out.block q hq.2.1 (fun e => hq.2.2 (Option.some.inj e))
       have HXK := Lib.hid (key (k + q) HQN.out)
       have HXP := Lib.hid (key (k + r) (by have := HQN.out; omega))
       have HMK := Lib.hid (HM.out (nthT l (k + q)) (List.mem_of_getElem? (nthT_some (by rw [← HN.out]; exact HQN.out))))
       have HQ1 := Lib.hid hq1
       have I1 := Lib.hid (show 1 ≤ q + 1 from Nat.le_add_left 1 q)
       have I2 := Lib.hid (show q + 1 ≤ m from hqm')
       have I3 := Lib.hid (show a + 1 ≤ k + (q + 1) from Nat.le_succ_of_le HAI.out)
       have I4 := Lib.hid (sub_next hqm')
       have I5 := Lib.hid (pred_add (k := k) hr)
       have I6 := Lib.hid (below_n HAI.out HQN.out)
       have I7 := Lib.hid (show a + 1 + 1 ≤ k + (q + 1) from Nat.succ_le_succ HAI.out)
       have I8 := Lib.hid (sum_ne (q := q) HK1.out)
       clear hr hq62 ha62 key hn62 hq1 hqm hqm'
       go_wp2_with fail
       refine sx_startB (B := wr.heap.size) (w0 := wr) (by kernel_rfl) (Below.refl _ _) (fun wd hwd hX => ?_)
       have SZ := Lib.hid hX.size
       clear hwd
       refine sx_take (i := 0) (oi := ⟨some 38, _, _, _, _, _⟩) (v := ?_) rfl (by kernel_rfl) (by kernel_rfl) (by kernel_rfl) (fun _ _ _ h => h) rfl hX ?_ ?_; rotate_left; (intro W hW; go_simp; try with_reducible rfl); simp only [Act.put, qA, qB, qC]
       refine sx_take (i := 1) (oi := ⟨some 39, _, _, _, _, _⟩) (v := ?_) rfl (by kernel_rfl) (by kernel_rfl) (by kernel_rfl) (fun _ _ _ h => h) rfl hX ?_ ?_; rotate_left; (intro W hW; go_simp; try with_reducible rfl); simp only [Act.put, qA, qB, qC]
       refine sx_take (i := 2) (oi := ⟨some 40, _, _, _, _, _⟩) (v := ?_) rfl (by kernel_rfl) (by kernel_rfl) (by kernel_rfl) (fun _ _ _ h => h) rfl hX ?_ ?_; rotate_left; (intro W hW; go_simp; try with_reducible rfl); simp only [Act.put, qA, qB, qC]
       refine sx_take (i := 3) (oi := ⟨some 41, _, _, _, _, _⟩) (v := ?_) rfl (by kernel_rfl) (by kernel_rfl) (by kernel_rfl) (fun _ _ _ h => h) rfl hX ?_ ?_; rotate_left; (intro W hW; go_simp; try with_reducible rfl); simp only [Act.put, qA, qB, qC]
       refine sx_take (i := 4) (oi := ⟨some 42, _, _, _, _, _⟩) (v := .agg (f (k + q)).toArray) rfl (by kernel_rfl) (by kernel_rfl) (by kernel_rfl) (fun _ _ _ h => h) rfl hX (ld_mid 29 _ rfl g (k * 6 + q * 6) rfl _ _ HRK.out HGS.out Tryz.underlying29 rfl (size_rx HXK.out.length)) ?_; simp only [Act.put, qA, qB, qC]
       refine sx_take (i := 5) (oi := ⟨some 43, _, _, _, _, _⟩) (v := ?_) rfl (by kernel_rfl) (by kernel_rfl) (by kernel_rfl) (fun _ _ _ h => h) rfl hX ?_ ?_; rotate_left; (intro W hW; go_simp; try with_reducible rfl); simp only [Act.put, qA, qB, qC]
       refine sx_take (i := 6) (oi := ⟨some 44, _, _, _, _, _⟩) (v := ?_) rfl (by kernel_rfl) (by kernel_rfl) (by kernel_rfl) (fun _ _ _ h => h) rfl hX ?_ ?_; rotate_left; (intro W hW; go_simp; try with_reducible rfl); simp only [Act.put, qA, qB, qC]
       refine sx_take (i := 7) (oi := ⟨some 45, _, _, _, _, _⟩) (v := ?_) rfl (by kernel_rfl) (by kernel_rfl) (by kernel_rfl) (fun _ _ _ h => h) rfl hX ?_ ?_; rotate_left; (intro W hW; go_simp; try with_reducible rfl); simp only [Act.put, qA, qB, qC]
       refine sx_take (i := 8) (oi := ⟨some 46, _, _, _, _, _⟩) (v := ?_) rfl (by kernel_rfl) (by kernel_rfl) (by kernel_rfl) (fun _ _ _ h => h) rfl hX ?_ ?_; rotate_left; (intro W hW; go_simp; try with_reducible rfl); simp only [Act.put, qA, qB, qC]
       refine sx_take (i := 9) (oi := ⟨some 47, _, _, _, _, _⟩) (v := .agg (f (k + r)).toArray) rfl (by kernel_rfl) (by kernel_rfl) (by kernel_rfl) (fun _ _ _ h => h) rfl hX (ld_mid 29 _ rfl g (k * 6 + r * 6) rfl _ _ HRP.out HGS.out Tryz.underlying29 rfl (size_rx HXP.out.length)) ?_; simp only [Act.put, qA, qB, qC]
       refine sx_actB (i := 10) (o := ⟨some 48, _, _, _, _, _⟩) rfl (by kernel_rfl) rfl hX (fun K hK => ?_)
       go_wp2_with fail
       refine (rxEqual_gr (nthT l (k + q)) (nthT l (k + r)) HMK.out (f (k + q)) (f (k + r)) wd (RxD.mono (HXK.out.keep hX fun q hq => Nat.lt_of_lt_of_le hq.2.1 HSW.out) fun q hq => Nat.lt_of_lt_of_le hq.2.1 (Nat.le_trans HSW.out SZ.out)) (RxD.mono (HXP.out.keep hX fun q hq => Nat.lt_of_lt_of_le hq.2.1 HSW.out) fun q hq => Nat.lt_of_lt_of_le hq.2.1 (Nat.le_trans HSW.out SZ.out))).mono ?_
       rintro e w7 ⟨rfl, hg⟩
       have hb := hg.below
       obtain ⟨x, hx⟩ : ∃ x, (cmpT (nthT l (k + q)) (nthT l (k + r)) == 0) = x := ⟨_, rfl⟩
       rw [hx]
       have HXY := Lib.hid hx
       refine hK _ _ (hb.mono SZ.out) ?_
       clear hK K hx hg
       replace hX := hX.trans (hb.mono SZ.out)
       clear hb
       refine sx_take (i := 11) (oi := ⟨some 49, _, _, _, _, _⟩) (v := ?_) rfl (by kernel_rfl) (by kernel_rfl) (by kernel_rfl) (fun _ _ _ h => h) rfl hX ?_ ?_; rotate_left; (intro W hW; go_simp; try with_reducible rfl); simp only [Act.put, qA, qB, qC]
       refine wpAnyH_done (by kernel_rfl) ?_ _
       have B7 := Lib.hid hX
       have G7 := Lib.hid (grown_below HGR.out hX (Nat.le_refl _))
       have R7 := Lib.hid (range_below HRK.out hX HGS.out)
       have T7 := Lib.hid (show ThereT w7 g n from fun j hj => there_below (HTH.out j hj) hX HGS.out)
       clear hX SZ
       cases x with
       | true =>
        have HE := Lib.hid (show ddU l (k + q + 1) = ddU l (k + q) by
         have h1 := HNX.out
         have h2 := HXY.out
         rw [I5.out, if_neg (by rintro (h | h); exact I8.out h; exact h (by simpa using h2)), List.append_nil] at h1
         exact h1)
        go_wp2_with fail
        refine ⟨⟨a, q + 1, ys, rfl, by congr 1, I1.out, I2.out, by rw [← Nat.add_assoc, HE.out]; exact HAL.out, I3.out, fun j hj => range_below (HYS.out j hj) B7.out HGS.out, fun j t ht => ?_, fun j hj hjn => range_below (HFR.out j (back_one hj) hjn) B7.out HGS.out, T7.out, G7.out⟩, by simpa [intOf] using I4.out⟩
        rw [← Nat.add_assoc, HE.out] at ht
        exact HYT.out j t ht
       | false =>
        have HE := Lib.hid (show ddU l (k + q + 1) = ddU l (k + q) ++ [nthT l (k + q)] by
         have h1 := HNX.out
         have h2 := HXY.out
         rw [I5.out, if_pos (.inr (by simpa using h2))] at h1
         exact h1)
        have HF6 := Lib.hid HXK.out.length
        have HF1 := Lib.hid (show (f (k + q)).toArray.all (·.oneCell') = true from all_oneCell_toArray HXK.out.one)
        have TA := Lib.hid (show w7.there g (a * 6) (f (k + q)).toArray.size by
         have := T7.out a I6.out
         rw [List.size_toArray, HF6.out]
         exact this)
        go_wp2_with (first
         | ((with_reducible refine atDst 55 ?_); refine wpList_load_mid rfl 29 _ rfl g (k * 6 + q * 6) rfl (f (k + q)) _ R7.out Tryz.underlying29 rfl (size_rx HF6.out) ?_; (try simp only [Act.put, qA, qB, qC]))
         | ((with_reducible refine atStore 29 56 55 ?_); refine wpList_store_mid rfl 29 _ _ rfl g (a * 6) (f (k + q)).toArray rfl rfl TA.out (by rw [List.size_toArray]; exact size_rx HF6.out) HF1.out ?_; (generalize hw8 : World.setCells _ _ _ _ = w8); have W8 := Lib.hid hw8.symm; clear hw8; (try simp only [Act.put, qA, qB, qC])))
        have W8' := Lib.hid (show w8 = w7.setCells g (a * 6) (f (k + q)) from W8.out)
        have apart : ∀ (j : Nat) (cs : List Value), cs.length = 6 → j ≠ a → w7.rangeAt g (j * 6) cs → w8.rangeAt g (j * 6) cs := fun j cs hcs hja h => by
         rw [W8'.out]
         exact World.rangeAt_setCells_apart h g (a * 6) _ (.inr (six_apart hcs HF6.out hja))
        refine ⟨⟨a + 1, q + 1, fun j => if j = a then f (k + q) else ys j, by congr 1, by congr 1, I1.out, I2.out, by rw [← Nat.add_assoc, HE.out, List.length_append, ← HAL.out]; rfl, I7.out, fun j hj => ?_, fun j t ht => ?_, fun j hj hjn => ?_, ?_, ?_⟩, by simpa [intOf] using I4.out⟩
        ·dsimp only
         by_cases hja : j = a
         ·subst hja
          rw [if_pos rfl, W8'.out]
          exact World.rangeAt_setCells_same _ _ _ _ (by have h := TA.out; rwa [List.size_toArray] at h)
         ·rw [if_neg hja]
          have hj2 : j < (ddU l (k + q)).length := by rw [← HAL.out]; exact lt_of_ne hj hja
          exact apart j _ (HYT.out j _ (List.getElem?_eq_getElem hj2)).length hja (range_below (HYS.out j (lt_of_ne hj hja)) B7.out HGS.out)
        ·dsimp only
         rw [← Nat.add_assoc, HE.out] at ht
         by_cases hja : j = a
         ·subst hja
          rw [if_pos rfl]
          rw [List.getElem?_append_right (by rw [← HAL.out]; exact Nat.le_refl _), ← HAL.out, Nat.sub_self] at ht
          obtain rfl : nthT l (k + q) = t := by simpa using ht
          exact HX.out (k + q) _ (nthT_some (by rw [← HN.out]; exact HQN.out))
         ·rw [if_neg hja]
          rw [List.getElem?_append_left (last_one HAL.out ht hja)] at ht
          exact HYT.out j t ht
        ·exact apart j _ (HX.out j _ (nthT_some (by rw [← HN.out]; exact hjn))).length (not_at hj HAI.out) (range_below (HFR.out j (back_one hj) hjn) B7.out HGS.out)
        ·intro j hj
         rw [W8'.out]
         exact World.there_setCells (T7.out j hj) _ _ _
        ·rw [W8'.out]
         exact grown_setCells G7.out _ _
      ·obtain rfl : q = m := by omega
       have j1 : ¬ ((q : Int) < (q : Int)) := by omega
       have hac : (a : Int) < (cap : Int) := by have := HAI.out; have := HMN.out; omega
       have han : (a : Int) < (n : Int) := by have := HAI.out; have := HMN.out; omega
       have ha0 : (0 : Int) ≤ (a : Int) := by omega
       have HS0 := Lib.hid (show 0 < n - a by have := HAI.out; have := HMN.out; omega)
       have HTA := Lib.hid (HTH.out.all (a * 6) ((n - a) * 6) (by have := HAI.out; have := HMN.out; omega))
       clear hn62
       have hnn : (n - a : Nat) = n - a := rfl
       obtain ⟨s0, hs0⟩ : ∃ s0, s0 = n - a := ⟨_, rfl⟩
       obtain ⟨c3, hc3⟩ : ∃ c3, c3 = cap - a := ⟨_, rfl⟩
       have HFN := Lib.hid (show k + q = n from HMN.out.symm)
       have HAC := Lib.hid (show a ≤ cap by omega)
       clear hnn
       go_wp2_with ((with_reducible refine atClear 61 ?_); refine wpList_clearT rfl (.tmp 61) rfl g (a * 6) (n - a) (cap - a) rfl HS0.out HTA.out ?_; intro zs hzs; (generalize hw8 : World.setCells _ _ _ _ = w8); have W8 := Lib.hid hw8.symm; have HZS := Lib.hid hzs; clear hw8 hzs; (try simp only [Act.put, qA, qB, qC]))
       go_ret
       have G8 := Lib.hid (show w.grownBy w8 (some g) by rw [W8.out]; exact grown_setCells HGR.out _ _)
       have hal := HAL.out
       rw [HFN.out] at hal
       have hyt := HYT.out
       rw [HFN.out] at hyt
       refine ⟨_, rfl, ⟨some ⟨g, 0, none⟩, cap, ys, by rw [← hal]; rfl, by rw [← hal]; exact HAC.out, HCM.out, (fun h => by cases h), fun _ => ⟨g, 0, rfl, ⟨.inr HB0.out, Nat.lt_of_lt_of_le HG.out G8.out.size⟩, fun i hi => ?_⟩, fun i t ht => ?_⟩, G8.out⟩
       ·rw [Nat.zero_add, W8.out]
        rw [← hal] at hi
        have h6 := (hyt i _ (List.getElem?_eq_getElem (by rw [← hal]; exact hi))).length
        exact World.rangeAt_setCells_apart (HYS.out i hi) g (a * 6) _ (.inr (.inl (six_below h6 hi)))
       ·exact ((hyt i t ht).stay fun q hq => G8.out.block q hq.2.1 (fun e => hq.2.2 (Option.some.inj e))).mono fun q hq => ⟨.inl hq.1, Nat.lt_of_lt_of_le hq.2.1 G8.out.size⟩
   ·obtain rfl : k = n := by omega
    have j1 : ¬ ((k : Int) < (k : Int)) := by omega
    have HE := Lib.hid (show ddU l k = l by
     have := ddU_all l k (by rw [← HN.out]; exact Nat.le_refl _) HNE.out
     rw [this, HN.out, List.take_length])
    have HLT := Lib.hid HG.out
    go_wp2_with fail
    go_ret
    refine ⟨_, rfl, ?_, ⟨HB.out.os, HB.out.tape, HB.out.output, HB.out.size, fun q hq _ => HB.out.block q hq⟩⟩
    rw [HE.out]
    refine ⟨some ⟨g, 0, none⟩, cap, f, (by rw [HN.out]; rfl), by rw [← HN.out]; exact HCL.out, HCM.out, (fun h => by cases h), fun _ => ⟨g, 0, rfl, ⟨.inr HB0.out, Nat.lt_of_lt_of_le HG.out HB.out.size⟩, fun i hi => ?_⟩, fun i t ht => ?_⟩
    ·rw [Nat.zero_add]
     exact range_below (HR.out i (by rw [HN.out]; exact hi)) HB.out HG.out
    ·exact ((HX.out i t ht).keep HB.out fun q hq => hq.2.1).mono fun q hq => ⟨.inl hq.1, Nat.lt_of_lt_of_le hq.2.1 HB.out.size⟩
end Go.Proofs.YtopnpdobcagcgaaGreat
namespace Go.Proofs
open Go.Shelf
def Tryz.sortT_ren : Go.Shelf.Ren := ⟨fun | 6 => 89 | 15 => 95 | 14 => 94 | 28 => 107 | 29 => 108 | 20 => 99 | 21 => 100 | 22 => 101 | 23 => 102 | 24 => 103 | 25 => 104 | 26 => 105 | 27 => 106 | 46 => 110 | 47 => 111 | 48 => 112 | 49 => 113 | 50 => 114 | 57 => 115 | n => n, fun | 22 => 27 | 24 => 29 | 25 => 80 | 3 => 3 | 39 => 78 | 0 => 0 | 53 => 103 | 55 => 24 | 4 => 4 | 46 => 96 | 45 => 95 | 50 => 100 | 5 => 5 | 9 => 9 | 66 => 106 | 70 => 110 | 76 => 112 | 77 => 113 | n => n, fun | n => n⟩
theorem Tryz.sortT : Go.Proofs.SlLaysF0.n6 Tryz.prog Tryz.sortT_ren := {
 mixed := by kernel_rfl
 f6 := ⟨Tryz.f89.name, by decide, Tryz.func89.trans (congrArg some (by kernel_rfl))⟩
 f14 := ⟨Tryz.f94.name, by decide, Tryz.func94.trans (congrArg some (by kernel_rfl))⟩
 f15 := Tryz.func95.trans (congrArg some (by kernel_rfl))
 f20 := ⟨Tryz.f99.name, by decide, Tryz.func99.trans (congrArg some (by kernel_rfl))⟩
 f21 := ⟨Tryz.f100.name, by decide, Tryz.func100.trans (congrArg some (by kernel_rfl))⟩
 f22 := ⟨Tryz.f101.name, by decide, Tryz.func101.trans (congrArg some (by kernel_rfl))⟩
 f23 := ⟨Tryz.f102.name, by decide, Tryz.func102.trans (congrArg some (by kernel_rfl))⟩
 f24 := ⟨Tryz.f103.name, by decide, Tryz.func103.trans (congrArg some (by kernel_rfl))⟩
 f25 := ⟨Tryz.f104.name, by decide, Tryz.func104.trans (congrArg some (by kernel_rfl))⟩
 f26 := ⟨Tryz.f105.name, by decide, Tryz.func105.trans (congrArg some (by kernel_rfl))⟩
 f27 := ⟨Tryz.f106.name, by decide, Tryz.func106.trans (congrArg some (by kernel_rfl))⟩
 f28 := Tryz.func107.trans (congrArg some (by kernel_rfl))
 f29 := Tryz.func108.trans (congrArg some (by kernel_rfl))
 f46 := ⟨Tryz.f110.name, by decide, Tryz.func110.trans (congrArg some (by kernel_rfl))⟩
 f47 := Tryz.func111.trans (congrArg some (by kernel_rfl))
 f48 := Tryz.func112.trans (congrArg some (by kernel_rfl))
 f49 := ⟨Tryz.f113.name, by decide, Tryz.func113.trans (congrArg some (by kernel_rfl))⟩
 f50 := ⟨Tryz.f114.name, by decide, Tryz.func114.trans (congrArg some (by kernel_rfl))⟩
 f57 := ⟨Tryz.f115.name, by decide, Tryz.func115.trans (congrArg some (by kernel_rfl))⟩
 t0 := Tryz.underlying0
 a0 := Tryz.isAgg0
 z0 := Tryz.sizeOf0
 v0 := Tryz.zeroValue0
 t3 := Tryz.underlying3
 a3 := Tryz.isAgg3
 z3 := Tryz.sizeOf3
 v3 := Tryz.zeroValue3
 t4 := Tryz.underlying4
 a4 := Tryz.isAgg4
 z4 := Tryz.sizeOf4
 v4 := Tryz.zeroValue4
 t5 := Tryz.underlying5
 a5 := Tryz.isAgg5
 z5 := Tryz.sizeOf5
 v5 := Tryz.zeroValue5
 t9 := Tryz.underlying9
 a9 := Tryz.isAgg9
 z9 := Tryz.sizeOf9
 v9 := Tryz.zeroValue9
 t22 := Tryz.underlying27
 a22 := Tryz.isAgg27
 z22 := Tryz.sizeOf27
 v22 := Tryz.zeroValue27
 t25 := Tryz.underlying80
 a25 := Tryz.isAgg80
 z25 := Tryz.sizeOf80
 v25 := Tryz.zeroValue80
 t39 := Tryz.underlying78
 a39 := Tryz.isAgg78
 z39 := Tryz.sizeOf78
 v39 := Tryz.zeroValue78
 t45 := Tryz.underlying95
 a45 := Tryz.isAgg95
 z45 := Tryz.sizeOf95
 v45 := Tryz.zeroValue95
 t46 := Tryz.underlying96
 a46 := Tryz.isAgg96
 z46 := Tryz.sizeOf96
 v46 := Tryz.zeroValue96
 t50 := Tryz.underlying100
 a50 := Tryz.isAgg100
 z50 := Tryz.sizeOf100
 v50 := Tryz.zeroValue100
 t53 := Tryz.underlying103
 a53 := Tryz.isAgg103
 z53 := Tryz.sizeOf103
 v53 := Tryz.zeroValue103
 t55 := Tryz.underlying24
 a55 := Tryz.isAgg24
 z55 := Tryz.sizeOf24
 v55 := Tryz.zeroValue24
 t66 := Tryz.underlying106
 a66 := Tryz.isAgg106
 z66 := Tryz.sizeOf106
 v66 := Tryz.zeroValue106
 t70 := Tryz.underlying110
 a70 := Tryz.isAgg110
 z70 := Tryz.sizeOf110
 v70 := Tryz.zeroValue110
 t76 := Tryz.underlying112
 a76 := Tryz.isAgg112
 z76 := Tryz.sizeOf112
 v76 := Tryz.zeroValue112
 t77 := Tryz.underlying113
 a77 := Tryz.isAgg113
 z77 := Tryz.sizeOf113
 v77 := Tryz.zeroValue113 }
end Go.Proofs
namespace Go.Proofs.YtopnpdobcagcgaaGreat
open Go.RowKit
set_option linter.unusedSimpArgs false
set_option linter.unusedVariables false
section
variable {α : Type} [Inhabited α] (enc : α → List Value) (hk : ∀ x, (enc x).length = 6)
include hk
theorem flatK_list (d : Array α) : (Sort.flatK enc 6 d).toList = (d.toList.map enc).flatten := by
 have h6 : ∀ c ∈ d.toList.map enc, c.length = 6 := fun c hc => by
  obtain ⟨x, _, rfl⟩ := List.mem_map.1 hc
  exact hk x
 have hl := flat6_len h6
 apply List.ext_getElem?
 intro t
 by_cases ht : t < d.size * 6
 ·have hq : t / 6 < d.size := by omega
  have hg := flat6_get (cs := d.toList.map enc) h6 (i := t / 6) (c := enc d[t / 6]) (by simp [hq]) (t % 6) (Nat.mod_lt _ (by omega))
  rw [show t / 6 * 6 + t % 6 = t by omega] at hg
  rw [hg]
  have h2 : t % 6 < (enc d[t / 6]).length := by rw [hk]; exact Nat.mod_lt _ (by omega)
  rw [List.getElem?_eq_getElem h2]
  simp only [Sort.flatK, Array.toList_map, List.getElem?_map, Array.toList_range, List.getElem?_range ht, Option.map_some]
  rw [getElem!_pos d (t / 6) hq, getElem!_pos (enc d[t / 6]) (t % 6) h2]
 ·have h1 : (Sort.flatK enc 6 d).toList.length = d.size * 6 := by simp [Sort.flatK]
  rw [List.getElem?_eq_none (by omega), List.getElem?_eq_none (by rw [hl]; simp; omega)]
end
theorem put_take (F cur : Array Value) (h : F.size ≤ cur.size) : (Sort.putCells id 0 F cur).toList.take F.size = F.toList := by
 apply List.ext_getElem?
 intro i
 by_cases hi : i < F.size
 ·rw [List.getElem?_take, if_pos hi]
  simp only [Sort.putCells, Array.getElem?_toList, Array.getElem?_mapIdx]
  have hic : i < cur.size := by omega
  rw [Array.getElem?_eq_getElem hic, Array.getElem?_eq_getElem hi]
  simp only [Option.map_some, Nat.zero_le, true_and, Nat.zero_add, hi, if_true, id, Nat.sub_zero]
  rw [getElem!_pos F i hi]
 ·rw [List.getElem?_eq_none (by simp; omega), List.getElem?_eq_none (by simp; omega)]
section
variable {α : Type} [Inhabited α] (enc : α → List Value) (w : World) (blk m : Nat) (d : Array α) (os : Array Obj)
theorem sw_block (j : Nat) (hj : j < w.heap.size) (hne : j ≠ blk) : (sortWorldK enc 6 w blk 0 m d os).heap[j]? = w.heap[j]? := by
 show (((Sort.putRowK enc 6 (Sort.ahead w m) blk 0 d)).heap ++ os)[j]? = _
 rw [Array.getElem?_append_left (by simpa [Sort.putRowK, Sort.putRow, Sort.mapBlock, Sort.ahead] using hj)]
 simp only [Sort.putRowK, Sort.putRow, Sort.mapBlock, Sort.ahead, Array.getElem?_modify]
 rw [if_neg (fun h => hne h.symm)]
theorem sw_row {cur : Array Value} {e : TypeId} (h : w.heap[blk]? = some (.cells cur e (0, 0))) : (sortWorldK enc 6 w blk 0 m d os).heap[blk]? = some (.cells (Sort.putCells id 0 (Sort.flatK enc 6 d) cur) e (0, 0)) := by
 have hlt : blk < w.heap.size := (Array.getElem?_eq_some_iff.1 h).1
 show (((Sort.putRowK enc 6 (Sort.ahead w m) blk 0 d)).heap ++ os)[blk]? = _
 rw [Array.getElem?_append_left (by simpa [Sort.putRowK, Sort.putRow, Sort.mapBlock, Sort.ahead] using hlt)]
 simp only [Sort.putRowK, Sort.putRow, Sort.mapBlock, Sort.ahead, Array.getElem?_modify, if_true, h, Option.map_some, Sort.onCells]
theorem sw_size : w.heap.size ≤ (sortWorldK enc 6 w blk 0 m d os).heap.size := size_sortWorldK_c enc 6 w blk 0 m d os
theorem sw_grown : w.grownBy (sortWorldK enc 6 w blk 0 m d os) (some blk) := ⟨rfl, rfl, rfl, sw_size enc w blk m d os, fun k hk hne => sw_block enc w blk m d os k hk (fun h => hne (by rw [h]))⟩
end
theorem swoT {α : Type} (f : α → T) : Sort.SWO (ltOf fun x y => cmpT (f x) (f y)) where
 irrefl p := by simp only [ltOf, cmpT_self]; decide
 trans p q r h k := by
  simp only [ltOf, decide_eq_true_eq] at *
  exact cmpT_trans h (by omega)
 ntrans p q r h k := by
  simp only [ltOf, decide_eq_false_iff_not] at *
  have h1 := cmpT_flip (f p) (f q)
  have h2 := cmpT_flip (f q) (f r)
  have h3 := cmpT_flip (f p) (f r)
  have := cmpT_chain (f r) (f q) (f p) (by omega) (by omega)
  omega
theorem size_of_rx : ∀ w, (Go.sizeOf 29).run Tryz.prog w = .ok 6 w := by
 intro w
 have h : (Tryz.prog.info? 29).map (·.size) = some 6 := by kernel_rfl
 cases hi : Tryz.prog.info? 29 with
 | none => rw [hi] at h; cases h
 | some i =>
  rw [hi] at h
  have h' : i.size = 6 := by simpa using h
  simp [Go.sizeOf, typeInfo, hi, h']
theorem isAgg_rx : ∀ w, (isAgg 29).run Tryz.prog w = .ok true w := Tryz.isAgg29
theorem sortT_any {D : Nat → Prop} (base : Nat) (v : Value) (l : List T) (w : World) (h : OwnT D base w v l) (hl : l.length ≤ 1099511627776) (hM : ∀ t ∈ l, t.nodes ≤ 1099511627776) :
  Calls Tryz.prog 89 #[v, cmpV] w fun e w' =>
   e = .returned (.tuple #[]) ∧ ∃ l', l'.Perm l ∧ l'.Pairwise (fun a b => 0 ≤ cmpT b a) ∧ OwnT D base w' v l' ∧ w.grownBy w' v.ownBlock := by
 obtain ⟨cells, h1, h2, h3, h4⟩ := h
 have h3' := h3
 rcases h3.2 with ⟨rfl, h0⟩ | ⟨g, cap, cur, rfl, hb, hg, hn, hm, hs, ht⟩
 ·refine (AnyF.slices_SortFunc_none Tryz.sortT none 0 cmpV w).mono ?_
  rintro e w' ⟨rfl, rfl⟩
  obtain rfl : l = [] := List.eq_nil_of_length_eq_zero h0
  exact ⟨rfl, [], List.Perm.refl _, List.Pairwise.nil, ⟨cells, h1, h2, h3', h4⟩, World.grownBy.refl _ _⟩
 ·have hlt : g < w.heap.size := (Array.getElem?_eq_some_iff.1 hg).1
  rcases Nat.eq_zero_or_pos l.length with h0 | hpos
  ·obtain rfl : l = [] := List.eq_nil_of_length_eq_zero h0
   refine (AnyF.slices_SortFunc_none Tryz.sortT (some ⟨g, 0, none⟩) cap cmpV w).mono ?_
   rintro e w' ⟨rfl, rfl⟩
   exact ⟨rfl, [], List.Perm.refl _, List.Pairwise.nil, ⟨cells, h1, h2, h3', h4⟩, World.grownBy.refl _ _⟩
  let Pr : List Value × T → Prop := fun p => RxD (fun k => D k ∧ k < w.heap.size ∧ some k ≠ (Value.slice (some ⟨g, 0, none⟩) l.length cap).ownBlock) w p.1 p.2 ∧ p.2.nodes ≤ 1099511627776
  have hel : ∀ i (hi : i < l.length), Pr (cells[i]'(by omega), l[i]) := fun i hi => ⟨h4 i _ _ (List.getElem?_eq_getElem _) (List.getElem?_eq_getElem _), hM _ (List.getElem_mem _)⟩
  let xs : List {p // Pr p} := (List.finRange l.length).map fun i => ⟨(cells[i.1]'(by omega), l[i.1]), hel i.1 i.2⟩
  have hxl : xs.length = l.length := by simp [xs]
  have hxc : xs.map (fun x => x.1.1) = cells := by
   apply List.ext_getElem
   ·simp [xs, h1]
   ·intro i a b
    simp [xs]
  have hxt : xs.map (fun x => x.1.2) = l := by
   apply List.ext_getElem
   ·simp [xs]
   ·intro i a b
    simp [xs]
  haveI : Inhabited {p // Pr p} := ⟨⟨_, hel 0 hpos⟩⟩
  have hk : ∀ x : {p // Pr p}, (x.1.1).length = 6 := fun x => x.2.1.length
  have hfl : (Sort.flatK (fun x : {p // Pr p} => x.1.1) 6 xs.toArray).toList = cells.flatten := by
   rw [flatK_list _ hk, List.toList_toArray, hxc]
  have hH : Sort.HoldsK (fun x : {p // Pr p} => x.1.1) 6 w g 0 xs.toArray := by
   intro j hj
   have hj' : j < l.length * 6 := by simpa [Sort.flatK, hxl] using hj
   refine ⟨?_, by simp [World.frozen?, hg]⟩
   have e1 : (cur.toList.take (l.length * 6))[j]? = (Sort.flatK (fun x : {p // Pr p} => x.1.1) 6 xs.toArray).toList[j]? := by rw [ht, hfl]
   rw [List.getElem?_take, if_pos hj', Array.getElem?_toList, Array.getElem?_toList, Array.getElem?_eq_getElem hj] at e1
   rw [cell_of_row w g (0 + j) cur _ (0, 0) hg, Nat.zero_add, e1, getElem!_pos _ j hj]
   rfl
  have eg : ∀ args w, (callFunc 90 args).run Tryz.prog w = .ok (.enter 90 args) w := enters_of Tryz.func90 (by kernel_rfl) rfl
  have hcmp : CmpLays Tryz.prog 90 #[] (fun x : {p // Pr p} => x.1.1) 6 (fun x y => cmpT x.1.2 y.1.2) g 0 xs.toArray.size w := by
   intro m os dk hsz x y
   have key : ∀ x : {p // Pr p}, RxV (sortWorldK (fun x : {p // Pr p} => x.1.1) 6 w g 0 m dk os).heap.size (sortWorldK (fun x : {p // Pr p} => x.1.1) 6 w g 0 m dk os) x.1.1 x.1.2 := fun x =>
    RxD.mono (x.2.1.stay fun k hk => sw_block _ w g m dk os k hk.2.1 (fun h => hk.2.2 (by rw [h]; rfl))) fun k hk => Nat.lt_of_lt_of_le hk.2.1 (sw_size _ w g m dk os)
   exact rxCompare_gr _ x.1.2 y.1.2 (Nat.le_refl _) x.2.2 x.1.1 y.1.1 _ (key x) (key y)
  have hcon := AnyQ.slices_SortFunc Tryz.sortT 6 isAgg_rx size_of_rx (fun x : {p // Pr p} => x.1.1) hk (fun x => x.2.1.one) (fun x y => cmpT x.1.2 y.1.2) (swoT fun x : {p // Pr p} => x.1.2) 90 #[] g 0 cap xs.toArray w eg hcmp hH hlt (by simp [hxl]; omega)
  have hsz : xs.toArray.size = l.length := by simp [hxl]
  rw [hsz] at hcon
  refine Calls.mono hcon fun e w' hp => ?_
  obtain ⟨he, d', n, os, hperm, hsort, rfl⟩ := hp
  have hs' : d'.size = l.length := by rw [hperm.1, hsz]
  have hpm : d'.toList.Perm xs := by
   have := hperm.2.2
   rw [show d'.extract 0 l.length = d' by rw [← hs']; simp, show xs.toArray.extract 0 l.length = xs.toArray by rw [← hsz]; simp] at this
   simpa using this
  have hl' : (d'.toList.map fun x => x.1.2).length = l.length := by simp [hs']
  refine ⟨he, d'.toList.map (fun x => x.1.2), ?_, ?_, ?_, ?_⟩
  ·have := hpm.map (fun x => x.1.2)
   rwa [hxt] at this
  ·rw [List.pairwise_map, List.pairwise_iff_getElem]
   intro i j hi hj hij
   have hi' : i < d'.size := by simpa using hi
   have hj' : j < d'.size := by simpa using hj
   have := hsort i j (Nat.zero_le _) hij (by omega)
   rw [getElem!_pos d' j hj', getElem!_pos d' i hi'] at this
   simp only [ltOf, decide_eq_false_iff_not] at this
   simpa using Int.not_lt.1 this
  ·have hF : (Sort.flatK (fun x : {p // Pr p} => x.1.1) 6 d').toList = (d'.toList.map fun x => x.1.1).flatten := flatK_list _ hk d'
   have hFs : (Sort.flatK (fun x : {p // Pr p} => x.1.1) 6 d').size = l.length * 6 := by simp [Sort.flatK, hs']
   refine ⟨d'.toList.map fun x => x.1.1, by simp, fun c hc => ?_, ?_, fun i c t hc htt => ?_⟩
   ·obtain ⟨x, _, rfl⟩ := List.mem_map.1 hc
    exact hk x
   ·refine ⟨?_, .inr ⟨g, cap, _, by rw [hl'], hb, sw_row _ w g n d' os hg, by rw [hl']; exact hn, hm, by simp [Sort.putCells, hs], ?_⟩⟩
    ·rw [← hF, hl']
     simpa using hFs
    ·rw [hl', ← hFs, put_take _ _ (by rw [hFs, hs]; exact Nat.mul_le_mul_right 6 hn), hF]
   ·rw [List.getElem?_map] at hc htt
    obtain ⟨x, hx, rfl⟩ := Option.map_eq_some_iff.1 hc
    rw [hx] at htt
    obtain rfl : x.1.2 = t := by simpa using htt
    exact (x.2.1.stay fun k hk => sw_block _ w g n d' os k hk.2.1 (fun h => hk.2.2 (by rw [h]; rfl))).mono fun k hk => ⟨hk.1, Nat.lt_of_lt_of_le hk.2.1 (sw_size _ w g n d' os), hk.2.2⟩
  ·exact sw_grown _ w g n d' os
end Go.Proofs.YtopnpdobcagcgaaGreat
