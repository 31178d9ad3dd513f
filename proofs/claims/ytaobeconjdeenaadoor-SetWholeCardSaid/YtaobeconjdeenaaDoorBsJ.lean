/-
  What package byteset (Parts) answers and leaves. No statement is proved here.
-/
import Derived.Test.YtaobeconjdeenaaDoorBsI
import Derived.Test.YtaobeconjdeenaaDoorBsM
import Derived.Test.YtaobeconjdeenaaDoorBsS
namespace Go.Proofs.YtaobeconjdeenaaDoor
open Go.RowKit
set_option linter.unusedSimpArgs false
set_option linter.unusedVariables false

theorem own4Mono {w : World} {base base' n k : Nat} {e : TypeId} {v : Value} {xs : List Value} (h : w.ownsRow base e k v n xs) (hb : base' ≤ base) : w.ownsRow base' e k v n xs := by
  refine ⟨h.1, ?_⟩
  rcases h.2 with h0 | ⟨g, cap, cur, rfl, hb2, h3⟩
  · exact .inl h0
  · exact .inr ⟨g, cap, cur, rfl, Nat.le_trans hb hb2, h3⟩
theorem own4_blk {w : World} {g base : Nat} {e : TypeId} {q : Nat → Bool} (h : Blk w g e (sets [q])) (hb : base ≤ g) : w.ownsRow base e 4 (.slice (some ⟨g, 0, none⟩) 1 1) [q].length (sets [q]) :=
  ⟨by simp [sets_length], .inr ⟨g, 1, (sets [q]).toArray, rfl, hb, h, Nat.le_refl _, by unfold maxLen; omega, by simp [sets_length], by simp [sets, wds]⟩⟩
theorem rowS_norm {w : World} {v : Value} {qs rs : List (Nat → Bool)} (h : RowS w v qs) (he : qs.map norm = rs.map norm) : RowS w v rs := by
  have hl : qs.length = rs.length := by have := congrArg List.length he; simpa using this
  obtain ⟨A, cap, hv, h1, h2, h0, h3⟩ := h
  refine ⟨A, cap, by rw [← hl]; exact hv, by rw [← hl]; exact h1, h2, h0, fun hne => ?_⟩
  obtain ⟨b, off, hA, hlt, hc⟩ := h3 (by rintro rfl; rw [List.length_nil] at hl; exact hne (List.eq_nil_of_length_eq_zero hl.symm))
  refine ⟨b, off, hA, hlt, fun i p hp => ?_⟩
  have hi : i < rs.length := (List.getElem?_eq_some_iff.1 hp).1
  have h4 := hc i qs[i] (List.getElem?_eq_getElem (by omega))
  have e1 : (qs.map norm)[i]? = (rs.map norm)[i]? := by rw [he]
  rw [List.getElem?_map, List.getElem?_map, hp, List.getElem?_eq_getElem (by omega)] at e1
  have e2 : norm qs[i] = norm p := by simpa using e1
  rw [← wds_norm p, ← e2, wds_norm]
  exact h4
set_option maxHeartbeats 8000000 in
set_option maxRecDepth 100000 in
theorem bsParts_any (v : Value) (ps : List (Nat → Bool)) (w : World) (hr : RowS w v ps) (hl : ps.length ≤ 2000) :
    Calls Tryd.prog 28 #[v] w fun e w' => ∃ v', e = .returned v' ∧ RowS w' v' (parts ps) ∧ Below w.heap.size w w' := by
  have R0 := Lib.hid hr
  obtain ⟨A, cap, rfl, a1, a2, a0, a3⟩ := hr
  clear a3 a0 a2
  obtain ⟨i0, hi0, hz0⟩ := info_set
  obtain ⟨i1, hi1, hy0, hy1, hy2⟩ := infoP inf_set
  obtain ⟨z, hz⟩ : ∃ z : Nat → Bool, z = fun _ => false := ⟨_, rfl⟩
  rw [← hz] at hz0
  have HZB := Lib.hid (show Tryd.prog.built 24 [] = some (wds z).toArray by rw [hz]; exact zeroB)
  obtain ⟨u, hu⟩ : ∃ u : Nat → Bool, u = fun b => !z b := ⟨_, rfl⟩
  have HCU := Lib.hid (show curS [] = [u] by rw [hu, hz]; rfl)
  have HU := Lib.hid hu
  clear hz hu
  go_enter Tryd.func28, Tryd.ntmps28
  go_wp2_with ((with_reducible refine atDst 6 ?_); refine wpList_bld rfl 24 #[] rfl (wds z) HZB.out ?_)
  refine (bsNot_any z w).mono ?_
  rintro e w1 ⟨rfl, hb1⟩
  rw [← HU.out]
  have B1 := Lib.hid hb1
  clear hb1
  go_wp2_with ((with_reducible refine atDst 8 ?_); refine wpList_bldSet1 rfl 36 24 (.tmp 7) rfl i1 Tryd.underlying36 hi1 hy0 hy1 u rfl ?_; intro w2 hk2 hb2; have O2 := Lib.hid (show w2.ownsRow w.heap.size 24 4 _ _ _ from own4_blk hk2 B1.out.size); have B2 := Lib.hid (B1.out.trans (hb2.mono B1.out.size)); clear hk2 hb2)
  go_loopw [3, 11] (fun v i wl => ∃ j : Nat, j ≤ ps.length ∧ i = .int .i64 (j : Int) ∧ wl.ownsRow w.heap.size 24 4 v (curS (ps.take j)).length (sets (curS (ps.take j))) ∧ Below w.heap.size w wl) (fun _ i _ => ps.length - (intOf i).toNat)
  case atStart => exact ⟨0, by omega, by simp, by rw [List.take_zero, HCU.out]; exact O2.out, B2.out⟩
  case round =>
    obtain ⟨j, hj, rfl, ho, hb⟩ := hrel
    have HO := Lib.hid ho
    have HB := Lib.hid hb
    clear ho hb
    by_cases hjl : j < ps.length
    · have j1 : (j : Int) < (ps.length : Int) := by omega
      obtain ⟨b0, off, rfl, hb0, hrng⟩ := (R0.out.below HB.out).at_ (by omega)
      obtain ⟨p, hp⟩ : ∃ p, p = ps[j] := ⟨_, rfl⟩
      have HRG := Lib.hid (hrng j p (by rw [hp]; exact List.getElem?_eq_getElem hjl))
      have HNX := Lib.hid (show curS (ps.take (j + 1)) = splitS (curS (ps.take j)) p by rw [List.take_succ_eq_append_getElem hjl, curS_more, hp])
      have HCL := Lib.hid (curS_le (ps.take j))
      obtain ⟨cur, hcur⟩ : ∃ cur, cur = curS (ps.take j) := ⟨_, rfl⟩
      rw [← hcur] at HO HNX HCL
      clear hp hrng hcur
      go_wp2_with (first
        | ((with_reducible refine atDst 14 ?_); refine wpList_ldMid rfl 24 _ rfl b0 (off + j * 4) rfl (wds p) _ HRG.out Tryd.underlying24 rfl (size_set p) ?_)
        | ((with_reducible refine atDst 5 ?_); refine wpList_new rfl 24 rfl i0 _ (wds z) hi0 hz0 rfl (Below.refl wr.heap.size wr) (Nat.le_refl _) ?_; intro w3 hk3 hb3 hs3 ho3; have K3 := Lib.hid hk3; have B3 := Lib.hid hb3; clear hk3 hb3 hs3 ho3)
        | ((with_reducible refine atStore 24 5 14 ?_); refine wpList_stBlk rfl 24 _ _ rfl wr.heap.size (wds p) rfl rfl 24 _ K3.out (size_set p) rfl (wds_all _) B3.out (Nat.le_refl _) ?_; intro w4 hk4 hb4 hs4 _; have K4 := Lib.hid hk4; have B4 := Lib.hid hb4; have BB4 := Lib.hid (HB.out.trans (hb4.mono HB.out.size)); have O4 := Lib.hid (own4Below HO.out hb4 (Nat.le_refl _)); clear hk4 hb4 hs4)
        | ((with_reducible refine atDst 16 ?_); refine wpList_ldArr rfl 24 _ rfl wr.heap.size rfl 24 _ _ K4.out Tryd.underlying24 rfl (size_set p) ?_))
      refine (bsSplit_any _ cur p w4 (own4_row O4.out) HCL.out).mono ?_
      rintro e w5 ⟨v5, rfl, ho5, hb5⟩
      have O5 := Lib.hid (own4Mono ho5 BB4.out.size)
      have B5 := Lib.hid (BB4.out.trans (hb5.mono BB4.out.size))
      clear ho5 hb5
      go_wp2_with fail
      refine ⟨⟨j + 1, by omega, by congr 1, ?_, B5.out⟩, by simp [intOf] <;> omega⟩
      rw [HNX.out]
      exact O5.out
    · obtain rfl : j = ps.length := by omega
      have j1 : ¬ ((ps.length : Int) < (ps.length : Int)) := by omega
      have o9 := HO.out
      rw [List.take_length] at o9
      have O9 := Lib.hid o9
      clear o9 HO
      go_wp2_with fail
      refine (sort_any w.heap.size _ (curS ps) wr O9.out (curS_pos ps) (Nat.le_trans (curS_le ps) (by omega))).mono ?_
      rintro e w6 ⟨rfl, qs, hperm, hpw, hrow, hb6⟩
      have R6 := Lib.hid (rowS_norm hrow (sorted_parts (cut_cur ps) hperm hpw))
      have B6 := Lib.hid (HB.out.trans hb6)
      clear hperm hpw hrow hb6
      go_wp2_with fail
      go_ret
      exact ⟨_, rfl, R6.out, B6.out⟩
end Go.Proofs.YtaobeconjdeenaaDoor
