/-
  The walk of the statement CauseAll: the Go text returns true and turns nothing that was there. Conditions: the slices read as kinds; the two variables of the packages' own hold what the program lays.
-/
import Derived.Test.YtiagcbedmdfjpaaDoorRefCode
namespace Go.Proofs.YtiagcbedmdfjpaaDoor
open Go.RowKit Go.Extern.Stop Go.Stop Go.Extern
set_option linter.unusedSimpArgs false
set_option linter.unusedVariables false

set_option maxHeartbeats 8000000 in
set_option maxRecDepth 1000000 in
theorem all_walk {W : World} (vk va : Value) (l qs : List Int) (a : Int) (hr : Row W vk (ints l)) (hq : Row W va (ints qs)) (hwq : ∀ k ∈ qs, (Lit.int .i64 k).wf = true) (he : EtAt W) (ho : OrdAt W) :
    Calls Tryd.prog 3 #[vk, .int .i64 a, va] W fun e w' => e = .returned (.bool true) ∧ Below W.heap.size W w' := by
  have HR := Lib.hid hr
  have HQ := Lib.hid hq
  have HE := Lib.hid he
  have HO := Lib.hid ho
  have HWQ := Lib.hid hwq
  clear hr hq he ho hwq
  go_enter Tryd.func3, Tryd.ntmps3
  go_wp2_with fail
  refine (begun_any HE.out HO.out).mono ?_
  rintro e w1 ⟨rfl, hb1⟩
  have HB1 := Lib.hid hb1
  clear hb1
  go_wp2_with fail
  refine (kinds_any _ l (HR.out.below HB1.out)).mono ?_
  rintro e w1 ⟨he, rfl⟩
  cases hok : okK l with
  | false =>
    rw [hok] at he
    subst he
    go_wp2_with fail
    go_ret
    exact ⟨rfl, HB1.out⟩
  | true =>
  rw [hok] at he
  subst he
  go_wp2_with fail
  refine (kinds_any _ qs (HQ.out.below HB1.out)).mono ?_
  rintro e w1 ⟨he, rfl⟩
  cases hok2 : okK qs with
  | false =>
    rw [hok2] at he
    subst he
    go_wp2_with fail
    go_ret
    exact ⟨rfl, HB1.out⟩
  | true =>
  rw [hok2] at he
  subst he
  have hl40 := (okK_all hok).1
  have hq40 := (okK_all hok2).1
  clear hok hok2
  obtain ⟨fv, hfv⟩ : ∃ fv, fv = firstOf l := ⟨_, rfl⟩
  obtain ⟨dv, hdv⟩ : ∃ dv, dv = deepOf l := ⟨_, rfl⟩
  obtain ⟨pa, hpa⟩ : ∃ pa, pa = (placeOf l a).getD 0 := ⟨_, rfl⟩
  obtain ⟨pb, hpb⟩ : ∃ pb, pb = (placeOf l a).isSome := ⟨_, rfl⟩
  obtain ⟨cv, hcv⟩ : ∃ cv, cv = codeK l := ⟨_, rfl⟩
  obtain ⟨cx, hcx⟩ : ∃ cx, cx = codeAt l a := ⟨_, rfl⟩
  obtain ⟨bs, hbs⟩ : ∃ bs, bs = qs.map fun k => decide (k ∈ chn l l.length) := ⟨_, rfl⟩
  have hbl : bs.length = qs.length := by rw [hbs, List.length_map]
  obtain ⟨m, hm⟩ : ∃ m, m = qs.length := ⟨_, rfl⟩
  have HFV := Lib.hid hfv
  have HDV := Lib.hid hdv
  have HPA := Lib.hid hpa
  have HPB := Lib.hid hpb
  have HCV := Lib.hid hcv
  have HCX := Lib.hid hcx
  have HBS := Lib.hid hbs
  have HM := Lib.hid hm
  have HBL := Lib.hid (hbl.trans hm.symm)
  clear hfv hdv hpa hpb hcv hcx hbs hbl hm
  go_wp2_with fail
  refine (chain_any _ _ l qs a (HR.out.below HB1.out) (HQ.out.below HB1.out) (by omega) (by omega) HWQ.out (HE.out.stay HB1.out)).mono ?_
  rintro e w2 ⟨g, _, he2, hk2, hb2⟩
  rw [← HFV.out, ← HPA.out, ← HPB.out, ← HDV.out, ← HM.out] at he2
  rw [← HBS.out] at hk2
  subst he2
  have HB2 := Lib.hid (HB1.out.trans (hb2.mono HB1.out.size))
  have K2 := Lib.hid hk2
  clear hk2 hb2
  go_wp2_with fail
  refine (refChain_any _ _ l qs a (HR.out.below HB2.out) (HQ.out.below HB2.out) (by omega) (by omega)).mono ?_
  rintro e w3 ⟨vis, he3, hr3, hb3⟩
  rw [← HFV.out, ← HPA.out, ← HPB.out, ← HDV.out] at he3
  rw [← HBS.out] at hr3
  subst he3
  have HB3 := Lib.hid (HB2.out.trans (hb3.mono HB2.out.size))
  have K3 := Lib.hid (K2.out.below hb3 K2.out.lt)
  have R3 := Lib.hid hr3
  obtain ⟨A8, c8, hv8, _, _, _, _⟩ := hr3
  rw [bools_length, HBL.out] at hv8
  subst hv8
  clear hb3
  go_wp2_with fail
  have s4 : (w3.alloc (.cells #[.slice (some ⟨g, 0, none⟩) m m, .int .i64 fv, .int .i64 pa, .bool pb, .int .i64 (dv : Int)] 28)).heap.size = w3.heap.size + 1 := by simp
  have t1 := (Blk.new w3 28 [.slice (some ⟨g, 0, none⟩) m m, .int .i64 fv, .int .i64 pa, .bool pb, .int .i64 (dv : Int)]).alloc (.cells #[.slice A8 m c8, .int .i64 fv, .int .i64 pa, .bool pb, .int .i64 (dv : Int)] 30)
  have t2 := Blk.new (w3.alloc (.cells #[.slice (some ⟨g, 0, none⟩) m m, .int .i64 fv, .int .i64 pa, .bool pb, .int .i64 (dv : Int)] 28)) 30 [.slice A8 m c8, .int .i64 fv, .int .i64 pa, .bool pb, .int .i64 (dv : Int)]
  rw [s4] at t2
  have b4 : Below w3.heap.size w3 ((w3.alloc (.cells #[.slice (some ⟨g, 0, none⟩) m m, .int .i64 fv, .int .i64 pa, .bool pb, .int .i64 (dv : Int)] 28)).alloc (.cells #[.slice A8 m c8, .int .i64 fv, .int .i64 pa, .bool pb, .int .i64 (dv : Int)] 30)) := ((Below.refl _ _).alloc (Nat.le_refl _) _).alloc (by simp) _
  have K4 := Lib.hid (K3.out.below b4 K3.out.lt)
  have R4 := Lib.hid (R3.out.below b4)
  have HB4 := Lib.hid (HB3.out.trans (b4.mono HB3.out.size))
  have T1 := Lib.hid t1
  have T2 := Lib.hid t2
  clear s4 t1 t2 b4
  refine (code_any _ l a (HR.out.below HB4.out) (by omega) (HE.out.stay HB4.out) (HO.out.stay HB4.out)).mono ?_
  rintro e w5 ⟨he5, hb5⟩
  rw [← HCV.out, ← HCX.out] at he5
  subst he5
  have HB5 := Lib.hid (HB4.out.trans (hb5.mono HB4.out.size))
  have K5 := Lib.hid (K4.out.below hb5 K4.out.lt)
  have R5 := Lib.hid (R4.out.below hb5)
  have T15 := Lib.hid (T1.out.below hb5 T1.out.lt)
  have T25 := Lib.hid (T2.out.below hb5 T2.out.lt)
  clear hb5
  go_wp2_with fail
  refine (refCode_any _ l a (HR.out.below HB5.out) (by omega)).mono ?_
  rintro e w6 ⟨he6, hb6⟩
  rw [← HCV.out, ← HCX.out] at he6
  subst he6
  have HB6 := Lib.hid (HB5.out.trans (hb6.mono HB5.out.size))
  have K6 := Lib.hid (K5.out.below hb6 K5.out.lt)
  have R6 := Lib.hid (R5.out.below hb6)
  have T16 := T15.out.below hb6 T15.out.lt
  have T26 := T25.out.below hb6 T25.out.lt
  clear hb6
  have TT1 := Lib.hid T16
  have TT2 := Lib.hid T26
  have c10 := T16.cell 0
  have c11 := T16.cell 1
  have c12 := T16.cell 2
  have c13 := T16.cell 3
  have c14 := T16.cell 4
  have c20 := T26.cell 0
  have c21 := T26.cell 1
  have c22 := T26.cell 2
  have c23 := T26.cell 3
  have c24 := T26.cell 4
  simp only [List.getElem?_cons_zero, List.getElem?_cons_succ] at c10 c11 c12 c13 c14 c20 c21 c22 c23 c24
  clear T16 T26
  go_wp2_with fail
  clear c10 c11 c12 c13 c14 c20 c21 c22 c23 c24
  have hm40 : m ≤ 40 := by rw [HM.out]; exact hq40
  go_loopw [13] (fun i wl => ∃ j : Nat, j ≤ m ∧ i = .int .i64 (j : Int) ∧ Below w6.heap.size w6 wl) (fun i _ => m - (intOf i).toNat)
  case atStart => exact ⟨0, by omega, by simp, Below.refl _ _⟩
  case round =>
    obtain ⟨j, hj, rfl, hbr⟩ := hrel
    have HBR := Lib.hid hbr
    have KR := K6.out.below hbr K6.out.lt
    have RR := R6.out.below hbr
    have T17 := TT1.out.below hbr TT1.out.lt
    have T27 := TT2.out.below hbr TT2.out.lt
    have c10 := T17.cell 0
    have c20 := T27.cell 0
    simp only [List.getElem?_cons_zero] at c10 c20
    clear hbr T17 T27
    by_cases hjm : j < m
    · have i1 : (j : Int) < (m : Int) := by omega
      obtain ⟨b8, o8, hA, hb8, hcell⟩ := RR.at_ (by rw [bools_length, HBL.out]; omega)
      subst hA
      obtain ⟨bb, hbb⟩ : ∃ bb, bb = bs[j]'(by rw [HBL.out]; exact hjm) := ⟨_, rfl⟩
      have d2 := hcell j (.bool bb) (by rw [bools_get _ _ (by rw [HBL.out]; exact hjm), hbb])
      have d1 := KR.cell j
      rw [bools_get _ _ (by rw [HBL.out]; exact hjm), ← hbb] at d1
      clear hcell hb8 hbb RR KR
      cases bb with
      | true =>
        go_wp2_with fail
        go_quiet (fail)
        go_wp2_with fail
        exact ⟨⟨j + 1, by omega, by congr 1, below_drewN HBR.out _⟩, by simp [intOf] <;> omega⟩
      | false =>
        go_wp2_with fail
        go_quiet (fail)
        go_wp2_with fail
        exact ⟨⟨j + 1, by omega, by congr 1, below_drewN HBR.out _⟩, by simp [intOf] <;> omega⟩
    · obtain rfl : j = m := by omega
      have i1 : ¬ ((j : Int) < (j : Int)) := by omega
      clear RR KR
      go_wp2_with fail
      go_ret
      exact ⟨by simp, HB6.out.trans (HBR.out.mono HB6.out.size)⟩
end Go.Proofs.YtiagcbedmdfjpaaDoor
