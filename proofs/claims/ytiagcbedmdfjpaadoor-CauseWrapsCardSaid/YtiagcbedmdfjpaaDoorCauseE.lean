/-
  What package cause's Chain and Code answer and leave. No statement is proved here.
-/
import Derived.Test.YtiagcbedmdfjpaaDoorStruct
import Derived.Test.YtiagcbedmdfjpaaDoorCauseC
import Derived.Test.YtiagcbedmdfjpaaDoorCauseD
namespace Go.Proofs.YtiagcbedmdfjpaaDoor
open Go.RowKit Go.Extern.Stop Go.Stop Go.Extern
set_option linter.unusedSimpArgs false
set_option linter.unusedVariables false

theorem size_told : (Tryd.prog.info? 28).map (·.size) = some 5 := by kernel_rfl

/-- What Chain tells of these kinds, but for the row of answers. -/
def firstOf (l : List Int) : Int := (chn l l.length).headD 0
def placeOf (l : List Int) (a : Int) : Option Int := plc l a l.length
def deepOf (l : List Int) : Nat := (chn l l.length).length

set_option maxHeartbeats 8000000 in
set_option maxRecDepth 1000000 in
/-- cause.Chain. -/
theorem chain_any {W : World} (vk va : Value) (l qs : List Int) (a : Int) (hr : Row W vk (ints l)) (hq : Row W va (ints qs)) (hl : l.length ≤ 1000) (hql : qs.length ≤ 1000) (hw : ∀ k ∈ qs, (Lit.int .i64 k).wf = true) (he : EtAt W) :
    Calls Tryd.prog 9 #[vk, .int .i64 a, va] W fun e w' => ∃ g, W.heap.size ≤ g ∧
      e = .returned (.agg #[.slice (some ⟨g, 0, none⟩) qs.length qs.length, .int .i64 (firstOf l), .int .i64 ((placeOf l a).getD 0), .bool (placeOf l a).isSome, .int .i64 (deepOf l : Int)]) ∧
      Blk w' g 4 (bools (qs.map fun k => decide (k ∈ chn l l.length))) ∧ Below W.heap.size W w' := by
  have HR := Lib.hid hr
  have HQ := Lib.hid hq
  have HW := Lib.hid hw
  have HE := Lib.hid he
  obtain ⟨fv, hfv⟩ : ∃ fv, fv = firstOf l := ⟨_, rfl⟩
  obtain ⟨dv, hdv⟩ : ∃ dv, dv = deepOf l := ⟨_, rfl⟩
  obtain ⟨pa, hpa⟩ : ∃ pa, pa = (placeOf l a).getD 0 := ⟨_, rfl⟩
  obtain ⟨pb, hpb⟩ : ∃ pb, pb = (placeOf l a).isSome := ⟨_, rfl⟩
  rw [← hfv, ← hdv, ← hpa, ← hpb]
  have HPA := Lib.hid hpa
  have HPB := Lib.hid hpb
  clear hpa hpb
  have HF := Lib.hid hfv
  have HD := Lib.hid hdv
  clear hr hq hw he hfv hdv
  go_enter Tryd.func9, Tryd.ntmps9
  go_wp2_with fail
  have b0 : Below W.heap.size W (W.alloc (.cells #[.slice none 0 0, .int .i64 0, .int .i64 0, .bool false, .int .i64 0] 28)) := (Below.refl _ _).alloc (Nat.le_refl _) _
  have k0 : Blk (W.alloc (.cells #[.slice none 0 0, .int .i64 0, .int .i64 0, .bool false, .int .i64 0] 28)) W.heap.size 28 [.slice none 0 0, .int .i64 0, .int .i64 0, .bool false, .int .i64 0] := Blk.new W _ _
  refine (wrap_any vk l a (HR.out.below b0) hl).mono ?_
  rintro e w1 ⟨E, rfl, hC, hb1⟩
  have k1 := k0.below hb1 k0.lt
  replace hb1 := b0.trans (hb1.mono b0.size)
  have HC := Lib.hid hC
  have K1 := Lib.hid k1
  have HB1 := Lib.hid hb1
  have HE1 := Lib.hid (HE.out.stay hb1)
  clear k0 b0 k1 hC hb1
  go_wp2_with fail
  refine (which_any E _ _ HC.out va qs (HQ.out.below HB1.out) hql HW.out).mono ?_
  rintro e w2 ⟨g, hg, rfl, hk2, hb2⟩
  have K2 := Lib.hid hk2
  have J2 := Lib.hid (K1.out.below hb2 K1.out.lt)
  have HC2 := Lib.hid (HC.out.stay hb2)
  have HE2 := Lib.hid (HE1.out.stay hb2)
  have HG := Lib.hid (show W.heap.size < g from Nat.lt_of_lt_of_le K1.out.lt hg)
  have HB2 := Lib.hid (HB1.out.trans (hb2.mono HB1.out.size))
  clear hk2 hb2 hg
  go_wp2_with fail
  refine (outermost_any E _ _ HC2.out).mono ?_
  rintro e w3 ⟨he3, hb3⟩
  rw [show (chn l l.length).headD 0 = fv from HF.out.symm] at he3
  subst he3
  have K3 := Lib.hid (K2.out.below hb3 K2.out.lt)
  have J3 := Lib.hid (J2.out.below hb3 J2.out.lt)
  have HC3 := Lib.hid (HC2.out.stay hb3)
  have HE3 := Lib.hid (HE2.out.stay hb3)
  have HB3 := Lib.hid (HB2.out.trans (hb3.mono HB2.out.size))
  clear hb3
  go_wp2_with fail
  refine (depth_any E _ _ HC3.out (Nat.le_trans (chn_len l l.length) hl)).mono ?_
  rintro e w4 ⟨he4, rfl⟩
  rw [show (chn l l.length).length = dv from HD.out.symm] at he4
  subst he4
  go_wp2_with fail
  have b4 : Below w4.heap.size w4 (w4.alloc (.cells #[.slice (some ⟨g, 0, none⟩) qs.length qs.length, .int .i64 fv, .int .i64 0, .bool false, .int .i64 (dv : Int)] 28)) := (Below.refl _ _).alloc (Nat.le_refl _) _
  have k4 := Blk.new w4 28 [.slice (some ⟨g, 0, none⟩) qs.length qs.length, .int .i64 fv, .int .i64 0, .bool false, .int .i64 (dv : Int)]
  have K5 := Lib.hid (K3.out.below b4 K3.out.lt)
  have J5 := Lib.hid (J3.out.below b4 J3.out.lt)
  have HB5 := Lib.hid (HB3.out.trans (b4.mono HB3.out.size))
  have HLT := Lib.hid J3.out.lt
  have HLG := Lib.hid K3.out.lt
  refine (position_any E _ _ (HC3.out.stay b4) (HE3.out.stay b4)).mono ?_
  rintro e w6 ⟨he6, hb6⟩
  rw [show (plc l a l.length).getD 0 = pa from HPA.out.symm, show (plc l a l.length).isSome = pb from HPB.out.symm] at he6
  subst he6
  have k6 := k4.below hb6 k4.lt
  have K6 := Lib.hid (K5.out.below hb6 K5.out.lt)
  have J6 := Lib.hid (J5.out.below hb6 J5.out.lt)
  have HB6 := Lib.hid (HB5.out.trans (hb6.mono HB5.out.size))
  have H6 := Lib.hid k6
  have c2 := k6.cell 2
  have f2 := k6.frozen 2
  have k7 := k6.set 2 (.int .i64 pa)
  have c3 : (w6.setCell ⟨w4.heap.size, 2, none⟩ (.int .i64 pa)).cell? ⟨w4.heap.size, 3, none⟩ = some (.bool false) := by rw [k7.cell 3]; rfl
  have f3 := k7.frozen 3
  have k8 := k7.set 3 (.bool pb)
  have hne1 : W.heap.size ≠ w4.heap.size := by have := HLT.out; omega
  have hne2 : g ≠ w4.heap.size := by have := HLG.out; omega
  have hne3 : g ≠ W.heap.size := by have := HG.out; omega
  have J8 := Lib.hid ((J6.out.far (p := ⟨w4.heap.size, 2, none⟩) hne1 (.int .i64 pa)).far (p := ⟨w4.heap.size, 3, none⟩) hne1 (.bool pb))
  have K8 := Lib.hid ((K6.out.far (p := ⟨w4.heap.size, 2, none⟩) hne2 (.int .i64 pa)).far (p := ⟨w4.heap.size, 3, none⟩) hne2 (.bool pb))
  have hle : W.heap.size ≤ w4.heap.size := by have := HLT.out; omega
  have HB8 := Lib.hid ((HB6.out.setCell (p := ⟨w4.heap.size, 2, none⟩) hle (.int .i64 pa)).setCell (p := ⟨w4.heap.size, 3, none⟩) hle (.bool pb))
  have H8 := Lib.hid k8
  have HN3 := Lib.hid hne3
  clear b4 k4 hb6 k6 k7 k8 hne1 hne2 hne3 hle
  simp at c2
  go_wp2_with (first
    | ((with_reducible refine atDst 27 ?_); refine wpList_ldBlk rfl 28 _ rfl w4.heap.size rfl 28 _ _ H8.out Tryd.underlying28 rfl size_told ?_)
    | ((with_reducible refine atStore 28 6 27 ?_); refine wpList_stBlk rfl 28 _ _ rfl W.heap.size _ rfl rfl 28 _ J8.out size_told rfl rfl HB8.out (Nat.le_refl _) ?_; intro w9 hk9 hB9 hs9 ho9; have H9 := Lib.hid hk9; have K9 := Lib.hid (K8.out.other _ ho9 HN3.out); have HB9 := Lib.hid hB9; clear hk9 hB9 ho9)
    | go_in)
  refine bodyPost_ret (results_blk rfl _ _ W.heap.size 28 _ _ rfl H9.out Tryd.underlying28 rfl size_told) rfl ?_
  exact ⟨g, by have := HG.out; omega, rfl, K9.out, HB9.out⟩

/-- The code of a reply, and its place. -/
def codeK (l : List Int) : Int := codeOf (chn l l.length)
def codeAt (l : List Int) (a : Int) : Int := if codeK l = 6 then (placeOf l a).getD 0 else 0

set_option maxHeartbeats 8000000 in
set_option maxRecDepth 1000000 in
/-- cause.Code. -/
theorem code_any {W : World} (vk : Value) (l : List Int) (a : Int) (hr : Row W vk (ints l)) (hl : l.length ≤ 1000) (he : EtAt W) (ho : OrdAt W) :
    Calls Tryd.prog 11 #[vk, .int .i64 a] W fun e w' => e = .returned (.tuple #[.int .i64 (codeK l), .int .i64 (codeAt l a)]) ∧ Below W.heap.size W w' := by
  obtain ⟨cv, hcv⟩ : ∃ cv, cv = codeK l := ⟨_, rfl⟩
  obtain ⟨pa, hpa⟩ : ∃ pa, pa = (placeOf l a).getD 0 := ⟨_, rfl⟩
  have hca : codeAt l a = if cv = 6 then pa else 0 := by rw [codeAt, hcv, hpa]
  rw [hca, ← hcv]
  have HCV := Lib.hid hcv
  have HPA := Lib.hid hpa
  have HE := Lib.hid he
  have HO := Lib.hid ho
  clear hcv hpa hca he ho
  by_cases h6 : cv = 6
  case' neg => have e6 : (cv == 6) = false := by simp [h6]
  case' pos => have e6 : (cv == 6) = true := by simp [h6]
  all_goals
    have H6 := Lib.hid h6
    clear h6
    go_enter Tryd.func11, Tryd.ntmps11
    go_wp2_with fail
    refine (wrap_any vk l a hr hl).mono ?_
    rintro e w1 ⟨E, rfl, hC, hb1⟩
    have HC := Lib.hid hC
    have HB1 := Lib.hid hb1
    clear hC hb1
    go_wp2_with fail
    refine (weightiest_any E _ _ HC.out (HO.out.stay HB1.out)).mono ?_
    rintro e w2 ⟨he2, hb2⟩
    rw [show codeOf (chn l l.length) = cv from HCV.out.symm] at he2
    subst he2
    have HC2 := Lib.hid (HC.out.stay hb2)
    have HB2 := Lib.hid (HB1.out.trans (hb2.mono HB1.out.size))
    clear hb2
    go_wp2_with fail
  · refine (position_any E _ _ HC2.out (HE.out.stay HB2.out)).mono ?_
    rintro e w3 ⟨he3, hb3⟩
    rw [show (plc l a l.length).getD 0 = pa from HPA.out.symm] at he3
    subst he3
    go_wp2_with fail
    go_ret2
    exact ⟨by simp [H6.out], HB2.out.trans (hb3.mono HB2.out.size)⟩
  · go_ret2
    exact ⟨by simp [H6.out], HB2.out⟩
end Go.Proofs.YtiagcbedmdfjpaaDoor
