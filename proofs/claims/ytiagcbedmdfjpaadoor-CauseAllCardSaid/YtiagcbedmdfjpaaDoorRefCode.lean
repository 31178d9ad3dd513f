/-
  What the reference's Code answers and leaves. No statement is proved here.
-/
import Derived.Test.YtiagcbedmdfjpaaDoorRefChain
namespace Go.Proofs.YtiagcbedmdfjpaaDoor
open Go.RowKit Go.Extern.Stop Go.Stop Go.Extern
set_option linter.unusedSimpArgs false
set_option linter.unusedVariables false

/-- The code as the reference finds it: from the order's end on. -/
def codeR (l : List Int) (c : Int) : Nat → Int
  | 0 => c
  | n + 1 => codeR l (if ord.getD n 0 ∈ l then ord.getD n 0 else c) n
theorem codeR_eq (l : List Int) (c : Int) (n : Nat) (hn : n ≤ 10) : codeR l c n = ((ord.take n).find? fun k => decide (k ∈ l)).getD c := by
  induction n generalizing c with
  | zero => simp [codeR]
  | succ n ih =>
    rw [codeR, ih _ (by omega), List.take_succ_eq_append_getElem (show n < ord.length from hn), List.find?_append]
    have e : ord.getD n 0 = ord[n]'(show n < ord.length from hn) := by simp [List.getD, show n < ord.length from hn]
    rw [e]
    cases (ord.take n).find? fun k => decide (k ∈ l) with
    | some x => simp
    | none =>
      by_cases h : ord[n]'(show n < ord.length from hn) ∈ l
      · simp [h]
      · simp [h]
theorem codeR_all (l : List Int) : codeR (chn l l.length) (firstOf l) 10 = codeK l := by
  rw [codeR_eq _ _ 10 (by omega)]
  rfl

set_option maxHeartbeats 8000000 in
set_option maxRecDepth 1000000 in
theorem refCode_any {W : World} (vk : Value) (l : List Int) (a : Int) (hr : Row W vk (ints l)) (hl : l.length ≤ 1000) :
    Calls Tryd.prog 12 #[vk, .int .i64 a] W fun e w' => e = .returned (.tuple #[.int .i64 (codeK l), .int .i64 (codeAt l a)]) ∧ Below W.heap.size W w' := by
  have HR := Lib.hid hr
  clear hr
  obtain ⟨cv, hcv⟩ : ∃ cv, cv = codeK l := ⟨_, rfl⟩
  obtain ⟨pa, hpa⟩ : ∃ pa, pa = (placeOf l a).getD 0 := ⟨_, rfl⟩
  obtain ⟨pb, hpb⟩ : ∃ pb, pb = (placeOf l a).isSome := ⟨_, rfl⟩
  obtain ⟨fv, hfv⟩ : ∃ fv, fv = firstOf l := ⟨_, rfl⟩
  obtain ⟨dv, hdv⟩ : ∃ dv, dv = deepOf l := ⟨_, rfl⟩
  have hca : codeAt l a = if cv = 6 then pa else 0 := by rw [codeAt, hcv, hpa]
  rw [hca, ← hcv]
  have HCV := Lib.hid hcv
  have HPA := Lib.hid hpa
  have HPB := Lib.hid hpb
  have HFV := Lib.hid hfv
  have HDV := Lib.hid hdv
  clear hcv hpa hpb hfv hdv hca
  go_enter Tryd.func12, Tryd.ntmps12
  go_wp2_with fail
  have ko := Blk.new W 26 (ints ord)
  have bo : Below W.heap.size W (W.alloc (.cells (ints ord).toArray 26)) := (Below.refl _ _).alloc (Nat.le_refl _) _
  refine (refChain_any vk _ l ord a (HR.out.below bo) (row_blk (n := 10) ko rfl (by omega)) hl (by decide)).mono ?_
  rintro e w2 ⟨vis, he2, hr2, hb2⟩
  rw [← HPA.out, ← HPB.out, ← HFV.out, ← HDV.out] at he2
  subst he2
  have KO := Lib.hid (show Blk w2 W.heap.size 26 (ints ord) from ko.below hb2 ko.lt)
  have R2 := Lib.hid hr2
  have HB2 := Lib.hid (bo.trans (hb2.mono bo.size))
  obtain ⟨A8, c8, hv8, _, _, _, _⟩ := hr2
  rw [bools_length, List.length_map] at hv8
  replace hv8 : vis = .slice A8 10 c8 := hv8
  subst hv8
  clear ko bo hb2
  go_wp2_with fail
  obtain ⟨w3, hw3⟩ : ∃ w3, w3 = w2.alloc (.cells #[.slice A8 10 c8, .int .i64 fv, .int .i64 pa, .bool pb, .int .i64 (dv : Int)] 30) := ⟨_, rfl⟩
  have b3 : Below w2.heap.size w2 w3 := by rw [hw3]; exact (Below.refl _ _).alloc (Nat.le_refl _) _
  have TD := Lib.hid (show Blk w3 w2.heap.size 30 [.slice A8 10 c8, .int .i64 fv, .int .i64 pa, .bool pb, .int .i64 (dv : Int)] by rw [hw3]; exact Blk.new w2 30 [.slice A8 10 c8, .int .i64 fv, .int .i64 pa, .bool pb, .int .i64 (dv : Int)])
  have KO3 := Lib.hid (KO.out.below b3 KO.out.lt)
  have R3 := Lib.hid (R2.out.below b3)
  have HB3 := Lib.hid (HB2.out.trans (b3.mono HB2.out.size))
  have HW3 := Lib.hid hw3
  have HFIN := Lib.hid (show codeR (chn l l.length) fv 10 = cv by rw [HFV.out, HCV.out]; exact codeR_all l)
  clear hw3 b3
  go_loopw [8, 9] (fun c i wl => ∃ (n : Nat) (cc : Int), n ≤ 10 ∧ i = .int .i64 ((n : Int) - 1) ∧ c = .int .i64 cc ∧ codeR (chn l l.length) cc n = cv ∧ wl = w3) (fun _ i _ => (intOf i + 1).toNat)
  case atStart => exact ⟨10, fv, by omega, by simp, rfl, HFIN.out, HW3.out.symm⟩
  case round =>
    obtain ⟨n, cc, hn, rfl, rfl, hcr, rfl⟩ := hrel
    have HCR := Lib.hid hcr
    clear hcr
    by_cases hn0 : 0 < n
    · obtain ⟨o, hno⟩ : ∃ o, n = o + 1 := ⟨n - 1, by omega⟩
      subst hno
      have hio : ((o + 1 : Nat) : Int) - 1 = (o : Int) := by omega
      rw [hio]
      obtain ⟨b8, o8, hA, hb8, hcell⟩ := R3.out.at_ (by rw [bools_length, List.length_map]; decide)
      subst hA
      obtain ⟨ko, hko⟩ : ∃ k, k = ord.getD o 0 := ⟨_, rfl⟩
      have hgo : ord[o]'(show o < ord.length from (by have : ord.length = 10 := rfl; omega)) = ko := by rw [hko]; simp [List.getD, show o < ord.length from (by have : ord.length = 10 := rfl; omega)]
      obtain ⟨bb, hbb⟩ : ∃ bb, bb = decide (ko ∈ chn l l.length) := ⟨_, rfl⟩
      have c8' := hcell o (.bool bb) (by
        rw [bools_get _ _ (by rw [List.length_map]; have : ord.length = 10 := rfl; omega), List.getElem_map, hgo, hbb])
      have cko := KO3.out.cell o
      rw [nums_get _ ord o (by have : ord.length = 10 := rfl; omega), hgo] at cko
      have ct := TD.out.cell 0
      simp only [List.getElem?_cons_zero] at ct
      have i1 : (o : Int) < 10 := by omega
      have hst : codeR (chn l l.length) (if bb = true then ko else cc) o = cv := by
        have := HCR.out
        rw [codeR, ← hko] at this
        rw [← this, hbb]
        simp
      have HST := Lib.hid hst
      clear hcell hb8 hko hgo hbb hst hio
      cases bb with
      | true =>
        go_wp2_with fail
        exact ⟨⟨o, ko, by omega, by congr 1, rfl, by simpa using HST.out, trivial⟩, by simp [intOf] <;> omega⟩
      | false =>
        go_wp2_with fail
        exact ⟨⟨o, cc, by omega, by congr 1, rfl, by simpa using HST.out, trivial⟩, by simp [intOf] <;> omega⟩
    · obtain rfl : n = 0 := by omega
      have hcc : cc = cv := HCR.out
      subst hcc
      have ct := TD.out.cell 2
      simp only [List.getElem?_cons_zero, List.getElem?_cons_succ] at ct
      have hm1 : ((0 : Nat) : Int) - 1 = -1 := by omega
      rw [hm1]
      by_cases h6 : cc = 6
      case' neg => have e6 : (cc == 6) = false := by simp [h6]
      case' pos => have e6 : (cc == 6) = true := by simp [h6]
      all_goals
        have H6 := Lib.hid h6
        clear h6
        go_wp2_with fail
      · go_quiet (fail)
        go_wp2_with fail
        go_ret2
        exact ⟨by simp [H6.out], below_drewN HB3.out _⟩
      · go_ret2
        exact ⟨by simp [H6.out], HB3.out⟩
end Go.Proofs.YtiagcbedmdfjpaaDoor
