/-
  How an argument of an array's type reads, in the words of the walks. No conditions.
-/
import Derived.Test.YtfhhojhflpokaaaOpen
import Derived.Test.YtfhhojhflpokaaaRow
namespace Go.Proofs.Ytfhhojhflpokaaa
open Go.ChangeShapes Go.WideShapes Go.ChangeAt Go.RowKit
set_option linter.unusedVariables false

section
variable {H : Type} {enc : TypeId × Value → H} {P : Program} {W : World} {base : Nat} {spare : Nat → Bool} {held : Bool}
theorem list_of_all {k : IntKind} : ∀ {cs : List Value}, (∀ (i : Nat) (h : i < cs.length), ∃ n, cs[i] = .int k n ∧ (Lit.int k n).wf = true) → ∃ l : List Int, cs = nums k l ∧ ∀ n ∈ l, (Lit.int k n).wf = true
  | [], _ => ⟨[], rfl, by simp⟩
  | c :: r, h => by
    obtain ⟨n, hn, hw⟩ := h 0 (by simp)
    obtain ⟨l, hl, hlw⟩ := list_of_all (cs := r) (fun i hi => by
      obtain ⟨m, hm, hmw⟩ := h (i + 1) (by simp; omega)
      exact ⟨m, by rw [← hm, List.getElem_cons_succ], hmw⟩)
    refine ⟨n :: l, ?_, ?_⟩
    · rw [hl]
      have hn' : c = .int k n := by simpa using hn
      rw [hn']
      rfl
    · intro m hm
      rcases List.mem_cons.1 hm with rfl | hm
      · exact hw
      · exact hlw m hm
/-- An array of numbers. -/
theorem open_arr {r : Reach} {b0 : Nat} {t e : TypeId} {n : Nat} {k : IntKind} {v : Value} {d : DataW H} {p : List MemPlace} (ht : P.underlying t = some (.array n e)) (he : P.underlying e = some (.int k)) (hc : P.cellsOf e = 1) (hct : P.cellsOf t = n)
    (hval : Value.okWide P W r b0 t v) (h : DataW.Trod enc P W base spare held t v d p) : ∃ l : List Int, l.length = n ∧ v = .agg (nums k l).toArray ∧ ∀ x ∈ l, (Lit.int k x).wf = true := by
  have h0 : ∃ cs : Array Value, v = .agg cs ∧ cs.size = P.cellsOf t := by
    simp only [Value.okWide, ht] at hval
    obtain ⟨cs, h1, h2, _⟩ := hval
    exact ⟨cs, h1, h2⟩
  obtain ⟨cs, rfl, hsz⟩ := h0
  obtain ⟨fuel, hf⟩ := h
  obtain ⟨xs, m, rfl, hx, hl, hxl, hall⟩ := DataW.trod_array ht hf
  have hcl : cs.toList.length = n := by simpa [hct] using hsz
  obtain ⟨l, hl2, hw⟩ := list_of_all (k := k) (cs := cs.toList) (fun i hi => by
    have hi' : i < n := by omega
    have h1 := hall i hi'
    rw [hc, Nat.mul_one, List.getElem?_eq_getElem (by omega)] at h1
    have hd : ((Value.agg cs).cells.toList.drop i).take 1 = [cs.toList[i]] := by
      show (cs.toList.drop i).take 1 = _
      rw [List.drop_eq_getElem_cons hi]
      rfl
    rw [hd] at h1
    obtain ⟨a, ha, _, hwf⟩ := DataW.trod_int he h1
    have ha' : cs.toList[i] = .int k a := by simpa using ha
    exact ⟨a, ha', hwf⟩)
  refine ⟨l, ?_, ?_, hw⟩
  · rw [← hcl, hl2, nums_length]
  · rw [← hl2]
/-- An array of bytes. -/
theorem open_arr8 {r : Reach} {b0 : Nat} {t e : TypeId} {n : Nat} {v : Value} {d : DataW H} {p : List MemPlace} (ht : P.underlying t = some (.array n e)) (he : P.underlying e = some (.int .u8)) (hc : P.cellsOf e = 1) (hct : P.cellsOf t = n)
    (hval : Value.okWide P W r b0 t v) (h : DataW.Trod enc P W base spare held t v d p) : ∃ l : List UInt8, l.length = n ∧ v = .agg (bvs l).toArray := by
  obtain ⟨l, hl, rfl, hw⟩ := open_arr ht he hc hct hval h
  refine ⟨l.map fun x => UInt8.ofNat x.toNat, by simpa using hl, ?_⟩
  congr 2
  unfold nums bvs
  rw [List.map_map]
  refine List.map_congr_left fun x hx => ?_
  have := bounds_u8 (hw x hx)
  simp only [Function.comp, bv]
  rw [u8_nat (by omega)]
  congr 1
  omega
end
end Go.Proofs.Ytfhhojhflpokaaa
