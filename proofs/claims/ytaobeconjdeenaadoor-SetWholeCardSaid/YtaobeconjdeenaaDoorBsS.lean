/-
  What slices.SortFunc answers and leaves over a row of sets of the call's own, by order. No statement is proved here.
-/
import Derived.Test.YtaobeconjdeenaaDoorLayS
import Derived.Test.YtaobeconjdeenaaDoorBsG
import Derived.Test.YtaobeconjdeenaaDoorSetF
import Derived.Shelf.SlSortCmp.WholeK
import Derived.Lib.OwnBridge
namespace Go.Proofs.YtaobeconjdeenaaDoor
open Go.RowKit
set_option linter.unusedSimpArgs false
set_option linter.unusedVariables false

theorem ord_lt (p q : Nat → Bool) : ltOf ordS p q = lessS p q := by
  unfold ltOf ordS
  cases h : lessS p q with
  | true => simp
  | false => cases h2 : lessS q p <;> simp
theorem lessS_irrefl (p : Nat → Bool) : lessS p p = false := lessS_none fun _ _ => rfl
theorem lessS_congr {p p' q q' : Nat → Bool} (h : ∀ b, b < 256 → p b = p' b) (k : ∀ b, b < 256 → q b = q' b) : lessS p q = lessS p' q' := by
  rw [Bool.eq_iff_iff, lessS_iff, lessS_iff]
  constructor
  · rintro ⟨j, hj, h1, h2, h3⟩
    exact ⟨j, hj, fun b hb => by rw [← h b (by omega), ← k b (by omega)]; exact h1 b hb, by rw [← h j hj]; exact h2, by rw [← k j hj]; exact h3⟩
  · rintro ⟨j, hj, h1, h2, h3⟩
    exact ⟨j, hj, fun b hb => by rw [h b (by omega), k b (by omega)]; exact h1 b hb, by rw [h j hj]; exact h2, by rw [k j hj]; exact h3⟩
theorem swoS : Sort.SWO (ltOf ordS) where
  irrefl p := by rw [ord_lt]; exact lessS_irrefl p
  trans p q r h k := by rw [ord_lt] at *; exact lessS_trans h k
  ntrans p q r h k := by
    rw [ord_lt] at *
    cases hpr : lessS p r with
    | false => rfl
    | true =>
      have e1 := lessS_not h
      have e2 := lessS_not k
      cases hqp : lessS q p with
      | true => rw [lessS_trans hqp hpr] at k; cases k
      | false =>
        rw [hqp, Bool.not_false] at e1
        have := (eqS_iff p q).1 e1
        rw [lessS_congr this (fun _ _ => rfl)] at hpr
        rw [hpr] at k; cases k
theorem flat_sets (ps : List (Nat → Bool)) : Sort.flatK wds 4 ps.toArray = (sets ps).toArray := by
  apply Array.ext
  · simp [sets_length]
  · intro t h1 h2
    have ht : t < ps.length * 4 := by simpa using h1
    have hk : t / 4 < ps.length := by omega
    have hg := sets_get (qs := ps) (k := t / 4) (q := ps[t / 4]) (List.getElem?_eq_getElem hk) (t % 4) (Nat.mod_lt _ (by omega))
    rw [show t / 4 * 4 + t % 4 = t by omega, List.getElem?_eq_getElem (by rw [sets_length]; exact ht), List.getElem?_eq_getElem (by rw [wds_length]; exact Nat.mod_lt _ (by omega))] at hg
    have e := Option.some.inj hg
    simp only [Sort.flatK, Array.getElem_map, Array.getElem_range, List.getElem_toArray, e]
    rw [getElem!_pos (ps.toArray) (t / 4) (by simpa using hk), List.getElem_toArray, getElem!_pos _ (t % 4) (by rw [wds_length]; exact Nat.mod_lt _ (by omega))]
theorem holds_sets {w : World} {base : Nat} {e : TypeId} {v : Value} {ps : List (Nat → Bool)} (h : w.ownsRow base e 4 v ps.length (sets ps)) (hne : 0 < ps.length) :
    ∃ g cap, v = .slice (some ⟨g, 0, none⟩) ps.length cap ∧ base ≤ g ∧ g < w.heap.size ∧ ps.length ≤ cap ∧ cap ≤ maxLen ∧ Sort.HoldsK wds 4 w g 0 ps.toArray := by
  rcases h.2 with ⟨_, h0⟩ | ⟨g, cap, cur, rfl, hb, hg, hn, hm, hs, ht⟩
  · omega
  · have hlt : g < w.heap.size := (Array.getElem?_eq_some_iff.1 hg).1
    refine ⟨g, cap, rfl, hb, hlt, hn, hm, ?_⟩
    unfold Sort.HoldsK
    rw [flat_sets]
    intro j hj
    have hj' : j < ps.length * 4 := by simpa [sets_length] using hj
    refine ⟨?_, by simp [World.frozen?, hg]⟩
    have e1 : (cur.toList.take (ps.length * 4))[j]? = (sets ps)[j]? := by rw [ht]
    rw [List.getElem?_take, if_pos hj', Array.getElem?_toList] at e1
    rw [cell_of_row w g (0 + j) cur e (0, 0) hg, Nat.zero_add, e1, List.getElem?_eq_getElem (by rw [sets_length]; exact hj'), getElem!_pos _ j hj]
    simp
theorem rowS_holds {w : World} {g cap : Nat} {d : Array (Nat → Bool)} (h : Sort.HoldsK wds 4 w g 0 d) (hlt : g < w.heap.size) (hc : d.size ≤ cap) (hm : cap ≤ maxLen) : RowS w (.slice (some ⟨g, 0, none⟩) d.size cap) d.toList := by
  refine ⟨_, cap, by simp, by simpa using hc, hm, (fun h => by cases h), fun _ => ⟨g, 0, rfl, hlt, fun i p hp j v hv => ?_⟩⟩
  have hi : i < d.size := by simpa using (List.getElem?_eq_some_iff.1 hp).1
  have hj : j < 4 := by simpa [wds_length] using (List.getElem?_eq_some_iff.1 hv).1
  have e := (h.cell hi hj).1
  have ep : d[i]! = p := by
    rw [getElem!_pos d i hi]
    have : d.toList[i]? = some d[i] := by simp [hi]
    rw [this] at hp
    exact Option.some.inj hp
  rw [ep, getElem!_pos (wds p) j (by rw [wds_length]; exact hj)] at e
  rw [List.getElem?_eq_getElem (by rw [wds_length]; exact hj)] at hv
  rw [e, hv]
theorem below_grow {B : Nat} {w0 w : World} (h : Below B w0 w) (os : Array Obj) (hB : B ≤ w.heap.size) : Below B w0 (Sort.grow w os) :=
  ⟨h.os, h.tape, h.output, by have := h.size; simp [Sort.grow]; omega, fun k hk => by
    show (w.heap ++ os)[k]? = _
    rw [Array.getElem?_append_left (by omega)]
    exact h.block k hk⟩
theorem cmpS (blk off size : Nat) (w : World) : CmpLays Tryd.prog 36 #[] wds 4 ordS blk off size w :=
  fun _ _ _ _ p q => (bsOrder_gr p q _).mono fun _ _ h => h
theorem size_of_set : ∀ w, (Go.sizeOf 24).run Tryd.prog w = .ok 4 w := by
  intro w
  have h : (Tryd.prog.info? 24).map (·.size) = some 4 := by kernel_rfl
  cases hi : Tryd.prog.info? 24 with
  | none => rw [hi] at h; cases h
  | some i =>
    rw [hi] at h
    have h' : i.size = 4 := by simpa using h
    simp [Go.sizeOf, typeInfo, hi, h']
theorem isAgg_set : ∀ w, (isAgg 24).run Tryd.prog w = .ok true w := Tryd.isAgg24
theorem sort_any (base : Nat) (v : Value) (ps : List (Nat → Bool)) (w : World) (h : w.ownsRow base 24 4 v ps.length (sets ps)) (hne : 0 < ps.length) (hl : ps.length ≤ 1048576) :
    Calls Tryd.prog 35 #[v, .func (.func 36) #[] #[]] w fun e w' =>
      e = .returned (.tuple #[]) ∧ ∃ qs, qs.Perm ps ∧ qs.Pairwise (fun p q => lessS q p = false) ∧ RowS w' v qs ∧ Below base w w' := by
  obtain ⟨g, cap, rfl, hb, hlt, hc, hm, hH⟩ := holds_sets h hne
  have eg : ∀ args w, (callFunc 36 args).run Tryd.prog w = .ok (.enter 36 args) w := enters_of Tryd.func36 (by kernel_rfl) rfl
  have hcon := AnyQ.slices_SortFunc Tryd.sortS 4 isAgg_set size_of_set wds (fun _ => rfl) (fun p v hv => List.all_eq_true.1 (wds_all p) v hv) ordS swoS 36 #[] g 0 cap ps.toArray w eg (cmpS g 0 ps.toArray.size w) hH hlt (by simp; omega)
  have hsz : ps.toArray.size = ps.length := by simp
  rw [hsz] at hcon
  refine Calls.mono hcon fun e w' hp => ?_
  obtain ⟨he, d', n, os, hperm, hsort, rfl⟩ := hp
  have hs' : d'.size = ps.length := by rw [hperm.1, hsz]
  refine ⟨he, d'.toList, ?_, ?_, ?_, ?_⟩
  · have := hperm.2.2
    rw [show d'.extract 0 ps.length = d' by rw [← hs']; simp, show ps.toArray.extract 0 ps.length = ps.toArray by rw [← hsz]; simp] at this
    simpa using this
  · rw [List.pairwise_iff_getElem]
    intro i j hi hj hij
    have hi' : i < d'.size := by simpa using hi
    have hj' : j < d'.size := by simpa using hj
    have := hsort i j (Nat.zero_le _) hij (by omega)
    rw [ord_lt, getElem!_pos d' j hj', getElem!_pos d' i hi'] at this
    simpa using this
  · have hK := holdsK_sortWorldK_c wds 4 w g 0 ps.toArray d' n os hH hlt (by rw [hs', hsz])
    have hz := size_sortWorldK_c wds 4 w g 0 n d' os
    have := rowS_holds hK (Nat.lt_of_lt_of_le hlt hz) (by rw [hs']; exact hc) hm
    rw [hs'] at this
    exact this
  · exact below_grow (Lib.below_putRow (Below.refl base w) hb) os (by simp [Sort.putRow, Sort.mapBlock, Sort.ahead]; omega)
end Go.Proofs.YtaobeconjdeenaaDoor
