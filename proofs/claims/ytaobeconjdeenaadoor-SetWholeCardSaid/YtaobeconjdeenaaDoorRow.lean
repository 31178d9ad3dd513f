/-
  More words on rows of cells, for the seats behind the first stage: what can be read of a row, rows of integers. No statement is proved here.
-/
import Derived.Test.YtaobeconjdeenaaDoorBase
import Derived.ProofKit
import Derived.OpenShut
import Derived.ShutString
import Derived.ChangeOld
namespace Go.Proofs.YtaobeconjdeenaaDoor
open Go.ChangeShapes Go.WideShapes Go.ChangeAt Go.RowKit
set_option linter.unusedSimpArgs false
set_option linter.unusedVariables false

theorem Row.at_ {w : World} {A : Option Addr} {n cap : Nat} {xs : List Value} (h : Row w (.slice A n cap) xs) (hne : 0 < xs.length) : ∃ b off, A = some ⟨b, off, none⟩ ∧ b < w.heap.size ∧ ∀ i u, xs[i]? = some u → w.cell? ⟨b, off + i, none⟩ = some u := by
  obtain ⟨A', cap', he, _, _, _, h3⟩ := h
  injection he with hA _ _
  subst hA
  exact h3 (by rintro rfl; simp at hne)
theorem Row.len {w : World} {A : Option Addr} {n cap : Nat} {xs : List Value} (h : Row w (.slice A n cap) xs) : n = xs.length ∧ n ≤ cap ∧ cap ≤ maxLen ∧ (A = none → cap = 0) := by
  obtain ⟨A', cap', he, h1, h2, h0, _⟩ := h
  injection he with hA hn hc
  subst hA
  subst hn
  subst hc
  exact ⟨rfl, h1, h2, h0⟩
theorem Row.drop {w : World} {A : Option Addr} {cap : Nat} {xs : List Value} (h : Row w (.slice A xs.length cap) xs) (k : Nat) (hk : k < xs.length) :
    ∃ b off, A = some ⟨b, off, none⟩ ∧ Row w (.slice (some ⟨b, off + k, none⟩) (xs.length - k) (cap - k)) (xs.drop k) := by
  obtain ⟨A', cap', he, h1, h2, h0, h3⟩ := h
  injection he with hA hl hc
  subst hA
  subst hc
  obtain ⟨b, off, rfl, hb, hcell⟩ := h3 (by rintro rfl; simp at hk)
  refine ⟨b, off, rfl, some ⟨b, off + k, none⟩, cap - k, by rw [List.length_drop], by rw [List.length_drop]; omega, by omega, (fun h => by cases h), fun _ => ⟨b, off + k, rfl, hb, fun i u hu => ?_⟩⟩
  rw [Nat.add_assoc]
  refine hcell (k + i) u ?_
  rw [← hu, List.getElem?_drop]

/-- The cells of a list of integers. -/
def nums (k : IntKind) (l : List Int) : List Value := l.map fun n => .int k n
theorem nums_length (k : IntKind) (l : List Int) : (nums k l).length = l.length := by simp [nums]
theorem nums_get (k : IntKind) (l : List Int) (i : Nat) (h : i < l.length) : (nums k l)[i]? = some (.int k l[i]) := by simp [nums, h]
theorem nums_append (k : IntKind) (l m : List Int) : nums k (l ++ m) = nums k l ++ nums k m := by simp [nums]
theorem nums_one (k : IntKind) (l : List Int) : ∀ u ∈ nums k l, u.oneCell' = true := by
  intro u hu
  obtain ⟨c, _, rfl⟩ := List.mem_map.1 hu
  rfl
/-- The cells of a list of kinds. -/
abbrev ints (l : List Int) : List Value := nums .i64 l
/-- The cells of a list of bools. -/
def bools (l : List Bool) : List Value := l.map fun b => .bool b
theorem bools_length (l : List Bool) : (bools l).length = l.length := by simp [bools]
theorem bools_get (l : List Bool) (i : Nat) (h : i < l.length) : (bools l)[i]? = some (.bool l[i]) := by simp [bools, h]
theorem bools_one (l : List Bool) : ∀ u ∈ bools l, u.oneCell' = true := by
  intro u hu
  obtain ⟨c, _, rfl⟩ := List.mem_map.1 hu
  rfl

theorem open_nums {H : Type} {enc : TypeId × Value → H} {P : Program} {t e : TypeId} {k : IntKind} (ht : P.underlying t = some (.slice e)) (he : P.underlying e = some (.int k)) (hc : P.cellsOf e = 1) {W : World} {a : Option Addr} {len cap : Nat} {d : DataW H} {p : List MemPlace}
    (h : DataW.Trod enc P W 0 (fun _ => true) true t (.slice a len cap) d p) : ∃ l : List Int, (∀ n ∈ l, (Lit.int k n).wf = true) ∧ Row W (.slice a len cap) (nums k l) := by
  obtain ⟨fuel, hf⟩ := h
  rcases open_ints ht he hc hf with ⟨hcs, _⟩ | ⟨x, l, c, zs, hcs, _, hl, hm, hz, _, hcell, hwz⟩
  · simp [Value.cells] at hcs
    obtain ⟨rfl, rfl, rfl⟩ := hcs
    exact ⟨[], by simp, Row.nil W⟩
  · simp [Value.cells] at hcs
    obtain ⟨rfl, rfl, rfl⟩ := hcs
    have hz' : zs.length = cap := by simpa using hz
    have hlen : (nums k (zs.take len)).length = len := by simp [nums]; omega
    refine ⟨zs.take len, fun n hn => hwz n (List.mem_of_mem_take hn), some x, cap, by rw [hlen], by omega, hm, (fun h => by cases h), fun hne => ?_⟩
    have hpos : 0 < len := by
      rcases Nat.eq_zero_or_pos len with h0 | h0
      · subst h0; exact absurd rfl hne
      · exact h0
    obtain ⟨b, off, spot⟩ := x
    have hc0 := hcell 0 (by omega)
    have hspot : spot = none := by simpa [Addr.add] using World.cell?_spot hc0
    subst hspot
    refine ⟨b, off, rfl, by have := World.block_lt_of_cell? _ _ hc0; rwa [Addr.add_lit] at this, fun i u hu => ?_⟩
    have hi : i < len := by
      have := (List.getElem?_eq_some_iff.1 hu).1
      rwa [hlen] at this
    have := hcell i (by omega)
    rw [Addr.add_lit] at this
    rw [this, ← hu]
    have hiz : i < zs.length := by omega
    simp only [nums, List.getElem?_map, List.getElem?_take, hi, if_true, List.getElem?_eq_getElem hiz, Option.map_some, List.getD, Option.getD_some]
end Go.Proofs.YtaobeconjdeenaaDoor
