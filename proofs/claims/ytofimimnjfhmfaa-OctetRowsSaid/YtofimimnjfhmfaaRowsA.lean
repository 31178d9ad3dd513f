/-
  Plain words on rows of numbers and texts, and on lists of lists of bytes that came in. No statement is proved here. No conditions.
-/
import Derived.Test.YtofimimnjfhmfaaBack
import Derived.Test.YtofimimnjfhmfaaWrites
import Derived.Test.YtofimimnjfhmfaaOpen
import Derived.Deep.Matrix
namespace Go.Proofs.Ytofimimnjfhmfaa
open Go.ChangeShapes Go.WideShapes Go.ChangeAt Go.RowKit
set_option linter.unusedSimpArgs false
set_option linter.unusedVariables false

/-- The first j numbers, one behind the other. -/
def pre (vs : List Nat) : Nat → List UInt8
  | 0 => []
  | j + 1 => pre vs j ++ le (vs.getD j 0) (1 + j % 8)
/-- The first k texts, one behind the other. -/
def tx (ts : List (List UInt8)) : Nat → List UInt8
  | 0 => []
  | k + 1 => tx ts k ++ (le (ts.getD k []).length 2 ++ ts.getD k [])
theorem pre_length (vs : List Nat) (j : Nat) : (pre vs j).length ≤ 8 * j := by
  induction j with
  | zero => simp [pre]
  | succ j ih => simp only [pre, List.length_append, le_length]; omega
theorem tx_length (ts : List (List UInt8)) (k : Nat) (h : ∀ i, i < k → (ts.getD i []).length ≤ 100) : (tx ts k).length ≤ 102 * k := by
  induction k with
  | zero => simp [tx]
  | succ k ih =>
    have h1 := h k (by omega)
    have h2 := ih (fun i hi => h i (by omega))
    simp only [tx, List.length_append, le_length]
    omega
theorem pre_split (vs : List Nat) (j n : Nat) (h : j < n) : ∃ r, pre vs n = pre vs j ++ (le (vs.getD j 0) (1 + j % 8) ++ r) := by
  induction n with
  | zero => omega
  | succ n ih =>
    rcases Nat.lt_or_ge j n with h1 | h1
    · obtain ⟨r, hr⟩ := ih h1
      exact ⟨r ++ le (vs.getD n 0) (1 + n % 8), by rw [pre, hr]; simp⟩
    · obtain rfl : j = n := by omega
      exact ⟨[], by rw [pre]; simp⟩
theorem tx_split (ts : List (List UInt8)) (k m : Nat) (h : k < m) : ∃ r, tx ts m = tx ts k ++ (le (ts.getD k []).length 2 ++ (ts.getD k [] ++ r)) := by
  induction m with
  | zero => omega
  | succ m ih =>
    rcases Nat.lt_or_ge k m with h1 | h1
    · obtain ⟨r, hr⟩ := ih h1
      exact ⟨r ++ (le (ts.getD m []).length 2 ++ ts.getD m []), by rw [tx, hr]; simp⟩
    · obtain rfl : k = m := by omega
      exact ⟨[], by rw [tx]; simp⟩
theorem rows_num (vs : List Nat) (j n : Nat) (h : j < n) (t : List UInt8) : num (((pre vs n ++ t).drop (pre vs j).length).take (1 + j % 8)) = vs.getD j 0 % 256 ^ (1 + j % 8) ∧ (pre vs j).length + (1 + j % 8) ≤ (pre vs n ++ t).length := by
  obtain ⟨r, hr⟩ := pre_split vs j n h
  rw [hr, List.append_assoc, List.append_assoc, List.drop_left, List.take_left' (le_length _ _), num_le]
  exact ⟨rfl, by simp only [List.length_append, le_length]; omega⟩
theorem rows_text (ts : List (List UInt8)) (k m : Nat) (h : k < m) (hk : (ts.getD k []).length ≤ 100) (p : List UInt8) (l : List UInt8) (hl : l = (p ++ tx ts m).drop (p.length + (tx ts k).length)) :
    num (l.take 2) = (ts.getD k []).length ∧ (l.drop 2).take (ts.getD k []).length = ts.getD k [] ∧ 2 + (ts.getD k []).length ≤ l.length := by
  obtain ⟨r, hr⟩ := tx_split ts k m h
  have e : l = le (ts.getD k []).length 2 ++ (ts.getD k [] ++ r) := by
    rw [hl, hr, ← List.append_assoc, List.drop_left' (by simp)]
  rw [e]
  refine ⟨num_text _ _ (by omega), by rw [drop_text, List.take_left], by simp [le_length] <;> omega⟩

/-- Numbers as cells. -/
def u64s (l : List Nat) : List Value := l.map fun n : Nat => Value.int .u64 (n : Int)
theorem u64s_length (l : List Nat) : (u64s l).length = l.length := by simp [u64s]
theorem u64s_get (l : List Nat) (j : Nat) (h : j < l.length) : (u64s l)[j]? = some (.int .u64 ((l.getD j 0 : Nat) : Int)) := by simp [u64s, h]

/-- A slice of slices of bytes that reads as ls. -/
def RowsB (w : World) (v : Value) (ls : List (List UInt8)) : Prop :=
  ∃ vals : List Value, vals.length = ls.length ∧ Row w v vals ∧ ∀ i, i < ls.length → ∃ x, vals[i]? = some x ∧ Row w x (bvs (ls.getD i []))
theorem RowsB.below {w w' : World} {v : Value} {ls : List (List UInt8)} (h : RowsB w v ls) (hb : Below w.heap.size w w') : RowsB w' v ls := by
  obtain ⟨vals, h1, h2, h3⟩ := h
  exact ⟨vals, h1, h2.below hb, fun i hi => let ⟨x, hx, hr⟩ := h3 i hi; ⟨x, hx, hr.below hb⟩⟩

theorem Row.at_ {w : World} {A : Option Addr} {n cap : Nat} {xs : List Value} (h : Row w (.slice A n cap) xs) (hne : 0 < xs.length) : ∃ b off, A = some ⟨b, off, none⟩ ∧ b < w.heap.size ∧ ∀ i u, xs[i]? = some u → w.cell? ⟨b, off + i, none⟩ = some u := by
  obtain ⟨A', cap', he, _, _, _, h3⟩ := h
  injection he with hA _ _
  subst hA
  exact h3 (by rintro rfl; simp at hne)
theorem Row.len {w : World} {A : Option Addr} {n cap : Nat} {xs : List Value} (h : Row w (.slice A n cap) xs) : n = xs.length ∧ n ≤ cap ∧ cap ≤ maxLen ∧ (A = none → cap = 0) := by
  obtain ⟨A', cap', he, h1, h2, h0, _⟩ := h
  injection he with hA hn hc
  subst hA
  subst hn
  subst hc
  exact ⟨rfl, h1, h2, h0⟩
theorem Row.drop {w : World} {A : Option Addr} {cap : Nat} {xs : List Value} (h : Row w (.slice A xs.length cap) xs) (k : Nat) (hk : k < xs.length) :
    ∃ b off, A = some ⟨b, off, none⟩ ∧ Row w (.slice (some ⟨b, off + k, none⟩) (xs.length - k) (cap - k)) (xs.drop k) := by
  obtain ⟨A', cap', he, h1, h2, h0, h3⟩ := h
  injection he with hA hl hc
  subst hA
  subst hc
  obtain ⟨b, off, rfl, hb, hcell⟩ := h3 (by rintro rfl; simp at hk)
  refine ⟨b, off, rfl, some ⟨b, off + k, none⟩, cap - k, by rw [List.length_drop], by rw [List.length_drop]; omega, by omega, (fun h => by cases h), fun _ => ⟨b, off + k, rfl, hb, fun i u hu => ?_⟩⟩
  rw [Nat.add_assoc]
  refine hcell (k + i) u ?_
  rw [← hu, List.getElem?_drop]

theorem open_u64s {H : Type} {enc : TypeId × Value → H} {P : Program} {t e : TypeId} (ht : P.underlying t = some (.slice e)) (he : P.underlying e = some (.int .u64)) (hc : P.cellsOf e = 1) {W : World} {a : Option Addr} {len cap : Nat} {d : DataW H} {p : List MemPlace}
    (h : DataW.Trod enc P W 0 (fun _ => true) true t (.slice a len cap) d p) : ∃ l : List Nat, (∀ n ∈ l, n < 18446744073709551616) ∧ Row W (.slice a len cap) (u64s l) := by
  obtain ⟨fuel, hf⟩ := h
  rcases open_ints ht he hc hf with ⟨hcs, _⟩ | ⟨x, l, c, zs, hcs, _, hl, hm, hz, _, hcell, hwz⟩
  · simp [Value.cells] at hcs
    obtain ⟨rfl, rfl, rfl⟩ := hcs
    exact ⟨[], by simp, Row.nil W⟩
  · simp [Value.cells] at hcs
    obtain ⟨rfl, rfl, rfl⟩ := hcs
    have hz' : zs.length = cap := by simpa using hz
    have hlen : (u64s ((zs.take len).map fun n => n.toNat)).length = len := by simp [u64s]; omega
    refine ⟨(zs.take len).map fun n => n.toNat, ?_, some x, cap, by rw [hlen], by omega, hm, (fun h => by cases h), fun hne => ?_⟩
    · intro n hn
      obtain ⟨m, hm, rfl⟩ := List.mem_map.1 hn
      have := bounds_u64 (hwz m (List.mem_of_mem_take hm))
      omega
    have hpos : 0 < len := by
      rcases Nat.eq_zero_or_pos len with h0 | h0
      · subst h0; exact absurd rfl hne
      · exact h0
    obtain ⟨b, off, spot⟩ := x
    have hc0 := hcell 0 (by omega)
    have hspot : spot = none := by simpa [Addr.add] using World.cell?_spot hc0
    subst hspot
    refine ⟨b, off, rfl, by have := World.block_lt_of_cell? _ _ hc0; rwa [Addr.add_lit] at this, fun i u hu => ?_⟩
    have hi : i < len := by
      have := (List.getElem?_eq_some_iff.1 hu).1
      rwa [hlen] at this
    have := hcell i (by omega)
    rw [Addr.add_lit] at this
    rw [this, ← hu]
    have hiz : i < zs.length := by omega
    have hw := bounds_u64 (hwz zs[i] (List.getElem_mem hiz))
    simp only [u64s, List.map_map, List.getElem?_map, List.getElem?_take, hi, if_true, List.getElem?_eq_getElem hiz, Option.map_some, List.getD, Option.getD_some, Function.comp, Option.some.injEq, Value.int.injEq, true_and]
    omega

theorem row_of_cells {w : World} {A : Option Addr} {L C : Nat} {Z : List Int} (h1 : L ≤ C) (h2 : C ≤ maxLen) (h3 : Z.length = C) (h4 : ∀ n ∈ Z, (Lit.int .u8 n).wf = true) (h5 : A = none → C = 0)
    (h6 : ∀ a', A = some a' → ∀ c, c < C → w.cell? (a'.add c) = some (.int .u8 (Z.getD c 0))) : Row w (.slice A L C) (bvs ((Z.take L).map fun n => UInt8.ofNat n.toNat)) := by
  have hlen : (bvs ((Z.take L).map fun n => UInt8.ofNat n.toNat)).length = L := by simp [bvs]; omega
  refine ⟨A, C, by rw [hlen], by omega, h2, h5, fun hne => ?_⟩
  have hpos : 0 < L := by
    rcases Nat.eq_zero_or_pos L with h0 | h0
    · subst h0; exact absurd rfl hne
    · exact h0
  cases A with
  | none => have := h5 rfl; omega
  | some x =>
    obtain ⟨b, off, spot⟩ := x
    have hc0 := h6 _ rfl 0 (by omega)
    have hspot : spot = none := by simpa [Addr.add] using World.cell?_spot hc0
    subst hspot
    refine ⟨b, off, rfl, by have := World.block_lt_of_cell? _ _ hc0; rwa [Addr.add_lit] at this, fun i u hu => ?_⟩
    have hi : i < L := by
      have := (List.getElem?_eq_some_iff.1 hu).1
      rwa [hlen] at this
    have := h6 _ rfl i (by omega)
    rw [Addr.add_lit] at this
    rw [this, ← hu]
    have hiz : i < Z.length := by omega
    have hw := u8_of_wf (h4 Z[i] (List.getElem_mem hiz))
    simp only [bvs, List.map_map, List.getElem?_map, List.getElem?_take, hi, if_true, List.getElem?_eq_getElem hiz, Option.map_some, List.getD, Option.getD_some, Function.comp, bv, Option.some.injEq, Value.int.injEq, true_and]
    have : (UInt8.ofNat (Z[i]).toNat).toNat = (Z[i]).toNat := by
      rw [UInt8.toNat_ofNat']
      exact Nat.mod_eq_of_lt (by omega)
    rw [this]
    omega

theorem open_lists {H : Type} {enc : TypeId × Value → H} {P : Program} {t e q : TypeId} (ht : P.underlying t = some (.slice e)) (he : P.underlying e = some (.slice q)) (hq : P.underlying q = some (.int .u8)) (ce : P.cellsOf e = 1) (cq : P.cellsOf q = 1) {W : World} {a : Option Addr} {len cap : Nat} {d : DataW H} {p : List MemPlace}
    (h : DataW.Trod enc P W 0 (fun _ => true) true t (.slice a len cap) d p) : ∃ ls : List (List UInt8), ls.length = len ∧ RowsB W (.slice a len cap) ls := by
  obtain ⟨fuel, hf⟩ := h
  rcases Deep.open_int_rows ht he hq ce cq hf with ⟨hcs, _⟩ | ⟨x, l, c, A, L, C, Z, hcs, _, hl, hm, _, hrow⟩
  · simp [Value.cells] at hcs
    obtain ⟨rfl, rfl, rfl⟩ := hcs
    exact ⟨[], rfl, [], rfl, Row.nil W, by simp⟩
  · simp [Value.cells] at hcs
    obtain ⟨rfl, rfl, rfl⟩ := hcs
    refine ⟨(List.range len).map fun r => ((Z r).take (L r)).map fun n => UInt8.ofNat n.toNat, by simp, (List.range len).map fun r => .slice (A r) (L r) (C r), by simp, ?_, ?_⟩
    · refine ⟨some x, cap, by simp, by simpa using hl, hm, (fun h => by cases h), fun hne => ?_⟩
      have hpos : 0 < len := by
        rcases Nat.eq_zero_or_pos len with h0 | h0
        · subst h0; exact absurd rfl hne
        · exact h0
      obtain ⟨b, off, spot⟩ := x
      have hc0 := (hrow 0 (by omega)).1
      have hspot : spot = none := by simpa [Addr.add] using World.cell?_spot hc0
      subst hspot
      refine ⟨b, off, rfl, by have := World.block_lt_of_cell? _ _ hc0; rwa [Addr.add_lit] at this, fun i u hu => ?_⟩
      have hi : i < len := by
        have := (List.getElem?_eq_some_iff.1 hu).1
        simpa using this
      have := (hrow i (by omega)).1
      rw [Addr.add_lit] at this
      rw [this, ← hu]
      simp [hi]
    · intro i hi
      have hi' : i < len := by simpa using hi
      obtain ⟨_, r1, r2, r3, r4, r5, r6⟩ := hrow i (by omega)
      refine ⟨.slice (A i) (L i) (C i), by simp [hi'], ?_⟩
      have e : ((List.range len).map fun r => ((Z r).take (L r)).map fun n => UInt8.ofNat n.toNat).getD i [] = ((Z i).take (L i)).map fun n => UInt8.ofNat n.toNat := by simp [hi']
      rw [e]
      exact row_of_cells r1 r2 r3 r4 r5 (fun a' ha => (r6 a' ha).2)
end Go.Proofs.Ytofimimnjfhmfaa
