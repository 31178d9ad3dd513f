/-
  Texts of this proof, put together: PsM. No statement is proved here.
-/
import Derived.Test.YtbbodfpnneifgaaYW
import Derived.Test.YtbbodfpnneifgaaYV
namespace Go.Proofs.Ytbbodfpnneifgaa
open Go.RowKit
set_option linter.unusedSimpArgs false
set_option linter.unusedVariables false
theorem bad_ends {D : Dm} (h : D.ends.length ≠ D.next.length) : mayDB D = false := mayDB_no fun h2 => h h2.ends
theorem bad_row {D : Dm} {r : List Int} (hr : r ∈ D.next) (h : r.length ≠ clsA D.cl) : mayDB D = false := mayDB_no fun h2 => h (h2.rows r hr)
theorem bad_to {D : Dm} {r : List Int} {x : Int} (hr : r ∈ D.next) (hx : x ∈ r) (h : ¬ (0 ≤ x ∧ x < (D.next.length : Int))) : mayDB D = false := mayDB_no fun h2 => h (h2.to r hr x hx)
theorem set_mem {α : Type} {l : List α} {i : Nat} (hi : i < l.length) (a : α) : a ∈ l.set i a := List.mem_iff_getElem.2 ⟨i, by simpa using hi, by simp⟩
theorem bad_set {D : Dm} {i : Nat} {r : List Int} (hr : D.next[i]? = some r) (h0 : 0 < r.length) {x : Int} (h : ¬ (0 ≤ x ∧ x < (D.next.length : Int))) : mayDB ⟨D.cl, D.next.set i (r.set 0 x), D.ends⟩ = false :=
 bad_to (r := r.set 0 x) (x := x) (set_mem (List.getElem?_eq_some_iff.1 hr).1 _) (set_mem h0 x) (by rw [List.length_set]; exact h)
theorem bad_take {D : Dm} (hM : MayD D) {i : Nat} {r : List Int} (hr : D.next[i]? = some r) {k : Nat} (hk : k < clsA D.cl) : mayDB ⟨D.cl, D.next.set i (r.take k), D.ends⟩ = false :=
 bad_row (r := r.take k) (set_mem (List.getElem?_eq_some_iff.1 hr).1 _) (by
  show (r.take k).length ≠ clsA D.cl
  rw [List.length_take]
  omega)
theorem bad_cls {D : Dm} (hM : MayD D) (hl : D.cl.length = 256) (hc : clsA D.cl < 256) : mayDB ⟨D.cl.set 122 255, D.next, D.ends⟩ = false := by
 have h1 : (255 : UInt8).toNat < clsA (D.cl.set 122 255) := clsA_lt (by rw [List.length_set]; exact hl) (j := 122) (by rw [List.getElem?_set_self (by rw [hl]; decide)])
 have h2 : (255 : UInt8).toNat = 255 := rfl
 cases hn : D.next with
 | nil => have := hM.pos; rw [hn] at this; exact absurd this (by decide)
 | cons r N =>
  have hr : r ∈ D.next := by rw [hn]; exact List.mem_cons_self ..
  refine bad_row (r := r) (by rw [hn] at hr; exact hr) ?_
  show r.length ≠ clsA (D.cl.set 122 255)
  rw [hM.rows r hr]
  omega
theorem bad_cut {D : Dm} (hM : MayD D) {k : Nat} (hk : k < D.next.length) : mayDB ⟨D.cl, D.next, D.ends.take k⟩ = false :=
 bad_ends (by
  show (D.ends.take k).length ≠ D.next.length
  rw [List.length_take, hM.ends]
  omega)
theorem own_in {w : World} {H : Nat} {e : TypeId} {v : Value} {n : Nat} {xs : List Value} (h : w.ownsRow H e 1 v n xs) (hn : 0 < n) :
  ∃ g c, v = .slice (some ⟨g, 0, none⟩) n c ∧ n ≤ c ∧ c ≤ maxLen ∧ g < w.heap.size ∧ H ≤ g := by
 have h0 := own6_lt h
 rcases h.2 with ⟨_, e0⟩ | ⟨g, c, cur, hv, hb, hg, hnc, hcm, _⟩
 ·omega
 ·subst hv
  exact ⟨g, c, rfl, hnc, hcm, (h0 g rfl).1, hb⟩
theorem DfaA.below {w w' : World} {H : Nat} {cs : List Value} {D : Dm} (h : DfaA w H cs D) (hb : Below w.heap.size w w') : DfaA w' H cs D := by
 obtain ⟨U, X, h1, h2, h3, h4⟩ := h
 exact ⟨U, X, h1, h2, h3.below hb, h4⟩
structure Gts (w : World) (B H : Nat) (cs : List Value) (D : Dm) (i m n g0 c0 g c : Nat) (Ve : Value) : Prop where
 is_ : cs = dcl D.cl (.slice (some ⟨g0, 0, none⟩) n c0) Ve
 lo0 : H ≤ g0
 lo : H ≤ g
 hi0 : g0 < B
 hi : g < B
 mc : m ≤ c
 mx : c ≤ maxLen
 at0 : w.cell? ⟨g0, i, none⟩ = some (.slice (some ⟨g, 0, none⟩) m c)
 fr0 : w.frozen? ⟨g0, i, none⟩ = false
 at_ : ∃ u, w.cell? ⟨g, 0, none⟩ = some u
 fr : w.frozen? ⟨g, 0, none⟩ = false
 way : ∀ r, D.next[i]? = some r → ∀ x : Int, DfaV (w.setCell ⟨g, 0, none⟩ (.int .i64 x)) cs ⟨D.cl, D.next.set i (r.set 0 x), D.ends⟩
 cut : ∀ r, D.next[i]? = some r → ∀ k, k ≤ m → DfaV (w.setCell ⟨g0, i, none⟩ (.slice (some ⟨g, 0, none⟩) k c)) cs ⟨D.cl, D.next.set i (r.take k), D.ends⟩
theorem nums_setM (l : List Int) (j : Nat) (x : Int) : (nums .i64 l).set j (.int .i64 x) = nums .i64 (l.set j x) := by simp [nums, List.map_set]
theorem nums_takeM (l : List Int) (k : Nat) : (nums .i64 l).take k = nums .i64 (l.take k) := by simp [nums, List.map_take]
theorem DfaA.gets {w : World} {H : Nat} {cs : List Value} {D : Dm} (h : DfaA w H cs D) (hm : MayD D) {m n : Nat} (hmm : m = clsA D.cl) (hmp : 0 < m) (hn : n = D.next.length) {i : Nat} (hi : i < n) :
  ∃ g0 c0 g c Ve, ∀ w', Below w.heap.size w w' → Gts w' w.heap.size H cs D i m n g0 c0 g c Ve := by
 obtain ⟨U, X, h1, h2, h3, h4, h5, h6⟩ := h
 obtain ⟨r, hr⟩ : ∃ r, D.next[i]? = some r := ⟨_, List.getElem?_eq_getElem (by rw [← hn]; exact hi)⟩
 have hrl : r.length = m := by rw [hm.rows r (List.mem_of_getElem? hr), hmm]
 have q0 := h3.own 0 (by omega)
 have q1 := h3.own (i + 2) (by omega)
 have l0 : (X 0).length = n := by rw [h4, hn]; simp
 have l1 : (X (i + 2)).length = m := by rw [h6 i r hr, nums_length, hrl]
 rw [l0] at q0
 rw [l1] at q1
 obtain ⟨g0, c0, e0, n0, x0, t0, b0⟩ := own_in q0 (by omega)
 obtain ⟨g, c, e1, n1, x1, t1, b1⟩ := own_in q1 hmp
 refine ⟨g0, c0, g, c, U 1, fun w' hb => ?_⟩
 have a3 := h3.below hb
 have p0 := a3.own 0 (by omega)
 have p1 := a3.own (i + 2) (by omega)
 rw [l0, e0] at p0
 rw [l1, e1] at p1
 have hX0 : (X 0)[i]? = some (.slice (some ⟨g, 0, none⟩) m c) := by rw [h4, ← e1]; simp [← hn, hi]
 have k0 := own_cell p0 hX0
 obtain ⟨u, hu⟩ : ∃ u, (X (i + 2))[0]? = some u := ⟨_, List.getElem?_eq_getElem (by rw [l1]; exact hmp)⟩
 have k1 := own_cell p1 hu
 refine ⟨by rw [h2, e0], b0, b1, t0, t1, n1, x1, k0.1, k0.2, ⟨u, k1.1⟩, k1.2, fun r' hr' x => ?_, fun r' hr' k hk => ?_⟩
 ·obtain rfl : r' = r := Option.some.inj (hr'.symm.trans hr)
  have s3 := a3.set (s := i + 2) (by omega) e1 (q := 0) (by rw [l1]; exact hmp) (.int .i64 x)
  refine DfaA.dfa (H := H) ⟨U, putX X (i + 2) ((X (i + 2)).set 0 (.int .i64 x)), h1, h2, ?_, ?_, ?_, ?_⟩
  ·show Apt _ H (2 + (D.next.set i (r'.set 0 x)).length) U _
   rw [List.length_set]
   exact s3
  ·show putX X (i + 2) _ 0 = (List.range (D.next.set i (r'.set 0 x)).length).map _
   rw [List.length_set, putX_ne (by omega)]
   exact h4
  ·rw [putX_ne (by omega)]
   exact h5
  ·intro j y hy
   have hy : (D.next.set i (r'.set 0 x))[j]? = some y := hy
   by_cases hj : j = i
   ·subst hj
    rw [List.getElem?_set_self (by rw [← hn]; exact hi)] at hy
    rw [← Option.some.inj hy, putX_at, h6 j r' hr, nums_setM]
   ·rw [List.getElem?_set_ne (fun e => hj e.symm)] at hy
    rw [putX_ne (by omega)]
    exact h6 j y hy
 ·obtain rfl : r' = r := Option.some.inj (hr'.symm.trans hr)
  have s3 := a3.set (s := 0) (by omega) e0 (q := i) (by rw [l0]; exact hi) (.slice (some ⟨g, 0, none⟩) k c)
  have r0 : Row _ (U 0) (putX X 0 ((X 0).set i (.slice (some ⟨g, 0, none⟩) k c)) 0) := Row.of_own (s3.own 0 (by omega))
  have r1 : Row _ (U 1) (putX X 0 ((X 0).set i (.slice (some ⟨g, 0, none⟩) k c)) 1) := Row.of_own (s3.own 1 (by omega))
  rw [putX_at] at r0
  rw [putX_ne (by omega), h5] at r1
  refine ⟨h1, U 0, U 1, fun q => if q = i then .slice (some ⟨g, 0, none⟩) k c else U (q + 2), h2, ?_, fun j y hy => ?_, r1⟩
  ·show Row _ _ ((List.range (D.next.set i (r'.take k)).length).map _)
   rw [List.length_set]
   have e9 : (X 0).set i (.slice (some ⟨g, 0, none⟩) k c) = (List.range D.next.length).map (fun q => if q = i then .slice (some ⟨g, 0, none⟩) k c else U (q + 2)) := by
    rw [h4]
    refine List.ext_getElem (by simp) fun j hj1 hj2 => ?_
    simp only [List.getElem_set, List.getElem_map, List.getElem_range]
    by_cases hj : i = j
    ·rw [if_pos hj, if_pos hj.symm]
    ·rw [if_neg hj, if_neg fun e => hj e.symm]
   rw [← e9]
   exact r0
  ·have hy : (D.next.set i (r'.take k))[j]? = some y := hy
   have r2 : j < D.next.length → Row _ (U (j + 2)) (putX X 0 ((X 0).set i (.slice (some ⟨g, 0, none⟩) k c)) (j + 2)) := fun hj => Row.of_own (s3.own (j + 2) (by omega))
   by_cases hj : j = i
   ·subst hj
    rw [List.getElem?_set_self (by rw [← hn]; exact hi)] at hy
    have r3 := r2 (by omega)
    rw [putX_ne (by omega), e1, h6 j r' hr] at r3
    have l3 : (nums .i64 r').length = m := by rw [nums_length]; exact hrl
    rw [← l3] at r3
    have r4 := Row.take r3 k (by rw [l3]; exact hk)
    rw [nums_takeM] at r4
    rw [← Option.some.inj hy]
    show Row _ (if j = j then _ else _) _
    rw [if_pos rfl]
    exact r4
   ·rw [List.getElem?_set_ne (fun e => hj e.symm)] at hy
    have r3 := r2 (List.getElem?_eq_some_iff.1 hy).1
    rw [putX_ne (by omega), h6 j y hy] at r3
    show Row _ (if j = i then _ else _) _
    rw [if_neg hj]
    exact r3
theorem atStoreC {P : Program} {w : World} {ops : Array Oper} {rest : List Oper} {a : Act} {Q : Exit → Act → World → Prop} (ty : TypeId) (x : Tmp) {v : Value} {t : TypeId} {p : String} {af : Array Edge} {g : Option (Tmp × Bool)}
  (h : wpList P ops Q (⟨none, .store ty (.tmp x) (.const v), t, p, af, g⟩ :: rest) a w) : wpList P ops Q (⟨none, .store ty (.tmp x) (.const v), t, p, af, g⟩ :: rest) a w := h
theorem DfaV.cutE {w : World} {cs : List Value} {D : Dm} {An Ae : Option Addr} {n m cn ce : Nat} (h : DfaV w cs D) (hcs : cs = dcl D.cl (.slice An n cn) (.slice Ae m ce)) {k : Nat} (hk : k ≤ m) : DfaV w (dcl D.cl (.slice An n cn) (.slice Ae k ce)) ⟨D.cl, D.next, D.ends.take k⟩ := by
 obtain ⟨hl, vn, ve, vf, h1, h2, h3, h4⟩ := h
 have e := List.append_cancel_left (hcs.symm.trans h1)
 injection e with e1 e2
 injection e2 with e2 _
 subst e1 e2
 have hm := h4.len.1
 rw [bools_length] at hm
 subst hm
 have h4 : Row w (.slice Ae (bools D.ends).length ce) (bools D.ends) := by rw [bools_length]; exact h4
 have h5 := Row.take h4 k (by rw [bools_length]; exact hk)
 refine ⟨hl, _, _, vf, rfl, h2, h3, ?_⟩
 show Row w (.slice Ae k ce) (bools (D.ends.take k))
 rw [show bools (D.ends.take k) = (bools D.ends).take k by simp [bools, List.map_take]]
 exact h5
theorem DfaV.setC {w : World} {cs : List Value} {D : Dm} (h : DfaV w cs D) {i : Nat} (hi : i < 256) (b : UInt8) : DfaV w (cs.set i (bv b)) ⟨D.cl.set i b, D.next, D.ends⟩ := by
 obtain ⟨hl, vn, ve, vf, h1, h2, h3, h4⟩ := h
 exact ⟨by rw [List.length_set]; exact hl, vn, ve, vf, by rw [h1, dcl_setc hl hi], h2, h3, h4⟩
end Go.Proofs.Ytbbodfpnneifgaa
