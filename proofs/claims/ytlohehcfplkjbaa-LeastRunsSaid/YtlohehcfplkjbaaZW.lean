/-
  Texts of this proof, put together: LqU. No statement is proved here.
-/
import Derived.Test.YtlohehcfplkjbaaZN
import Derived.Test.YtlohehcfplkjbaaZV
import Derived.Test.YtlohehcfplkjbaaZG
namespace Go.Proofs.Ytlohehcfplkjbaa
open Go.RowKit
set_option linter.unusedSimpArgs false
set_option linter.unusedVariables false
def movN (m y i : Nat) : Nat := if i = 0 then 0 else 1 + (i - 1 + y) % m
def bakN (m y q : Nat) : Nat := if q = 0 then 0 else 1 + (q - 1 + (m - y)) % m
theorem movN_lt {m y i : Nat} (hm : 0 < m) : movN m y i < m + 1 := by
 unfold movN
 have := Nat.mod_lt (i - 1 + y) hm
 split <;> omega
theorem bakN_lt {m y q : Nat} (hm : 0 < m) : bakN m y q < m + 1 := by
 unfold bakN
 have := Nat.mod_lt (q - 1 + (m - y)) hm
 split <;> omega
theorem mov_bak {m y q : Nat} (hy : y < m) (hq : q < m + 1) : movN m y (bakN m y q) = q := by
 unfold movN bakN
 by_cases h : q = 0
 ·rw [if_pos h, if_pos rfl, h]
 ·rw [if_neg h, if_neg (by omega), show 1 + (q - 1 + (m - y)) % m - 1 = (q - 1 + (m - y)) % m by omega, Nat.mod_add_mod, show q - 1 + (m - y) + y = q - 1 + m by omega, Nat.add_mod_right, Nat.mod_eq_of_lt (by omega)]
  omega
theorem bak_mov {m y i : Nat} (hy : y < m) (hi : i < m + 1) : bakN m y (movN m y i) = i := by
 unfold movN bakN
 by_cases h : i = 0
 ·rw [if_pos h, if_pos rfl, h]
 ·rw [if_neg h, if_neg (by omega), show 1 + (i - 1 + y) % m - 1 = (i - 1 + y) % m by omega, Nat.mod_add_mod, show i - 1 + y + (m - y) = i - 1 + m by omega, Nat.add_mod_right, Nat.mod_eq_of_lt (by omega)]
  omega
theorem mov_inj {m y i j : Nat} (hy : y < m) (hi : i < m + 1) (hj : j < m + 1) (h : movN m y i = movN m y j) : i = j := by
 rw [← bak_mov hy hi, h, bak_mov hy hj]
def rowT (m y : Nat) (r : List Int) : List Int := r.map fun x => ((movN m y x.toNat : Nat) : Int)
def turD (D : Dm) (m y : Nat) (Eb : List Bool) : Dm := ⟨D.cl, (List.range D.next.length).map fun q => rowT m y (D.next.getD (bakN m y q) []), Eb⟩
theorem turD_next {D : Dm} {m y : Nat} {Eb : List Bool} {q : Nat} (hq : q < D.next.length) : (turD D m y Eb).next[q]? = some (rowT m y (D.next.getD (bakN m y q) [])) := by
 show ((List.range D.next.length).map _)[q]? = _
 simp [hq]
theorem turD_len (D : Dm) (m y : Nat) (Eb : List Bool) : (turD D m y Eb).next.length = D.next.length := by simp [turD]
theorem turD_turn {D : Dm} {m y : Nat} {Eb : List Bool} (hk : D.next.length = m + 1) (hm : 0 < m) (hy : y < m) (hE : ∀ j b, D.ends[j]? = some b → Eb[movN m y j]? = some b) : Turn D (turD D m y Eb) (movN m y) :=
 ⟨rfl, rfl, fun i r hr => ⟨_, turD_next (by rw [hk]; exact movN_lt hm), by
  have hi := (List.getElem?_eq_some_iff.1 hr).1
  rw [bak_mov hy (by omega), List.getD_eq_getElem?_getD, hr]
  rfl⟩, hE⟩
theorem turD_may {D : Dm} {m y : Nat} {Eb : List Bool} (h : MayD D) (hk : D.next.length = m + 1) (hm : 0 < m) (hE : Eb.length = m + 1) : MayD (turD D m y Eb) := by
 have hrow : ∀ r ∈ (turD D m y Eb).next, ∃ r0 ∈ D.next, r = rowT m y r0 := fun r hr => by
  obtain ⟨q, hq, rfl⟩ := List.mem_map.1 (show r ∈ (List.range D.next.length).map _ from hr)
  refine ⟨_, ?_, rfl⟩
  have hb : bakN m y q < D.next.length := by rw [hk]; exact bakN_lt hm
  rw [List.getD_eq_getElem?_getD, List.getElem?_eq_getElem hb]
  exact List.getElem_mem hb
 refine ⟨by rw [turD_len]; exact h.pos, by rw [turD_len]; exact h.few, by rw [turD_len, hk]; exact hE, fun r hr => ?_, fun r hr x hx => ?_⟩
 ·obtain ⟨r0, h0, rfl⟩ := hrow r hr
  rw [rowT, List.length_map]
  exact h.rows r0 h0
 ·obtain ⟨r0, h0, rfl⟩ := hrow r hr
  obtain ⟨z, hz, rfl⟩ := List.mem_map.1 hx
  rw [turD_len, hk]
  have := movN_lt (y := y) (i := z.toNat) hm
  omega
structure TurI (D : Dm) (m y i : Nat) (U : Nat → Value) (X : Nat → List Value) (Eb : List Bool) : Prop where
 l0 : (X 0).length = m + 1
 x0 : ∀ j, j < i → (X 0)[movN m y j]? = some (U (j + 2))
 x1 : X 1 = bools Eb
 l1 : Eb.length = m + 1
 e : ∀ j b, j < i → D.ends[j]? = some b → Eb[movN m y j]? = some b
 xr : ∀ j r, j < i → D.next[j]? = some r → X (j + 2) = nums .i64 (rowT m y r)
section
variable {D : Dm} {m y i : Nat} {U : Nat → Value} {X : Nat → List Value} {Eb : List Bool}
theorem TurI.more (h : TurI D m y i U X Eb) {v : Value} {l : List Value} : TurI D m y i (putV U (2 + i) v) (putX X (2 + i) l) Eb := by
 refine ⟨by rw [putX_ne (by omega)]; exact h.l0, fun j hj => ?_, by rw [putX_ne (by omega)]; exact h.x1, h.l1, h.e, fun j r hj hr => ?_⟩
 ·rw [putX_ne (by omega), putV_ne (by omega)]
  exact h.x0 j hj
 ·rw [putX_ne (by omega)]
  exact h.xr j r hj hr
theorem TurI.done (h : TurI D m y i U X Eb) (hy : y < m) (hi : i < m + 1) {r : List Int} {b : Bool} (hr : D.next[i]? = some r) (hx : X (i + 2) = nums .i64 (rowT m y r)) (hb : D.ends[i]? = some b) :
  TurI D m y (i + 1) U (putX (putX X 0 ((X 0).set (movN m y i) (U (i + 2)))) 1 ((X 1).set (movN m y i) (.bool b))) (Eb.set (movN m y i) b) := by
 have hm : 0 < m := by omega
 have ne : ∀ j, j < i → movN m y i ≠ movN m y j := fun j hj e => by
  have := mov_inj hy hi (by omega) e
  omega
 refine ⟨?_, fun j hj => ?_, ?_, by rw [List.length_set]; exact h.l1, fun j c hj hc => ?_, fun j q hj hq => ?_⟩
 ·rw [putX_ne (by decide), putX_at, List.length_set]
  exact h.l0
 ·rw [putX_ne (by decide), putX_at]
  by_cases e : j = i
  ·subst e
   rw [List.getElem?_set_self (by rw [h.l0]; exact movN_lt hm)]
  ·rw [List.getElem?_set_ne (ne j (by omega))]
   exact h.x0 j (by omega)
 ·rw [putX_at, h.x1]
  simp [bools, List.map_set]
 ·by_cases e : j = i
  ·subst e
   rw [hb] at hc
   rw [List.getElem?_set_self (by rw [h.l1]; exact movN_lt hm)]
   exact hc
  ·rw [List.getElem?_set_ne (ne j (by omega))]
   exact h.e j c (by omega) hc
 ·rw [putX_ne (by omega), putX_ne (by omega)]
  by_cases e : j = i
  ·subst e
   rw [hr] at hq
   obtain rfl := Option.some.inj hq
   exact hx
  ·exact h.xr j q (by omega) hq
theorem TurI.zero (cn : Nat) (vn ve : Value) (hk : cn = m + 1) : TurI D m y 0 (fun i => if i = 0 then vn else if i = 1 then ve else .slice none 0 0) (fun i => if i = 0 then List.replicate cn (.slice none 0 0) else if i = 1 then List.replicate cn (.bool false) else []) (List.replicate cn false) :=
 ⟨by simp [hk], fun j hj => absurd hj (Nat.not_lt_zero j), by simp [bools], by simp [hk], fun j b hj => absurd hj (Nat.not_lt_zero j), fun j r hj => absurd hj (Nat.not_lt_zero j)⟩
theorem TurI.dfa {w : World} {H : Nat} (h : TurI D m y (m + 1) U X Eb) (hk : D.next.length = m + 1) (hy : y < m) (hm : MayD D) (hl : D.cl.length = 256) (ha : Apt w H (2 + (m + 1)) U X) : DfaV w (dcl D.cl (U 0) (U 1)) (turD D m y Eb) := by
 have hm0 : 0 < m := by omega
 have r0 : Row w (U 0) (X 0) := Row.of_own (ha.own 0 (by omega))
 have r1 : Row w (U 1) (X 1) := Row.of_own (ha.own 1 (by omega))
 have e0 : X 0 = (List.range (m + 1)).map fun q => U (bakN m y q + 2) := by
  apply List.ext_getElem?
  intro q
  by_cases hq : q < m + 1
  ·have h1 := h.x0 (bakN m y q) (bakN_lt hm0)
   rw [mov_bak hy hq] at h1
   rw [h1]
   simp [hq]
  ·rw [List.getElem?_eq_none (by rw [h.l0]; omega), List.getElem?_eq_none (by simp; omega)]
 refine ⟨hl, U 0, U 1, fun q => U (bakN m y q + 2), rfl, by rw [turD_len, hk, ← e0]; exact r0, fun q r hr => ?_, by rw [h.x1] at r1; exact r1⟩
 have hq : q < D.next.length := by
  have := (List.getElem?_eq_some_iff.1 hr).1
  rwa [turD_len] at this
 rw [turD_next hq] at hr
 obtain rfl := Option.some.inj hr
 have hb : bakN m y q < D.next.length := by rw [hk]; exact bakN_lt hm0
 have r2 : Row w (U (bakN m y q + 2)) (X (bakN m y q + 2)) := Row.of_own (ha.own (bakN m y q + 2) (by omega))
 have h1 := h.xr (bakN m y q) _ (by omega) (List.getElem?_eq_getElem hb)
 rw [List.getD_eq_getElem?_getD, List.getElem?_eq_getElem hb, Option.getD_some]
 rwa [h1] at r2
end
theorem apt_mk2 {w : World} {H n : Nat} {gn ge : Nat} (h0 : Blk w gn 33 (List.replicate n (.slice none 0 0))) (h1 : Blk w ge 4 (List.replicate n (.bool false))) (hn : n ≤ 2000) (hgn : H ≤ gn) (hge : H ≤ ge) (hne : gn ≠ ge) :
  Apt w H 2 (fun i => if i = 0 then .slice (some ⟨gn, 0, none⟩) n n else if i = 1 then .slice (some ⟨ge, 0, none⟩) n n else .slice none 0 0) (fun i => if i = 0 then List.replicate n (.slice none 0 0) else if i = 1 then List.replicate n (.bool false) else []) := by
 have o0 := h0.own hgn (by rw [List.length_replicate]; unfold maxLen; omega)
 have o1 := h1.own hge (by rw [List.length_replicate]; unfold maxLen; omega)
 simp only [List.length_replicate] at o0 o1
 refine ⟨fun i hi => ?_, fun i j hi hj hij k hk => ?_⟩
 ·have : i = 0 ∨ i = 1 := by omega
  rcases this with rfl | rfl
  ·show w.ownsRow H 33 1 (.slice (some ⟨gn, 0, none⟩) n n) (List.replicate n (Value.slice none 0 0)).length (List.replicate n (Value.slice none 0 0))
   rw [List.length_replicate]
   exact o0
  ·show w.ownsRow H 4 1 (.slice (some ⟨ge, 0, none⟩) n n) (List.replicate n (Value.bool false)).length (List.replicate n (Value.bool false))
   rw [List.length_replicate]
   exact o1
 ·have hi2 : i = 0 ∨ i = 1 := by omega
  have hj2 : j = 0 ∨ j = 1 := by omega
  rcases hi2 with rfl | rfl <;> rcases hj2 with rfl | rfl
  ·exact absurd rfl hij
  ·obtain rfl := Option.some.inj (show some gn = some k from hk)
   exact fun e => hne (Option.some.inj (show some ge = some gn from e)).symm
  ·obtain rfl := Option.some.inj (show some ge = some k from hk)
   exact fun e => hne (Option.some.inj (show some gn = some ge from e))
  ·exact absurd rfl hij
theorem mv_sub {i : Nat} (h : i ≠ 0) (h2 : i ≤ 4000) : wrap64 ((i : Int) - 1) = ((i - 1 : Nat) : Int) := by rw [IntWalk.wrap64_in _ (by omega)]; omega
theorem mv_add {a y : Nat} (h2 : a ≤ 4000) (h3 : y ≤ 4000) : wrap64 ((a : Int) + (y : Int)) = ((a + y : Nat) : Int) := by rw [IntWalk.wrap64_in _ (by omega)]; omega
theorem mv_rem (a m : Nat) : (a : Int).tmod (m : Int) = ((a % m : Nat) : Int) := by rw [Int.tmod_eq_emod_of_nonneg (by omega)]; omega
theorem mv_one {a : Nat} (h2 : a ≤ 4000) : wrap64 (1 + (a : Int)) = ((1 + a : Nat) : Int) := by rw [IntWalk.wrap64_in _ (by omega)]; omega
theorem mv_le {a m : Nat} (hm : 0 < m) (h : m ≤ 4000) : a % m ≤ 4000 := by have := Nat.mod_lt a hm; omega
theorem moved_any (i y m : Nat) (w : World) (hi : i ≤ 4000) (hy : y ≤ 4000) (hm : 0 < m) (h4 : m ≤ 4000) :
  Calls Try.prog 22 #[.int .i64 (i : Int), .int .i64 (y : Int), .int .i64 (m : Int)] w fun e w' => e = .returned (.int .i64 (movN m y i : Nat)) ∧ Below w.heap.size w w' := by
 obtain ⟨v, hv⟩ : ∃ v, v = movN m y i := ⟨_, rfl⟩
 have HV := qH hv
 rw [← hv]
 clear hv
 go_enter Try.func22, Try.ntmps22
 by_cases h0 : i = 0
 ·have x1 : (i : Int) = 0 := by omega
  have HZ := qH (show v = 0 by rw [HV.out, movN, if_pos h0])
  clear h0
  obtain rfl := HZ.out
  go_wp2_with fail
  go_ret
  exact ⟨rfl, Below.refl _ _⟩
 ·have x1 : ¬ ((i : Int) = 0) := by omega
  have x1b : ((i : Int) == 0) = false := by rw [beq_eq_false_iff_ne]; exact x1
  have HW := qH (show 1 + (i - 1 + y) % m = v by rw [HV.out, movN, if_neg h0])
  have z1 := mv_sub h0 hi
  obtain ⟨a, ha⟩ : ∃ a, a = i - 1 := ⟨_, rfl⟩
  rw [← ha] at z1 HW
  have a4 : a ≤ 4000 := by omega
  have z2 := mv_add a4 hy
  obtain ⟨s, hs⟩ : ∃ s, s = a + y := ⟨_, rfl⟩
  rw [← hs] at z2 HW
  have z3 := mv_rem s m
  have z4 := mv_one (mv_le (a := s) hm h4)
  obtain ⟨q, hq⟩ : ∃ q, q = s % m := ⟨_, rfl⟩
  rw [← hq] at z3 z4 HW
  have z5 : ¬ ((m : Int) = 0) := by omega
  have z6 : ((m : Int) == 0) = false := by rw [beq_eq_false_iff_ne]; exact z5
  rw [HW.out] at z4
  clear ha a4 hs hq h0 hi hy hm h4 HW
  go_wp2_with fail
  go_ret
  refine ⟨?_, Below.refl _ _⟩
  show Ending.returned (.int .i64 (wrap64 (1 + (q : Int)))) = _
  rw [z4]
end Go.Proofs.Ytlohehcfplkjbaa
