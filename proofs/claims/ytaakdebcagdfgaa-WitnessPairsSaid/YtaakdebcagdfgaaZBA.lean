/-
  Texts of this proof, put together: PxM. No statement is proved here.
-/
import Derived.Test.YtaakdebcagdfgaaZL
import Derived.Test.YtaakdebcagdfgaaZJ
import Derived.Test.YtaakdebcagdfgaaZZ
namespace Go.Proofs.Ytaakdebcagdfgaa
open Go.RowKit
set_option linter.unusedSimpArgs false
set_option linter.unusedVariables false
def tyP : Nat → TypeId
 | 0 => 47
 | 1 => 4
 | 2 => 70
 | _ => 3
def szP : Nat → Nat
 | 2 => 2
 | _ => 1
theorem szP_3 (i : Nat) : szP (i + 3) = 1 := rfl
structure MdP {α : Type} [DecidableEq α] (f : α → List α) (x0 : α) (e : α → Bool) (good : Prop) (i : Nat) (U : Nat → Value) (X : Nat → List Value) (el : List Bool) (M : List (Nat × Nat)) : Prop where
 a0 : X 0 = (List.range i).map fun q => U (q + 3)
 a1 : X 1 = bools el
 a2 : X 2 = prs M
 len : el.length = i
 sem : good → el = endsI e (Lq f x0 i) i ∧ ∀ q r, (rowsI f (Lq f x0 i) i)[q]? = some r → X (q + 3) = nums .i64 r
section
variable {α : Type} [DecidableEq α] {f : α → List α} {x0 : α} {e : α → Bool} {good : Prop} {i : Nat} {U : Nat → Value} {X : Nat → List Value} {el : List Bool} {M : List (Nat × Nat)}
theorem MdP.rowU (h : MdP f x0 e good i U X el M) (hi : good → i ≤ (Lq f x0 i).length) {v : Value} {l : List Value} : MdP f x0 e good i (putV U (3 + i) v) (putX X (3 + i) l) el M := by
 refine ⟨?_, by rw [putX_ne (by omega)]; exact h.a1, by rw [putX_ne (by omega)]; exact h.a2, h.len, fun hg => ⟨(h.sem hg).1, fun q r hr => ?_⟩⟩
 ·rw [putX_ne (by omega), h.a0]
  refine List.map_congr_left fun q hq => ?_
  have := List.mem_range.1 hq
  rw [putV_ne (by omega)]
 ·have hq := (List.getElem?_eq_some_iff.1 hr).1
  rw [rowsI_len (hi hg)] at hq
  rw [putX_ne (by omega)]
  exact (h.sem hg).2 q r hr
theorem MdP.push (h : MdP f x0 e good i U X el M) {v : Value} (y : Nat × Nat) : MdP f x0 e good i (putV U 2 v) (putX X 2 (prs (M ++ [y]))) el (M ++ [y]) := by
 refine ⟨?_, by rw [putX_ne (by omega)]; exact h.a1, putX_at _ _ _, h.len, fun hg => ⟨(h.sem hg).1, fun q r hr => ?_⟩⟩
 ·rw [putX_ne (by omega), h.a0]
  exact List.map_congr_left fun q hq => by rw [putV_ne (by omega)]
 ·rw [putX_ne (by omega)]
  exact (h.sem hg).2 q r hr
theorem MdP.next {good' : Prop} (h : MdP f x0 e good i U X el M) {v vn ve : Value} {r : List Int} {b : Bool} {q : α} (hg : good' → good ∧ r = rowI (Lq f x0 (i + 1)) (f q)) (hq : (Lq f x0 i)[i]? = some q) (hb : e q = b) (hu : U (i + 3) = v) (hx : X (i + 3) = nums .i64 r) :
  MdP f x0 e good' (i + 1) (putV (putV U 0 vn) 1 ve) (putX (putX X 0 ((List.range i).map (fun q => U (q + 3)) ++ [v])) 1 (bools el ++ [.bool b])) (el ++ [b]) M := by
 have hil := Nat.le_of_lt (List.getElem?_eq_some_iff.1 hq).1
 refine ⟨?_, ?_, by rw [putX_ne (by omega), putX_ne (by omega)]; exact h.a2, by rw [List.length_append, h.len]; rfl, fun hg2 => ?_⟩
 ·rw [putX_ne (by omega), putX_at, List.range_succ, List.map_append]
  have e1 : (List.range i).map (fun q => putV (putV U 0 vn) 1 ve (q + 3)) = (List.range i).map fun q => U (q + 3) := List.map_congr_left fun p _ => by rw [putV_ne (by omega), putV_ne (by omega)]
  have e2 : putV (putV U 0 vn) 1 ve (i + 3) = v := by rw [putV_ne (by omega), putV_ne (by omega), hu]
  rw [e1, List.map_cons, List.map_nil, e2]
 ·rw [putX_at]
  simp [bools]
 ·obtain ⟨g1, hr⟩ := hg hg2
  obtain ⟨g2, g3⟩ := h.sem g1
  refine ⟨by rw [g2, endsI_next hq, hb], fun p y hy => ?_⟩
  rw [putX_ne (by omega), putX_ne (by omega)]
  rw [rowsI_next hq] at hy
  have hl := rowsI_len (f := f) hil
  by_cases hp : p < i
  ·rw [List.getElem?_append_left (by omega)] at hy
   exact g3 p y hy
  ·have hp2 := (List.getElem?_eq_some_iff.1 hy).1
   rw [List.length_append, hl] at hp2
   obtain rfl : p = i := by simp only [List.length_cons, List.length_nil] at hp2; omega
   rw [List.getElem?_append_right (by omega), hl, Nat.sub_self] at hy
   have e := Option.some.inj hy
   rw [hx, hr, e]
theorem MdP.step {good' : Prop} (h : MdP f x0 e True i U X el M) {v vn ve : Value} {r : List Int} {q : α} (hr : good' → r = rowI (Lq f x0 (i + 1)) (f q)) (hq : (Lq f x0 i)[i]? = some q) (hu : U (i + 3) = v) (hx : X (i + 3) = nums .i64 r) :
  MdP f x0 e good' (i + 1) (putV (putV U 0 vn) 1 ve) (putX (putX X 0 ((List.range i).map (fun q => U (q + 3)) ++ [v])) 1 (bools el ++ [.bool (e q)])) (el ++ [e q]) M := h.next (fun hg => ⟨trivial, hr hg⟩) hq rfl hu hx
theorem MdP.weak {good' : Prop} (h : MdP f x0 e good i U X el M) (hg : good' → good) : MdP f x0 e good' i U X el M := ⟨h.a0, h.a1, h.a2, h.len, fun g => h.sem (hg g)⟩
theorem MdP.zero {v : Value} {y : Nat × Nat} : MdP f x0 e good 0 (putV (fun _ => .slice none 0 0) 2 v) (putX (fun _ => []) 2 (prs [y])) [] [y] :=
 ⟨rfl, rfl, rfl, rfl, fun _ => ⟨rfl, fun q r h => (by cases h)⟩⟩
theorem MdP.dfa {w : World} {H m : Nat} {cl : List UInt8} (h : MdP f x0 e good i U X el M) (hg : good) (ha : ApS tyP szP w H m U X) (hm : i + 3 ≤ m) (hl : cl.length = 256) (hi : i ≤ (Lq f x0 i).length) :
  DfaV w (dcl cl (U 0) (U 1)) ⟨cl, rowsI f (Lq f x0 i) i, endsI e (Lq f x0 i) i⟩ := by
 have r0 : Row w (U 0) (X 0) := Row.of_own (ha.own1 (i := 0) (by omega) rfl)
 have r1 : Row w (U 1) (X 1) := Row.of_own (ha.own1 (i := 1) (by omega) rfl)
 obtain ⟨g2, g3⟩ := h.sem hg
 refine ⟨hl, U 0, U 1, fun q => U (q + 3), rfl, ?_, fun j r hr => ?_, by show Row w (U 1) (bools (endsI e (Lq f x0 i) i)); rw [← g2, ← h.a1]; exact r1⟩
 ·show Row w (U 0) ((List.range (rowsI f (Lq f x0 i) i).length).map _)
  rw [rowsI_len hi, ← h.a0]
  exact r0
 ·have hr : (rowsI f (Lq f x0 i) i)[j]? = some r := hr
  have hj := (List.getElem?_eq_some_iff.1 hr).1
  rw [rowsI_len hi] at hj
  have r2 : Row w (U (j + 3)) (X (j + 3)) := Row.of_own (ha.own1 (i := j + 3) (by omega) (szP_3 j))
  rw [g3 j r hr] at r2
  exact r2
end
theorem aps_one {w : World} {H : Nat} {v : Value} {y : Nat × Nat} (ho : w.ownsRow H 70 2 v 1 (prs [y])) : ApS tyP szP w H 3 (putV (fun _ => .slice none 0 0) 2 v) (putX (fun _ => []) 2 (prs [y])) := by
 refine ⟨fun i hi => ?_, fun i j hi hj hij k hk => ?_⟩
 ·by_cases h : i = 2
  ·subst h
   rw [putV_at, putX_at]
   exact ⟨1, ho⟩
  ·rw [putV_ne h, putX_ne h]
   exact ⟨0, by simp, .inl ⟨rfl, rfl⟩⟩
 ·by_cases h : i = 2
  ·rw [putV_ne (by omega)]
   intro e
   cases (show (none : Option Nat) = some k from e)
  ·rw [putV_ne h] at hk
   cases (show (none : Option Nat) = some k from hk)
theorem Blk.own2 {w : World} {g : Nat} {M : List (Nat × Nat)} {H : Nat} (h : Blk w g 70 (prs M)) (hH : H ≤ g) (hm : M.length ≤ maxLen) : w.ownsRow H 70 2 (.slice (some ⟨g, 0, none⟩) M.length M.length) M.length (prs M) :=
 ⟨prs_len M, .inr ⟨g, M.length, (prs M).toArray, rfl, hH, h, Nat.le_refl _, hm, by simp [prs_len], by rw [List.take_of_length_le (by simp [prs_len])]⟩⟩
theorem aps_at3 {w : World} {H i n : Nat} {U : Nat → Value} {X : Nat → List Value} {v : Value} {r : List Int} (h : ApS tyP szP w H (3 + i + 1) U X) (hv : U (i + 3) = v) (hx : X (i + 3) = nums .i64 r) (hr : r.length = n) : w.ownsRow H 3 1 v n (nums .i64 r) := by
 have h1 := h.own1 (i := i + 3) (by omega) (szP_3 i)
 rw [hx, nums_length, hv, hr] at h1
 exact h1
theorem aps_at2 {w : World} {H m n : Nat} {U : Nat → Value} {X : Nat → List Value} {v : Value} {M : List (Nat × Nat)} (h : ApS tyP szP w H m U X) (hm : 2 < m) (hv : U 2 = v) (hx : X 2 = prs M) (hr : n = M.length) : w.ownsRow H 70 2 v n (prs M) := by
 have h1 := h.own2 hm rfl hx
 rw [hv, ← hr] at h1
 exact h1
theorem aps_row {w w' : World} {H i n : Nat} {U : Nat → Value} {X : Nat → List Value} {v v' : Value} {r' : List Int} (h : ApS tyP szP w H (3 + i + 1) U X) (hv : U (i + 3) = v) (ho : w'.ownsRow H 3 1 v' n (nums .i64 r')) (hg : w.grownBy w' v.ownBlock) (hw : ∀ k, v'.ownBlock = some k → v.ownBlock = some k ∨ w.heap.size ≤ k) :
  ApS tyP szP w' H (3 + i + 1) (putV U (3 + i) v') (putX X (3 + i) (nums .i64 r')) := by
 rw [Nat.add_comm 3 i] at h ⊢
 exact h.grow (s := i + 3) (by omega) (n := n) ho (by rw [hv]; exact hg) (by rw [hv]; exact hw)
theorem aps_list {w w' : World} {H m n : Nat} {U : Nat → Value} {X : Nat → List Value} {v v' : Value} {M : List (Nat × Nat)} (h : ApS tyP szP w H m U X) (hm : 2 < m) (hv : U 2 = v) (ho : w'.ownsRow H 70 2 v' n (prs M)) (hg : w.grownBy w' v.ownBlock) (hw : ∀ k, v'.ownBlock = some k → v.ownBlock = some k ∨ w.heap.size ≤ k) :
  ApS tyP szP w' H m (putV U 2 v') (putX X 2 (prs M)) := h.grow (s := 2) hm (n := n) ho (by rw [hv]; exact hg) (by rw [hv]; exact hw)
theorem aps_set2 {w : World} {H g i : Nat} {U : Nat → Value} {X : Nat → List Value} {a b : Value} (h : ApS tyP szP w H (3 + i + 1) U X) (hg : g < H) : ApS tyP szP ((w.setCell ⟨g, 256, none⟩ a).setCell ⟨g, 257, none⟩ b) H (3 + (i + 1)) U X := by
 rw [← Nat.add_assoc]
 refine h.stay fun k hk _ => ?_
 have hne : k ≠ g := Nat.ne_of_gt (Nat.lt_of_lt_of_le hg hk)
 exact (Below.heap_setCell _ ⟨g, 257, none⟩ _ k hne).trans (Below.heap_setCell _ ⟨g, 256, none⟩ _ k hne)
theorem bndP_m {n most : Nat} (h : n ≤ most + 1) (hm : most ≤ 100000) : n + 1 ≤ 1048576 := by omega
theorem bndP_i {i n most : Nat} (h : i ≤ n) (h2 : n ≤ most + 1) (hm : most ≤ 100000) : i + 1 ≤ 2097152 := by omega
theorem bndP_w {i n most : Nat} (h : i ≤ n) (h2 : n ≤ most + 1) (hm : most ≤ 100000) : i ≤ 4611686018427387904 := by omega
theorem mea_p {i n most : Nat} (h : i < n) (h2 : n ≤ most) : most + 2 - (i + 1) < most + 2 - i := by omega
/-! ### what is made of two ends, out of four -/
theorem opP_t (y : Bool) {h : Nat} (hh : h < 4) : (bools [y, true, !y, !(true == y)])[h]? = some (.bool (opP ((h : Int) + 1) true y)) := by
 have hc : h = 0 ∨ h = 1 ∨ h = 2 ∨ h = 3 := by omega
 rcases hc with rfl | rfl | rfl | rfl <;> cases y <;> rfl
theorem opP_f (y : Bool) {h : Nat} (hh : h < 4) : (bools [false, y, false, !(false == y)])[h]? = some (.bool (opP ((h : Int) + 1) false y)) := by
 have hc : h = 0 ∨ h = 1 ∨ h = 2 ∨ h = 3 := by omega
 rcases hc with rfl | rfl | rfl | rfl <;> cases y <;> rfl
/-! ### what a budget means -/
theorem bud_over {D E : Dm} {L : List (Nat × Nat)} {i most : Nat} (hl : L.length ≤ (QPr D E i).length) (h : most < L.length) : ∀ n, FitPr D E n → most < n := fun n hn =>
 Nat.lt_of_lt_of_le h (Nat.le_trans hl (fit_most hn i))
theorem prd_is {D E : Dm} {how : Int} {i : Nat} : prdN D E how i = ⟨ctab (psP D E) 256, rowsI (fG (psP D E) (gP D E)) (QPr D E i) i, endsI (endP D E how) (QPr D E i) i⟩ := rfl
theorem fG_at {D E : Dm} {x : Nat × Nat} {k b : Nat} (h : (firstJ (psP D E) 256)[k]? = some b) : (fG (psP D E) (gP D E) x)[k]? = some (stC D x.1 (clB D b), stC E x.2 (clB E b)) := by
 have hb := firstJ_lt _ 256 b (List.mem_of_getElem? h)
 unfold fG
 rw [List.getElem?_map, h, Option.map_some]
 unfold gP
 rw [stD_clB D _ hb, stD_clB E _ hb]
end Go.Proofs.Ytaakdebcagdfgaa
