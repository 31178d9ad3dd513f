/-
  Texts of this proof, put together: PyC, LgA, PlBa, PrP, LgB. No statement is proved here.
-/
import Derived.Test.YtopnpdobcagcgaaGreatML
import Derived.Test.YtopnpdobcagcgaaGreatMK
import Derived.Test.YtopnpdobcagcgaaGreatMJ
namespace Go.Proofs.YtopnpdobcagcgaaGreat
open Go.RowKit
set_option linter.unusedSimpArgs false
set_option linter.unusedVariables false
def rxP (ps : List UInt8) : Nat → Nat → Nat → T × Nat
 | 0, _, n => (noneT, n)
 | N + 1, deep, n =>
  if ps.length ≤ numN ps n ∨ 8 < deep ∨ numV ps n 9 < 3 then
   if ps.length ≤ numN ps n ∨ 0 < numV ps n 9 then (bytesT (setP ps (numN ps n)).1, (setP ps (numN ps n)).2)
   else if numV ps (numN ps n) 3 = 0 then (noneT, numN ps (numN ps n)) else (emptyT, numN ps (numN ps n))
  else if numV ps n 9 < 6 then (catT [(rxP ps N (deep + 1) (numN ps n)).1, (rxP ps N (deep + 1) (rxP ps N (deep + 1) (numN ps n)).2).1], (rxP ps N (deep + 1) (rxP ps N (deep + 1) (numN ps n)).2).2)
  else if numV ps n 9 < 8 then (altT [(rxP ps N (deep + 1) (numN ps n)).1, (rxP ps N (deep + 1) (rxP ps N (deep + 1) (numN ps n)).2).1], (rxP ps N (deep + 1) (rxP ps N (deep + 1) (numN ps n)).2).2)
  else (starT (rxP ps N (deep + 1) (numN ps n)).1, (rxP ps N (deep + 1) (numN ps n)).2)
theorem good_none : good noneT := good_node.2 ⟨can_zero, by simp, .inr rfl, by simp [countT], by simp, by simp⟩
theorem good_empty : good emptyT := good_node.2 ⟨can_zero, by simp, .inr rfl, by simp [countT], by simp, by simp⟩
theorem good_bytes {s : Nat → Bool} (h : canS s) : good (bytesT s) := by
 unfold bytesT
 cases hs : eqS s zeroS with
 | true => exact good_none
 | false => exact good_set h hs
theorem good_cat {l : List T} (h : ∀ t ∈ l, good t) : good (catT l) := by
 have hfg := good_flat (k := 4) h
 have hfk := flat_kind (k := 4) (.inl rfl) h
 unfold catT
 cases ha : anyK 1 (flatT 4 l) with
 | true => exact good_none
 | false =>
  rw [if_neg (by simp)]
  have hw : ∀ t ∈ withoutT 2 (flatT 4 l), good t ∧ t.kind ≠ 2 ∧ t.kind ≠ 1 ∧ t.kind ≠ 4 := fun t ht => by
   have hm := (List.mem_filter.1 ht).1
   refine ⟨hfg t hm, without_kind t ht, fun h1 => ?_, hfk t hm⟩
   have : anyK 1 (flatT 4 l) = true := List.any_eq_true.2 ⟨t, hm, by simpa using h1⟩
   rw [ha] at this
   cases this
  match hm : withoutT 2 (flatT 4 l) with
  | [] => exact good_empty
  | [t] => exact (hw t (by rw [hm]; simp)).1
  | a :: b :: r =>
   rw [hm] at hw
   refine good_node.2 ⟨can_zero, fun t ht => (hw t ht).1, .inr rfl, by simp [countT], fun t ht => ?_, fun h5 => by omega⟩
   obtain ⟨_, k2, k1, k4⟩ := hw t ht
   unfold fitsT
   rw [if_neg k2]
   simp [k1, k4]
theorem good_alt {l : List T} (h : ∀ t ∈ l, good t) : good (altT l) := by
 have hfg := good_flat (k := 5) h
 have hfk := flat_kind (k := 5) (.inr rfl) h
 have hwg := good_without (k := 1) hfg
 have hig := good_items hwg
 have hik : ∀ t ∈ itemsT (withoutT 1 (flatT 5 l)), t.kind ≠ 5 ∧ t.kind ≠ 1 ∧ (t.kind = 3 → t = .node 3 (orT (withoutT 1 (flatT 5 l))) []) := fun t ht => by
  unfold itemsT at ht
  rcases List.mem_append.1 ht with ht | ht
  ·have h3 := without_kind t ht
   have ht2 := (List.mem_filter.1 ht).1
   exact ⟨hfk t (List.mem_filter.1 ht2).1, without_kind t ht2, fun h => absurd h h3⟩
  ·split at ht
   ·cases ht
   ·obtain rfl := List.mem_singleton.1 ht
    exact ⟨by show (3 : Int) ≠ 5; omega, by show (3 : Int) ≠ 1; omega, fun _ => rfl⟩
 have hasc := sortU_asc (itemsT (withoutT 1 (flatT 5 l)))
 have hmem := fun t => sortU_mem hig t
 unfold altT
 obtain ⟨m, hm⟩ : ∃ m, m = sortU (itemsT (withoutT 1 (flatT 5 l))) := ⟨_, rfl⟩
 rw [← hm] at hasc hmem ⊢
 match m, hasc, hmem with
 | [], _, _ => exact good_none
 | [t], _, hmem => exact hig t ((hmem t).1 (by simp))
 | a :: b :: r, hasc, hmem =>
  refine good_node.2 ⟨can_zero, fun t ht => hig t ((hmem t).1 ht), .inr rfl, by simp [countT], fun t ht => ?_, fun _ => ascF_of _ (List.Pairwise.imp_of_mem (fun {x y} hx hy hxy => ⟨hxy, fun hk => ?_⟩) hasc)⟩
  ·obtain ⟨k5, k1, _⟩ := hik t ((hmem t).1 ht)
   unfold fitsT
   split
   ·rfl
   ·simp [k1, k5]
  ·have e1 := (hik x ((hmem x).1 hx)).2.2 hk.2
   have e2 := (hik y ((hmem y).1 hy)).2.2 hk.1
   rw [e1, e2, cmpT_self] at hxy
   omega
theorem good_args {r : T} (h : good r) : ∀ t ∈ r.args, good t := by
 cases r with
 | node k s l => exact (good_node.1 h).2.1
theorem good_star1 {r : T} (h : good r) : good (star1T r) := by
 unfold star1T
 split
 ·exact h
 ·split
  ·exact good_empty
  ·rename_i h6 h12
   refine good_node.2 ⟨can_zero, fun t ht => ?_, .inr rfl, by simp [countT], fun t ht => ?_, fun h5 => by omega⟩
   ·obtain rfl := List.mem_singleton.1 ht
    exact h
   ·obtain rfl := List.mem_singleton.1 ht
    unfold fitsT
    rw [if_neg (fun h2 => h12 (.inr h2))]
    simp [h6]
    exact fun h1 => h12 (.inl h1)
theorem good_star {r : T} (h : good r) : good (starT r) := by
 unfold starT
 split
 ·exact good_star1 (good_alt fun t ht => good_args h t (List.mem_filter.1 ht).1)
 ·exact good_star1 h
theorem star1_nodes (r : T) : (star1T r).nodes ≤ r.nodes + 1 := by
 have hp := nodes_pos r
 unfold star1T
 split
 ·omega
 ·split
  ·show (1 : Nat) ≤ _
   omega
  ·simp only [T.nodes, nodesL]; omega
theorem star_nodes (r : T) : (starT r).nodes ≤ r.nodes + 4 := by
 unfold starT
 split
 ·have h1 := star1_nodes (altT (withoutT 2 r.args))
  have h2 := altT_nodes (withoutT 2 r.args)
  have h3 := withoutT_nodes 2 r.args
  have h4 : nodesL r.args ≤ r.nodes := by
   cases r with
   | node k s l => simp only [T.args, T.nodes]; omega
  omega
 ·have := star1_nodes r
  omega
theorem rxP_good (ps : List UInt8) : ∀ N deep n, good (rxP ps N deep n).1
 | 0, _, _ => good_none
 | N + 1, deep, n => by
  have h1 := rxP_good ps N (deep + 1) (numN ps n)
  have h2 := rxP_good ps N (deep + 1) (rxP ps N (deep + 1) (numN ps n)).2
  have h12 : ∀ t ∈ [(rxP ps N (deep + 1) (numN ps n)).1, (rxP ps N (deep + 1) (rxP ps N (deep + 1) (numN ps n)).2).1], good t := fun t ht => by
   simp only [List.mem_cons, List.not_mem_nil, or_false] at ht
   rcases ht with rfl | rfl
   ·exact h1
   ·exact h2
  simp only [rxP]
  split
  ·split
   ·exact good_bytes (setP_can _ _)
   ·split
    ·exact good_none
    ·exact good_empty
  ·split
   ·exact good_cat h12
   ·split
    ·exact good_alt h12
    ·exact good_star h1
theorem rxP_nodes (ps : List UInt8) : ∀ N deep n, (rxP ps N deep n).1.nodes + 5 ≤ 6 * 2 ^ N
 | 0, _, _ => by show 1 + 5 ≤ 6 * 2 ^ 0; omega
 | N + 1, deep, n => by
  have h1 := rxP_nodes ps N (deep + 1) (numN ps n)
  have h2 := rxP_nodes ps N (deep + 1) (rxP ps N (deep + 1) (numN ps n)).2
  have hp : 1 ≤ 2 ^ N := Nat.one_le_two_pow
  have e : 2 ^ (N + 1) = 2 * 2 ^ N := by rw [Nat.pow_succ, Nat.mul_comm]
  have hc := catT_nodes [(rxP ps N (deep + 1) (numN ps n)).1, (rxP ps N (deep + 1) (rxP ps N (deep + 1) (numN ps n)).2).1]
  have ha := altT_nodes [(rxP ps N (deep + 1) (numN ps n)).1, (rxP ps N (deep + 1) (rxP ps N (deep + 1) (numN ps n)).2).1]
  have hs := star_nodes (rxP ps N (deep + 1) (numN ps n)).1
  simp only [nodesL] at hc ha
  rw [e]
  simp only [rxP]
  split
  ·split
   ·show (bytesT _).nodes + 5 ≤ _
    unfold bytesT
    split
    ·show 1 + 5 ≤ _; omega
    ·show 1 + 0 + 5 ≤ _; omega
   ·split
    ·show 1 + 5 ≤ _; omega
    ·show 1 + 5 ≤ _; omega
  ·split
   ·show (catT _).nodes + 5 ≤ _; omega
   ·split
    ·show (altT _).nodes + 5 ≤ _; omega
    ·show (starT _).nodes + 5 ≤ _; omega
inductive StarL (P : List UInt8 → Prop) : List UInt8 → Prop
 | nil : StarL P []
 | app {u v : List UInt8} : P u → StarL P v → StarL P (u ++ v)
mutual
def Lg : T → List UInt8 → Prop
 | .node k s l, w => if k = 2 then w = [] else if k = 3 then ∃ b : UInt8, w = [b] ∧ s b.toNat = true else if k = 4 then LgC l w else if k = 5 then LgA l w else if k = 6 then StarL (LgO l) w else False
def LgC : List T → List UInt8 → Prop
 | [], w => w = []
 | t :: r, w => ∃ u v, w = u ++ v ∧ Lg t u ∧ LgC r v
def LgA : List T → List UInt8 → Prop
 | [], _ => False
 | t :: r, w => Lg t w ∨ LgA r w
def LgO : List T → List UInt8 → Prop
 | [], _ => False
 | t :: r, w => r.length = 0 ∧ Lg t w
end
theorem lg_set {s : Nat → Bool} {l : List T} {w : List UInt8} : Lg (.node 3 s l) w ↔ ∃ b : UInt8, w = [b] ∧ s b.toNat = true := by
 rw [Lg, if_neg (by omega), if_pos rfl]
theorem lg_cat {s : Nat → Bool} {l : List T} {w : List UInt8} : Lg (.node 4 s l) w ↔ LgC l w := by
 rw [Lg, if_neg (by omega), if_neg (by omega), if_pos rfl]
theorem lg_alt {s : Nat → Bool} {l : List T} {w : List UInt8} : Lg (.node 5 s l) w ↔ LgA l w := by
 rw [Lg, if_neg (by omega), if_neg (by omega), if_neg (by omega), if_pos rfl]
theorem lg_star {s : Nat → Bool} {l : List T} {w : List UInt8} : Lg (.node 6 s l) w ↔ StarL (LgO l) w := by
 rw [Lg, if_neg (by omega), if_neg (by omega), if_neg (by omega), if_neg (by omega), if_pos rfl]
theorem lg_k1 {t : T} (h : t.kind = 1) (w : List UInt8) : ¬ Lg t w := by
 cases t with
 | node k s l =>
  have hk : k = 1 := h
  subst hk
  rw [Lg]
  simp
theorem lg_k2 {t : T} (h : t.kind = 2) (w : List UInt8) : Lg t w ↔ w = [] := by
 cases t with
 | node k s l =>
  have hk : k = 2 := h
  subst hk
  rw [Lg, if_pos rfl]
theorem lg_k3 {t : T} (h : t.kind = 3) (w : List UInt8) : Lg t w ↔ ∃ b : UInt8, w = [b] ∧ t.set b.toNat = true := by
 cases t with
 | node k s l =>
  have hk : k = 3 := h
  subst hk
  exact lg_set
theorem lg_k4 {t : T} (h : t.kind = 4) (w : List UInt8) : Lg t w ↔ LgC t.args w := by
 cases t with
 | node k s l =>
  have hk : k = 4 := h
  subst hk
  exact lg_cat
theorem lg_k5 {t : T} (h : t.kind = 5) (w : List UInt8) : Lg t w ↔ LgA t.args w := by
 cases t with
 | node k s l =>
  have hk : k = 5 := h
  subst hk
  exact lg_alt
theorem lg_k6 {t : T} (h : t.kind = 6) (w : List UInt8) : Lg t w ↔ StarL (LgO t.args) w := by
 cases t with
 | node k s l =>
  have hk : k = 6 := h
  subst hk
  exact lg_star
/-! ### sequences -/
theorem lgC_app : ∀ (l m : List T) (w : List UInt8), LgC (l ++ m) w ↔ ∃ u v, w = u ++ v ∧ LgC l u ∧ LgC m v
 | [], m, w => by
  simp only [List.nil_append, LgC]
  constructor
  ·intro h; exact ⟨[], w, rfl, rfl, h⟩
  ·rintro ⟨u, v, rfl, rfl, h⟩; exact h
 | t :: r, m, w => by
  simp only [List.cons_append, LgC]
  constructor
  ·rintro ⟨u, v, rfl, h1, h2⟩
   obtain ⟨a, b, rfl, h3, h4⟩ := (lgC_app r m v).1 h2
   exact ⟨u ++ a, b, by rw [List.append_assoc], ⟨u, a, rfl, h1, h3⟩, h4⟩
  ·rintro ⟨u, v, rfl, ⟨a, b, rfl, h1, h2⟩, h3⟩
   exact ⟨a, b ++ v, by rw [List.append_assoc], h1, (lgC_app r m _).2 ⟨b, v, rfl, h2, h3⟩⟩
theorem lgC_one (t : T) (w : List UInt8) : LgC [t] w ↔ Lg t w := by
 simp only [LgC]
 constructor
 ·rintro ⟨u, v, rfl, h, rfl⟩; rw [List.append_nil]; exact h
 ·intro h; exact ⟨w, [], by simp, h, rfl⟩
theorem lgC_flat : ∀ (l : List T) (w : List UInt8), LgC (flatT 4 l) w ↔ LgC l w
 | [], w => Iff.rfl
 | t :: r, w => by
  have e : flatT 4 (t :: r) = (if t.kind = 4 then t.args else [t]) ++ flatT 4 r := by simp [flatT]
  have h1 : ∀ u, LgC (if t.kind = 4 then t.args else [t]) u ↔ Lg t u := fun u => by
   by_cases h4 : t.kind = 4
   ·rw [if_pos h4, lg_k4 h4]
   ·rw [if_neg h4, lgC_one]
  rw [e, lgC_app]
  simp only [LgC]
  constructor
  ·rintro ⟨u, v, rfl, a, b⟩; exact ⟨u, v, rfl, (h1 u).1 a, (lgC_flat r v).1 b⟩
  ·rintro ⟨u, v, rfl, a, b⟩; exact ⟨u, v, rfl, (h1 u).2 a, (lgC_flat r v).2 b⟩
theorem lgC_without : ∀ (l : List T) (w : List UInt8), LgC (withoutT 2 l) w ↔ LgC l w
 | [], w => Iff.rfl
 | t :: r, w => by
  have ih := lgC_without r
  by_cases h2 : t.kind = 2
  ·have e : withoutT 2 (t :: r) = withoutT 2 r := by simp [withoutT, h2]
   rw [e, ih]
   simp only [LgC]
   constructor
   ·intro h; exact ⟨[], w, rfl, (lg_k2 h2 []).2 rfl, h⟩
   ·rintro ⟨u, v, rfl, a, b⟩
    rw [(lg_k2 h2 u).1 a]
    exact b
  ·have e : withoutT 2 (t :: r) = t :: withoutT 2 r := by simp [withoutT, h2]
   rw [e]
   simp only [LgC]
   constructor
   ·rintro ⟨u, v, rfl, a, b⟩; exact ⟨u, v, rfl, a, (ih v).1 b⟩
   ·rintro ⟨u, v, rfl, a, b⟩; exact ⟨u, v, rfl, a, (ih v).2 b⟩
theorem lgC_none : ∀ (l : List T) (w : List UInt8), anyK 1 l = true → ¬ LgC l w
 | [], w, h => by simp [anyK] at h
 | t :: r, w, h => by
  rintro ⟨u, v, rfl, a, b⟩
  by_cases h1 : t.kind = 1
  ·exact lg_k1 h1 u a
  ·exact lgC_none r v (by simpa [anyK, h1] using h) b
theorem lg_catT (l : List T) (w : List UInt8) : Lg (catT l) w ↔ LgC l w := by
 unfold catT
 cases ha : anyK 1 (flatT 4 l) with
 | true =>
  rw [if_pos rfl]
  have h1 := lg_k1 (t := noneT) rfl w
  have h2 := lgC_none _ w ha
  rw [lgC_flat] at h2
  exact ⟨fun h => absurd h h1, fun h => absurd h h2⟩
 | false =>
  rw [if_neg (by simp), ← lgC_flat l, ← lgC_without (flatT 4 l)]
  match withoutT 2 (flatT 4 l) with
  | [] => exact lg_k2 (t := emptyT) rfl w
  | [t] => exact (lgC_one t w).symm
  | a :: b :: r => exact lg_cat
/-! ### alternatives -/
theorem lgA_mem : ∀ (l : List T) (w : List UInt8), LgA l w ↔ ∃ t ∈ l, Lg t w
 | [], w => by simp [LgA]
 | t :: r, w => by
  simp only [LgA]
  rw [lgA_mem r w]
  simp
theorem lgA_flat (l : List T) (w : List UInt8) : LgA (flatT 5 l) w ↔ LgA l w := by
 rw [lgA_mem, lgA_mem]
 unfold flatT
 constructor
 ·rintro ⟨t, ht, h⟩
  obtain ⟨u, hu, hu2⟩ := List.mem_flatMap.1 ht
  refine ⟨u, hu, ?_⟩
  by_cases h5 : u.kind = 5
  ·rw [if_pos h5] at hu2
   exact (lg_k5 h5 w).2 ((lgA_mem _ w).2 ⟨t, hu2, h⟩)
  ·rw [if_neg h5] at hu2
   obtain rfl := List.mem_singleton.1 hu2
   exact h
 ·rintro ⟨u, hu, h⟩
  by_cases h5 : u.kind = 5
  ·obtain ⟨t, ht, h⟩ := (lgA_mem _ w).1 ((lg_k5 h5 w).1 h)
   exact ⟨t, List.mem_flatMap.2 ⟨u, hu, by rw [if_pos h5]; exact ht⟩, h⟩
  ·exact ⟨u, List.mem_flatMap.2 ⟨u, hu, by rw [if_neg h5]; simp⟩, h⟩
theorem lgA_without (l : List T) (w : List UInt8) : LgA (withoutT 1 l) w ↔ LgA l w := by
 rw [lgA_mem, lgA_mem]
 constructor
 ·rintro ⟨t, ht, h⟩; exact ⟨t, (List.mem_filter.1 ht).1, h⟩
 ·rintro ⟨t, ht, h⟩; exact ⟨t, List.mem_filter.2 ⟨ht, by simp; intro h1; exact lg_k1 h1 w h⟩, h⟩
theorem lgA_items (E : List T) (w : List UInt8) : LgA (itemsT E) w ↔ LgA E w := by
 rw [lgA_mem, lgA_mem]
 unfold itemsT
 constructor
 ·rintro ⟨t, ht, h⟩
  rcases List.mem_append.1 ht with ht | ht
  ·exact ⟨t, (List.mem_filter.1 ht).1, h⟩
  ·split at ht
   ·cases ht
   ·obtain rfl := List.mem_singleton.1 ht
    obtain ⟨b, rfl, hb⟩ := lg_set.1 h
    obtain ⟨u, hu, hu2⟩ := List.any_eq_true.1 (show List.any E (fun t => decide (t.kind = 3) && t.set b.toNat) = true from hb)
    rw [Bool.and_eq_true, decide_eq_true_eq] at hu2
    exact ⟨u, hu, (lg_k3 hu2.1 _).2 ⟨b, rfl, hu2.2⟩⟩
 ·rintro ⟨t, ht, h⟩
  by_cases h3 : t.kind = 3
  ·obtain ⟨b, rfl, hb⟩ := (lg_k3 h3 w).1 h
   have ho : orT E b.toNat = true := List.any_eq_true.2 ⟨t, ht, by simp [h3, hb]⟩
   refine ⟨.node 3 (orT E) [], List.mem_append.2 (.inr ?_), lg_set.2 ⟨b, rfl, ho⟩⟩
   cases he : eqS (orT E) zeroS with
   | true =>
    have := (eqS_iff _ _).1 he b.toNat b.toNat_lt
    rw [ho] at this
    cases this
   | false => simp
  ·exact ⟨t, List.mem_append.2 (.inl (List.mem_filter.2 ⟨ht, by simpa using h3⟩)), h⟩
theorem lg_altT {l : List T} (hg : ∀ t ∈ l, good t) (w : List UInt8) : Lg (altT l) w ↔ LgA l w := by
 have h1 := good_items (good_without (k := 1) (good_flat (k := 5) hg))
 have h2 : LgA (sortU (itemsT (withoutT 1 (flatT 5 l)))) w ↔ LgA l w := by
  rw [← lgA_flat l, ← lgA_without (flatT 5 l), ← lgA_items (withoutT 1 (flatT 5 l)), lgA_mem, lgA_mem]
  constructor
  ·rintro ⟨t, ht, h⟩; exact ⟨t, (sortU_mem h1 t).1 ht, h⟩
  ·rintro ⟨t, ht, h⟩; exact ⟨t, (sortU_mem h1 t).2 ht, h⟩
 rw [← h2]
 unfold altT
 match sortU (itemsT (withoutT 1 (flatT 5 l))) with
 | [] =>
  have h3 := lg_k1 (t := noneT) rfl w
  exact ⟨fun h => absurd h h3, fun h => by cases h⟩
 | [t] => simp [wrapT, LgA]
 | a :: b :: r => exact lg_alt
/-! ### stars -/
theorem starL_mono {P Q : List UInt8 → Prop} (h : ∀ u, P u → StarL Q u) {w : List UInt8} (hw : StarL P w) : StarL Q w := by
 induction hw with
 | nil => exact .nil
 | app hu _ ih =>
  have hq := h _ hu
  clear hu
  induction hq with
  | nil => exact ih
  | app h1 _ ih2 => rw [List.append_assoc]; exact .app h1 ih2
theorem starL_one {P : List UInt8 → Prop} {u : List UInt8} (h : P u) : StarL P u := by
 have := StarL.app h (StarL.nil (P := P))
 rwa [List.append_nil] at this
theorem starL_iff {P Q : List UInt8 → Prop} (h : ∀ u, P u → StarL Q u) (h' : ∀ u, Q u → StarL P u) (w : List UInt8) : StarL P w ↔ StarL Q w := ⟨starL_mono h, starL_mono h'⟩
theorem starL_same {P Q : List UInt8 → Prop} (h : ∀ u, P u ↔ Q u) (w : List UInt8) : StarL P w ↔ StarL Q w :=
 starL_iff (fun u hu => starL_one ((h u).1 hu)) (fun u hu => starL_one ((h u).2 hu)) w
theorem starL_nothing {P : List UInt8 → Prop} (h : ∀ u, P u → u = []) (w : List UInt8) : StarL P w ↔ w = [] := by
 constructor
 ·intro hw
  induction hw with
  | nil => rfl
  | app hu _ ih => rw [h _ hu, ih]; rfl
 ·rintro rfl; exact .nil
theorem lgO_one (t : T) (w : List UInt8) : LgO [t] w ↔ Lg t w := by simp [LgO]
theorem lg_star1 (r : T) (w : List UInt8) : Lg (star1T r) w ↔ StarL (Lg r) w := by
 unfold star1T
 by_cases h6 : r.kind = 6
 ·rw [if_pos h6, lg_k6 h6]
  exact starL_iff (fun u hu => starL_one ((lg_k6 h6 u).2 (starL_one hu))) (fun u hu => (lg_k6 h6 u).1 hu) w
 ·rw [if_neg h6]
  by_cases h12 : r.kind = 1 ∨ r.kind = 2
  ·rw [if_pos h12, lg_k2 (t := emptyT) rfl, starL_nothing]
   intro u hu
   rcases h12 with h | h
   ·exact absurd hu (lg_k1 h u)
   ·exact (lg_k2 h u).1 hu
  ·rw [if_neg h12, lg_star]
   exact starL_same (lgO_one r) w
theorem lg_starT {r : T} (hg : good r) (w : List UInt8) : Lg (starT r) w ↔ StarL (Lg r) w := by
 unfold starT
 split
 ·rename_i h5
  have hga : ∀ t ∈ withoutT 2 r.args, good t := fun t ht => good_args hg t (List.mem_filter.1 ht).1
  rw [lg_star1]
  refine starL_iff (fun u hu => ?_) (fun u hu => ?_) w
  ·obtain ⟨t, ht, h⟩ := (lgA_mem _ u).1 ((lg_altT hga u).1 hu)
   exact starL_one ((lg_k5 h5.1 u).2 ((lgA_mem _ u).2 ⟨t, (List.mem_filter.1 ht).1, h⟩))
  ·obtain ⟨t, ht, h⟩ := (lgA_mem _ u).1 ((lg_k5 h5.1 u).1 hu)
   by_cases h2 : t.kind = 2
   ·rw [(lg_k2 h2 u).1 h]; exact .nil
   ·exact starL_one ((lg_altT hga u).2 ((lgA_mem _ u).2 ⟨t, List.mem_filter.2 ⟨ht, by simpa using h2⟩, h⟩))
 ·exact lg_star1 r w
theorem lg_bytes (s : Nat → Bool) (w : List UInt8) : Lg (bytesT s) w ↔ ∃ b : UInt8, w = [b] ∧ s b.toNat = true := by
 unfold bytesT
 split
 ·rename_i h
  constructor
  ·intro hw; exact absurd hw (lg_k1 (t := noneT) rfl w)
  ·rintro ⟨b, rfl, hb⟩
   have := (eqS_iff _ _).1 h b.toNat b.toNat_lt
   rw [hb] at this
   cases this
 ·exact lg_set
theorem RowT.monoX {B B' : Nat} {w : World} {v : Value} {l : List T} (h : RowT B w v l) (hB : B ≤ B') : RowT B' w v l := RowD.mono (D := fun k => k < B) (D' := fun k => k < B') h fun k hk => Nat.lt_of_lt_of_le hk hB
theorem ld_rxs {ev : Operand → Value} {o : Oper} (x : Operand) (ho : o.op = .load 27 x) {p : Addr} (hx : ev x = .pointer (some p)) {A : Option Addr} {n c : Nat} {W : World} (hc : W.cell? p = some (.slice A n c)) : (execOp ev o).run Tryz.prog W = .ok (.value (.slice A n c)) W := by
 simp only [execOp, ho, hx]
 go_simp
theorem ex_build0 {P : Program} {ev : Operand → Value} {o : Oper} (t : TypeId) (ho : o.op = .build t #[]) {c : Array Value} (hb : P.built t [] = some c) (W : World) : (execOp ev o).run P W = .ok (.value (.agg c)) W := by
 have h := run_build (P := P) W t #[] c (by simpa using hb)
 simp only [execOp, ho, Sem.run_bind, List.map_toArray, List.map_nil, h, Result.andThen_ok, Sem.run_pure]
theorem count12 {k : Int} (hk : k = 1 ∨ k = 2) (s : Nat → Bool) (n : Nat) : countT k s n = decide (n = 0) := by
 unfold countT
 rw [if_neg (by omega), if_pos hk]
theorem count3 (s : Nat → Bool) (n : Nat) : countT 3 s n = (!eqS s zeroS && decide (n = 0)) := by
 unfold countT
 rw [if_pos rfl]
theorem count45 {k : Int} (hk : k = 4 ∨ k = 5) (s : Nat → Bool) (n : Nat) : countT k s n = decide (2 ≤ n) := by
 unfold countT
 rw [if_neg (by omega), if_neg (by omega), if_pos hk]
theorem count6 (s : Nat → Bool) (n : Nat) : countT 6 s n = decide (n = 1) := by
 unfold countT
 simp
theorem count_no {k : Int} (h1 : k ≠ 1) (h2 : k ≠ 2) (h3 : k ≠ 3) (h4 : k ≠ 4) (h5 : k ≠ 5) (h6 : k ≠ 6) (s : Nat → Bool) (n : Nat) : countT k s n = false := by
 unfold countT
 rw [if_neg h3, if_neg (by omega), if_neg (by omega)]
 simp [h6]
theorem fits4 {k : Int} (h : fitsT k 4 = true) : k ≠ 1 ∧ k ≠ 2 ∧ k ≠ 4 := by
 unfold fitsT at h
 by_cases h2 : k = 2
 ·rw [if_pos h2] at h; simp at h
 ·rw [if_neg h2] at h; simp at h; exact ⟨h.1, h2, h.2⟩
theorem fits5 {k : Int} (h : fitsT k 5 = true) : k ≠ 1 ∧ k ≠ 5 := by
 unfold fitsT at h
 by_cases h2 : k = 2
 ·omega
 ·rw [if_neg h2] at h; simp at h; exact h
theorem cat_eq {s : Nat → Bool} {l : List T} (h : good (.node 4 s l)) : catT l = .node 4 s l := by
 obtain ⟨h1, h2, h3, h4, h5, _⟩ := good_node.1 h
 have hl : 2 ≤ l.length := by rw [count45 (.inl rfl)] at h4; simpa using h4
 exact sameT_eq _ _ (good_cat h2).1 h.1 ((cat_same h2 hl h1 (h3.resolve_left (by omega))).2 h5)
theorem alt_eq {s : Nat → Bool} {l : List T} (h : good (.node 5 s l)) : altT l = .node 5 s l := by
 obtain ⟨h1, h2, h3, h4, h5, h6⟩ := good_node.1 h
 have hl : 2 ≤ l.length := by rw [count45 (.inr rfl)] at h4; simpa using h4
 exact sameT_eq _ _ (good_alt h2).1 h.1 ((alt_same h2 hl h1 (h3.resolve_left (by omega))).2 ⟨h5, h6 rfl⟩)
theorem star_one {s : Nat → Bool} {l : List T} (h : good (.node 6 s l)) : ∃ x, l = [x] ∧ s = zeroS := by
 obtain ⟨h1, h2, h3, h4, h5, h6⟩ := good_node.1 h
 rw [count6] at h4
 have h4 : l.length = 1 := by simpa using h4
 match l, h4 with
 | [x], _ => exact ⟨x, rfl, can_eq h1 can_zero (h3.resolve_left (by omega))⟩
theorem leaf_eq {t : T} (h : good t) (hk : t.kind = 1 ∨ t.kind = 2) : t = .node t.kind zeroS [] := by
 cases t with
 | node k s l =>
  obtain ⟨h1, h2, h3, h4, h5, h6⟩ := good_node.1 h
  have hk : k = 1 ∨ k = 2 := hk
  rw [count12 hk] at h4
  have hl : l = [] := List.eq_nil_of_length_eq_zero (by simpa using h4)
  show T.node k s l = .node k zeroS []
  rw [hl, can_eq h1 can_zero (h3.resolve_left (by omega))]
theorem cat_of_one {y : T} (h : good y) (h4 : y.kind ≠ 4) : catT [y] = y := by
 unfold catT
 have hf : flatT 4 [y] = [y] := by simp [flatT, h4]
 rw [hf]
 by_cases h1 : y.kind = 1
 ·rw [if_pos (by simp [anyK, h1]), leaf_eq h (.inl h1), h1]; rfl
 ·rw [if_neg (by simp [anyK, h1])]
  by_cases h2 : y.kind = 2
  ·rw [show withoutT 2 [y] = [] by simp [withoutT, h2], leaf_eq h (.inr h2), h2]; rfl
  ·rw [show withoutT 2 [y] = [y] by simp [withoutT, h2]]; rfl
theorem cat_args {y : T} (h : good y) (h4 : y.kind = 4) : catT y.args = y := by
 cases y with
 | node k s l =>
  have hk : k = 4 := h4
  subst hk
  exact cat_eq h
theorem alt_of_one {x : T} (h : good x) (h5 : x.kind ≠ 5) : altT [x] = x := by
 unfold altT
 have hf : flatT 5 [x] = [x] := by simp [flatT, h5]
 rw [hf]
 by_cases h1 : x.kind = 1
 ·rw [show withoutT 1 [x] = [] by simp [withoutT, h1], leaf_eq h (.inl h1), h1]
  show wrapT 5 noneT (sortU (itemsT [])) = noneT
  rfl
 ·rw [show withoutT 1 [x] = [x] by simp [withoutT, h1]]
  by_cases h3 : x.kind = 3
  ·obtain ⟨e1, e2⟩ := good_three h h3
   have hor : orT [x] = x.set := by
    funext b
    simp [orT, h3]
   unfold itemsT
   rw [hor, e2, show withoutT 3 [x] = [] by simp [withoutT, h3], ← e1]
   rfl
  ·have hor : eqS (orT [x]) zeroS = true := (eqS_iff _ _).2 fun b _ => by simp [orT, h3, zeroS]
   unfold itemsT
   rw [hor, show withoutT 3 [x] = [x] by simp [withoutT, h3]]
   rfl
mutual
def nullT : T → Bool
  | .node k _ l => if k = 2 ∨ k = 6 then true else if k = 4 then nullC l else if k = 5 then nullA l else false
def nullC : List T → Bool
  | [] => true
  | t :: r => nullT t && nullC r
def nullA : List T → Bool
  | [] => false
  | t :: r => nullT t || nullA r
end
mutual
theorem null_iff : ∀ t : T, nullT t = true ↔ Lg t []
  | .node k s l => by
    rw [nullT, Lg]
    by_cases h2 : k = 2
    · simp [h2]
    by_cases h6 : k = 6
    · simp [h6, StarL.nil]
    by_cases h4 : k = 4
    · simp [h4, null_iffC l]
    by_cases h5 : k = 5
    · simp [h5, null_iffA l]
    by_cases h3 : k = 3
    · simp [h3]
    · simp [h2, h3, h4, h5, h6]
theorem null_iffC : ∀ l : List T, nullC l = true ↔ LgC l []
  | [] => by simp [nullC, LgC]
  | t :: r => by
    simp only [nullC, LgC, Bool.and_eq_true, null_iff t, null_iffC r]
    constructor
    · rintro ⟨a, b⟩; exact ⟨[], [], rfl, a, b⟩
    · rintro ⟨u, v, h, a, b⟩
      obtain ⟨rfl, rfl⟩ := List.append_eq_nil_iff.1 h.symm
      exact ⟨a, b⟩
theorem null_iffA : ∀ l : List T, nullA l = true ↔ LgA l []
  | [] => by simp [nullA, LgA]
  | t :: r => by simp only [nullA, LgA, Bool.or_eq_true, null_iff t, null_iffA r]
end
mutual
def someT : T → Bool
  | .node k s l => if k = 2 ∨ k = 6 then true else if k = 3 then !eqS s zeroS else if k = 4 then someC l else if k = 5 then someA l else false
def someC : List T → Bool
  | [] => true
  | t :: r => someT t && someC r
def someA : List T → Bool
  | [] => false
  | t :: r => someT t || someA r
end
mutual
def firstT : T → Nat → Bool
  | .node k s l, b => if k = 3 then s b else if k = 5 ∨ k = 6 ∧ l.length = 1 then firstA l b else if k = 4 then someC l && firstC l b else false
def firstA : List T → Nat → Bool
  | [], _ => false
  | t :: r, b => firstT t b || firstA r b
def firstC : List T → Nat → Bool
  | [], _ => false
  | t :: r, b => firstT t b || (nullT t && firstC r b)
end
theorem starL_cons {P : List UInt8 → Prop} {b : UInt8} {w : List UInt8} : StarL P (b :: w) ↔ ∃ u v, w = u ++ v ∧ P (b :: u) ∧ StarL P v := by
  constructor
  · intro h
    generalize hx : b :: w = x at h
    induction h generalizing b w with
    | nil => cases hx
    | @app u v hu hv ih =>
      cases u with
      | nil => exact ih hx
      | cons c u =>
        injection hx with h1 h2
        subst h1
        exact ⟨u, v, h2, hu, hv⟩
  · rintro ⟨u, v, rfl, hu, hv⟩
    exact StarL.app hu hv
theorem cat_cons {P Q : List UInt8 → Prop} {b : UInt8} {w : List UInt8} : (∃ u v, b :: w = u ++ v ∧ P u ∧ Q v) ↔ (P [] ∧ Q (b :: w)) ∨ ∃ u v, w = u ++ v ∧ P (b :: u) ∧ Q v := by
  constructor
  · rintro ⟨u, v, h, hp, hq⟩
    cases u with
    | nil =>
      have h : b :: w = v := h
      subst h
      exact .inl ⟨hp, hq⟩
    | cons c u =>
      injection h with h1 h2
      subst h1
      exact .inr ⟨u, v, h2, hp, hq⟩
  · rintro (⟨hp, hq⟩ | ⟨u, v, rfl, hp, hq⟩)
    · exact ⟨[], b :: w, rfl, hp, hq⟩
    · exact ⟨b :: u, v, rfl, hp, hq⟩
def stepF : Nat → T → Nat → T
  | 0, _, _ => noneT
  | N + 1, t, b =>
    if t.kind = 3 then (if t.set b then emptyT else noneT)
    else if t.kind = 5 then altT (t.args.map fun x => stepF N x b)
    else if t.kind = 6 then catT [stepF N (t.args.headD noneT) b, t]
    else if t.kind = 4 then
      (if nullT (t.args.headD noneT) then altT [catT [stepF N (t.args.headD noneT) b, catT t.args.tail], stepF N (catT t.args.tail) b]
       else catT [stepF N (t.args.headD noneT) b, catT t.args.tail])
    else noneT
theorem tail_cat {a : T} {s : Nat → Bool} {l : List T} (h : good (.node 4 s (a :: l))) : good (catT l) ∧ (catT l).nodes < (T.node 4 s (a :: l)).nodes ∧ (catT l).depth ≤ (T.node 4 s (a :: l)).depth := by
  obtain ⟨h1, h2, h3, h4, h5, _⟩ := good_node.1 h
  rw [count45 (.inl rfl)] at h4
  have h4 : 2 ≤ (a :: l).length := by simpa using h4
  have hp := nodes_pos a
  match l, h2, h4, h5 with
  | [x], h2, _, h5 =>
    have hx := h2 x (by simp)
    rw [cat_of_one hx (fits4 (h5 x (by simp))).2.2]
    refine ⟨hx, ?_, ?_⟩
    · simp only [T.nodes, nodesL]; omega
    · simp only [T.depth, depthL]; omega
  | x :: y :: r, h2, _, h5 =>
    have hg : good (.node 4 zeroS (x :: y :: r)) := good_node.2 ⟨can_zero, fun t ht => h2 t (List.mem_cons_of_mem _ ht), .inr rfl, by simp [countT], fun t ht => h5 t (List.mem_cons_of_mem _ ht), fun h => by omega⟩
    rw [cat_eq hg]
    refine ⟨hg, ?_, ?_⟩
    · simp only [T.nodes, nodesL]; omega
    · simp only [T.depth, depthL]; omega
theorem step_lg : ∀ (N : Nat) (t : T), t.nodes ≤ N → good t → ∀ b : UInt8, good (stepF N t b.toNat) ∧ ∀ w, Lg (stepF N t b.toNat) w ↔ Lg t (b :: w) := by
  intro N
  induction N with
  | zero => intro t h; have := nodes_pos t; omega
  | succ N ih =>
    rintro ⟨k, s, l⟩ hN hg b
    have hgl := (good_node.1 hg).2.1
    have hnl : ∀ t ∈ l, t.nodes ≤ N := fun t ht => by
      have := nodes_mem (l := l) ht
      simp only [T.nodes] at hN
      omega
    rw [stepF]
    show good (if k = 3 then _ else _) ∧ ∀ w, Lg (if k = 3 then _ else _) w ↔ _
    by_cases h3 : k = 3
    · subst h3
      rw [if_pos rfl]
      show good (if s b.toNat = true then emptyT else noneT) ∧ ∀ w, Lg (if s b.toNat = true then emptyT else noneT) w ↔ _
      by_cases hs : s b.toNat = true
      · rw [if_pos hs]
        refine ⟨good_empty, fun w => ?_⟩
        rw [lg_k2 (t := emptyT) rfl, lg_set]
        constructor
        · rintro rfl; exact ⟨b, rfl, hs⟩
        · rintro ⟨c, hc, _⟩; injection hc
      · rw [if_neg hs]
        refine ⟨good_none, fun w => ?_⟩
        rw [lg_set]
        constructor
        · intro h; exact absurd h (lg_k1 (t := noneT) rfl w)
        · rintro ⟨c, hc, h⟩
          injection hc with h1 _
          subst h1
          exact absurd h hs
    rw [if_neg h3]
    show good (if k = 5 then _ else _) ∧ ∀ w, Lg (if k = 5 then _ else _) w ↔ _
    by_cases h5 : k = 5
    · subst h5
      rw [if_pos rfl]
      show good (altT (l.map fun x => stepF N x b.toNat)) ∧ ∀ w, Lg (altT (l.map fun x => stepF N x b.toNat)) w ↔ _
      have hgm : ∀ t ∈ l.map (fun x => stepF N x b.toNat), good t := fun t ht => by
        obtain ⟨x, hx, rfl⟩ := List.mem_map.1 ht
        exact (ih x (hnl x hx) (hgl x hx) b).1
      refine ⟨good_alt hgm, fun w => ?_⟩
      rw [lg_altT hgm, lg_alt, lgA_mem, lgA_mem]
      constructor
      · rintro ⟨t, ht, h⟩
        obtain ⟨x, hx, rfl⟩ := List.mem_map.1 ht
        exact ⟨x, hx, ((ih x (hnl x hx) (hgl x hx) b).2 w).1 h⟩
      · rintro ⟨x, hx, h⟩
        exact ⟨_, List.mem_map.2 ⟨x, hx, rfl⟩, ((ih x (hnl x hx) (hgl x hx) b).2 w).2 h⟩
    rw [if_neg h5]
    show good (if k = 6 then _ else _) ∧ ∀ w, Lg (if k = 6 then _ else _) w ↔ _
    by_cases h6 : k = 6
    · subst h6
      obtain ⟨x, rfl, hs⟩ := star_one hg
      rw [if_pos rfl]
      show good (catT [stepF N x b.toNat, .node 6 s [x]]) ∧ ∀ w, Lg (catT [stepF N x b.toNat, .node 6 s [x]]) w ↔ _
      obtain ⟨i1, i2⟩ := ih x (hnl x (by simp)) (hgl x (by simp)) b
      refine ⟨good_cat fun t ht => ?_, fun w => ?_⟩
      · simp only [List.mem_cons, List.not_mem_nil, or_false] at ht
        rcases ht with rfl | rfl
        · exact i1
        · exact hg
      · rw [lg_catT, lg_star, starL_cons]
        constructor
        · rintro ⟨u, v, rfl, h1, h2⟩
          rw [lgC_one, lg_star] at h2
          exact ⟨u, v, rfl, (lgO_one x _).2 ((i2 u).1 h1), h2⟩
        · rintro ⟨u, v, rfl, h1, h2⟩
          exact ⟨u, v, rfl, (i2 u).2 ((lgO_one x _).1 h1), (lgC_one _ _).2 (lg_star.2 h2)⟩
    rw [if_neg h6]
    show good (if k = 4 then _ else _) ∧ ∀ w, Lg (if k = 4 then _ else _) w ↔ _
    by_cases h4 : k = 4
    · subst h4
      have hc := (good_node.1 hg).2.2.2.1
      rw [count45 (.inl rfl)] at hc
      have hc : 2 ≤ l.length := by simpa using hc
      cases l with
      | nil => simp at hc
      | cons a l =>
        obtain ⟨j1, j2, _⟩ := tail_cat hg
        obtain ⟨i1, i2⟩ := ih a (hnl a (by simp)) (hgl a (by simp)) b
        obtain ⟨k1, k2⟩ := ih (catT l) (by omega) j1 b
        have hx : ∀ t ∈ [stepF N a b.toNat, catT l], good t := fun t ht => by
          simp only [List.mem_cons, List.not_mem_nil, or_false] at ht
          rcases ht with rfl | rfl
          · exact i1
          · exact j1
        have hxw : ∀ w, Lg (catT [stepF N a b.toNat, catT l]) w ↔ ∃ u v, w = u ++ v ∧ Lg a (b :: u) ∧ LgC l v := fun w => by
          rw [lg_catT]
          constructor
          · rintro ⟨u, v, rfl, h1, h2⟩
            rw [lgC_one, lg_catT] at h2
            exact ⟨u, v, rfl, (i2 u).1 h1, h2⟩
          · rintro ⟨u, v, rfl, h1, h2⟩
            exact ⟨u, v, rfl, (i2 u).2 h1, (lgC_one _ _).2 ((lg_catT l v).2 h2)⟩
        have hbig : ∀ w, Lg (.node 4 s (a :: l)) (b :: w) ↔ (Lg a [] ∧ LgC l (b :: w)) ∨ ∃ u v, w = u ++ v ∧ Lg a (b :: u) ∧ LgC l v := fun w => by
          rw [lg_cat]
          exact cat_cons
        rw [if_pos rfl]
        show good (if nullT a = true then altT [catT [stepF N a b.toNat, catT l], stepF N (catT l) b.toNat] else catT [stepF N a b.toNat, catT l]) ∧ ∀ w, Lg (if nullT a = true then altT [catT [stepF N a b.toNat, catT l], stepF N (catT l) b.toNat] else catT [stepF N a b.toNat, catT l]) w ↔ _
        by_cases hn : nullT a = true
        · have hy : ∀ t ∈ [catT [stepF N a b.toNat, catT l], stepF N (catT l) b.toNat], good t := fun t ht => by
            simp only [List.mem_cons, List.not_mem_nil, or_false] at ht
            rcases ht with rfl | rfl
            · exact good_cat hx
            · exact k1
          rw [if_pos hn]
          refine ⟨good_alt hy, fun w => ?_⟩
          rw [lg_altT hy, hbig]
          simp only [LgA, or_false]
          rw [hxw, k2, lg_catT]
          have h0 := (null_iff a).1 hn
          constructor
          · rintro (h | h)
            · exact .inr h
            · exact .inl ⟨h0, h⟩
          · rintro (⟨_, h⟩ | h)
            · exact .inr h
            · exact .inl h
        · rw [if_neg hn]
          refine ⟨good_cat hx, fun w => ?_⟩
          rw [hxw, hbig]
          constructor
          · intro h; exact .inr h
          · rintro (⟨h, _⟩ | h)
            · exact absurd ((null_iff a).2 h) hn
            · exact h
    rw [if_neg h4]
    refine ⟨good_none, fun w => ⟨fun h => absurd h (lg_k1 (t := noneT) rfl w), fun h => ?_⟩⟩
    rw [Lg] at h
    by_cases h2 : k = 2
    · rw [if_pos h2] at h; cases h
    · rw [if_neg h2, if_neg h3, if_neg h4, if_neg h5, if_neg h6] at h
      exact h.elim
end Go.Proofs.YtopnpdobcagcgaaGreat
