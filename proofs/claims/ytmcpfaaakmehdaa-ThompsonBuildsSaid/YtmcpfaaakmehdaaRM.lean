/-
  Texts of this proof, put together: PyC, LgA, ThA, TbA. No statement is proved here.
-/
import Derived.Test.YtmcpfaaakmehdaaRL
import Derived.Test.YtmcpfaaakmehdaaRK
import Derived.Test.YtmcpfaaakmehdaaRE
namespace Go.Proofs.Ytmcpfaaakmehdaa
open Go.RowKit
set_option linter.unusedSimpArgs false
set_option linter.unusedVariables false
def rxP (ps : List UInt8) : Nat → Nat → Nat → T × Nat
 | 0, _, n => (noneT, n)
 | N + 1, deep, n =>
  if ps.length ≤ numN ps n ∨ 8 < deep ∨ numV ps n 9 < 3 then
   if ps.length ≤ numN ps n ∨ 0 < numV ps n 9 then (bytesT (setP ps (numN ps n)).1, (setP ps (numN ps n)).2)
   else if numV ps (numN ps n) 3 = 0 then (noneT, numN ps (numN ps n)) else (emptyT, numN ps (numN ps n))
  else if numV ps n 9 < 6 then (catT [(rxP ps N (deep + 1) (numN ps n)).1, (rxP ps N (deep + 1) (rxP ps N (deep + 1) (numN ps n)).2).1], (rxP ps N (deep + 1) (rxP ps N (deep + 1) (numN ps n)).2).2)
  else if numV ps n 9 < 8 then (altT [(rxP ps N (deep + 1) (numN ps n)).1, (rxP ps N (deep + 1) (rxP ps N (deep + 1) (numN ps n)).2).1], (rxP ps N (deep + 1) (rxP ps N (deep + 1) (numN ps n)).2).2)
  else (starT (rxP ps N (deep + 1) (numN ps n)).1, (rxP ps N (deep + 1) (numN ps n)).2)
theorem good_none : good noneT := good_node.2 ⟨can_zero, by simp, .inr rfl, by simp [countT], by simp, by simp⟩
theorem good_empty : good emptyT := good_node.2 ⟨can_zero, by simp, .inr rfl, by simp [countT], by simp, by simp⟩
theorem good_bytes {s : Nat → Bool} (h : canS s) : good (bytesT s) := by
 unfold bytesT
 cases hs : eqS s zeroS with
 | true => exact good_none
 | false => exact good_set h hs
theorem good_cat {l : List T} (h : ∀ t ∈ l, good t) : good (catT l) := by
 have hfg := good_flat (k := 4) h
 have hfk := flat_kind (k := 4) (.inl rfl) h
 unfold catT
 cases ha : anyK 1 (flatT 4 l) with
 | true => exact good_none
 | false =>
  rw [if_neg (by simp)]
  have hw : ∀ t ∈ withoutT 2 (flatT 4 l), good t ∧ t.kind ≠ 2 ∧ t.kind ≠ 1 ∧ t.kind ≠ 4 := fun t ht => by
   have hm := (List.mem_filter.1 ht).1
   refine ⟨hfg t hm, without_kind t ht, fun h1 => ?_, hfk t hm⟩
   have : anyK 1 (flatT 4 l) = true := List.any_eq_true.2 ⟨t, hm, by simpa using h1⟩
   rw [ha] at this
   cases this
  match hm : withoutT 2 (flatT 4 l) with
  | [] => exact good_empty
  | [t] => exact (hw t (by rw [hm]; simp)).1
  | a :: b :: r =>
   rw [hm] at hw
   refine good_node.2 ⟨can_zero, fun t ht => (hw t ht).1, .inr rfl, by simp [countT], fun t ht => ?_, fun h5 => by omega⟩
   obtain ⟨_, k2, k1, k4⟩ := hw t ht
   unfold fitsT
   rw [if_neg k2]
   simp [k1, k4]
theorem good_alt {l : List T} (h : ∀ t ∈ l, good t) : good (altT l) := by
 have hfg := good_flat (k := 5) h
 have hfk := flat_kind (k := 5) (.inr rfl) h
 have hwg := good_without (k := 1) hfg
 have hig := good_items hwg
 have hik : ∀ t ∈ itemsT (withoutT 1 (flatT 5 l)), t.kind ≠ 5 ∧ t.kind ≠ 1 ∧ (t.kind = 3 → t = .node 3 (orT (withoutT 1 (flatT 5 l))) []) := fun t ht => by
  unfold itemsT at ht
  rcases List.mem_append.1 ht with ht | ht
  ·have h3 := without_kind t ht
   have ht2 := (List.mem_filter.1 ht).1
   exact ⟨hfk t (List.mem_filter.1 ht2).1, without_kind t ht2, fun h => absurd h h3⟩
  ·split at ht
   ·cases ht
   ·obtain rfl := List.mem_singleton.1 ht
    exact ⟨by show (3 : Int) ≠ 5; omega, by show (3 : Int) ≠ 1; omega, fun _ => rfl⟩
 have hasc := sortU_asc (itemsT (withoutT 1 (flatT 5 l)))
 have hmem := fun t => sortU_mem hig t
 unfold altT
 obtain ⟨m, hm⟩ : ∃ m, m = sortU (itemsT (withoutT 1 (flatT 5 l))) := ⟨_, rfl⟩
 rw [← hm] at hasc hmem ⊢
 match m, hasc, hmem with
 | [], _, _ => exact good_none
 | [t], _, hmem => exact hig t ((hmem t).1 (by simp))
 | a :: b :: r, hasc, hmem =>
  refine good_node.2 ⟨can_zero, fun t ht => hig t ((hmem t).1 ht), .inr rfl, by simp [countT], fun t ht => ?_, fun _ => ascF_of _ (List.Pairwise.imp_of_mem (fun {x y} hx hy hxy => ⟨hxy, fun hk => ?_⟩) hasc)⟩
  ·obtain ⟨k5, k1, _⟩ := hik t ((hmem t).1 ht)
   unfold fitsT
   split
   ·rfl
   ·simp [k1, k5]
  ·have e1 := (hik x ((hmem x).1 hx)).2.2 hk.2
   have e2 := (hik y ((hmem y).1 hy)).2.2 hk.1
   rw [e1, e2, cmpT_self] at hxy
   omega
theorem good_args {r : T} (h : good r) : ∀ t ∈ r.args, good t := by
 cases r with
 | node k s l => exact (good_node.1 h).2.1
theorem good_star1 {r : T} (h : good r) : good (star1T r) := by
 unfold star1T
 split
 ·exact h
 ·split
  ·exact good_empty
  ·rename_i h6 h12
   refine good_node.2 ⟨can_zero, fun t ht => ?_, .inr rfl, by simp [countT], fun t ht => ?_, fun h5 => by omega⟩
   ·obtain rfl := List.mem_singleton.1 ht
    exact h
   ·obtain rfl := List.mem_singleton.1 ht
    unfold fitsT
    rw [if_neg (fun h2 => h12 (.inr h2))]
    simp [h6]
    exact fun h1 => h12 (.inl h1)
theorem good_star {r : T} (h : good r) : good (starT r) := by
 unfold starT
 split
 ·exact good_star1 (good_alt fun t ht => good_args h t (List.mem_filter.1 ht).1)
 ·exact good_star1 h
theorem star1_nodes (r : T) : (star1T r).nodes ≤ r.nodes + 1 := by
 have hp := nodes_pos r
 unfold star1T
 split
 ·omega
 ·split
  ·show (1 : Nat) ≤ _
   omega
  ·simp only [T.nodes, nodesL]; omega
theorem star_nodes (r : T) : (starT r).nodes ≤ r.nodes + 4 := by
 unfold starT
 split
 ·have h1 := star1_nodes (altT (withoutT 2 r.args))
  have h2 := altT_nodes (withoutT 2 r.args)
  have h3 := withoutT_nodes 2 r.args
  have h4 : nodesL r.args ≤ r.nodes := by
   cases r with
   | node k s l => simp only [T.args, T.nodes]; omega
  omega
 ·have := star1_nodes r
  omega
theorem rxP_good (ps : List UInt8) : ∀ N deep n, good (rxP ps N deep n).1
 | 0, _, _ => good_none
 | N + 1, deep, n => by
  have h1 := rxP_good ps N (deep + 1) (numN ps n)
  have h2 := rxP_good ps N (deep + 1) (rxP ps N (deep + 1) (numN ps n)).2
  have h12 : ∀ t ∈ [(rxP ps N (deep + 1) (numN ps n)).1, (rxP ps N (deep + 1) (rxP ps N (deep + 1) (numN ps n)).2).1], good t := fun t ht => by
   simp only [List.mem_cons, List.not_mem_nil, or_false] at ht
   rcases ht with rfl | rfl
   ·exact h1
   ·exact h2
  simp only [rxP]
  split
  ·split
   ·exact good_bytes (setP_can _ _)
   ·split
    ·exact good_none
    ·exact good_empty
  ·split
   ·exact good_cat h12
   ·split
    ·exact good_alt h12
    ·exact good_star h1
theorem rxP_nodes (ps : List UInt8) : ∀ N deep n, (rxP ps N deep n).1.nodes + 5 ≤ 6 * 2 ^ N
 | 0, _, _ => by show 1 + 5 ≤ 6 * 2 ^ 0; omega
 | N + 1, deep, n => by
  have h1 := rxP_nodes ps N (deep + 1) (numN ps n)
  have h2 := rxP_nodes ps N (deep + 1) (rxP ps N (deep + 1) (numN ps n)).2
  have hp : 1 ≤ 2 ^ N := Nat.one_le_two_pow
  have e : 2 ^ (N + 1) = 2 * 2 ^ N := by rw [Nat.pow_succ, Nat.mul_comm]
  have hc := catT_nodes [(rxP ps N (deep + 1) (numN ps n)).1, (rxP ps N (deep + 1) (rxP ps N (deep + 1) (numN ps n)).2).1]
  have ha := altT_nodes [(rxP ps N (deep + 1) (numN ps n)).1, (rxP ps N (deep + 1) (rxP ps N (deep + 1) (numN ps n)).2).1]
  have hs := star_nodes (rxP ps N (deep + 1) (numN ps n)).1
  simp only [nodesL] at hc ha
  rw [e]
  simp only [rxP]
  split
  ·split
   ·show (bytesT _).nodes + 5 ≤ _
    unfold bytesT
    split
    ·show 1 + 5 ≤ _; omega
    ·show 1 + 0 + 5 ≤ _; omega
   ·split
    ·show 1 + 5 ≤ _; omega
    ·show 1 + 5 ≤ _; omega
  ·split
   ·show (catT _).nodes + 5 ≤ _; omega
   ·split
    ·show (altT _).nodes + 5 ≤ _; omega
    ·show (starT _).nodes + 5 ≤ _; omega
inductive StarL (P : List UInt8 → Prop) : List UInt8 → Prop
 | nil : StarL P []
 | app {u v : List UInt8} : P u → StarL P v → StarL P (u ++ v)
mutual
def Lg : T → List UInt8 → Prop
 | .node k s l, w => if k = 2 then w = [] else if k = 3 then ∃ b : UInt8, w = [b] ∧ s b.toNat = true else if k = 4 then LgC l w else if k = 5 then LgA l w else if k = 6 then StarL (LgO l) w else False
def LgC : List T → List UInt8 → Prop
 | [], w => w = []
 | t :: r, w => ∃ u v, w = u ++ v ∧ Lg t u ∧ LgC r v
def LgA : List T → List UInt8 → Prop
 | [], _ => False
 | t :: r, w => Lg t w ∨ LgA r w
def LgO : List T → List UInt8 → Prop
 | [], _ => False
 | t :: r, w => r.length = 0 ∧ Lg t w
end
theorem lg_set {s : Nat → Bool} {l : List T} {w : List UInt8} : Lg (.node 3 s l) w ↔ ∃ b : UInt8, w = [b] ∧ s b.toNat = true := by
 rw [Lg, if_neg (by omega), if_pos rfl]
theorem lg_cat {s : Nat → Bool} {l : List T} {w : List UInt8} : Lg (.node 4 s l) w ↔ LgC l w := by
 rw [Lg, if_neg (by omega), if_neg (by omega), if_pos rfl]
theorem lg_alt {s : Nat → Bool} {l : List T} {w : List UInt8} : Lg (.node 5 s l) w ↔ LgA l w := by
 rw [Lg, if_neg (by omega), if_neg (by omega), if_neg (by omega), if_pos rfl]
theorem lg_star {s : Nat → Bool} {l : List T} {w : List UInt8} : Lg (.node 6 s l) w ↔ StarL (LgO l) w := by
 rw [Lg, if_neg (by omega), if_neg (by omega), if_neg (by omega), if_neg (by omega), if_pos rfl]
theorem lg_k1 {t : T} (h : t.kind = 1) (w : List UInt8) : ¬ Lg t w := by
 cases t with
 | node k s l =>
  have hk : k = 1 := h
  subst hk
  rw [Lg]
  simp
theorem lg_k2 {t : T} (h : t.kind = 2) (w : List UInt8) : Lg t w ↔ w = [] := by
 cases t with
 | node k s l =>
  have hk : k = 2 := h
  subst hk
  rw [Lg, if_pos rfl]
theorem lg_k3 {t : T} (h : t.kind = 3) (w : List UInt8) : Lg t w ↔ ∃ b : UInt8, w = [b] ∧ t.set b.toNat = true := by
 cases t with
 | node k s l =>
  have hk : k = 3 := h
  subst hk
  exact lg_set
theorem lg_k4 {t : T} (h : t.kind = 4) (w : List UInt8) : Lg t w ↔ LgC t.args w := by
 cases t with
 | node k s l =>
  have hk : k = 4 := h
  subst hk
  exact lg_cat
theorem lg_k5 {t : T} (h : t.kind = 5) (w : List UInt8) : Lg t w ↔ LgA t.args w := by
 cases t with
 | node k s l =>
  have hk : k = 5 := h
  subst hk
  exact lg_alt
theorem lg_k6 {t : T} (h : t.kind = 6) (w : List UInt8) : Lg t w ↔ StarL (LgO t.args) w := by
 cases t with
 | node k s l =>
  have hk : k = 6 := h
  subst hk
  exact lg_star
/-! ### sequences -/
theorem lgC_app : ∀ (l m : List T) (w : List UInt8), LgC (l ++ m) w ↔ ∃ u v, w = u ++ v ∧ LgC l u ∧ LgC m v
 | [], m, w => by
  simp only [List.nil_append, LgC]
  constructor
  ·intro h; exact ⟨[], w, rfl, rfl, h⟩
  ·rintro ⟨u, v, rfl, rfl, h⟩; exact h
 | t :: r, m, w => by
  simp only [List.cons_append, LgC]
  constructor
  ·rintro ⟨u, v, rfl, h1, h2⟩
   obtain ⟨a, b, rfl, h3, h4⟩ := (lgC_app r m v).1 h2
   exact ⟨u ++ a, b, by rw [List.append_assoc], ⟨u, a, rfl, h1, h3⟩, h4⟩
  ·rintro ⟨u, v, rfl, ⟨a, b, rfl, h1, h2⟩, h3⟩
   exact ⟨a, b ++ v, by rw [List.append_assoc], h1, (lgC_app r m _).2 ⟨b, v, rfl, h2, h3⟩⟩
theorem lgC_one (t : T) (w : List UInt8) : LgC [t] w ↔ Lg t w := by
 simp only [LgC]
 constructor
 ·rintro ⟨u, v, rfl, h, rfl⟩; rw [List.append_nil]; exact h
 ·intro h; exact ⟨w, [], by simp, h, rfl⟩
theorem lgC_flat : ∀ (l : List T) (w : List UInt8), LgC (flatT 4 l) w ↔ LgC l w
 | [], w => Iff.rfl
 | t :: r, w => by
  have e : flatT 4 (t :: r) = (if t.kind = 4 then t.args else [t]) ++ flatT 4 r := by simp [flatT]
  have h1 : ∀ u, LgC (if t.kind = 4 then t.args else [t]) u ↔ Lg t u := fun u => by
   by_cases h4 : t.kind = 4
   ·rw [if_pos h4, lg_k4 h4]
   ·rw [if_neg h4, lgC_one]
  rw [e, lgC_app]
  simp only [LgC]
  constructor
  ·rintro ⟨u, v, rfl, a, b⟩; exact ⟨u, v, rfl, (h1 u).1 a, (lgC_flat r v).1 b⟩
  ·rintro ⟨u, v, rfl, a, b⟩; exact ⟨u, v, rfl, (h1 u).2 a, (lgC_flat r v).2 b⟩
theorem lgC_without : ∀ (l : List T) (w : List UInt8), LgC (withoutT 2 l) w ↔ LgC l w
 | [], w => Iff.rfl
 | t :: r, w => by
  have ih := lgC_without r
  by_cases h2 : t.kind = 2
  ·have e : withoutT 2 (t :: r) = withoutT 2 r := by simp [withoutT, h2]
   rw [e, ih]
   simp only [LgC]
   constructor
   ·intro h; exact ⟨[], w, rfl, (lg_k2 h2 []).2 rfl, h⟩
   ·rintro ⟨u, v, rfl, a, b⟩
    rw [(lg_k2 h2 u).1 a]
    exact b
  ·have e : withoutT 2 (t :: r) = t :: withoutT 2 r := by simp [withoutT, h2]
   rw [e]
   simp only [LgC]
   constructor
   ·rintro ⟨u, v, rfl, a, b⟩; exact ⟨u, v, rfl, a, (ih v).1 b⟩
   ·rintro ⟨u, v, rfl, a, b⟩; exact ⟨u, v, rfl, a, (ih v).2 b⟩
theorem lgC_none : ∀ (l : List T) (w : List UInt8), anyK 1 l = true → ¬ LgC l w
 | [], w, h => by simp [anyK] at h
 | t :: r, w, h => by
  rintro ⟨u, v, rfl, a, b⟩
  by_cases h1 : t.kind = 1
  ·exact lg_k1 h1 u a
  ·exact lgC_none r v (by simpa [anyK, h1] using h) b
theorem lg_catT (l : List T) (w : List UInt8) : Lg (catT l) w ↔ LgC l w := by
 unfold catT
 cases ha : anyK 1 (flatT 4 l) with
 | true =>
  rw [if_pos rfl]
  have h1 := lg_k1 (t := noneT) rfl w
  have h2 := lgC_none _ w ha
  rw [lgC_flat] at h2
  exact ⟨fun h => absurd h h1, fun h => absurd h h2⟩
 | false =>
  rw [if_neg (by simp), ← lgC_flat l, ← lgC_without (flatT 4 l)]
  match withoutT 2 (flatT 4 l) with
  | [] => exact lg_k2 (t := emptyT) rfl w
  | [t] => exact (lgC_one t w).symm
  | a :: b :: r => exact lg_cat
/-! ### alternatives -/
theorem lgA_mem : ∀ (l : List T) (w : List UInt8), LgA l w ↔ ∃ t ∈ l, Lg t w
 | [], w => by simp [LgA]
 | t :: r, w => by
  simp only [LgA]
  rw [lgA_mem r w]
  simp
theorem lgA_flat (l : List T) (w : List UInt8) : LgA (flatT 5 l) w ↔ LgA l w := by
 rw [lgA_mem, lgA_mem]
 unfold flatT
 constructor
 ·rintro ⟨t, ht, h⟩
  obtain ⟨u, hu, hu2⟩ := List.mem_flatMap.1 ht
  refine ⟨u, hu, ?_⟩
  by_cases h5 : u.kind = 5
  ·rw [if_pos h5] at hu2
   exact (lg_k5 h5 w).2 ((lgA_mem _ w).2 ⟨t, hu2, h⟩)
  ·rw [if_neg h5] at hu2
   obtain rfl := List.mem_singleton.1 hu2
   exact h
 ·rintro ⟨u, hu, h⟩
  by_cases h5 : u.kind = 5
  ·obtain ⟨t, ht, h⟩ := (lgA_mem _ w).1 ((lg_k5 h5 w).1 h)
   exact ⟨t, List.mem_flatMap.2 ⟨u, hu, by rw [if_pos h5]; exact ht⟩, h⟩
  ·exact ⟨u, List.mem_flatMap.2 ⟨u, hu, by rw [if_neg h5]; simp⟩, h⟩
theorem lgA_without (l : List T) (w : List UInt8) : LgA (withoutT 1 l) w ↔ LgA l w := by
 rw [lgA_mem, lgA_mem]
 constructor
 ·rintro ⟨t, ht, h⟩; exact ⟨t, (List.mem_filter.1 ht).1, h⟩
 ·rintro ⟨t, ht, h⟩; exact ⟨t, List.mem_filter.2 ⟨ht, by simp; intro h1; exact lg_k1 h1 w h⟩, h⟩
theorem lgA_items (E : List T) (w : List UInt8) : LgA (itemsT E) w ↔ LgA E w := by
 rw [lgA_mem, lgA_mem]
 unfold itemsT
 constructor
 ·rintro ⟨t, ht, h⟩
  rcases List.mem_append.1 ht with ht | ht
  ·exact ⟨t, (List.mem_filter.1 ht).1, h⟩
  ·split at ht
   ·cases ht
   ·obtain rfl := List.mem_singleton.1 ht
    obtain ⟨b, rfl, hb⟩ := lg_set.1 h
    obtain ⟨u, hu, hu2⟩ := List.any_eq_true.1 (show List.any E (fun t => decide (t.kind = 3) && t.set b.toNat) = true from hb)
    rw [Bool.and_eq_true, decide_eq_true_eq] at hu2
    exact ⟨u, hu, (lg_k3 hu2.1 _).2 ⟨b, rfl, hu2.2⟩⟩
 ·rintro ⟨t, ht, h⟩
  by_cases h3 : t.kind = 3
  ·obtain ⟨b, rfl, hb⟩ := (lg_k3 h3 w).1 h
   have ho : orT E b.toNat = true := List.any_eq_true.2 ⟨t, ht, by simp [h3, hb]⟩
   refine ⟨.node 3 (orT E) [], List.mem_append.2 (.inr ?_), lg_set.2 ⟨b, rfl, ho⟩⟩
   cases he : eqS (orT E) zeroS with
   | true =>
    have := (eqS_iff _ _).1 he b.toNat b.toNat_lt
    rw [ho] at this
    cases this
   | false => simp
  ·exact ⟨t, List.mem_append.2 (.inl (List.mem_filter.2 ⟨ht, by simpa using h3⟩)), h⟩
theorem lg_altT {l : List T} (hg : ∀ t ∈ l, good t) (w : List UInt8) : Lg (altT l) w ↔ LgA l w := by
 have h1 := good_items (good_without (k := 1) (good_flat (k := 5) hg))
 have h2 : LgA (sortU (itemsT (withoutT 1 (flatT 5 l)))) w ↔ LgA l w := by
  rw [← lgA_flat l, ← lgA_without (flatT 5 l), ← lgA_items (withoutT 1 (flatT 5 l)), lgA_mem, lgA_mem]
  constructor
  ·rintro ⟨t, ht, h⟩; exact ⟨t, (sortU_mem h1 t).1 ht, h⟩
  ·rintro ⟨t, ht, h⟩; exact ⟨t, (sortU_mem h1 t).2 ht, h⟩
 rw [← h2]
 unfold altT
 match sortU (itemsT (withoutT 1 (flatT 5 l))) with
 | [] =>
  have h3 := lg_k1 (t := noneT) rfl w
  exact ⟨fun h => absurd h h3, fun h => by cases h⟩
 | [t] => simp [wrapT, LgA]
 | a :: b :: r => exact lg_alt
/-! ### stars -/
theorem starL_mono {P Q : List UInt8 → Prop} (h : ∀ u, P u → StarL Q u) {w : List UInt8} (hw : StarL P w) : StarL Q w := by
 induction hw with
 | nil => exact .nil
 | app hu _ ih =>
  have hq := h _ hu
  clear hu
  induction hq with
  | nil => exact ih
  | app h1 _ ih2 => rw [List.append_assoc]; exact .app h1 ih2
theorem starL_one {P : List UInt8 → Prop} {u : List UInt8} (h : P u) : StarL P u := by
 have := StarL.app h (StarL.nil (P := P))
 rwa [List.append_nil] at this
theorem starL_iff {P Q : List UInt8 → Prop} (h : ∀ u, P u → StarL Q u) (h' : ∀ u, Q u → StarL P u) (w : List UInt8) : StarL P w ↔ StarL Q w := ⟨starL_mono h, starL_mono h'⟩
theorem starL_same {P Q : List UInt8 → Prop} (h : ∀ u, P u ↔ Q u) (w : List UInt8) : StarL P w ↔ StarL Q w :=
 starL_iff (fun u hu => starL_one ((h u).1 hu)) (fun u hu => starL_one ((h u).2 hu)) w
theorem starL_nothing {P : List UInt8 → Prop} (h : ∀ u, P u → u = []) (w : List UInt8) : StarL P w ↔ w = [] := by
 constructor
 ·intro hw
  induction hw with
  | nil => rfl
  | app hu _ ih => rw [h _ hu, ih]; rfl
 ·rintro rfl; exact .nil
theorem lgO_one (t : T) (w : List UInt8) : LgO [t] w ↔ Lg t w := by simp [LgO]
theorem lg_star1 (r : T) (w : List UInt8) : Lg (star1T r) w ↔ StarL (Lg r) w := by
 unfold star1T
 by_cases h6 : r.kind = 6
 ·rw [if_pos h6, lg_k6 h6]
  exact starL_iff (fun u hu => starL_one ((lg_k6 h6 u).2 (starL_one hu))) (fun u hu => (lg_k6 h6 u).1 hu) w
 ·rw [if_neg h6]
  by_cases h12 : r.kind = 1 ∨ r.kind = 2
  ·rw [if_pos h12, lg_k2 (t := emptyT) rfl, starL_nothing]
   intro u hu
   rcases h12 with h | h
   ·exact absurd hu (lg_k1 h u)
   ·exact (lg_k2 h u).1 hu
  ·rw [if_neg h12, lg_star]
   exact starL_same (lgO_one r) w
theorem lg_starT {r : T} (hg : good r) (w : List UInt8) : Lg (starT r) w ↔ StarL (Lg r) w := by
 unfold starT
 split
 ·rename_i h5
  have hga : ∀ t ∈ withoutT 2 r.args, good t := fun t ht => good_args hg t (List.mem_filter.1 ht).1
  rw [lg_star1]
  refine starL_iff (fun u hu => ?_) (fun u hu => ?_) w
  ·obtain ⟨t, ht, h⟩ := (lgA_mem _ u).1 ((lg_altT hga u).1 hu)
   exact starL_one ((lg_k5 h5.1 u).2 ((lgA_mem _ u).2 ⟨t, (List.mem_filter.1 ht).1, h⟩))
  ·obtain ⟨t, ht, h⟩ := (lgA_mem _ u).1 ((lg_k5 h5.1 u).1 hu)
   by_cases h2 : t.kind = 2
   ·rw [(lg_k2 h2 u).1 h]; exact .nil
   ·exact starL_one ((lg_altT hga u).2 ((lgA_mem _ u).2 ⟨t, List.mem_filter.2 ⟨ht, by simpa using h2⟩, h⟩))
 ·exact lg_star1 r w
theorem lg_bytes (s : Nat → Bool) (w : List UInt8) : Lg (bytesT s) w ↔ ∃ b : UInt8, w = [b] ∧ s b.toNat = true := by
 unfold bytesT
 split
 ·rename_i h
  constructor
  ·intro hw; exact absurd hw (lg_k1 (t := noneT) rfl w)
  ·rintro ⟨b, rfl, hb⟩
   have := (eqS_iff _ _).1 h b.toNat b.toNat_lt
   rw [hb] at this
   cases this
 ·exact lg_set
structure St where
 set : Nat → Bool
 to : Int
 free : List Int
structure MayN (S : List St) (a z : Int) : Prop where
 few : S.length ≤ 2000
 a0 : 0 ≤ a
 a1 : a < (S.length : Int)
 z0 : 0 ≤ z
 z1 : z < (S.length : Int)
 to : ∀ s ∈ S, s.to < (S.length : Int)
 free8 : ∀ s ∈ S, s.free.length ≤ 8
 free : ∀ s ∈ S, ∀ f ∈ s.free, 0 ≤ f ∧ f < (S.length : Int)
inductive Rc (S : List St) (P : Nat → Prop) : Nat → Prop
 | base {i : Nat} : P i → i < S.length → Rc S P i
 | go {i j : Nat} {s : St} : Rc S P i → S[i]? = some s → (j : Int) ∈ s.free → j < S.length → Rc S P j
theorem Rc.lt {S : List St} {P : Nat → Prop} {i : Nat} (h : Rc S P i) : i < S.length := by
 cases h with
 | base _ h => exact h
 | go _ _ _ h => exact h
theorem Rc.mono {S : List St} {P Q : Nat → Prop} {i : Nat} (h : Rc S P i) (hPQ : ∀ i, P i → Q i) : Rc S Q i := by
 induction h with
 | base h1 h2 => exact .base (hPQ _ h1) h2
 | go _ h2 h3 h4 ih => exact .go ih h2 h3 h4
theorem rc_congr {S : List St} {P Q : Nat → Prop} (h : ∀ i, i < S.length → (P i ↔ Q i)) (i : Nat) : Rc S P i ↔ Rc S Q i := by
 have key : ∀ {P Q : Nat → Prop}, (∀ i, i < S.length → (P i ↔ Q i)) → ∀ i, Rc S P i → Rc S Q i := fun h i hr => by
  induction hr with
  | base h1 h2 => exact .base ((h _ h2).1 h1) h2
  | go _ h2 h3 h4 ih => exact .go ih h2 h3 h4
 exact ⟨key h i, key (fun i hi => (h i hi).symm) i⟩
theorem rc_is {S : List St} {P : Nat → Prop} {t : Nat → Bool} (h1 : ∀ i, i < S.length → P i → t i = true)
  (h2 : ∀ i s, S[i]? = some s → t i = true → ∀ j : Nat, (j : Int) ∈ s.free → t j = true) (h3 : ∀ i, i < S.length → t i = true → Rc S P i) (i : Nat) (hi : i < S.length) : t i = true ↔ Rc S P i := by
 refine ⟨h3 i hi, fun h => ?_⟩
 clear h3 hi
 induction h with
 | base a b => exact h1 _ b a
 | go _ b c _ ih => exact h2 _ _ b ih _ c
noncomputable def rcB (S : List St) (P : Nat → Prop) (i : Nat) : Bool := @decide (Rc S P i) (Classical.propDecidable _)
theorem rcB_iff {S : List St} {P : Nat → Prop} {i : Nat} : rcB S P i = true ↔ Rc S P i := by
 unfold rcB
 exact @decide_eq_true_iff _ (Classical.propDecidable _)
/-! ### rising lists of states -/
def risJ (t : Nat → Bool) (n : Nat) : List Int := ((List.range n).filter t).map fun i : Nat => (i : Int)
theorem risJ_succ (t : Nat → Bool) (n : Nat) : risJ t (n + 1) = if t n then risJ t n ++ [(n : Int)] else risJ t n := by
 unfold risJ
 rw [List.range_succ, List.filter_append, List.map_append]
 cases h : t n <;> simp [h]
theorem risJ_congr {t u : Nat → Bool} {n : Nat} (h : ∀ i, i < n → t i = u i) : risJ t n = risJ u n := by
 unfold risJ
 rw [List.filter_congr fun i hi => h i (List.mem_range.1 hi)]
theorem risJ_mem {t : Nat → Bool} {n : Nat} {x : Int} : x ∈ risJ t n ↔ ∃ i : Nat, x = (i : Int) ∧ i < n ∧ t i = true := by
 unfold risJ
 rw [List.mem_map]
 constructor
 ·rintro ⟨i, hi, rfl⟩
  have := List.mem_filter.1 hi
  exact ⟨i, rfl, List.mem_range.1 this.1, this.2⟩
 ·rintro ⟨i, rfl, h1, h2⟩
  exact ⟨i, List.mem_filter.2 ⟨List.mem_range.2 h1, h2⟩, rfl⟩
theorem risJ_len (t : Nat → Bool) (n : Nat) : (risJ t n).length ≤ n := by
 unfold risJ
 rw [List.length_map]
 have := List.length_filter_le t (List.range n)
 rwa [List.length_range] at this
theorem risJ_rise (t : Nat → Bool) (n : Nat) : (risJ t n).Pairwise (· < ·) := by
 unfold risJ
 rw [List.pairwise_map]
 exact (List.pairwise_lt_range.filter t).imp fun h => by omega
def ofL (l : List Int) (i : Nat) : Prop := (i : Int) ∈ l
noncomputable def clsN (S : List St) (l : List Int) : List Int := risJ (rcB S (ofL l)) S.length
theorem clsN_mem {S : List St} {l : List Int} {i : Nat} : (i : Int) ∈ clsN S l ↔ Rc S (ofL l) i := by
 unfold clsN
 rw [risJ_mem]
 constructor
 ·rintro ⟨j, hj, _, h⟩
  have : i = j := by omega
  subst this
  exact rcB_iff.1 h
 ·intro h
  exact ⟨i, rfl, h.lt, rcB_iff.2 h⟩
def goN (S : List St) (l : List Int) (b : Nat) : List Int := l.filterMap fun x => if 0 ≤ x then (S[x.toNat]?).bind fun s => if 0 ≤ s.to ∧ s.set b = true then some s.to else none else none
noncomputable def stpN (S : List St) (l : List Int) (b : Nat) : List Int := clsN S (goN S l b)
theorem goN_mem {S : List St} {l : List Int} {b : Nat} {x : Int} : x ∈ goN S l b ↔ ∃ (i : Nat) (s : St), (i : Int) ∈ l ∧ S[i]? = some s ∧ 0 ≤ s.to ∧ s.set b = true ∧ x = s.to := by
 unfold goN
 rw [List.mem_filterMap]
 constructor
 ·rintro ⟨y, hy, h⟩
  by_cases h0 : 0 ≤ y
  ·rw [if_pos h0] at h
   cases hs : S[y.toNat]? with
   | none => rw [hs] at h; cases h
   | some s =>
    rw [hs] at h
    have h : (if 0 ≤ s.to ∧ s.set b = true then some s.to else none) = some x := h
    by_cases hc : 0 ≤ s.to ∧ s.set b = true
    ·rw [if_pos hc] at h
     injection h with h
     exact ⟨y.toNat, s, by rwa [Int.toNat_of_nonneg h0], hs, hc.1, hc.2, h.symm⟩
    ·rw [if_neg hc] at h; cases h
  ·rw [if_neg h0] at h; cases h
 ·rintro ⟨i, s, h1, h2, h3, h4, rfl⟩
  refine ⟨(i : Int), h1, ?_⟩
  rw [if_pos (by omega), Int.toNat_natCast, h2]
  show (if 0 ≤ s.to ∧ s.set b = true then some s.to else none) = some s.to
  rw [if_pos ⟨h3, h4⟩]
noncomputable def behN (S : List St) : List Int → List UInt8 → List Int
 | l, [] => l
 | l, b :: w => behN S (stpN S l b.toNat) w
theorem behN_app (S : List St) : ∀ (u : List UInt8) (l : List Int) (v : List UInt8), behN S l (u ++ v) = behN S (behN S l u) v
 | [], l, v => rfl
 | b :: u, l, v => behN_app S u (stpN S l b.toNat) v
/-! ### ways -/
inductive Way (S : List St) : Nat → List UInt8 → Nat → Prop
 | here {i : Nat} : i < S.length → Way S i [] i
 | free {i j k : Nat} {s : St} {w : List UInt8} : S[i]? = some s → (j : Int) ∈ s.free → Way S j w k → Way S i w k
 | byte {i j k : Nat} {s : St} {b : UInt8} {w : List UInt8} : S[i]? = some s → s.set b.toNat = true → s.to = (j : Int) → Way S j w k → Way S i (b :: w) k
theorem Way.lt {S : List St} {i k : Nat} {w : List UInt8} (h : Way S i w k) : i < S.length := by
 cases h with
 | here h => exact h
 | free h _ _ => exact (List.getElem?_eq_some_iff.1 h).1
 | byte h _ _ _ => exact (List.getElem?_eq_some_iff.1 h).1
theorem Way.lt2 {S : List St} {i k : Nat} {w : List UInt8} (h : Way S i w k) : k < S.length := by
 induction h with
 | here h => exact h
 | free _ _ _ ih => exact ih
 | byte _ _ _ _ ih => exact ih
theorem Way.app {S : List St} {i j k : Nat} {u v : List UInt8} (h : Way S i u j) (h2 : Way S j v k) : Way S i (u ++ v) k := by
 induction h with
 | here _ => exact h2
 | free a b _ ih => exact .free a b (ih h2)
 | byte a b c _ ih => exact .byte a b c (ih h2)
theorem way_rc {S : List St} {P : Nat → Prop} {k : Nat} (h : Rc S P k) : ∃ i, P i ∧ Way S i [] k := by
 induction h with
 | base a b => exact ⟨_, a, .here b⟩
 | @go i j s a b c d ih =>
  obtain ⟨x, hx, hw⟩ := ih
  have h2 : Way S i [] j := .free b c (.here d)
  have := hw.app h2
  exact ⟨x, hx, this⟩
theorem rc_way {S : List St} {P : Nat → Prop} {i k : Nat} {w : List UInt8} (h : Way S i w k) (hw : w = []) (hi : Rc S P i) : Rc S P k := by
 induction h with
 | here _ => exact hi
 | free a b c ih => exact ih hw (.go hi a b c.lt)
 | byte _ _ _ _ _ => cases hw
theorem beh_way (S : List St) : ∀ (w : List UInt8) (l : List Int) (k : Nat), ((k : Int) ∈ behN S (clsN S l) w ↔ ∃ i : Nat, (i : Int) ∈ l ∧ Way S i w k)
 | [], l, k => by
  show (k : Int) ∈ clsN S l ↔ _
  rw [clsN_mem]
  constructor
  ·intro h; exact way_rc h
  ·rintro ⟨i, hi, hw⟩; exact rc_way hw rfl (.base hi hw.lt)
 | b :: w, l, k => by
  show (k : Int) ∈ behN S (clsN S (goN S (clsN S l) b.toNat)) w ↔ _
  rw [beh_way S w]
  constructor
  ·rintro ⟨j, hj, hw⟩
   obtain ⟨i, s, h1, h2, h3, h4, h5⟩ := goN_mem.1 hj
   obtain ⟨x, hx, hxw⟩ := way_rc (clsN_mem.1 h1)
   have h6 : Way S i (b :: w) k := .byte h2 h4 h5.symm hw
   exact ⟨x, hx, hxw.app h6⟩
  ·rintro ⟨i, hi, hw⟩
   have key : ∀ {i : Nat} {x : List UInt8} {k : Nat}, Way S i x k → ∀ (b : UInt8) (w : List UInt8), x = b :: w → Rc S (ofL l) i → ∃ (i' : Nat) (s : St) (j : Nat), Rc S (ofL l) i' ∧ S[i']? = some s ∧ s.set b.toNat = true ∧ s.to = (j : Int) ∧ Way S j w k := by
    intro i x k h
    induction h with
    | here _ => intro b w e; cases e
    | free a c d ih => intro b w e hr; exact ih b w e (.go hr a c d.lt)
    | byte a c d e _ => intro b w he hr; injection he with h1 h2; subst h1 h2; exact ⟨_, _, _, hr, a, c, d, e⟩
   obtain ⟨i', s, j, h1, h2, h3, h4, h5⟩ := key hw b w rfl (.base hi hw.lt)
   exact ⟨j, goN_mem.2 ⟨i', s, clsN_mem.2 h1, h2, by rw [h4]; omega, h3, h4.symm⟩, h5⟩
noncomputable def runN (S : List St) (a z : Int) (w : List UInt8) : Bool := @decide (z ∈ behN S (clsN S [a]) w) (Classical.propDecidable _)
theorem runN_iff {S : List St} {a z : Nat} {w : List UInt8} : runN S (a : Int) (z : Int) w = true ↔ Way S a w z := by
 have h1 : runN S (a : Int) (z : Int) w = true ↔ ((z : Int) ∈ behN S (clsN S [(a : Int)]) w) := by
  unfold runN
  exact @decide_eq_true_iff _ (Classical.propDecidable _)
 rw [h1, beh_way]
 constructor
 ·rintro ⟨i, hi, hw⟩
  have : i = a := by have := List.mem_singleton.1 hi; omega
  subst this
  exact hw
 ·intro h; exact ⟨a, by simp, h⟩
def st0 : St := ⟨fun _ => false, -1, []⟩
def stF (l : List Int) : St := ⟨fun _ => false, -1, l⟩
def linkS (S : List St) (f t : Nat) : List St := S.modify f fun s => { s with free := s.free ++ [(t : Int)] }
def setS (S : List St) (i : Nat) (p : Nat → Bool) (z : Nat) : List St := S.modify i fun s => { s with set := p, to := (z : Int) }
mutual
def bldT : T → List St → List St
 | .node k s l, S =>
  if k = 3 then setS (S ++ [st0] ++ [st0]) S.length s (S.length + 1)
  else if k = 4 then linkS (bldC l (S ++ [st0] ++ [st0]) S.length).1 (bldC l (S ++ [st0] ++ [st0]) S.length).2 (S.length + 1)
  else if k = 5 then bldA l (S ++ [st0] ++ [st0]) S.length (S.length + 1) true
  else if k = 6 then linkS (bldO l (S ++ [st0] ++ [st0]) S.length) S.length (S.length + 1)
  else if k = 2 then linkS (S ++ [st0] ++ [st0]) S.length (S.length + 1)
  else S ++ [st0] ++ [st0]
def bldC : List T → List St → Nat → List St × Nat
 | [], S, at' => (S, at')
 | x :: r, S, at' => bldC r (linkS (bldT x S) at' S.length) (S.length + 1)
def bldA : List T → List St → Nat → Nat → Bool → List St
 | [], S, _, _, _ => S
 | x :: r, S, f, z, first =>
  if first then bldA r (linkS (linkS (bldT x S) f S.length) (S.length + 1) z) f z false
  else bldA r (linkS (linkS (bldT x (linkS (S ++ [st0]) f S.length)) S.length (S.length + 1)) (S.length + 2) z) S.length z false
def bldO : List T → List St → Nat → List St
 | [], S, _ => S
 | x :: r, S, a => linkS (linkS (bldT x S) a S.length) (S.length + 1) a
end
/-! ### the same as one piece behind what was there -/
mutual
def szT : T → Nat
 | .node k _ l => 2 + if k = 4 then szC l else if k = 5 then szA l else if k = 6 then szO l else 0
def szC : List T → Nat
 | [] => 0
 | x :: r => szT x + szC r
def szA : List T → Nat
 | [] => 0
 | x :: r => szT x + if r.length = 0 then 0 else 1 + szA r
def szO : List T → Nat
 | [] => 0
 | x :: _ => szT x
end
def altL : List T → Nat → List Int
 | [], _ => []
 | x :: r, p => (p : Int) :: if r.length = 0 then [] else [((p + szT x : Nat) : Int)]
theorem altL_cons (x : T) (r : List T) (p : Nat) : altL (x :: r) p = (p : Int) :: if r.length = 0 then [] else [((p + szT x : Nat) : Int)] := rfl
mutual
def fragT : T → Nat → List Int → List St
 | .node k s l, n, c =>
  if k = 3 then [⟨s, ((n + 1 : Nat) : Int), []⟩, stF c]
  else if k = 4 then stF [if l.length = 0 then ((n + 1 : Nat) : Int) else ((n + 2 : Nat) : Int)] :: stF c :: fragC l (n + 2) (n + 1)
  else if k = 5 then stF (altL l (n + 2)) :: stF c :: fragA l (n + 2) (n + 1)
  else if k = 6 then stF ((if l.length = 0 then [] else [((n + 2 : Nat) : Int)]) ++ [((n + 1 : Nat) : Int)]) :: stF c :: fragO l (n + 2) n
  else if k = 2 then [stF [((n + 1 : Nat) : Int)], stF c]
  else [stF [], stF c]
def fragC : List T → Nat → Nat → List St
 | [], _, _ => []
 | x :: r, p, z => fragT x p [if r.length = 0 then (z : Int) else ((p + szT x : Nat) : Int)] ++ fragC r (p + szT x) z
def fragA : List T → Nat → Nat → List St
 | [], _, _ => []
 | x :: r, p, z => fragT x p [(z : Int)] ++ if r.length = 0 then [] else stF (altL r (p + szT x + 1)) :: fragA r (p + szT x + 1) z
def fragO : List T → Nat → Nat → List St
 | [], _, _ => []
 | x :: _, p, z => fragT x p [(z : Int)]
end
mutual
theorem fragT_len : ∀ (t : T) (n : Nat) (c : List Int), (fragT t n c).length = szT t
 | .node k s l, n, c => by
  have h1 := fragC_len l (n + 2) (n + 1)
  have h2 := fragA_len l (n + 2) (n + 1)
  have h3 := fragO_len l (n + 2) n
  simp only [fragT, szT]
  split
  ·next h => rw [if_neg (by omega), if_neg (by omega), if_neg (by omega)]; rfl
  ·split
   ·simp [h1]; omega
   ·split
    ·simp [h2]; omega
    ·split
     ·simp [h3]; omega
     ·split <;> rfl
theorem fragC_len : ∀ (l : List T) (p z : Nat), (fragC l p z).length = szC l
 | [], _, _ => rfl
 | x :: r, p, z => by
  simp only [fragC, szC, List.length_append]
  rw [fragT_len x, fragC_len r]
theorem fragA_len : ∀ (l : List T) (p z : Nat), (fragA l p z).length = szA l
 | [], _, _ => rfl
 | x :: r, p, z => by
  simp only [fragA, szA, List.length_append]
  rw [fragT_len x]
  split
  ·rfl
  ·rw [List.length_cons, fragA_len r]; omega
theorem fragO_len : ∀ (l : List T) (p z : Nat), (fragO l p z).length = szO l
 | [], _, _ => rfl
 | x :: r, p, z => by
  simp only [fragO, szO]
  exact fragT_len x _ _
end
theorem szT_two (t : T) : 2 ≤ szT t := by
 cases t with
 | node k s l => simp only [szT]; omega
theorem fragT_ends (t : T) (n : Nat) : ∃ (s : St) (r : List St), ∀ c, fragT t n c = s :: stF c :: r := by
 cases t with
 | node k s l =>
  simp only [fragT]
  by_cases h3 : k = 3
  ·exact ⟨_, [], fun c => by rw [if_pos h3]⟩
  ·by_cases h4 : k = 4
   ·exact ⟨_, _, fun c => by rw [if_neg h3, if_pos h4]⟩
   ·by_cases h5 : k = 5
    ·exact ⟨_, _, fun c => by rw [if_neg h3, if_neg h4, if_pos h5]⟩
    ·by_cases h6 : k = 6
     ·exact ⟨_, _, fun c => by rw [if_neg h3, if_neg h4, if_neg h5, if_pos h6]⟩
     ·by_cases h2 : k = 2
      ·exact ⟨_, [], fun c => by rw [if_neg h3, if_neg h4, if_neg h5, if_neg h6, if_pos h2]⟩
      ·exact ⟨_, [], fun c => by rw [if_neg h3, if_neg h4, if_neg h5, if_neg h6, if_neg h2]⟩
def linkI (S : List St) (f : Nat) (l : List Int) : List St := S.modify f fun s => { s with free := s.free ++ l }
theorem linkS_is (S : List St) (f t : Nat) : linkS S f t = linkI S f [(t : Int)] := rfl
theorem linkI_len (S : List St) (f : Nat) (l : List Int) : (linkI S f l).length = S.length := by simp [linkI]
theorem linkI_left {S X : List St} {f : Nat} {l : List Int} (h : f < S.length) : linkI (S ++ X) f l = linkI S f l ++ X := by
 unfold linkI
 apply List.ext_getElem?
 intro i
 rw [List.getElem?_modify, List.getElem?_append, List.getElem?_append, List.length_modify, List.getElem?_modify]
 by_cases hi : i < S.length
 ·rw [if_pos hi, if_pos hi]
 ·rw [if_neg hi, if_neg hi]
  have : f ≠ i := by omega
  simp [this]
theorem linkI_right {S X : List St} {f : Nat} {l : List Int} (h : S.length ≤ f) : linkI (S ++ X) f l = S ++ linkI X (f - S.length) l := by
 unfold linkI
 apply List.ext_getElem?
 intro i
 rw [List.getElem?_modify, List.getElem?_append, List.getElem?_append, List.getElem?_modify]
 by_cases hi : i < S.length
 ·rw [if_pos hi, if_pos hi]
  have : f ≠ i := by omega
  simp [this]
 ·rw [if_neg hi, if_neg hi]
  by_cases hfi : f = i
  ·subst hfi; simp
  ·have : ¬ (f - S.length = i - S.length) := by omega
   simp [hfi, this]
theorem linkI_two (S : List St) (f : Nat) (l m : List Int) : linkI (linkI S f l) f m = linkI S f (l ++ m) := by
 unfold linkI
 apply List.ext_getElem?
 intro i
 simp only [List.getElem?_modify]
 cases S[i]? with
 | none => rfl
 | some s =>
  by_cases h : f = i
  ·simp [h]
  ·simp [h]
theorem linkI_nil (S : List St) (f : Nat) : linkI S f [] = S := by
 unfold linkI
 apply List.ext_getElem?
 intro i
 rw [List.getElem?_modify]
 cases S[i]? with
 | none => rfl
 | some s => simp
theorem linkI_cons (s : St) (r : List St) (l : List Int) : linkI (s :: r) 0 l = { s with free := s.free ++ l } :: r := by simp [linkI]
theorem frag_link (P : List St) (x : T) (c d : List Int) (X : List St) : linkI (P ++ fragT x P.length c ++ X) (P.length + 1) d = P ++ fragT x P.length (c ++ d) ++ X := by
 obtain ⟨s, r, he⟩ := fragT_ends x P.length
 rw [linkI_left (by rw [List.length_append, fragT_len]; have := szT_two x; omega), linkI_right (by omega), he, he, show P.length + 1 - P.length = 1 from by omega]
 simp [linkI, stF]
theorem frag_link' {P : List St} {n f : Nat} (hn : P.length = n) (hf : f = n + 1) (x : T) (c d : List Int) : linkI (P ++ fragT x n c) f d = P ++ fragT x n (c ++ d) := by
 subst hn
 subst hf
 have := frag_link P x c d []
 simpa using this
theorem setS_end (S : List St) (p : Nat → Bool) (z : Nat) : setS (S ++ [st0] ++ [st0]) S.length p z = S ++ [⟨p, (z : Int), []⟩, stF []] := by
 rw [show S ++ [st0] ++ [st0] = S ++ [st0, st0] from by simp]
 apply List.ext_getElem?
 intro i
 unfold setS
 rw [List.getElem?_modify, List.getElem?_append, List.getElem?_append]
 by_cases hi : i < S.length
 ·rw [if_pos hi, if_pos hi]
  have : S.length ≠ i := by omega
  simp [this]
 ·rw [if_neg hi, if_neg hi]
  obtain ⟨j, rfl⟩ : ∃ j, i = S.length + j := ⟨i - S.length, by omega⟩
  rw [Nat.add_sub_cancel_left]
  match j with
  | 0 => simp [st0]
  | 1 => simp [st0, stF]
  | k + 2 => simp
theorem two_end (S : List St) : S ++ [st0] ++ [st0] = S ++ [stF [], stF []] := by simp [st0, stF]
theorem link_in (S X : List St) (c l m : List Int) : linkI (S ++ (stF c :: X)) S.length l = S ++ (stF (c ++ l) :: X) := by
 rw [linkI_right (Nat.le_refl _), Nat.sub_self, linkI_cons]
 rfl
mutual
theorem bldT_frag : ∀ (t : T) (S : List St), bldT t S = S ++ fragT t S.length []
 | .node k s l, S => by
  have hl : (S ++ [stF [], stF []]).length = S.length + 2 := by simp
  simp only [bldT, fragT]
  by_cases h3 : k = 3
  ·rw [if_pos h3, if_pos h3, setS_end]
  rw [if_neg h3, if_neg h3]
  by_cases h4 : k = 4
  ·rw [if_pos h4, if_pos h4, two_end, bldC_frag l (S ++ [stF [], stF []]) S.length (S.length + 1) (by rw [hl]; omega)]
   split
   ·next h0 =>
    have : l = [] := List.eq_nil_of_length_eq_zero h0
    subst this
    rw [linkS_is, link_in S _ [] _ []]
    simp [fragC]
   ·rw [hl, linkS_is, link_in S _ [] _ []]
    simp
  rw [if_neg h4, if_neg h4]
  by_cases h5 : k = 5
  ·rw [if_pos h5, if_pos h5, two_end]
   rw [bldA_first l (S ++ [stF [], stF []]) S.length (S.length + 1) (by rw [hl]; omega), hl, link_in S _ [] _ []]
   simp
  rw [if_neg h5, if_neg h5]
  by_cases h6 : k = 6
  ·rw [if_pos h6, if_pos h6, two_end]
   cases l with
   | nil => simp only [bldO, fragO]; rw [linkS_is, link_in S _ [] _ []]; simp
   | cons x r =>
    simp only [bldO, fragO]
    rw [bldT_frag x, hl, linkS_is, linkS_is, linkS_is, List.append_assoc, List.cons_append, List.cons_append, List.nil_append, link_in S _ [] _ []]
    rw [show S ++ (stF ([] ++ [((S.length + 2 : Nat) : Int)]) :: stF [] :: fragT x (S.length + 2) []) = (S ++ [stF ([] ++ [((S.length + 2 : Nat) : Int)]), stF []]) ++ fragT x (S.length + 2) [] from by simp]
    rw [frag_link' (by simp) (by omega), List.append_assoc, List.cons_append, List.cons_append, List.nil_append, link_in S _ _ _ []]
    simp
  rw [if_neg h6, if_neg h6]
  by_cases h2 : k = 2
  ·rw [if_pos h2, if_pos h2, two_end, linkS_is, link_in S _ [] _ []]
   simp
  rw [if_neg h2, if_neg h2, two_end]
theorem bldC_frag : ∀ (l : List T) (S : List St) (f z : Nat), f < S.length → linkS (bldC l S f).1 (bldC l S f).2 z = if l.length = 0 then linkS S f z else linkS S f S.length ++ fragC l S.length z
 | [], S, f, z, _ => by simp [bldC]
 | x :: r, S, f, z, hf => by
  have hlen : (linkI S f [(S.length : Int)]).length = S.length := linkI_len _ _ _
  simp only [bldC]
  rw [bldT_frag x, linkS_is (S ++ fragT x S.length []) f S.length, linkI_left hf, bldC_frag r _ (S.length + 1) z (by rw [List.length_append, hlen, fragT_len]; have := szT_two x; omega)]
  rw [if_neg (show ¬ (x :: r).length = 0 by simp)]
  simp only [fragC]
  by_cases h0 : r.length = 0
  ·have : r = [] := List.eq_nil_of_length_eq_zero h0
   subst this
   simp only [List.length_nil, if_true]
   rw [linkS_is, linkS_is, frag_link' hlen rfl]
   simp [fragC]
  ·simp only [if_neg h0]
   rw [linkS_is, linkS_is, frag_link' hlen rfl, List.length_append, hlen, fragT_len, List.append_assoc]
   simp
theorem bldA_first : ∀ (l : List T) (S : List St) (f z : Nat), f < S.length → bldA l S f z true = linkI S f (altL l S.length) ++ fragA l S.length z
 | [], S, f, z, _ => by simp [bldA, altL, fragA, linkI_nil]
 | x :: r, S, f, z, hf => by
  have hlen : (linkI S f [(S.length : Int)]).length = S.length := linkI_len _ _ _
  simp only [bldA, if_true, fragA]
  rw [altL_cons]
  rw [bldT_frag x, linkS_is, linkS_is, linkI_left hf, frag_link' hlen rfl]
  by_cases h0 : r.length = 0
  ·have : r = [] := List.eq_nil_of_length_eq_zero h0
   subst this
   simp [bldA]
  ·rw [if_neg h0, if_neg h0, bldA_more r _ f z h0 (by rw [List.length_append, hlen]; omega), List.length_append, hlen, fragT_len, linkI_left (by rw [hlen]; exact hf), linkI_two, List.append_assoc]
   simp
theorem bldA_more : ∀ (r : List T) (S : List St) (f z : Nat), ¬ r.length = 0 → f < S.length → bldA r S f z false = linkI S f [(S.length : Int)] ++ (stF (altL r (S.length + 1)) :: fragA r (S.length + 1) z)
 | [], S, f, z, h, _ => absurd rfl h
 | x :: r, S, f, z, _, hf => by
  have hlen : (linkI S f [(S.length : Int)]).length = S.length := linkI_len _ _ _
  obtain ⟨P, hP⟩ : ∃ P, P = linkI S f [(S.length : Int)] := ⟨_, rfl⟩
  simp only [bldA, Bool.false_eq_true, if_false, fragA]
  rw [altL_cons]
  rw [linkS_is, linkS_is, linkS_is, linkI_left (X := [st0]) hf, ← hP, bldT_frag x]
  rw [← hP] at hlen
  have h1 : (P ++ [st0]).length = S.length + 1 := by simp [hlen]
  rw [h1]
  have e1 : linkI (P ++ [st0] ++ fragT x (S.length + 1) []) S.length [((S.length + 1 : Nat) : Int)] = (P ++ [stF [((S.length + 1 : Nat) : Int)]]) ++ fragT x (S.length + 1) [] := by
   rw [List.append_assoc, ← hlen]
   have := link_in P (fragT x (P.length + 1) []) [] [((P.length + 1 : Nat) : Int)] []
   simpa [st0, stF] using this
  have h2 : (P ++ [stF [((S.length + 1 : Nat) : Int)]]).length = S.length + 1 := by simp [hlen]
  rw [e1, frag_link' h2 (by omega)]
  by_cases h0 : r.length = 0
  ·have : r = [] := List.eq_nil_of_length_eq_zero h0
   subst this
   simp [bldA]
  ·have h3 : (P ++ [stF [((S.length + 1 : Nat) : Int)]] ++ fragT x (S.length + 1) ([] ++ [(z : Int)])).length = S.length + 1 + szT x := by rw [List.length_append, h2, fragT_len]
   rw [if_neg h0, if_neg h0, bldA_more r _ S.length z h0 (by rw [h3]; omega), h3]
   have e2 := link_in P (fragT x (P.length + 1) [(z : Int)]) [((P.length + 1 : Nat) : Int)] [((P.length + 1 + szT x : Nat) : Int)] []
   rw [hlen] at e2
   rw [List.append_assoc P, List.cons_append, List.nil_append, List.nil_append, e2, List.append_assoc]
   simp
end
end Go.Proofs.Ytmcpfaaakmehdaa
