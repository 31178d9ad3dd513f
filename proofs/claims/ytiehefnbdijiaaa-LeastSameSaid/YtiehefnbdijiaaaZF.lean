/-
  Texts of this proof, put together: LsB, LsC, LsD, LpA, RegM, LpC, LpD, ClA, SoA, SoB, FmA. No statement is proved here.
-/
import Derived.Test.YtiehefnbdijiaaaZE
import Derived.Test.YtiehefnbdijiaaaZD
import Derived.Test.YtiehefnbdijiaaaZC
import Derived.Test.YtiehefnbdijiaaaZB
import Derived.Test.YtiehefnbdijiaaaZA
import Derived.Test.YtiehefnbdijiaaaChecked
import Derived.Lib.SliceRun
import Derived.StillTailTactics
namespace Go.Proofs.Ytiehefnbdijiaaa
open Go.RowKit
set_option linter.unusedSimpArgs false
set_option linter.unusedVariables false
/-! ### finding, under another name for each thing -/
section
variable {α β : Type} [DecidableEq α] [DecidableEq β] {φ : α → β}
omit [DecidableEq α] [DecidableEq β] in
theorem endsI_map {p : β → Bool} (L : List α) (m : Nat) : endsI p (L.map φ) m = endsI (fun x => p (φ x)) L m := by
 unfold endsI
 rw [← List.map_take, List.map_map]
 rfl
end
/-! ### flipped -/
/-! ### numbered otherwise -/
/-! ### parts -/
noncomputable def parD (D : Dm) (i : Nat) : Nat := ((List.range (i + 1)).find? fun j => @decide (accD D j = accD D i) (Classical.propDecidable _)).getD i
theorem parD_spec (D : Dm) (i : Nat) : accD D (parD D i) = accD D i ∧ parD D i ≤ i ∧ ∀ j, j < parD D i → accD D j ≠ accD D i := by
 unfold parD
 cases h : (List.range (i + 1)).find? fun j => @decide (accD D j = accD D i) (Classical.propDecidable _) with
 | none =>
  rw [List.find?_eq_none] at h
  have := h i (List.mem_range.2 (Nat.lt_succ_self i))
  simp at this
 | some k =>
  have h1 := List.find?_some h
  have h2 : accD D k = accD D i := by simpa using h1
  have h3 := List.mem_range.1 (List.mem_of_find?_eq_some h)
  refine ⟨h2, by show k ≤ i; omega, fun j hj he => ?_⟩
  have hj : j < k := hj
  obtain ⟨_, l1, l2, hab, hno⟩ := List.find?_eq_some_iff_append.1 h
  have hlen : l1.length = k := by
   have h4 : (List.range (i + 1))[l1.length]? = some k := by rw [hab]; simp
   rw [List.getElem?_range (by
    have := congrArg List.length hab
    simp at this
    omega)] at h4
   simpa using h4
  have hj2 : j ∈ l1 := by
   have h4 : (List.range (i + 1))[j]? = some j := List.getElem?_range (by omega)
   rw [hab, List.getElem?_append_left (by omega)] at h4
   exact List.mem_of_getElem? h4
  have := hno j hj2
  simp [he] at this
theorem parD_same {D : Dm} {i j : Nat} (h : accD D i = accD D j) : parD D i = parD D j := by
 obtain ⟨a1, a2, a3⟩ := parD_spec D i
 obtain ⟨b1, b2, b3⟩ := parD_spec D j
 rcases Nat.lt_trichotomy (parD D i) (parD D j) with k | k | k
 ·exact absurd (a1.trans h) (b3 _ k)
 ·exact k
 ·exact absurd (b1.trans h.symm) (a3 _ k)
theorem parD_iff {D : Dm} {i j : Nat} : parD D i = parD D j ↔ accD D i = accD D j := by
 constructor
 ·intro h
  rw [← (parD_spec D i).1, h, (parD_spec D j).1]
 ·exact parD_same
theorem parD_twice (D : Dm) (i : Nat) : parD D (parD D i) = parD D i := parD_same (parD_spec D i).1
def stC (D : Dm) (s k : Nat) : Nat := ((D.next[s]?.getD []).getD k 0).toNat
def toC (D : Dm) : Nat → List Nat → Nat
 | s, [] => s
 | s, k :: v => toC D (stC D s k) v
def accC (D : Dm) (s : Nat) (v : List Nat) : Bool := D.ends.getD (toC D s v) false
theorem stC_lt {D : Dm} (h : MayD D) {s : Nat} (hs : s < D.next.length) (k : Nat) (hk : k < clsA D.cl) : stC D s k < D.next.length := by
 obtain ⟨r, hr⟩ : ∃ r, D.next[s]? = some r := ⟨_, List.getElem?_eq_getElem hs⟩
 have hm := List.mem_of_getElem? hr
 obtain ⟨x, hx⟩ : ∃ x, r[k]? = some x := ⟨_, List.getElem?_eq_getElem (by rw [h.rows r hm]; exact hk)⟩
 have h2 := h.to r hm x (List.mem_of_getElem? hx)
 unfold stC
 rw [hr, Option.getD_some, List.getD_eq_getElem?_getD, hx, Option.getD_some]
 omega
def eqC (D : Dm) (r i j : Nat) : Prop := ∀ v : List Nat, v.length ≤ r → (∀ k ∈ v, k < clsA D.cl) → accC D i v = accC D j v
section
variable {D : Dm} {r i j : Nat}
theorem eqC.refl (D : Dm) (r i : Nat) : eqC D r i i := fun _ _ _ => rfl
theorem eqC.symm (h : eqC D r i j) : eqC D r j i := fun v hv hk => (h v hv hk).symm
theorem eqC.trans {k : Nat} (h : eqC D r i j) (h2 : eqC D r j k) : eqC D r i k := fun v hv hk => (h v hv hk).trans (h2 v hv hk)
theorem eqC.less {q : Nat} (h : eqC D r i j) (hq : q ≤ r) : eqC D q i j := fun v hv hk => h v (Nat.le_trans hv hq) hk
theorem eqC.step (h : eqC D (r + 1) i j) {k : Nat} (hk : k < clsA D.cl) : eqC D r (stC D i k) (stC D j k) := fun v hv hks =>
 h (k :: v) (by simp only [List.length_cons]; omega) fun q hq => by
  rcases List.mem_cons.1 hq with rfl | hq
  ·exact hk
  ·exact hks q hq
end
/-! ### words of bytes and words of classes -/
theorem stD_stC (D : Dm) (s : Nat) (b : UInt8) : stD D s b = stC D s (D.cl.getD b.toNat 0).toNat := rfl
def clsW (D : Dm) (w : List UInt8) : List Nat := w.map fun b => (D.cl.getD b.toNat 0).toNat
def AllC (D : Dm) : Prop := ∀ k, k < clsA D.cl → ∃ b : UInt8, (D.cl.getD b.toNat 0).toNat = k
theorem clsW_lt {D : Dm} (hl : D.cl.length = 256) (w : List UInt8) : ∀ k ∈ clsW D w, k < clsA D.cl := fun k hk => by
 obtain ⟨b, _, rfl⟩ := List.mem_map.1 hk
 obtain ⟨c, hc⟩ : ∃ c, D.cl[b.toNat]? = some c := ⟨_, List.getElem?_eq_getElem (by rw [hl]; exact b.toNat_lt)⟩
 rw [List.getD_eq_getElem?_getD, hc]
 exact clsA_lt hl hc
theorem clsOf_first {ps : List (Nat → Bool)} {N k c : Nat} (h : (firstJ ps N)[k]? = some c) : clsOf ps c = k := by
 obtain ⟨hk, rfl⟩ := List.getElem?_eq_some_iff.1 h
 exact (clsOf_is ps N _ (firstJ_lt ps N _ (List.getElem_mem hk)) k hk).2 (alikeS_refl _ _)
theorem canN_allC (L : Lang) (n : Nat) : AllC (canN L n) := fun k hk => by
 rw [canN_cls] at hk
 obtain ⟨c, hc⟩ : ∃ c, (fbL L)[k]? = some c := ⟨_, List.getElem?_eq_getElem hk⟩
 have hc2 := firstJ_lt _ _ c (List.mem_of_getElem? hc)
 have h1 : clsOf (psL L) c = k := clsOf_first (N := 256) hc
 refine ⟨UInt8.ofNat c, ?_⟩
 rw [ofNat_toNat hc2, canN_clE, List.getD_eq_getElem?_getD, ctab_at (psL L) hc2, Option.getD_some, ofNat_toNat (clsOf_256 _ hc2), h1]
/-! ### finding, under another name for each thing of a kind -/
section
variable {α β : Type} [DecidableEq α] [DecidableEq β] {φ : α → β} {p : α → Prop}
theorem extL_mapP (hφ : ∀ a b, p a → p b → φ a = φ b → a = b) : ∀ (xs L : List α), (∀ x ∈ xs, p x) → (∀ x ∈ L, p x) → extL (L.map φ) (xs.map φ) = (extL L xs).map φ
 | [], _, _, _ => rfl
 | x :: xs, L, hx, hL => by
  have px := hx x (by simp)
  have hm : φ x ∈ L.map φ ↔ x ∈ L := by
   rw [List.mem_map]
   exact ⟨fun ⟨y, hy, he⟩ => by rw [← hφ _ _ (hL y hy) px he]; exact hy, fun h => ⟨x, h, rfl⟩⟩
  have hx2 : ∀ y ∈ xs, p y := fun y hy => hx y (List.mem_cons_of_mem _ hy)
  simp only [List.map_cons, extL]
  by_cases h : x ∈ L
  ·rw [if_pos h, if_pos (hm.2 h)]
   exact extL_mapP hφ xs L hx2 hL
  ·rw [if_neg h, if_neg (fun k => h (hm.1 k)), ← extL_mapP hφ xs (L ++ [x]) hx2 (fun y hy => by
    rcases List.mem_append.1 hy with hy | hy
    ·exact hL y hy
    ·rw [List.mem_singleton.1 hy]; exact px), List.map_append]
   rfl
theorem Lq_mapP (hφ : ∀ a b, p a → p b → φ a = φ b → a = b) {f : α → List α} {g : β → List β} {x0 : α} (h0 : p x0) (hf : ∀ x, p x → ∀ y ∈ f x, p y) (hg : ∀ x, p x → g (φ x) = (f x).map φ) : ∀ r, Lq g (φ x0) r = (Lq f x0 r).map φ
 | 0 => rfl
 | r + 1 => by
  have ih := Lq_mapP hφ h0 hf hg r
  have hall := Lq_all h0 hf r
  rcases Nat.lt_or_ge r (Lq f x0 r).length with h | h
  ·have e1 := List.getElem?_eq_getElem h
   have e2 : (Lq g (φ x0) r)[r]? = some (φ (Lq f x0 r)[r]) := by rw [ih, List.getElem?_map, e1]; rfl
   have hp := hall _ (List.getElem_mem h)
   rw [Lq_step e1, Lq_step e2, ih, hg _ hp, extL_mapP hφ _ _ (hf _ hp) hall]
  ·rw [Lq_stop h, Lq_stop (by rw [ih, List.length_map]; exact h), ih]
theorem ixOf_mapP (hφ : ∀ a b, p a → p b → φ a = φ b → a = b) {x : α} (hx : p x) : ∀ (L : List α), (∀ y ∈ L, p y) → ixOf (L.map φ) (φ x) = ixOf L x
 | [], _ => rfl
 | y :: r, hL => by
  have ih := ixOf_mapP hφ hx r fun z hz => hL z (List.mem_cons_of_mem _ hz)
  unfold ixOf at ih ⊢
  rw [List.map_cons, List.idxOf_cons, List.idxOf_cons, ih]
  by_cases h : y = x
  ·rw [h]; simp
  ·have h2 : φ y ≠ φ x := fun e => h (hφ _ _ (hL y (by simp)) hx e)
   have e1 : (y == x) = false := by simpa using h
   have e2 : (φ y == φ x) = false := by simpa using h2
   rw [e1, e2]
theorem rowI_mapP (hφ : ∀ a b, p a → p b → φ a = φ b → a = b) {L xs : List α} (hL : ∀ x ∈ L, p x) (hx : ∀ x ∈ xs, p x) : rowI (L.map φ) (xs.map φ) = rowI L xs := by
 unfold rowI
 rw [List.map_map]
 refine List.map_congr_left fun x hm => ?_
 show ((ixOf (L.map φ) (φ x) : Nat) : Int) = _
 rw [ixOf_mapP hφ (hx x hm) L hL]
theorem rowsI_mapP (hφ : ∀ a b, p a → p b → φ a = φ b → a = b) {f : α → List α} {g : β → List β} (hf : ∀ x, p x → ∀ y ∈ f x, p y) (hg : ∀ x, p x → g (φ x) = (f x).map φ) {L : List α} (hL : ∀ x ∈ L, p x) (m : Nat) : rowsI g (L.map φ) m = rowsI f L m := by
 unfold rowsI
 rw [← List.map_take, List.map_map]
 refine List.map_congr_left fun x hx => ?_
 have px := hL x (List.mem_of_mem_take hx)
 show rowI (L.map φ) (g (φ x)) = _
 rw [hg x px, rowI_mapP hφ hL (hf x px)]
end
/-! ### parts in the place of languages -/
noncomputable def fP (D : Dm) (q : Nat) : List Nat := (fbL (accD D 0)).map fun b => parD D (stD D q (UInt8.ofNat b))
noncomputable def QP (D : Dm) (r : Nat) : List Nat := Lq (fP D) (parD D 0) r
def isP (D : Dm) (q : Nat) : Prop := parD D q = q
theorem isP_par (D : Dm) (q : Nat) : isP D (parD D q) := parD_twice D q
theorem isP_inj {D : Dm} {a b : Nat} (ha : isP D a) (hb : isP D b) (h : accD D a = accD D b) : a = b := by
 rw [← ha, ← hb]
 exact parD_same h
theorem fP_isP {D : Dm} (q : Nat) : ∀ y ∈ fP D q, isP D y := fun y hy => by
 obtain ⟨b, _, rfl⟩ := List.mem_map.1 hy
 exact isP_par D _
theorem res_acc (D : Dm) (q : Nat) (b : Nat) : res (accD D q) b = accD D (stD D q (UInt8.ofNat b)) := rfl
theorem suc_fP (D : Dm) (q : Nat) : sucL (accD D 0) (accD D q) = (fP D q).map (accD D) := by
 unfold sucL fP
 rw [List.map_map]
 refine List.map_congr_left fun b _ => ?_
 show res (accD D q) b = accD D (parD D (stD D q (UInt8.ofNat b)))
 rw [res_acc, (parD_spec D _).1]
theorem QP_isP (D : Dm) (r : Nat) : ∀ q ∈ QP D r, isP D q := Lq_all (p := isP D) (isP_par D 0) (fun q _ => fP_isP q) r
theorem QL_QP (D : Dm) (r : Nat) : QL (accD D 0) r = (QP D r).map (accD D) := by
 have h := Lq_mapP (φ := accD D) (p := isP D) (fun a b => isP_inj) (f := fP D) (g := sucL (accD D 0)) (x0 := parD D 0) (isP_par D 0) (fun q _ => fP_isP q) (fun q _ => suc_fP D q) r
 rw [(parD_spec D 0).1] at h
 exact h
theorem canN_par (D : Dm) (n : Nat) : canN (accD D 0) n = ⟨ctab (psL (accD D 0)) 256, rowsI (fP D) (QP D n) n, endsI (fun q => D.ends.getD q false) (QP D n) n⟩ := by
 unfold canN
 rw [QL_QP, rowsI_mapP (p := isP D) (fun a b => isP_inj) (fun q _ => fP_isP q) (fun q _ => suc_fP D q) (QP_isP D n), endsI_map]
 rfl
/-! ### what is come to -/
/-! ### parts, round by round -/
noncomputable def leR (R : Nat → Nat → Prop) (i : Nat) : Nat := ((List.range (i + 1)).find? fun j => @decide (R j i) (Classical.propDecidable _)).getD i
theorem leR_spec {R : Nat → Nat → Prop} (hr : ∀ i, R i i) (i : Nat) : R (leR R i) i ∧ leR R i ≤ i ∧ ∀ j, j < leR R i → ¬ R j i := by
 unfold leR
 cases h : (List.range (i + 1)).find? fun j => @decide (R j i) (Classical.propDecidable _) with
 | none =>
  rw [List.find?_eq_none] at h
  have := h i (List.mem_range.2 (Nat.lt_succ_self i))
  exact absurd (@decide_eq_true _ (Classical.propDecidable _) (hr i)) this
 | some k =>
  have h6 := List.find?_some h
  have h2 : R k i := @of_decide_eq_true _ (Classical.propDecidable _) h6
  have h3 := List.mem_range.1 (List.mem_of_find?_eq_some h)
  refine ⟨h2, by show k ≤ i; omega, fun j hj he => ?_⟩
  have hj : j < k := hj
  obtain ⟨_, l1, l2, hab, hno⟩ := List.find?_eq_some_iff_append.1 h
  have hlen : l1.length = k := by
   have h4 : (List.range (i + 1))[l1.length]? = some k := by rw [hab]; simp
   rw [List.getElem?_range (by
    have := congrArg List.length hab
    simp at this
    omega)] at h4
   simpa using h4
  have hj2 : j ∈ l1 := by
   have h4 : (List.range (i + 1))[j]? = some j := List.getElem?_range (by omega)
   rw [hab, List.getElem?_append_left (by omega)] at h4
   exact List.mem_of_getElem? h4
  have h5 := hno j hj2
  rw [@decide_eq_true _ (Classical.propDecidable _) he] at h5
  cases h5
theorem leR_is {R : Nat → Nat → Prop} (hr : ∀ i, R i i) {i k : Nat} (hk : R k i) (hki : k ≤ i) (hno : ∀ j, j < k → ¬ R j i) : leR R i = k := by
 obtain ⟨h1, h2, h3⟩ := leR_spec hr i
 rcases Nat.lt_trichotomy (leR R i) k with h | h | h
 ·exact absurd h1 (hno _ h)
 ·exact h
 ·exact absurd hk (h3 _ h)
def ncs (n : Nat) (f : Nat → Nat) : List Value := (List.range n).map fun q => .int .i64 (f q : Int)
theorem ncs_len (n : Nat) (f : Nat → Nat) : (ncs n f).length = n := by simp [ncs]
theorem ncs_get {n q : Nat} (f : Nat → Nat) (h : q < n) : (ncs n f)[q]? = some (.int .i64 (f q : Int)) := by simp [ncs, h]
theorem ncs_congr {n : Nat} {f g : Nat → Nat} (h : ∀ q, q < n → f q = g q) : ncs n f = ncs n g := by
 unfold ncs
 exact List.map_congr_left fun q hq => by rw [h q (List.mem_range.1 hq)]
theorem ncs_no (n : Nat) : List.replicate n (Value.int .i64 0) = ncs n fun _ => 0 := by
 apply List.ext_getElem?
 intro q
 by_cases h : q < n
 ·rw [ncs_get _ h]; simp [h]
 ·rw [List.getElem?_eq_none (by simp; omega), List.getElem?_eq_none (by rw [ncs_len]; omega)]
theorem ncs_set (n q : Nat) (f : Nat → Nat) (b : Nat) : (ncs n f).set q (.int .i64 (b : Int)) = ncs n (updN f q b) := by
 apply List.ext_getElem?
 intro i
 by_cases h : i < n
 ·rw [ncs_get _ h]
  unfold updN
  by_cases hi : i = q
  ·subst hi
   rw [List.getElem?_set_self (by rw [ncs_len]; exact h), if_pos rfl]
  ·rw [List.getElem?_set_ne (by omega), ncs_get _ h, if_neg hi]
 ·rw [List.getElem?_eq_none (by rw [List.length_set, ncs_len]; omega), List.getElem?_eq_none (by rw [ncs_len]; omega)]
theorem ncs_nums (n : Nat) (f : Nat → Nat) : ncs n f = nums .i64 ((List.range n).map fun q => (f q : Int)) := by
 unfold ncs nums
 rw [List.map_map]
 rfl
def preP (P : Nat → Nat) (i a : Nat) : Nat → Nat := fun q => if q < i then P q else if q = i then a else 0
theorem preP_set (P : Nat → Nat) (i a b n : Nat) : ncs n (updN (preP P i a) i b) = ncs n (preP P i b) :=
 ncs_congr fun q _ => by
  unfold updN preP
  by_cases h : q = i
  ·subst h
   rw [if_pos rfl, if_neg (Nat.lt_irrefl q), if_pos rfl]
  ·simp only [if_neg h]
theorem preP_zero (P : Nat → Nat) (n : Nat) : (ncs n fun _ => 0) = ncs n (preP P 0 0) :=
 ncs_congr fun q _ => by
  unfold preP
  rw [if_neg (Nat.not_lt_zero q)]
  by_cases h : q = 0
  ·rw [if_pos h]
  ·rw [if_neg h]
theorem preP_next (P : Nat → Nat) (i n : Nat) {a : Nat} (h : P i = a) : ncs n (preP P i a) = ncs n (preP P (i + 1) 0) :=
 ncs_congr fun q _ => by
  unfold preP
  rcases Nat.lt_trichotomy q i with h1 | h1 | h1
  ·rw [if_pos h1, if_pos (by omega)]
  ·subst h1
   rw [if_neg (Nat.lt_irrefl q), if_pos rfl, if_pos (by omega), h]
  ·rw [if_neg (by omega), if_neg (by omega), if_neg (by omega)]
   by_cases h2 : q = i + 1
   ·rw [if_pos h2]
   ·rw [if_neg h2]
theorem preP_all (P : Nat → Nat) (n a : Nat) : ncs n (preP P n a) = ncs n P :=
 ncs_congr fun q hq => by unfold preP; rw [if_pos hq]
structure SkP (R : Nat → Nat → Prop) (i a : Nat) : Prop where
 le : a ≤ i
 no : ∀ j, j < a → ¬ R j i
section
variable {R : Nat → Nat → Prop} {i a : Nat}
theorem SkP.zero (R : Nat → Nat → Prop) (i : Nat) : SkP R i 0 := ⟨Nat.zero_le _, fun j hj => absurd hj (Nat.not_lt_zero _)⟩
theorem SkP.next (h : SkP R i a) (hlt : a < i) (hn : ¬ R a i) : SkP R i (a + 1) :=
 ⟨hlt, fun j hj => by
  by_cases e : j = a
  ·rw [e]; exact hn
  ·exact h.no j (by omega)⟩
theorem SkP.hit (h : SkP R i a) (hr : ∀ i, R i i) (hR : R a i) : leR R i = a := leR_is hr hR h.le h.no
theorem SkP.end_ (h : SkP R i a) (hr : ∀ i, R i i) (hge : ¬ a < i) : leR R i = a := by
 have e : a = i := Nat.le_antisymm h.le (Nat.le_of_not_lt hge)
 exact h.hit hr (by rw [e]; exact hr i)
end
section
variable {P : Program} {ops : Array Oper} {Q : Exit → Act → World → Prop} {md : Region.Mode} {T S : World → Prop} {n : Nat}
def wpAnyC (P : Program) (md : Region.Mode) (ops : Array Oper) (Q : Exit → Act → World → Prop) (T S : World → Prop) (n : Nat) : Nat → Array Bool → Act → World → Prop
 | 0, listed, a, w => Region.ready md ops listed = [] ∧ Q .normal a w
 | fuel + 1, listed, a, w =>
  (Region.ready md ops listed = [] → Q .normal a w) ∧
  ∀ i ∈ Region.ready md ops listed, wpOp P ops Q i (fun a' w' => T w' ∧ (i < n → S w → S w') ∧ wpAnyC P md ops Q T S n fuel (listed.setIfInBounds i true) a' w') a w
theorem wpAny_of_C : ∀ (fuel : Nat) (listed : Array Bool) (a : Act) (w : World), wpAnyC P md ops Q T S n fuel listed a w → wpAny P md ops Q fuel listed a w
 | 0, _, _, _, h => h
 | fuel + 1, _, _, _, h => ⟨h.1, fun i hi => wpOp_mono (fun a' w' h' => wpAny_of_C fuel _ a' w' h'.2.2) (h.2 i hi)⟩
def allWait (md : Region.Mode) (ops : Array Oper) (n i : Nat) : Bool := (List.range ops.size).all fun j => decide (j < n) || waitsFor md ops j i
theorem allWait_spec {i j : Nat} (h : allWait md ops n i = true) {listed : Array Bool} (hi : i ∈ Region.ready md ops listed) (hj : j ∈ Region.ready md ops listed) : j < n := by
 unfold allWait at h
 rw [List.all_eq_true] at h
 obtain ⟨_, o, ho, _⟩ := mem_ready.1 hj
 have h2 := h j (List.mem_range.2 (Array.getElem?_eq_some_iff.1 ho).1)
 rw [Bool.or_eq_true, decide_eq_true_iff] at h2
 rcases h2 with h2 | h2
 ·exact h2
 ·exact absurd hj (waits_not h2 hi)
theorem wpAnyC_first {U : World → Prop} {i : Nat} {oi : Oper} {v : Value} (hi : ops[i]? = some oi) (hsel : ∀ (j : Nat) (o : Oper) cs b, ops[j]? = some o → o.op ≠ .select cs b)
  (hQ : ∀ c a w, Q (.panic c) (a.put oi.dst v) w → Q (.panic c) a w)
  (hU : ∀ (listed : Array Bool) (j : Nat) (w w' : World), i ∈ Region.ready md ops listed → j ∈ Region.ready md ops listed → U w → T w' → (j < n → S w → S w') → U w') :
  ∀ (fuel : Nat) (listed : Array Bool) (a : Act) (w : World),
   (∀ j oj, ops[j]? = some oj → j ≠ i → listed.getD j true = false → (∀ e ∈ oj.after, Region.binds md e = true → e.on ≠ i) → oi.apart ops oj = true) →
   i ∈ Region.ready md ops listed → YieldsIf P ops U oi v a → U w → T w →
   wpAnyC P md ops Q T S n fuel (listed.setIfInBounds i true) (a.put oi.dst v) w → wpAnyC P md ops Q T S n (fuel + 1) listed a w := by
 intro fuel
 induction fuel with
 | zero =>
  intro listed a w _ hr hy hS hT H
  refine ⟨fun h => (by rw [h] at hr; cases hr), fun j hj => ?_⟩
  by_cases hji : j = i
  ·subst hji; exact hy.wpOp hi hS ⟨hT, fun _ h => h, H⟩
  ·have := ready_mono hj hji
   rw [H.1] at this
   cases this
 | succ fuel ih =>
  intro listed a w hfree hr hy hS hT H
  refine ⟨fun h => (by rw [h] at hr; cases hr), fun j hj => ?_⟩
  by_cases hji : j = i
  ·subst hji; exact hy.wpOp hi hS ⟨hT, fun _ h => h, H⟩
  ·have h1 := H.2 j (ready_mono hj hji)
   obtain ⟨hjun, oj, hoj, hall⟩ := mem_ready.1 hj
   have hnot : ∀ e ∈ oj.after, Region.binds md e = true → e.on ≠ i := fun e he hb heq => by
    have h1 := hall e he hb
    have h0 := (mem_ready.1 hr).1
    rw [heq] at h1
    rcases Nat.lt_or_ge i listed.size with h' | h'
    ·simp [h'] at h0 h1; rw [h0] at h1; cases h1
    ·simp [Array.getElem?_eq_none h'] at h1
   have h2 := wpOp_putIf hoj (hfree j oj hoj hji hjun hnot) (fun cs b => hsel i oi cs b hi) (fun cs b => hsel j oj cs b hoj) hQ hy h1
   have hfree' : ∀ k ok, ops[k]? = some ok → k ≠ i → (listed.setIfInBounds j true).getD k true = false →
     (∀ e ∈ ok.after, Region.binds md e = true → e.on ≠ i) → oi.apart ops ok = true := fun k ok hk hki hun hno => by
    refine hfree k ok hk hki ?_ hno
    by_cases hjk : j = k
    ·subst hjk; exact hjun
    ·rw [getD_set_ne true hjk] at hun; exact hun
   refine wpOp_mono (fun a' w' h3 => ⟨h3.2.1, h3.2.2.1, ih (listed.setIfInBounds j true) a' w' hfree' (ready_mono hr (Ne.symm hji)) h3.1 (hU listed j w w' hr hj hS h3.2.1 h3.2.2.1) h3.2.1 ?_⟩) h2
   rw [Array.setIfInBounds_comm _ _ hji]
   exact h3.2.2.2
theorem mc_take {i : Nat} {oi : Oper} {v : Value} {fuel : Nat} {listed : Array Bool} {a : Act} {w : World} (hi : ops[i]? = some oi)
  (hs : Region.noSelect ops = true) (hf : Region.free md ops listed i = true) (hr : (Region.ready md ops listed).contains i = true)
  (hQ : ∀ c a w, Q (.panic c) (a.put oi.dst v) w → Q (.panic c) a w) (hw : Region.wanted oi (yielded ops a.tmps) = true) (hT : T w)
  (hy : ∀ W, T W → (execOp a.eval oi).run P W = .ok (.value v) W)
  (h : wpAnyC P md ops Q T S n fuel (listed.setIfInBounds i true) (a.put oi.dst v) w) : wpAnyC P md ops Q T S n (fuel + 1) listed a w :=
 wpAnyC_first (U := T) hi (Region.noSelect_spec hs) hQ (fun _ _ _ _ _ _ _ h _ => h) fuel listed a w (Region.free_spec hi hf) (by simpa using hr) (.inl ⟨hw, hy⟩) hT hT h
theorem mc_skip {i : Nat} {oi : Oper} {fuel : Nat} {listed : Array Bool} {a : Act} {w : World} (hi : ops[i]? = some oi)
  (hs : Region.noSelect ops = true) (hf : Region.free md ops listed i = true) (hr : (Region.ready md ops listed).contains i = true)
  (hQ : ∀ c a w, Q (.panic c) (a.put oi.dst undef) w → Q (.panic c) a w) (hw : Region.wanted oi (yielded ops a.tmps) = false) (hT : T w)
  (h : wpAnyC P md ops Q T S n fuel (listed.setIfInBounds i true) (a.put oi.dst undef) w) : wpAnyC P md ops Q T S n (fuel + 1) listed a w :=
 wpAnyC_first (U := T) hi (Region.noSelect_spec hs) hQ (fun _ _ _ _ _ _ _ h _ => h) fuel listed a w (Region.free_spec hi hf) (by simpa using hr) (.inr ⟨hw, rfl⟩) hT hT h
theorem mc_takeS {i : Nat} {oi : Oper} {v : Value} {fuel : Nat} {listed : Array Bool} {a : Act} {w : World} (hi : ops[i]? = some oi)
  (hs : Region.noSelect ops = true) (hf : Region.free md ops listed i = true) (hr : (Region.ready md ops listed).contains i = true)
  (hQ : ∀ c a w, Q (.panic c) (a.put oi.dst v) w → Q (.panic c) a w) (hw : Region.wanted oi (yielded ops a.tmps) = true) (hT : T w) (hS : S w)
  (hy : ∀ W, T W → S W → (execOp a.eval oi).run P W = .ok (.value v) W)
  (h : wpAnyC P md ops Q T S n fuel (listed.setIfInBounds i true) (a.put oi.dst v) w) (hwt : allWait md ops n i = true := by kernel_rfl) : wpAnyC P md ops Q T S n (fuel + 1) listed a w :=
 wpAnyC_first (U := fun W => T W ∧ S W) hi (Region.noSelect_spec hs) hQ (fun listed j w w' h1 h2 h3 h4 h5 => ⟨h4, h5 (allWait_spec hwt h1 h2) h3.2⟩) fuel listed a w (Region.free_spec hi hf) (by simpa using hr) (.inl ⟨hw, fun W hW => hy W hW.1 hW.2⟩) ⟨hT, hS⟩ hT h
theorem mc_actB {i : Nat} {o : Oper} {fuel : Nat} {listed : Array Bool} {a : Act} {w : World} (hi : ops[i]? = some o) (hr : Region.ready md ops listed = [i])
  (hw : Region.wanted o (yielded ops a.tmps) = true)
  (h : ∀ K : Act → World → Prop, (∀ a' w', T w' → S w' → wpAnyC P md ops Q T S n fuel (listed.setIfInBounds i true) a' w' → K a' w') → o.wp P a w K Q) :
  wpAnyC P md ops Q T S n (fuel + 1) listed a w := by
 refine ⟨fun h0 => (by rw [hr] at h0; cases h0), fun j hj => ?_⟩
 rw [hr] at hj
 have hji : j = i := by simpa using hj
 subst hji
 unfold wpOp
 rw [hi]
 simp only [hw, if_true]
 exact .inl (h _ fun a' w' ht hs hk => ⟨ht, fun _ _ => hs, hk⟩)
theorem mc_last {i : Nat} {o : Oper} {fuel : Nat} {listed : Array Bool} {a : Act} {w : World} (hi : ops[i]? = some o) (hr : Region.ready md ops listed = [i])
  (hw : Region.wanted o (yielded ops a.tmps) = true)
  (h : ∀ K : Act → World → Prop, (∀ a' w', T w' → wpAnyC P md ops Q T S n fuel (listed.setIfInBounds i true) a' w' → K a' w') → o.wp P a w K Q) (hin : decide (n ≤ i) = true := by rfl) :
  wpAnyC P md ops Q T S n (fuel + 1) listed a w := by
 refine ⟨fun h0 => (by rw [hr] at h0; cases h0), fun j hj => ?_⟩
 rw [hr] at hj
 have hji : j = i := by simpa using hj
 subst hji
 unfold wpOp
 rw [hi]
 simp only [hw, if_true]
 exact .inl (h _ fun a' w' ht hk => ⟨ht, fun h0 => absurd h0 (Nat.not_lt.2 (of_decide_eq_true hin)), hk⟩)
theorem wpAnyC_done {listed : Array Bool} {a : Act} {w : World} (hr : Region.ready md ops listed = []) (h : Q .normal a w) :
  ∀ fuel, wpAnyC P md ops Q T S n fuel listed a w
 | 0 => ⟨hr, h⟩
 | _ + 1 => ⟨fun _ => h, by rw [hr]; simp⟩
theorem mc_start {id : Nat} {a : Act} {w : World} (T S : World → Prop) (n : Nat) (hm : P.follows .mixedOrders = true)
  (h : ∀ wd, wd = w.drew → wpAnyC P .any ops Q T S n ops.size (Array.replicate ops.size false) a wd) : (Code.region id ops true).wp P Q a w :=
 wp_region_any hm (wpAny_of_C _ _ _ _ (h _ rfl))
end
theorem ex_neP {ev : Operand → Value} {o : Oper} (x y : Operand) {r : TypeId} (ho : o.op = .binOp .neq 4 x y r) {p q : Bool} (hx : ev x = .bool p) (hy : ev y = .bool q) {b : Bool} (hb : (p != q) = b) (W : World) : (execOp ev o).run Try.prog W = .ok (.value (.bool b)) W := by
 simp only [execOp, ho, hx, hy]
 subst hb
 cases p <;> cases q <;> go_simp
theorem ex_neJ {ev : Operand → Value} {o : Oper} (x y : Operand) {r : TypeId} (ho : o.op = .binOp .neq 3 x y r) {p q : Int} (hx : ev x = .int .i64 p) (hy : ev y = .int .i64 q) {b : Bool} (hb : (p != q) = b) (W : World) : (execOp ev o).run Try.prog W = .ok (.value (.bool b)) W := by
 simp only [execOp, ho, hx, hy]
 subst hb
 go_simp
 try rfl
theorem row_ncs {w : World} {pv : Value} {n : Nat} {P : Nat → Nat} (hp : Row w pv (ncs n P)) (h0n : 0 < n) : ∃ bp op c, pv = .slice (some ⟨bp, op, none⟩) n c ∧ bp < w.heap.size ∧ ∀ q, q < n → w.cell? ⟨bp, op + q, none⟩ = some (.int .i64 (P q : Int)) := by
 obtain ⟨A, c, h1, _⟩ := id hp
 subst h1
 rw [ncs_len] at hp ⊢
 obtain ⟨b1, o1, rfl, h2, h3⟩ := hp.at_ (by rw [ncs_len]; exact h0n)
 exact ⟨b1, o1, c, rfl, h2, fun q hq => h3 q _ (ncs_get P hq)⟩
section
variable {P : Program} {w : World} {ops : Array Oper} {rest : List Oper} {o : Oper} {a : Act} {Q : Exit → Act → World → Prop}
end
theorem infoC {P : Program} {e : TypeId} {z : Value} {s b : Nat} (h : (P.info? e).map (fun i => (i.zero, i.size, i.bytes)) = some (some z, s, b)) : ∃ i, P.info? e = some i ∧ i.zero = some z ∧ i.size = s ∧ i.bytes = b := by
 cases hi : P.info? e with
 | none => rw [hi] at h; cases h
 | some i =>
  rw [hi] at h
  injection h with h
  simp only [Prod.mk.injEq] at h
  exact ⟨i, rfl, h.1, h.2.1, h.2.2⟩
theorem ownC_nil (w : World) (B : Nat) (e : TypeId) : w.ownsRow B e 1 (.slice none 0 0) 0 [] := ⟨rfl, .inl ⟨rfl, rfl⟩⟩
def Dat (w : World) (g : Nat) (zs : List Value) (l : List UInt8) : Prop := Blk w g 5 (bvs l ++ zs)
section
variable {w w' : World} {g : Nat} {zs : List Value} {l : List UInt8}
theorem Dat.lt (h : Dat w g zs l) : g < w.heap.size := Blk.lt h
theorem Dat.drew (h : Dat w g zs l) : Dat w.drew g zs l := Blk.drew h
theorem Dat.keep (h : Dat w g zs l) (hk : w'.heap[g]? = w.heap[g]?) : Dat w' g zs l := hk.trans h
theorem Dat.cell (h : Dat w g zs l) {i : Nat} {c : UInt8} (hc : l[i]? = some c) : w.cell? ⟨g, i, none⟩ = some (bv c) := by
 have hi := (List.getElem?_eq_some_iff.1 hc).1
 rw [Blk.cell h, List.getElem?_append_left (by rw [bvs_length]; exact hi)]
 exact bvs_get l i c hc
theorem Dat.frozen (h : Dat w g zs l) (i : Nat) : w.frozen? ⟨g, i, none⟩ = false := Blk.frozen h i
theorem bvs_set (l : List UInt8) (i : Nat) (c : UInt8) : (bvs l).set i (bv c) = bvs (l.set i c) := by simp [bvs, List.map_set]
theorem Dat.set (h : Dat w g zs l) {i : Nat} (hi : i < l.length) (c : UInt8) : Dat (w.setCell ⟨g, i, none⟩ (bv c)) g zs (l.set i c) := by
 have h1 := Blk.set h i (bv c)
 rw [List.set_append_left _ _ (by rw [bvs_length]; exact hi), bvs_set] at h1
 exact h1
theorem Dat.below {B : Nat} (h : Dat w g zs l) (hb : Below B w w') (hg : g < B) : Dat w' g zs l := Blk.below h hb hg
end
theorem grownS_trans {w w1 w2 : World} {g : Nat} (h : w.grownBy w1 (some g)) (h2 : w1.grownBy w2 (some g)) : w.grownBy w2 (some g) :=
 ⟨h2.os.trans h.os, h2.tape.trans h.tape, h2.output.trans h.output, Nat.le_trans h.size h2.size, fun k hk hne => (h2.block k (by have := h.size; omega) hne).trans (h.block k hk hne)⟩
theorem grownS_set {w V : World} {g : Nat} (h : w.grownBy V (some g)) (q : Nat) (v : Value) : w.grownBy (V.setCell ⟨g, q, none⟩ v) (some g) :=
 ⟨h.os, h.tape, h.output, Nat.le_trans h.size (by simp [World.setCell]), fun k hk hn => (Below.heap_setCell V ⟨g, q, none⟩ v k (by rintro rfl; exact hn rfl)).trans (h.block k hk hn)⟩
theorem grownS_drew (w : World) (g : Nat) : w.grownBy w.drew (some g) := ⟨rfl, rfl, rfl, Nat.le_refl _, fun _ _ _ => rfl⟩
theorem grownS_below {w w1 w2 : World} {g : Nat} (h : w.grownBy w1 (some g)) (hb : Below w1.heap.size w1 w2) : w.grownBy w2 (some g) :=
 ⟨hb.os.trans h.os, hb.tape.trans h.tape, hb.output.trans h.output, Nat.le_trans h.size hb.size, fun k hk hn => (hb.block k (Nat.lt_of_lt_of_le hk h.size)).trans (h.block k hk hn)⟩
structure SoP (g : Nat) (zs : List Value) (l0 : List UInt8) (w0 w : World) : Prop where
 dat : ∃ l, l.Perm l0 ∧ Dat w g zs l
 grown : w0.grownBy w (some g)
section
variable {w w0 w' : World} {g : Nat} {zs : List Value} {l l0 : List UInt8}
theorem SoP.refl (h : Dat w g zs l) : SoP g zs l w w := ⟨⟨l, List.Perm.refl _, h⟩, ⟨rfl, rfl, rfl, Nat.le_refl _, fun _ _ _ => rfl⟩⟩
theorem SoP.trans (hp : l.Perm l0) (h1 : w0.grownBy w (some g)) (h : SoP g zs l w w') : SoP g zs l0 w0 w' := by
 obtain ⟨⟨l', hp', hd⟩, hg⟩ := h
 exact ⟨⟨l', hp'.trans hp, hd⟩, grownS_trans h1 hg⟩
theorem SoP.below (h : SoP g zs l0 w0 w) (hb : Below w.heap.size w w') : SoP g zs l0 w0 w' := by
 obtain ⟨⟨l, hp, hd⟩, hg⟩ := h
 exact ⟨⟨l, hp, hd.below hb hd.lt⟩, grownS_below hg hb⟩
end
/-! ### single cells -/
theorem w64S (k : Nat) (h : k ≤ 4611686018427387904) : wrap64 (k : Int) = (k : Int) := IntWalk.wrap64_in _ (by omega)
theorem k64S (k : Nat) (h : k ≤ 4611686018427387904) : IntKind.i64.wrap (k : Int) = (k : Int) := IntWalk.i64_in _ (by omega)
def IsW (w V : World) : Prop := V = w
section
variable {w0 w V : World} {g : Nat} {zs : List Value} {l : List UInt8}
theorem Dat.is (h : Dat w g zs l) (hV : IsW w.drew V) : Dat V g zs l := by
 have e : V = w.drew := hV
 rw [e]
 exact h.drew
theorem grownS_is (h : w0.grownBy w (some g)) (hV : IsW w.drew V) : w0.grownBy V (some g) := by
 have e : V = w.drew := hV
 rw [e]
 exact grownS_trans h (grownS_drew _ _)
theorem SoP.is (h : SoP g zs l w0 w) (hV : IsW w.drew V) : SoP g zs l w0 V := ⟨by
 obtain ⟨l', hp, hd⟩ := h.dat
 exact ⟨l', hp, hd.is hV⟩, grownS_is h.grown hV⟩
end
def putV (vf : Nat → Value) (s : Nat) (v : Value) : Nat → Value := fun i => if i = s then v else vf i
theorem putV_at (vf : Nat → Value) (s : Nat) (v : Value) : putV vf s v s = v := if_pos rfl
theorem putV_ne {vf : Nat → Value} {s i : Nat} {v : Value} (h : i ≠ s) : putV vf s v i = vf i := if_neg h
theorem map_putV (vf : Nat → Value) (s : Nat) (v : Value) (n : Nat) : ((List.range n).map vf).set s v = (List.range n).map (putV vf s v) := by
 apply List.ext_getElem?
 intro i
 by_cases hi : i < n
 ·by_cases he : s = i
  ·subst he
   rw [List.getElem?_set_self (by simp [hi])]
   simp [hi, putV_at]
  ·rw [List.getElem?_set_ne he]
   simp [hi, putV_ne (Ne.symm he)]
 ·rw [List.getElem?_eq_none (by simp; omega), List.getElem?_eq_none (by simp; omega)]
def putL (L : Nat → List Int) (s : Nat) (l : List Int) : Nat → List Int := fun i => if i = s then l else L i
theorem putL_at (L : Nat → List Int) (s : Nat) (l : List Int) : putL L s l s = l := if_pos rfl
theorem putL_ne {L : Nat → List Int} {s i : Nat} {l : List Int} (h : i ≠ s) : putL L s l i = L i := if_neg h
theorem own_mono {w : World} {B B' : Nat} {e : TypeId} {v : Value} {n k : Nat} {xs : List Value} (h : w.ownsRow B' e k v n xs) (hB : B ≤ B') : w.ownsRow B e k v n xs := by
 refine ⟨h.1, ?_⟩
 rcases h.2 with h0 | ⟨g, cap, cur, rfl, hb, h3⟩
 ·exact .inl h0
 ·exact .inr ⟨g, cap, cur, rfl, Nat.le_trans hB hb, h3⟩
theorem ownC_slice {w : World} {base : Nat} {e : TypeId} {v : Value} {n : Nat} {xs : List Value} (h : w.ownsRow base e 1 v n xs) : ∃ A c, v = .slice A n c := by
 rcases h.2 with ⟨rfl, h0⟩ | ⟨g, cap, cur, rfl, _⟩
 ·exact ⟨none, 0, by rw [h0]⟩
 ·exact ⟨_, _, rfl⟩
structure Fam (w : World) (Bt Br g cap n m : Nat) (vf : Nat → Value) (L : Nat → List Int) : Prop where
 top : w.ownsRow Bt 38 1 (.slice (some ⟨g, 0, none⟩) n cap) n ((List.range n).map vf)
 row : ∀ i, i < m → w.ownsRow Br 3 1 (vf i) (L i).length (nums .i64 (L i))
 ng : ∀ i, i < m → (vf i).ownBlock ≠ some g
 inj : ∀ i j, i < m → j < m → i ≠ j → ∀ k, (vf i).ownBlock = some k → (vf j).ownBlock ≠ some k
section
variable {w w' : World} {Bt Br g cap n m : Nat} {vf : Nat → Value} {L : Nat → List Int}
theorem Fam.stay (h : Fam w Bt Br g cap n m vf L) (hg : w'.heap[g]? = w.heap[g]?) (hr : ∀ i k, i < m → (vf i).ownBlock = some k → w'.heap[k]? = w.heap[k]?) : Fam w' Bt Br g cap n m vf L :=
 ⟨own6_stay h.top fun j hj => by
  have e : some g = some j := hj
  rw [← Option.some.inj e]
  exact hg, fun i hi => own6_stay (h.row i hi) fun j hj => hr i j hi hj, h.ng, h.inj⟩
theorem Fam.glt (h : Fam w Bt Br g cap n m vf L) : g < w.heap.size ∧ Bt ≤ g := own6_lt h.top g rfl
theorem Fam.below (h : Fam w Bt Br g cap n m vf L) (hb : Below w.heap.size w w') : Fam w' Bt Br g cap n m vf L :=
 h.stay (hb.block g h.glt.1) fun i k hi hk => hb.block k (own6_lt (h.row i hi) k hk).1
theorem Fam.rowV (h : Fam w Bt Br g cap n m vf L) : Row w (.slice (some ⟨g, 0, none⟩) n cap) ((List.range n).map vf) := Row.of_own h.top
theorem Fam.cell (h : Fam w Bt Br g cap n m vf L) {i : Nat} (hi : i < n) : w.cell? ⟨g, i, none⟩ = some (vf i) := (own_cell h.top (j := i) (u := vf i) (by simp [hi])).1
theorem Fam.frozen (h : Fam w Bt Br g cap n m vf L) {i : Nat} (hi : i < n) : w.frozen? ⟨g, i, none⟩ = false := (own_cell h.top (j := i) (u := vf i) (by simp [hi])).2
theorem Fam.slice (h : Fam w Bt Br g cap n m vf L) {i : Nat} (hi : i < m) : ∃ A c, vf i = .slice A (L i).length c := by
 obtain ⟨A, c, hv, _⟩ := Row.of_own (h.row i hi)
 rw [nums_length] at hv
 exact ⟨A, c, hv⟩
theorem Fam.put (h : Fam w Bt Br g cap n m vf L) {s : Nat} (hs : s < n) {m' : Nat} (hm' : ∀ i, i < m' → i = s ∨ i < m) {v : Value} {l : List Int}
  (ho : w'.ownsRow Br 3 1 v l.length (nums .i64 l)) (hgr : ∀ k, k < w.heap.size → (∀ q, (q = k → q < w.heap.size → (s < m ∧ (vf s).ownBlock = some q) → False) ∧ True) → w'.heap[k]? = w.heap[k]?) (hsz : w.heap.size ≤ w'.heap.size)
  (hnew : ∀ k, v.ownBlock = some k → (s < m ∧ (vf s).ownBlock = some k) ∨ w.heap.size ≤ k) : Fam (w'.setCell ⟨g, s, none⟩ v) Bt Br g cap n m' (putV vf s v) (putL L s l) := by
 have hg := h.glt
 have hgs : ¬ (s < m ∧ (vf s).ownBlock = some g) := fun e => h.ng s e.1 e.2
 have hng : v.ownBlock ≠ some g := fun e => by
  rcases hnew g e with e1 | e1
  ·exact hgs e1
  ·omega
 have hkeep : ∀ i, i < m → i ≠ s → ∀ k, (vf i).ownBlock = some k → (w'.setCell ⟨g, s, none⟩ v).heap[k]? = w.heap[k]? := fun i hi hne k hk => by
  rw [Below.heap_setCell w' ⟨g, s, none⟩ v k (fun e => h.ng i hi (by rw [hk]; exact congrArg some e))]
  refine hgr k (own6_lt (h.row i hi) k hk).1 fun q => ⟨fun hq _ e => ?_, trivial⟩
  subst hq
  exact h.inj i s hi e.1 hne q hk e.2
 refine ⟨?_, fun i hi => ?_, fun i hi => ?_, fun i j hi hj hij k hk => ?_⟩
 ·have h1 : w'.ownsRow Bt 38 1 (.slice (some ⟨g, 0, none⟩) n cap) n ((List.range n).map vf) := own6_stay h.top fun j hj => by
   have e : some g = some j := hj
   have e2 := Option.some.inj e
   subst e2
   refine hgr g hg.1 fun q => ⟨fun hq _ e3 => ?_, trivial⟩
   subst hq
   exact hgs e3
  have h2 := own_set h1 (j := s) (by simp [hs]) v
  rw [map_putV] at h2
  exact h2
 ·by_cases hne : i = s
  ·subst hne
   rw [putV_at, putL_at]
   exact own6_stay ho fun j hj => Below.heap_setCell w' ⟨g, i, none⟩ v j (fun e => hng (by rw [hj]; exact congrArg some e))
  ·rw [putV_ne hne, putL_ne hne]
   have him : i < m := by rcases hm' i hi with e | e; exact absurd e hne; exact e
   exact own6_stay (h.row i him) fun j hj => hkeep i him hne j hj
 ·by_cases hne : i = s
  ·rw [hne, putV_at]; exact hng
  ·rw [putV_ne hne]
   have him : i < m := by rcases hm' i hi with e | e; exact absurd e hne; exact e
   exact h.ng i him
 ·by_cases hi2 : i = s
  ·have hj2 : j ≠ s := fun e => hij (by rw [hi2, e])
   have hjm : j < m := by rcases hm' j hj with e | e; exact absurd e hj2; exact e
   rw [hi2, putV_at] at hk
   rw [putV_ne hj2]
   rcases hnew k hk with e | e
   ·exact fun e2 => h.inj s j e.1 hjm (Ne.symm hj2) k e.2 e2
   ·exact fun e2 => by have := (own6_lt (h.row j hjm) k e2).1; omega
  ·have him : i < m := by rcases hm' i hi with e | e; exact absurd e hi2; exact e
   rw [putV_ne hi2] at hk
   by_cases hj2 : j = s
   ·rw [hj2, putV_at]
    intro e2
    rcases hnew k e2 with e | e
    ·exact h.inj s i e.1 him (Ne.symm hi2) k e.2 hk
    ·have := (own6_lt (h.row i him) k hk).1; omega
   ·have hjm : j < m := by rcases hm' j hj with e | e; exact absurd e hj2; exact e
    rw [putV_ne hj2]
    exact h.inj i j him hjm hij k hk
theorem Fam.push (h : Fam w Bt Br g cap n m vf L) {s : Nat} (hs : s < n) (hsm : s < m) {v : Value} {x : Int}
  (ho : w'.ownsRow Br 3 1 v (L s ++ [x]).length (nums .i64 (L s ++ [x]))) (hg : w.grownBy w' (vf s).ownBlock) (hw : ∀ k, v.ownBlock = some k → (vf s).ownBlock = some k ∨ w.heap.size ≤ k) :
  Fam (w'.setCell ⟨g, s, none⟩ v) Bt Br g cap n m (putV vf s v) (putL L s (L s ++ [x])) :=
 h.put hs (fun i hi => .inr hi) ho (fun k hk hn => hg.block k hk fun e => (hn k).1 rfl hk ⟨hsm, e.symm⟩) hg.size fun k hk => by
  rcases hw k hk with e | e
  ·exact .inl ⟨hsm, e⟩
  ·exact .inr e
theorem Fam.next (h : Fam w Bt Br g cap n m vf L) (hm : m < n) {v : Value} {l : List Int} (ho : w'.ownsRow w.heap.size 3 1 v l.length (nums .i64 l)) (hb : Below w.heap.size w w') (hB : Br ≤ w.heap.size) :
  Fam (w'.setCell ⟨g, m, none⟩ v) Bt Br g cap n (m + 1) (putV vf m v) (putL L m l) :=
 h.put hm (fun i hi => by omega) (own_mono ho hB) (fun k hk _ => hb.block k hk) hb.size fun k hk => .inr (own6_lt ho k hk).2
end
theorem Fam.made {w : World} {B Br g n : Nat} (h : Blk w g 38 (List.replicate n (.slice none 0 0))) (hB : B ≤ g) (hn : n ≤ 1048576) : Fam w B Br g n n n (fun _ => .slice none 0 0) (fun _ => []) := by
 refine ⟨?_, fun i _ => ownC_nil w Br _, fun i _ e => (by cases (show (none : Option Nat) = some g from e)), fun i j _ _ _ k hk => (by cases (show (none : Option Nat) = some k from hk))⟩
 have h1 := h.own hB (by rw [List.length_replicate]; unfold maxLen; omega)
 simp only [List.length_replicate] at h1
 rwa [show (List.range n).map (fun _ => Value.slice none 0 0) = List.replicate n (.slice none 0 0) by rw [List.map_const', List.length_range]]
def LnkV (w : World) (v : Value) (n : Nat) (L : Nat → List Int) : Prop :=
 ∃ vf : Nat → Value, Row w v ((List.range n).map vf) ∧ ∀ i, i < n → Row w (vf i) (nums .i64 (L i))
theorem LnkV.below {w w' : World} {v : Value} {n : Nat} {L : Nat → List Int} (h : LnkV w v n L) (hb : Below w.heap.size w w') : LnkV w' v n L := by
 obtain ⟨vf, h1, h2⟩ := h
 exact ⟨vf, h1.below hb, fun i hi => (h2 i hi).below hb⟩
theorem Fam.lnk {w : World} {Bt Br g cap n : Nat} {vf : Nat → Value} {L : Nat → List Int} (h : Fam w Bt Br g cap n n vf L) : LnkV w (.slice (some ⟨g, 0, none⟩) n cap) n L :=
 ⟨vf, h.rowV, fun i hi => Row.of_own (h.row i hi)⟩
theorem LnkV.congr {w : World} {v : Value} {n : Nat} {L L' : Nat → List Int} (h : LnkV w v n L) (he : ∀ i, i < n → L i = L' i) : LnkV w v n L' := by
 obtain ⟨vf, h1, h2⟩ := h
 exact ⟨vf, h1, fun i hi => by rw [← he i hi]; exact h2 i hi⟩
theorem ne_of_ltG {br g B : Nat} (h : br < B) (hB : B ≤ g) : some br ≠ some g := fun e => by
 have := Option.some.inj e
 omega
theorem below_own {w0 w w' : World} {B : Nat} {A : Option Nat} (h : Below B w0 w) (hB : B ≤ w.heap.size) (h2 : w.grownBy w' A) (hA : ∀ q, A = some q → B ≤ q) : Below B w0 w' :=
 h.trans ⟨h2.os, h2.tape, h2.output, h2.size, fun k hk => h2.block k (Nat.lt_of_lt_of_le hk hB) fun e => by
  have := hA k (by first | exact e | exact e.symm)
  omega⟩
end Go.Proofs.Ytiehefnbdijiaaa
