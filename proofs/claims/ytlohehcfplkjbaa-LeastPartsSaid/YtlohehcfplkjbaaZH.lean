/-
  Texts of this proof, put together: LpA, RegM, LpB. No statement is proved here.
-/
import Derived.Test.YtlohehcfplkjbaaZG
import Derived.Test.YtlohehcfplkjbaaZB
import Derived.Test.YtlohehcfplkjbaaZD
import Derived.Test.YtlohehcfplkjbaaZA
import Derived.Test.YtlohehcfplkjbaaZC
namespace Go.Proofs.Ytlohehcfplkjbaa
open Go.RowKit
set_option linter.unusedSimpArgs false
set_option linter.unusedVariables false
def ncs (n : Nat) (f : Nat → Nat) : List Value := (List.range n).map fun q => .int .i64 (f q : Int)
theorem ncs_len (n : Nat) (f : Nat → Nat) : (ncs n f).length = n := by simp [ncs]
theorem ncs_get {n q : Nat} (f : Nat → Nat) (h : q < n) : (ncs n f)[q]? = some (.int .i64 (f q : Int)) := by simp [ncs, h]
theorem ncs_congr {n : Nat} {f g : Nat → Nat} (h : ∀ q, q < n → f q = g q) : ncs n f = ncs n g := by
 unfold ncs
 exact List.map_congr_left fun q hq => by rw [h q (List.mem_range.1 hq)]
theorem ncs_no (n : Nat) : List.replicate n (Value.int .i64 0) = ncs n fun _ => 0 := by
 apply List.ext_getElem?
 intro q
 by_cases h : q < n
 ·rw [ncs_get _ h]; simp [h]
 ·rw [List.getElem?_eq_none (by simp; omega), List.getElem?_eq_none (by rw [ncs_len]; omega)]
theorem ncs_set (n q : Nat) (f : Nat → Nat) (b : Nat) : (ncs n f).set q (.int .i64 (b : Int)) = ncs n (updN f q b) := by
 apply List.ext_getElem?
 intro i
 by_cases h : i < n
 ·rw [ncs_get _ h]
  unfold updN
  by_cases hi : i = q
  ·subst hi
   rw [List.getElem?_set_self (by rw [ncs_len]; exact h), if_pos rfl]
  ·rw [List.getElem?_set_ne (by omega), ncs_get _ h, if_neg hi]
 ·rw [List.getElem?_eq_none (by rw [List.length_set, ncs_len]; omega), List.getElem?_eq_none (by rw [ncs_len]; omega)]
theorem ncs_nums (n : Nat) (f : Nat → Nat) : ncs n f = nums .i64 ((List.range n).map fun q => (f q : Int)) := by
 unfold ncs nums
 rw [List.map_map]
 rfl
def preP (P : Nat → Nat) (i a : Nat) : Nat → Nat := fun q => if q < i then P q else if q = i then a else 0
theorem preP_at (P : Nat → Nat) (i a : Nat) : preP P i a i = a := by unfold preP; rw [if_neg (Nat.lt_irrefl i), if_pos rfl]
theorem preP_set (P : Nat → Nat) (i a b n : Nat) : ncs n (updN (preP P i a) i b) = ncs n (preP P i b) :=
 ncs_congr fun q _ => by
  unfold updN preP
  by_cases h : q = i
  ·subst h
   rw [if_pos rfl, if_neg (Nat.lt_irrefl q), if_pos rfl]
  ·simp only [if_neg h]
theorem preP_zero (P : Nat → Nat) (n : Nat) : (ncs n fun _ => 0) = ncs n (preP P 0 0) :=
 ncs_congr fun q _ => by
  unfold preP
  rw [if_neg (Nat.not_lt_zero q)]
  by_cases h : q = 0
  ·rw [if_pos h]
  ·rw [if_neg h]
theorem preP_next (P : Nat → Nat) (i n : Nat) {a : Nat} (h : P i = a) : ncs n (preP P i a) = ncs n (preP P (i + 1) 0) :=
 ncs_congr fun q _ => by
  unfold preP
  rcases Nat.lt_trichotomy q i with h1 | h1 | h1
  ·rw [if_pos h1, if_pos (by omega)]
  ·subst h1
   rw [if_neg (Nat.lt_irrefl q), if_pos rfl, if_pos (by omega), h]
  ·rw [if_neg (by omega), if_neg (by omega), if_neg (by omega)]
   by_cases h2 : q = i + 1
   ·rw [if_pos h2]
   ·rw [if_neg h2]
theorem preP_all (P : Nat → Nat) (n a : Nat) : ncs n (preP P n a) = ncs n P :=
 ncs_congr fun q hq => by unfold preP; rw [if_pos hq]
structure SkP (R : Nat → Nat → Prop) (i a : Nat) : Prop where
 le : a ≤ i
 no : ∀ j, j < a → ¬ R j i
section
variable {R : Nat → Nat → Prop} {i a : Nat}
theorem SkP.zero (R : Nat → Nat → Prop) (i : Nat) : SkP R i 0 := ⟨Nat.zero_le _, fun j hj => absurd hj (Nat.not_lt_zero _)⟩
theorem SkP.next (h : SkP R i a) (hlt : a < i) (hn : ¬ R a i) : SkP R i (a + 1) :=
 ⟨hlt, fun j hj => by
  by_cases e : j = a
  ·rw [e]; exact hn
  ·exact h.no j (by omega)⟩
theorem SkP.hit (h : SkP R i a) (hr : ∀ i, R i i) (hR : R a i) : leR R i = a := leR_is hr hR h.le h.no
theorem SkP.end_ (h : SkP R i a) (hr : ∀ i, R i i) (hge : ¬ a < i) : leR R i = a := by
 have e : a = i := Nat.le_antisymm h.le (Nat.le_of_not_lt hge)
 exact h.hit hr (by rw [e]; exact hr i)
end
theorem eqC_zero {D : Dm} {i j : Nat} : eqC D 0 i j ↔ D.ends.getD i false = D.ends.getD j false := by rw [← parR_iff, parR_zero]
noncomputable def oneG (D : Dm) (P : Nat → Nat) (a b : Nat) : Bool := @decide (P a = P b ∧ ∀ k, k < clsA D.cl → P (stC D a k) = P (stC D b k)) (Classical.propDecidable _)
theorem oneG_iff {D : Dm} {P : Nat → Nat} {a b : Nat} : oneG D P a b = true ↔ P a = P b ∧ ∀ k, k < clsA D.cl → P (stC D a k) = P (stC D b k) := by
 unfold oneG
 exact ⟨fun h => @of_decide_eq_true _ (Classical.propDecidable _) h, fun h => @decide_eq_true _ (Classical.propDecidable _) h⟩
theorem oneG_no {D : Dm} {P : Nat → Nat} {a b : Nat} (h : ¬ (P a = P b ∧ ∀ k, k < clsA D.cl → P (stC D a k) = P (stC D b k))) : oneG D P a b = false := by
 cases e : oneG D P a b with
 | false => rfl
 | true => exact absurd (oneG_iff.1 e) h
theorem oneG_par {D : Dm} {r a b : Nat} : oneG D (parR D r) a b = true ↔ eqC D (r + 1) a b := by rw [oneG_iff, ← parR_next, parR_iff]
theorem parR_is (D : Dm) (r i : Nat) : parR D r i = leR (eqC D r) i := rfl
theorem parR_lt {D : Dm} {r i n : Nat} (h : i < n) : parR D r i < n := Nat.lt_of_le_of_lt (leR_spec (eqC.refl D r) i).2.1 h
theorem parR_more {D : Dm} {r i : Nat} (hi : i < D.next.length) (h : parR D (r + 1) i ≠ parR D r i) : (repsC D r).length < (repsC D (r + 1)).length := by
 obtain ⟨h1, h2, h3⟩ := leR_spec (eqC.refl D r) i
 refine repsC_more (i := parR D r i) (j := i) (Nat.lt_of_le_of_lt h2 hi) hi h1 fun h4 => h ?_
 exact leR_is (eqC.refl D (r + 1)) h4 h2 fun j hj hc => h3 j hj (hc.less (Nat.le_succ r))
def fixN (n : Nat) (f : Nat → Nat) : Nat := ((List.range n).filter fun q => f q == q).length
theorem fixN_par (D : Dm) (r : Nat) : fixN D.next.length (parR D r) = (repsC D r).length := by
 unfold fixN repsC
 congr 1
 apply List.filter_congr
 intro i hi
 rw [Bool.eq_iff_iff]
 constructor
 ·intro h
  have h0 : parR D r i = i := by simpa using h
  rw [parR_is] at h0
  refine @decide_eq_true _ (Classical.propDecidable _) fun j hj hc => ?_
  have h3 := (leR_spec (eqC.refl D r) i).2.2
  rw [h0] at h3
  exact h3 j hj hc.symm
 ·intro h
  have h := @of_decide_eq_true _ (Classical.propDecidable _) h
  have h0 : leR (eqC D r) i = i := leR_is (eqC.refl D r) (eqC.refl D r i) (Nat.le_refl _) fun j hj hc => h j hj hc.symm
  rw [beq_iff_eq]
  exact h0
theorem fixN_congr {n : Nat} {f g : Nat → Nat} (h : ∀ q, q < n → f q = g q) : fixN n f = fixN n g := by
 unfold fixN
 congr 1
 apply List.filter_congr
 intro q hq
 rw [h q (List.mem_range.1 hq)]
def cellN (w : World) (v : Value) (q : Nat) : Nat :=
 match v with
 | .slice (some a) _ _ => match w.cell? ⟨a.block, a.off + q, none⟩ with
  | some (.int _ x) => x.toNat
  | _ => 0
 | _ => 0
theorem cellN_is {w : World} {g n c : Nat} {f : Nat → Nat} (h : Blk w g 3 (ncs n f)) {q : Nat} (hq : q < n) : cellN w (.slice (some ⟨g, 0, none⟩) n c) q = f q := by
 unfold cellN
 have h1 : w.cell? ⟨g, 0 + q, none⟩ = some (.int .i64 (f q : Int)) := by rw [Nat.zero_add, h.cell q, ncs_get _ hq]
 simp only [h1]
 omega
def farP (n : Nat) (ag pv : Value) (w : World) : Nat :=
 match ag with
 | .bool true => 1 + (n - fixN n (cellN w pv))
 | _ => 0
theorem farP_less {D : Dm} {n r g g' c c' : Nat} {w w' : World} {ag : Bool} (hn : n = D.next.length) (h : Blk w g 3 (ncs n (parR D r))) (h' : Blk w' g' 3 (ncs n (parR D (r + 1)))) (hag : ag = true → ∃ i, i < n ∧ parR D (r + 1) i ≠ parR D r i) :
  farP n (.bool ag) (.slice (some ⟨g', 0, none⟩) n c') w' < farP n (.bool true) (.slice (some ⟨g, 0, none⟩) n c) w := by
 have e1 : fixN n (cellN w (.slice (some ⟨g, 0, none⟩) n c)) = (repsC D r).length := by rw [fixN_congr fun q hq => cellN_is h hq, hn, fixN_par]
 have e2 : fixN n (cellN w' (.slice (some ⟨g', 0, none⟩) n c')) = (repsC D (r + 1)).length := by rw [fixN_congr fun q hq => cellN_is h' hq, hn, fixN_par]
 unfold farP
 cases ag with
 | false =>
  show 0 < 1 + _
  omega
 | true =>
  obtain ⟨i, hi, hne⟩ := hag rfl
  have h3 := parR_more (by rw [← hn]; exact hi) hne
  have h4 := repsC_le D (r + 1)
  rw [← hn] at h4
  show 1 + (n - fixN n _) < 1 + (n - fixN n _)
  rw [e1, e2]
  omega
theorem stC_row {D : Dm} {s k : Nat} {r : List Int} {x : Nat} (hr : D.next[s]? = some r) (hx : r[k]? = some (x : Int)) : stC D s k = x := by
 unfold stC
 rw [hr]
 show (r.getD k 0).toNat = x
 rw [List.getD_eq_getElem?_getD, hx]
 rfl
theorem may_cell {D : Dm} (h : MayD D) {s k : Nat} (hs : s < D.next.length) (hk : k < clsA D.cl) : ∃ r, D.next[s]? = some r ∧ r.length = clsA D.cl ∧ r[k]? = some ((stC D s k : Nat) : Int) ∧ stC D s k < D.next.length := by
 obtain ⟨r, hr⟩ : ∃ r, D.next[s]? = some r := ⟨_, List.getElem?_eq_getElem hs⟩
 have hl := h.rows r (List.mem_of_getElem? hr)
 obtain ⟨x, hx⟩ : ∃ x, r[k]? = some x := ⟨_, List.getElem?_eq_getElem (by rw [hl]; exact hk)⟩
 have h1 := h.to r (List.mem_of_getElem? hr) x (List.mem_of_getElem? hx)
 have e : x = ((x.toNat : Nat) : Int) := by omega
 rw [e] at hx
 have h2 := stC_row hr hx
 refine ⟨r, hr, hl, by rw [h2]; exact hx, stC_lt h hs k hk⟩
section
variable {P : Program} {ops : Array Oper} {Q : Exit → Act → World → Prop} {md : Region.Mode} {T S : World → Prop} {n : Nat}
def wpAnyC (P : Program) (md : Region.Mode) (ops : Array Oper) (Q : Exit → Act → World → Prop) (T S : World → Prop) (n : Nat) : Nat → Array Bool → Act → World → Prop
 | 0, listed, a, w => Region.ready md ops listed = [] ∧ Q .normal a w
 | fuel + 1, listed, a, w =>
  (Region.ready md ops listed = [] → Q .normal a w) ∧
  ∀ i ∈ Region.ready md ops listed, wpOp P ops Q i (fun a' w' => T w' ∧ (i < n → S w → S w') ∧ wpAnyC P md ops Q T S n fuel (listed.setIfInBounds i true) a' w') a w
theorem wpAny_of_C : ∀ (fuel : Nat) (listed : Array Bool) (a : Act) (w : World), wpAnyC P md ops Q T S n fuel listed a w → wpAny P md ops Q fuel listed a w
 | 0, _, _, _, h => h
 | fuel + 1, _, _, _, h => ⟨h.1, fun i hi => wpOp_mono (fun a' w' h' => wpAny_of_C fuel _ a' w' h'.2.2) (h.2 i hi)⟩
def allWait (md : Region.Mode) (ops : Array Oper) (n i : Nat) : Bool := (List.range ops.size).all fun j => decide (j < n) || waitsFor md ops j i
theorem allWait_spec {i j : Nat} (h : allWait md ops n i = true) {listed : Array Bool} (hi : i ∈ Region.ready md ops listed) (hj : j ∈ Region.ready md ops listed) : j < n := by
 unfold allWait at h
 rw [List.all_eq_true] at h
 obtain ⟨_, o, ho, _⟩ := mem_ready.1 hj
 have h2 := h j (List.mem_range.2 (Array.getElem?_eq_some_iff.1 ho).1)
 rw [Bool.or_eq_true, decide_eq_true_iff] at h2
 rcases h2 with h2 | h2
 ·exact h2
 ·exact absurd hj (waits_not h2 hi)
theorem wpAnyC_first {U : World → Prop} {i : Nat} {oi : Oper} {v : Value} (hi : ops[i]? = some oi) (hsel : ∀ (j : Nat) (o : Oper) cs b, ops[j]? = some o → o.op ≠ .select cs b)
  (hQ : ∀ c a w, Q (.panic c) (a.put oi.dst v) w → Q (.panic c) a w)
  (hU : ∀ (listed : Array Bool) (j : Nat) (w w' : World), i ∈ Region.ready md ops listed → j ∈ Region.ready md ops listed → U w → T w' → (j < n → S w → S w') → U w') :
  ∀ (fuel : Nat) (listed : Array Bool) (a : Act) (w : World),
   (∀ j oj, ops[j]? = some oj → j ≠ i → listed.getD j true = false → (∀ e ∈ oj.after, Region.binds md e = true → e.on ≠ i) → oi.apart ops oj = true) →
   i ∈ Region.ready md ops listed → YieldsIf P ops U oi v a → U w → T w →
   wpAnyC P md ops Q T S n fuel (listed.setIfInBounds i true) (a.put oi.dst v) w → wpAnyC P md ops Q T S n (fuel + 1) listed a w := by
 intro fuel
 induction fuel with
 | zero =>
  intro listed a w _ hr hy hS hT H
  refine ⟨fun h => (by rw [h] at hr; cases hr), fun j hj => ?_⟩
  by_cases hji : j = i
  ·subst hji; exact hy.wpOp hi hS ⟨hT, fun _ h => h, H⟩
  ·have := ready_mono hj hji
   rw [H.1] at this
   cases this
 | succ fuel ih =>
  intro listed a w hfree hr hy hS hT H
  refine ⟨fun h => (by rw [h] at hr; cases hr), fun j hj => ?_⟩
  by_cases hji : j = i
  ·subst hji; exact hy.wpOp hi hS ⟨hT, fun _ h => h, H⟩
  ·have h1 := H.2 j (ready_mono hj hji)
   obtain ⟨hjun, oj, hoj, hall⟩ := mem_ready.1 hj
   have hnot : ∀ e ∈ oj.after, Region.binds md e = true → e.on ≠ i := fun e he hb heq => by
    have h1 := hall e he hb
    have h0 := (mem_ready.1 hr).1
    rw [heq] at h1
    rcases Nat.lt_or_ge i listed.size with h' | h'
    ·simp [h'] at h0 h1; rw [h0] at h1; cases h1
    ·simp [Array.getElem?_eq_none h'] at h1
   have h2 := wpOp_putIf hoj (hfree j oj hoj hji hjun hnot) (fun cs b => hsel i oi cs b hi) (fun cs b => hsel j oj cs b hoj) hQ hy h1
   have hfree' : ∀ k ok, ops[k]? = some ok → k ≠ i → (listed.setIfInBounds j true).getD k true = false →
     (∀ e ∈ ok.after, Region.binds md e = true → e.on ≠ i) → oi.apart ops ok = true := fun k ok hk hki hun hno => by
    refine hfree k ok hk hki ?_ hno
    by_cases hjk : j = k
    ·subst hjk; exact hjun
    ·rw [getD_set_ne true hjk] at hun; exact hun
   refine wpOp_mono (fun a' w' h3 => ⟨h3.2.1, h3.2.2.1, ih (listed.setIfInBounds j true) a' w' hfree' (ready_mono hr (Ne.symm hji)) h3.1 (hU listed j w w' hr hj hS h3.2.1 h3.2.2.1) h3.2.1 ?_⟩) h2
   rw [Array.setIfInBounds_comm _ _ hji]
   exact h3.2.2.2
theorem mc_take {i : Nat} {oi : Oper} {v : Value} {fuel : Nat} {listed : Array Bool} {a : Act} {w : World} (hi : ops[i]? = some oi)
  (hs : Region.noSelect ops = true) (hf : Region.free md ops listed i = true) (hr : (Region.ready md ops listed).contains i = true)
  (hQ : ∀ c a w, Q (.panic c) (a.put oi.dst v) w → Q (.panic c) a w) (hw : Region.wanted oi (yielded ops a.tmps) = true) (hT : T w)
  (hy : ∀ W, T W → (execOp a.eval oi).run P W = .ok (.value v) W)
  (h : wpAnyC P md ops Q T S n fuel (listed.setIfInBounds i true) (a.put oi.dst v) w) : wpAnyC P md ops Q T S n (fuel + 1) listed a w :=
 wpAnyC_first (U := T) hi (Region.noSelect_spec hs) hQ (fun _ _ _ _ _ _ _ h _ => h) fuel listed a w (Region.free_spec hi hf) (by simpa using hr) (.inl ⟨hw, hy⟩) hT hT h
theorem mc_skip {i : Nat} {oi : Oper} {fuel : Nat} {listed : Array Bool} {a : Act} {w : World} (hi : ops[i]? = some oi)
  (hs : Region.noSelect ops = true) (hf : Region.free md ops listed i = true) (hr : (Region.ready md ops listed).contains i = true)
  (hQ : ∀ c a w, Q (.panic c) (a.put oi.dst undef) w → Q (.panic c) a w) (hw : Region.wanted oi (yielded ops a.tmps) = false) (hT : T w)
  (h : wpAnyC P md ops Q T S n fuel (listed.setIfInBounds i true) (a.put oi.dst undef) w) : wpAnyC P md ops Q T S n (fuel + 1) listed a w :=
 wpAnyC_first (U := T) hi (Region.noSelect_spec hs) hQ (fun _ _ _ _ _ _ _ h _ => h) fuel listed a w (Region.free_spec hi hf) (by simpa using hr) (.inr ⟨hw, rfl⟩) hT hT h
theorem mc_takeS {i : Nat} {oi : Oper} {v : Value} {fuel : Nat} {listed : Array Bool} {a : Act} {w : World} (hi : ops[i]? = some oi)
  (hs : Region.noSelect ops = true) (hf : Region.free md ops listed i = true) (hr : (Region.ready md ops listed).contains i = true)
  (hQ : ∀ c a w, Q (.panic c) (a.put oi.dst v) w → Q (.panic c) a w) (hw : Region.wanted oi (yielded ops a.tmps) = true) (hT : T w) (hS : S w)
  (hy : ∀ W, T W → S W → (execOp a.eval oi).run P W = .ok (.value v) W)
  (h : wpAnyC P md ops Q T S n fuel (listed.setIfInBounds i true) (a.put oi.dst v) w) (hwt : allWait md ops n i = true := by kernel_rfl) : wpAnyC P md ops Q T S n (fuel + 1) listed a w :=
 wpAnyC_first (U := fun W => T W ∧ S W) hi (Region.noSelect_spec hs) hQ (fun listed j w w' h1 h2 h3 h4 h5 => ⟨h4, h5 (allWait_spec hwt h1 h2) h3.2⟩) fuel listed a w (Region.free_spec hi hf) (by simpa using hr) (.inl ⟨hw, fun W hW => hy W hW.1 hW.2⟩) ⟨hT, hS⟩ hT h
theorem mc_actB {i : Nat} {o : Oper} {fuel : Nat} {listed : Array Bool} {a : Act} {w : World} (hi : ops[i]? = some o) (hr : Region.ready md ops listed = [i])
  (hw : Region.wanted o (yielded ops a.tmps) = true)
  (h : ∀ K : Act → World → Prop, (∀ a' w', T w' → S w' → wpAnyC P md ops Q T S n fuel (listed.setIfInBounds i true) a' w' → K a' w') → o.wp P a w K Q) :
  wpAnyC P md ops Q T S n (fuel + 1) listed a w := by
 refine ⟨fun h0 => (by rw [hr] at h0; cases h0), fun j hj => ?_⟩
 rw [hr] at hj
 have hji : j = i := by simpa using hj
 subst hji
 unfold wpOp
 rw [hi]
 simp only [hw, if_true]
 exact .inl (h _ fun a' w' ht hs hk => ⟨ht, fun _ _ => hs, hk⟩)
theorem mc_last {i : Nat} {o : Oper} {fuel : Nat} {listed : Array Bool} {a : Act} {w : World} (hi : ops[i]? = some o) (hr : Region.ready md ops listed = [i])
  (hw : Region.wanted o (yielded ops a.tmps) = true)
  (h : ∀ K : Act → World → Prop, (∀ a' w', T w' → wpAnyC P md ops Q T S n fuel (listed.setIfInBounds i true) a' w' → K a' w') → o.wp P a w K Q) (hin : decide (n ≤ i) = true := by rfl) :
  wpAnyC P md ops Q T S n (fuel + 1) listed a w := by
 refine ⟨fun h0 => (by rw [hr] at h0; cases h0), fun j hj => ?_⟩
 rw [hr] at hj
 have hji : j = i := by simpa using hj
 subst hji
 unfold wpOp
 rw [hi]
 simp only [hw, if_true]
 exact .inl (h _ fun a' w' ht hk => ⟨ht, fun h0 => absurd h0 (Nat.not_lt.2 (of_decide_eq_true hin)), hk⟩)
theorem wpAnyC_done {listed : Array Bool} {a : Act} {w : World} (hr : Region.ready md ops listed = []) (h : Q .normal a w) :
  ∀ fuel, wpAnyC P md ops Q T S n fuel listed a w
 | 0 => ⟨hr, h⟩
 | _ + 1 => ⟨fun _ => h, by rw [hr]; simp⟩
theorem mc_start {id : Nat} {a : Act} {w : World} (T S : World → Prop) (n : Nat) (hm : P.follows .mixedOrders = true)
  (h : ∀ wd, wd = w.drew → wpAnyC P .any ops Q T S n ops.size (Array.replicate ops.size false) a wd) : (Code.region id ops true).wp P Q a w :=
 wp_region_any hm (wpAny_of_C _ _ _ _ (h _ rfl))
end
set_option maxHeartbeats 8000000 in
set_option maxRecDepth 1000000 in
theorem refOne11_any (D : Dm) (P : Nat → Nat) (n a b : Nat) (cs : List Value) (pv : Value) (w : World) (hv : DfaV w cs D) (hm : MayD D) (hn : n = D.next.length) (hp : Row w pv (ncs n P)) (hP : ∀ q, q < n → P q < n) (ha : a < n) (hb : b < n) :
  Calls Try.prog 34 #[.agg cs.toArray, pv, .int .i64 (a : Int), .int .i64 (b : Int)] w fun e w' => e = .returned (.bool (oneG D P a b)) ∧ Below w.heap.size w w' := by
 have HM := qH hm
 have HDS := qH hv.size
 obtain ⟨An, Ae, cn, ce, vf, hl, hcs, hnx, hr, he⟩ := hv.form
 have HL := qH hl
 have HN := qH hn
 rw [← hn] at hcs hnx
 have HCS := qH hcs
 have HR := qH hr
 have HA := qH ha
 have HB := qH hb
 have HP := qH hp
 have HPL := qH hP
 obtain ⟨k, hk⟩ : ∃ k, k = clsA D.cl := ⟨_, rfl⟩
 have HK := qH hk
 have HK2 := qH (show k ≤ 256 by rw [hk]; exact clsA_le _)
 have h0n : 0 < n := Nat.lt_of_le_of_lt (Nat.zero_le _) ha
 obtain ⟨bp, op, cp, rfl, hbp, hcp⟩ : ∃ bp op c, pv = .slice (some ⟨bp, op, none⟩) n c ∧ bp < w.heap.size ∧ ∀ q, q < n → w.cell? ⟨bp, op + q, none⟩ = some (.int .i64 (P q : Int)) := by
  obtain ⟨A, c, h1, _⟩ := id hp
  subst h1
  rw [ncs_len] at hp ⊢
  obtain ⟨b1, o1, rfl, h2, h3⟩ := hp.at_ (by rw [ncs_len]; exact h0n)
  exact ⟨b1, o1, c, rfl, h2, fun q hq => h3 q _ (ncs_get P hq)⟩
 have CP := qH hcp
 have HBP := qH hbp
 obtain ⟨bn, on, rfl, hbn, hcn⟩ := hnx.at_ (by rw [List.length_map, List.length_range]; exact h0n)
 have HBN := qH hbn
 have row : ∀ s, s < n → ∃ r Ar cr, D.next[s]? = some r ∧ r.length = k ∧ w.cell? ⟨bn, on + s, none⟩ = some (.slice Ar k cr) ∧ Row w (.slice Ar k cr) (nums .i64 r) := fun s hs => by
  obtain ⟨r, h1⟩ : ∃ r, D.next[s]? = some r := ⟨_, List.getElem?_eq_getElem (by rw [← hn]; exact hs)⟩
  have h2 : r.length = k := by rw [hk]; exact hm.rows r (List.mem_of_getElem? h1)
  have h3 := hr s r h1
  obtain ⟨Ar, cr, hvr, _⟩ := id h3
  rw [nums_length, h2] at hvr
  rw [hvr] at h3
  exact ⟨r, Ar, cr, h1, h2, hcn s _ (by simp [hs, hvr]), h3⟩
 obtain ⟨ra, Aa, ca, ha1, ha2, ha3, ha4⟩ := row a ha
 obtain ⟨rb, Ab, cb, hb1, hb2, hb3, hb4⟩ := row b hb
 have A1 := qH ha1
 have A2 := qH ha2
 have A3 := qH ha3
 have A4 := qH ha4
 have B1 := qH hb1
 have B2 := qH hb2
 have B3 := qH hb3
 have B4 := qH hb4
 have ya : (a : Int) < (n : Int) := Int.ofNat_lt.2 ha
 have yb : (b : Int) < (n : Int) := Int.ofNat_lt.2 hb
 clear hv hm hl hcs hnx hr he hn hp hP ha hb hk h0n hbp hcp hbn hcn row ha1 ha2 ha3 ha4 hb1 hb2 hb3 hb4
 go_enter Try.func34, Try.ntmps34
 go_wp2_with ((with_reducible refine atDst 4 ?_); refine wpList_box rfl 28 _ rfl cs rfl (Below.refl w.heap.size w) (Nat.le_refl _) ?_; intro w1 hk1 hb1 hs1 _; have K1 := qH hk1; have BW := qH hb1; clear hk1 hb1 hs1; (try simp only [Act.put, qA, qB, qC]))
 obtain ⟨x, hx⟩ : ∃ x, P a = x := ⟨_, rfl⟩
 obtain ⟨y, hy⟩ : ∃ y, P b = y := ⟨_, rfl⟩
 have CA := qH (show w.cell? ⟨bp, op + a, none⟩ = some (.int .i64 (x : Int)) by rw [← hx]; exact CP.out a HA.out)
 have CB := qH (show w.cell? ⟨bp, op + b, none⟩ = some (.int .i64 (y : Int)) by rw [← hy]; exact CP.out b HB.out)
 have HX := qH hx
 have HY := qH hy
 clear hx hy
 refine mc_start (fun V => Below w.heap.size w V) (fun _ => True) 9 (by kernel_rfl) (fun wd hwd => ?_)
 have hX : Below w.heap.size w wd := by rw [hwd]; exact BW.out.trans (Below.refl _ _).drew
 have KD := qH (show Blk wd w.heap.size 28 cs by rw [hwd]; exact K1.out)
 clear hwd
 refine mc_take (i := 0) (oi := ⟨some 10, _, _, _, _, _⟩) (v := ?_) rfl (by kernel_rfl) (by kernel_rfl) (by kernel_rfl) (fun _ _ _ h => h) rfl hX ?_ ?_; rotate_left; (intro W hW; go_simp; try with_reducible rfl); simp only [Act.put, qA, qB, qC]
 refine mc_take (i := 1) (oi := ⟨some 11, _, _, _, _, _⟩) (v := ?_) rfl (by kernel_rfl) (by kernel_rfl) (by kernel_rfl) (fun _ _ _ h => h) rfl hX ?_ ?_; rotate_left; (intro W hW; go_simp; try with_reducible rfl); simp only [Act.put, qA, qB, qC]
 refine mc_take (i := 2) (oi := ⟨some 12, _, _, _, _, _⟩) (v := ?_) rfl (by kernel_rfl) (by kernel_rfl) (by kernel_rfl) (fun _ _ _ h => h) rfl hX ?_ ?_; rotate_left; (intro W hW; go_simp; try with_reducible rfl); simp only [Act.put, qA, qB, qC]
 refine mc_take (i := 3) (oi := ⟨some 13, _, _, _, _, _⟩) (v := .int .i64 (x : Int)) rfl (by kernel_rfl) (by kernel_rfl) (by kernel_rfl) (fun _ _ _ h => h) rfl hX (fun V hV => ld_int9 (.tmp 12) rfl rfl ((hV.cell (p := ⟨bp, op + a, none⟩) HBP.out).trans CA.out)) ?_; simp only [Act.put, qA, qB, qC]
 refine mc_take (i := 4) (oi := ⟨some 14, _, _, _, _, _⟩) (v := ?_) rfl (by kernel_rfl) (by kernel_rfl) (by kernel_rfl) (fun _ _ _ h => h) rfl hX ?_ ?_; rotate_left; (intro W hW; go_simp; try with_reducible rfl); simp only [Act.put, qA, qB, qC]
 refine mc_take (i := 5) (oi := ⟨some 15, _, _, _, _, _⟩) (v := ?_) rfl (by kernel_rfl) (by kernel_rfl) (by kernel_rfl) (fun _ _ _ h => h) rfl hX ?_ ?_; rotate_left; (intro W hW; go_simp; try with_reducible rfl); simp only [Act.put, qA, qB, qC]
 refine mc_take (i := 6) (oi := ⟨some 16, _, _, _, _, _⟩) (v := ?_) rfl (by kernel_rfl) (by kernel_rfl) (by kernel_rfl) (fun _ _ _ h => h) rfl hX ?_ ?_; rotate_left; (intro W hW; go_simp; try with_reducible rfl); simp only [Act.put, qA, qB, qC]
 refine mc_take (i := 7) (oi := ⟨some 17, _, _, _, _, _⟩) (v := .int .i64 (y : Int)) rfl (by kernel_rfl) (by kernel_rfl) (by kernel_rfl) (fun _ _ _ h => h) rfl hX (fun V hV => ld_int9 (.tmp 16) rfl rfl ((hV.cell (p := ⟨bp, op + b, none⟩) HBP.out).trans CB.out)) ?_; simp only [Act.put, qA, qB, qC]
 refine mc_take (i := 8) (oi := ⟨some 18, _, _, _, _, _⟩) (v := ?_) rfl (by kernel_rfl) (by kernel_rfl) (by kernel_rfl) (fun _ _ _ h => h) rfl hX ?_ ?_; rotate_left; (intro W hW; go_simp; try with_reducible rfl); simp only [Act.put, qA, qB, qC]
 refine wpAnyC_done (by kernel_rfl) ?_ _
 by_cases hxy : x = y
 ·subst hxy
  have x1 : ((x : Int) != (x : Int)) = false := by simp
  have HPE := qH (show P a = P b by rw [HX.out, HY.out])
  have BD := qH hX
  clear hX K1 BW
  go_wp2_with fail
  go_loopw [9] (fun v wl => ∃ j : Nat, j ≤ k ∧ v = .int .i64 (j : Int) ∧ (∀ q, q < j → P (stC D a q) = P (stC D b q)) ∧ Below w.heap.size w wl ∧ Blk wl w.heap.size 28 cs) (fun v _ => k - (intOf v).toNat)
  case atStart => exact ⟨0, Nat.zero_le _, rfl, fun q hq => absurd hq (Nat.not_lt_zero q), BD.out, KD.out⟩
  obtain ⟨j, hj, rfl, hq, hb, hkw⟩ := hrel
  have HJ := qH hj
  have HQ := qH hq
  have HBW := qH hb
  have KW := qH hkw
  have c256 : wr.cell? ⟨w.heap.size, 256, none⟩ = some (.slice (some ⟨bn, on, none⟩) n cn) := by rw [KW.out.cell 256, HCS.out]; exact dcl_n HL.out
  have hca : wr.cell? ⟨bn, on + a, none⟩ = some (.slice Aa k ca) := (HBW.out.cell (p := ⟨bn, on + a, none⟩) HBN.out).trans A3.out
  clear hj hq hb hkw
  by_cases hjk : j < k
  ·have y1 : (j : Int) < (k : Int) := Int.ofNat_lt.2 hjk
   have HJK := qH hjk
   have HMJ := qH (sub_next hjk)
   have f3 := wrap_one j (lt_k256 hjk HK2.out)
   have f4 := wrap_one' j (lt_k256 hjk HK2.out)
   obtain ⟨u, hu⟩ : ∃ u, stC D a j = u := ⟨_, rfl⟩
   obtain ⟨v, hv⟩ : ∃ v, stC D b j = v := ⟨_, rfl⟩
   have cell : ∀ (s u : Nat) (r : List Int) (Ar : Option Addr) (cr : Nat), s < n → stC D s j = u → D.next[s]? = some r → r.length = k → Row w (.slice Ar k cr) (nums .i64 r) → u < n ∧ ∃ b o, Ar = some ⟨b, o, none⟩ ∧ b < w.heap.size ∧ w.cell? ⟨b, o + j, none⟩ = some (.int .i64 (u : Int)) := fun s u r Ar cr hs hu h1 h2 h3 => by
    obtain ⟨r', e1, _, e3, e4⟩ := may_cell HM.out (s := s) (k := j) (by rw [← HN.out]; exact hs) (by rw [← HK.out]; exact hjk)
    obtain rfl : r' = r := Option.some.inj (e1.symm.trans h1)
    obtain ⟨b, o, rfl, h4, h5⟩ := h3.at_ (by rw [nums_length, h2]; omega)
    rw [hu] at e3 e4
    exact ⟨by rw [HN.out]; exact e4, b, o, rfl, h4, h5 j _ (by simp [nums, e3])⟩
   obtain ⟨hun, b1, o1, rfl, l1, c1⟩ := cell a u ra Aa ca HA.out hu A1.out A2.out A4.out
   obtain ⟨hvn, b2, o2, rfl, l2, c2⟩ := cell b v rb Ab cb HB.out hv B1.out B2.out B4.out
   obtain ⟨s, hs⟩ : ∃ s, P u = s := ⟨_, rfl⟩
   obtain ⟨t, ht⟩ : ∃ t, P v = t := ⟨_, rfl⟩
   have L1 := qH l1
   have L2 := qH l2
   have C1 := qH c1
   have C2 := qH c2
   have yu : (u : Int) < (n : Int) := Int.ofNat_lt.2 hun
   have yv : (v : Int) < (n : Int) := Int.ofNat_lt.2 hvn
   have CU := qH (show w.cell? ⟨bp, op + u, none⟩ = some (.int .i64 (s : Int)) by rw [← hs]; exact CP.out u hun)
   have CV := qH (show w.cell? ⟨bp, op + v, none⟩ = some (.int .i64 (t : Int)) by rw [← ht]; exact CP.out v hvn)
   have HST := qH (show P (stC D a j) = s ∧ P (stC D b j) = t by rw [hu, hv]; exact ⟨hs, ht⟩)
   clear hu hv cell l1 l2 c1 c2 hun hvn hs ht hjk
   go_wp2_with fail
   clear c256 hca
   refine mc_start (fun V => Below wr.heap.size wr V) (fun _ => True) 23 (by kernel_rfl) (fun wd2 hwd => ?_)
   have hX : Below wr.heap.size wr wd2 := by rw [hwd]; exact (Below.refl _ _).drew
   clear hwd
   have TO := qH (show ∀ V, Below wr.heap.size wr V → Below w.heap.size w V from fun V hV => HBW.out.trans (hV.mono HBW.out.size))
   have C256 := qH (show ∀ V, Below wr.heap.size wr V → V.cell? ⟨w.heap.size, 256, none⟩ = some (.slice (some ⟨bn, on, none⟩) n cn) from fun V hV => by rw [(KW.out.below hV KW.out.lt).cell 256, HCS.out]; exact dcl_n HL.out)
   refine mc_take (i := 0) (oi := ⟨some 29, _, _, _, _, _⟩) (v := ?_) rfl (by kernel_rfl) (by kernel_rfl) (by kernel_rfl) (fun _ _ _ h => h) rfl hX ?_ ?_; rotate_left; (intro W hW; go_simp; try with_reducible rfl); simp only [Act.put, qA, qB, qC]
   refine mc_take (i := 1) (oi := ⟨some 30, _, _, _, _, _⟩) (v := ?_) rfl (by kernel_rfl) (by kernel_rfl) (by kernel_rfl) (fun _ _ _ h => h) rfl hX ?_ ?_; rotate_left; (intro W hW; go_simp; try with_reducible rfl); simp only [Act.put, qA, qB, qC]
   refine mc_take (i := 2) (oi := ⟨some 31, _, _, _, _, _⟩) (v := .slice (some ⟨bn, on, none⟩) n cn) rfl (by kernel_rfl) (by kernel_rfl) (by kernel_rfl) (fun _ _ _ h => h) rfl hX (fun V hV => ld_inss (.tmp 30) rfl rfl (C256.out V hV)) ?_; simp only [Act.put, qA, qB, qC]
   refine mc_take (i := 3) (oi := ⟨some 32, _, _, _, _, _⟩) (v := ?_) rfl (by kernel_rfl) (by kernel_rfl) (by kernel_rfl) (fun _ _ _ h => h) rfl hX ?_ ?_; rotate_left; (intro W hW; go_simp; try with_reducible rfl); simp only [Act.put, qA, qB, qC]
   refine mc_take (i := 4) (oi := ⟨some 33, _, _, _, _, _⟩) (v := ?_) rfl (by kernel_rfl) (by kernel_rfl) (by kernel_rfl) (fun _ _ _ h => h) rfl hX ?_ ?_; rotate_left; (intro W hW; go_simp; try with_reducible rfl); simp only [Act.put, qA, qB, qC]
   refine mc_take (i := 5) (oi := ⟨some 34, _, _, _, _, _⟩) (v := .slice (some ⟨b1, o1, none⟩) k ca) rfl (by kernel_rfl) (by kernel_rfl) (by kernel_rfl) (fun _ _ _ h => h) rfl hX (fun V hV => ld_ints9 (.tmp 33) rfl rfl (((TO.out V hV).cell (p := ⟨bn, on + a, none⟩) HBN.out).trans A3.out)) ?_; simp only [Act.put, qA, qB, qC]
   refine mc_take (i := 6) (oi := ⟨some 35, _, _, _, _, _⟩) (v := ?_) rfl (by kernel_rfl) (by kernel_rfl) (by kernel_rfl) (fun _ _ _ h => h) rfl hX ?_ ?_; rotate_left; (intro W hW; go_simp; try with_reducible rfl); simp only [Act.put, qA, qB, qC]
   refine mc_take (i := 7) (oi := ⟨some 36, _, _, _, _, _⟩) (v := ?_) rfl (by kernel_rfl) (by kernel_rfl) (by kernel_rfl) (fun _ _ _ h => h) rfl hX ?_ ?_; rotate_left; (intro W hW; go_simp; try with_reducible rfl); simp only [Act.put, qA, qB, qC]
   refine mc_take (i := 8) (oi := ⟨some 37, _, _, _, _, _⟩) (v := .int .i64 (u : Int)) rfl (by kernel_rfl) (by kernel_rfl) (by kernel_rfl) (fun _ _ _ h => h) rfl hX (fun V hV => ld_int9 (.tmp 36) rfl rfl (((TO.out V hV).cell (p := ⟨b1, o1 + j, none⟩) L1.out).trans C1.out)) ?_; simp only [Act.put, qA, qB, qC]
   refine mc_take (i := 9) (oi := ⟨some 38, _, _, _, _, _⟩) (v := ?_) rfl (by kernel_rfl) (by kernel_rfl) (by kernel_rfl) (fun _ _ _ h => h) rfl hX ?_ ?_; rotate_left; (intro W hW; go_simp; try with_reducible rfl); simp only [Act.put, qA, qB, qC]
   refine mc_take (i := 10) (oi := ⟨some 39, _, _, _, _, _⟩) (v := .int .i64 (s : Int)) rfl (by kernel_rfl) (by kernel_rfl) (by kernel_rfl) (fun _ _ _ h => h) rfl hX (fun V hV => ld_int9 (.tmp 38) rfl rfl (((TO.out V hV).cell (p := ⟨bp, op + u, none⟩) HBP.out).trans CU.out)) ?_; simp only [Act.put, qA, qB, qC]
   refine mc_take (i := 11) (oi := ⟨some 40, _, _, _, _, _⟩) (v := ?_) rfl (by kernel_rfl) (by kernel_rfl) (by kernel_rfl) (fun _ _ _ h => h) rfl hX ?_ ?_; rotate_left; (intro W hW; go_simp; try with_reducible rfl); simp only [Act.put, qA, qB, qC]
   refine mc_take (i := 12) (oi := ⟨some 41, _, _, _, _, _⟩) (v := ?_) rfl (by kernel_rfl) (by kernel_rfl) (by kernel_rfl) (fun _ _ _ h => h) rfl hX ?_ ?_; rotate_left; (intro W hW; go_simp; try with_reducible rfl); simp only [Act.put, qA, qB, qC]
   refine mc_take (i := 13) (oi := ⟨some 42, _, _, _, _, _⟩) (v := .slice (some ⟨bn, on, none⟩) n cn) rfl (by kernel_rfl) (by kernel_rfl) (by kernel_rfl) (fun _ _ _ h => h) rfl hX (fun V hV => ld_inss (.tmp 41) rfl rfl (C256.out V hV)) ?_; simp only [Act.put, qA, qB, qC]
   refine mc_take (i := 14) (oi := ⟨some 43, _, _, _, _, _⟩) (v := ?_) rfl (by kernel_rfl) (by kernel_rfl) (by kernel_rfl) (fun _ _ _ h => h) rfl hX ?_ ?_; rotate_left; (intro W hW; go_simp; try with_reducible rfl); simp only [Act.put, qA, qB, qC]
   refine mc_take (i := 15) (oi := ⟨some 44, _, _, _, _, _⟩) (v := ?_) rfl (by kernel_rfl) (by kernel_rfl) (by kernel_rfl) (fun _ _ _ h => h) rfl hX ?_ ?_; rotate_left; (intro W hW; go_simp; try with_reducible rfl); simp only [Act.put, qA, qB, qC]
   refine mc_take (i := 16) (oi := ⟨some 45, _, _, _, _, _⟩) (v := .slice (some ⟨b2, o2, none⟩) k cb) rfl (by kernel_rfl) (by kernel_rfl) (by kernel_rfl) (fun _ _ _ h => h) rfl hX (fun V hV => ld_ints9 (.tmp 44) rfl rfl (((TO.out V hV).cell (p := ⟨bn, on + b, none⟩) HBN.out).trans B3.out)) ?_; simp only [Act.put, qA, qB, qC]
   refine mc_take (i := 17) (oi := ⟨some 46, _, _, _, _, _⟩) (v := ?_) rfl (by kernel_rfl) (by kernel_rfl) (by kernel_rfl) (fun _ _ _ h => h) rfl hX ?_ ?_; rotate_left; (intro W hW; go_simp; try with_reducible rfl); simp only [Act.put, qA, qB, qC]
   refine mc_take (i := 18) (oi := ⟨some 47, _, _, _, _, _⟩) (v := ?_) rfl (by kernel_rfl) (by kernel_rfl) (by kernel_rfl) (fun _ _ _ h => h) rfl hX ?_ ?_; rotate_left; (intro W hW; go_simp; try with_reducible rfl); simp only [Act.put, qA, qB, qC]
   refine mc_take (i := 19) (oi := ⟨some 48, _, _, _, _, _⟩) (v := .int .i64 (v : Int)) rfl (by kernel_rfl) (by kernel_rfl) (by kernel_rfl) (fun _ _ _ h => h) rfl hX (fun V hV => ld_int9 (.tmp 47) rfl rfl (((TO.out V hV).cell (p := ⟨b2, o2 + j, none⟩) L2.out).trans C2.out)) ?_; simp only [Act.put, qA, qB, qC]
   refine mc_take (i := 20) (oi := ⟨some 49, _, _, _, _, _⟩) (v := ?_) rfl (by kernel_rfl) (by kernel_rfl) (by kernel_rfl) (fun _ _ _ h => h) rfl hX ?_ ?_; rotate_left; (intro W hW; go_simp; try with_reducible rfl); simp only [Act.put, qA, qB, qC]
   refine mc_take (i := 21) (oi := ⟨some 50, _, _, _, _, _⟩) (v := .int .i64 (t : Int)) rfl (by kernel_rfl) (by kernel_rfl) (by kernel_rfl) (fun _ _ _ h => h) rfl hX (fun V hV => ld_int9 (.tmp 49) rfl rfl (((TO.out V hV).cell (p := ⟨bp, op + v, none⟩) HBP.out).trans CV.out)) ?_; simp only [Act.put, qA, qB, qC]
   refine mc_take (i := 22) (oi := ⟨some 51, _, _, _, _, _⟩) (v := ?_) rfl (by kernel_rfl) (by kernel_rfl) (by kernel_rfl) (fun _ _ _ h => h) rfl hX ?_ ?_; rotate_left; (intro W hW; go_simp; try with_reducible rfl); simp only [Act.put, qA, qB, qC]
   refine wpAnyC_done (by kernel_rfl) ?_ _
   have BE := qH (TO.out _ hX)
   have KE := qH (KW.out.below hX KW.out.lt)
   clear hX
   by_cases hst : s = t
   ·subst hst
    have x2 : ((s : Int) != (s : Int)) = false := by simp
    have HQ2 := qH (show ∀ q, q < j + 1 → P (stC D a q) = P (stC D b q) from fun q hq => by
     by_cases e : q = j
     ·subst e; rw [HST.out.1, HST.out.2]
     ·exact HQ.out q (by omega))
    go_wp2_with fail
    exact ⟨⟨j + 1, HJK.out, by congr 1, HQ2.out, BE.out, KE.out⟩, by simpa [intOf] using HMJ.out⟩
   ·have x2 : ((s : Int) != (t : Int)) = true := by rw [bne_iff_ne]; exact fun e => hst (Int.ofNat_inj.1 e)
    have HE := qH (show oneG D P a b = false from oneG_no fun h => hst (by rw [← HST.out.1, ← HST.out.2]; exact h.2 j (by rw [← HK.out]; exact HJK.out)))
    clear hst
    go_wp2_with fail
    go_ret
    rw [HE.out]
    exact ⟨rfl, BE.out⟩
  ·obtain rfl : j = k := Nat.le_antisymm HJ.out (Nat.le_of_not_lt hjk)
   have y1 : ¬ ((j : Int) < (j : Int)) := Int.lt_irrefl _
   have HE := qH (show oneG D P a b = true from oneG_iff.2 ⟨HPE.out, fun q hq => HQ.out q (by rw [HK.out]; exact hq)⟩)
   clear hjk
   go_wp2_with fail
   go_ret
   rw [HE.out]
   exact ⟨rfl, HBW.out⟩
 ·have x1 : ((x : Int) != (y : Int)) = true := by rw [bne_iff_ne]; exact fun e => hxy (Int.ofNat_inj.1 e)
  have HE := qH (show oneG D P a b = false from oneG_no fun h => hxy (by rw [← HX.out, ← HY.out]; exact h.1))
  have BD := qH hX
  clear hxy hX
  go_wp2_with fail
  go_ret
  rw [HE.out]
  exact ⟨rfl, BD.out⟩
end Go.Proofs.Ytlohehcfplkjbaa
