/-
  Texts of this proof, put together: RxMp, RxB, RxPp, OpenR, RxW. No statement is proved here.
-/
import Derived.Test.YtmcpfaaakmehdaaRD
import Derived.Deep.MidRow
import Derived.Test.YtmcpfaaakmehdaaRC
import Derived.Test.YtmcpfaaakmehdaaRows
import Derived.Deep.Strs
namespace Go.Proofs.Ytmcpfaaakmehdaa
open Go.RowKit
set_option linter.unusedSimpArgs false
set_option linter.unusedVariables false
def nthT (l : List T) (i : Nat) : T := l.getD i noneT
theorem nthT_some {l : List T} {i : Nat} (h : i < l.length) : l[i]? = some (nthT l i) := by
 unfold nthT
 rw [List.getD_eq_getElem?_getD, List.getElem?_eq_getElem h]
 rfl
def ThereT (w : World) (g n : Nat) : Prop := ∀ j, j < n → w.there g (j * 6) 6
theorem grown_setCells {w w' : World} {g : Nat} (h : w.grownBy w' (some g)) (o : Nat) (vs : List Value) : w.grownBy (w'.setCells g o vs) (some g) := by
 induction vs generalizing o w' with
 | nil => exact h
 | cons v r ih =>
  refine ih (w' := w'.setCell ⟨g, o, none⟩ v) ⟨h.os, h.tape, h.output, ?_, fun k hk hne => ?_⟩ (o + 1)
  ·have := h.size
   simpa [World.setCell] using this
  ·rw [← h.block k hk hne]
   exact Below.heap_setCell w' ⟨g, o, none⟩ v k fun e => hne (by rw [e])
theorem ThereT.all {w : World} {g n : Nat} (h : ThereT w g n) (o m : Nat) (hm : o + m ≤ n * 6) : w.there g o m := fun j hj => by
 have hk : (o + j) / 6 < n := by omega
 have := h ((o + j) / 6) hk ((o + j) % 6) (Nat.mod_lt _ (by omega))
 rw [show (o + j) / 6 * 6 + (o + j) % 6 = o + j by omega] at this
 exact this
theorem grown_below {w w1 w2 : World} {g B : Nat} (h : w.grownBy w1 (some g)) (hb : Below B w1 w2) (hB : w1.heap.size ≤ B) : w.grownBy w2 (some g) :=
 ⟨hb.os.trans h.os, hb.tape.trans h.tape, hb.output.trans h.output, Nat.le_trans h.size hb.size, fun k hk hne => (hb.block k (by have := h.size; omega)).trans (h.block k hk hne)⟩
section
variable {w : World} {ops : Array Oper} {rest : List Oper} {o : Oper} {a : Act} {Q : Exit → Act → World → Prop}
end
theorem sub_next {m q : Nat} (h : q < m) : m - (q + 1) < m - q := by omega
theorem lt_of_ne {j a : Nat} (h : j < a + 1) (hne : j ≠ a) : j < a := by omega
theorem OwnT.mid {D : Nat → Prop} {base : Nat} {w : World} {v : Value} {l : List T} (h : OwnT D base w v l) (hne : 0 < l.length) :
  ∃ (g cap : Nat) (f : Nat → List Value), v = .slice (some ⟨g, 0, none⟩) l.length cap ∧ base ≤ g ∧ g < w.heap.size ∧ l.length ≤ cap ∧ cap ≤ maxLen ∧ ThereT w g l.length ∧ (∀ i, i < l.length → w.rangeAt g (i * 6) (f i)) ∧
   ∀ i t, l[i]? = some t → RxD (fun k => D k ∧ k < w.heap.size ∧ k ≠ g) w (f i) t := by
 obtain ⟨cells, h1, h2, h3, h4⟩ := h
 rcases h3.2 with ⟨_, h0⟩ | ⟨g, cap, cur, rfl, hb, hg, hn, hm, hs, ht⟩
 ·omega
 have hlt : g < w.heap.size := (Array.getElem?_eq_some_iff.1 hg).1
 refine ⟨g, cap, fun i => cells.getD i [], rfl, hb, hlt, hn, hm, fun j hj i hi => ⟨?_, by simp [World.frozen?, hg]⟩, fun i hi j u hu => ?_, fun i t hti => ?_⟩
 ·have hji : j * 6 + i < cur.size := by omega
  rw [cell_of_row w g (j * 6 + i) cur _ (0, 0) hg, Array.getElem?_eq_getElem hji]
  rfl
 ·have hic : i < cells.length := by omega
  have hci : cells[i]? = some cells[i] := List.getElem?_eq_getElem hic
  have e0 : cells.getD i [] = cells[i] := by simp [List.getD, hci]
  have hu : (cells.getD i [])[j]? = some u := hu
  rw [e0] at hu
  have hj : j < 6 := by rw [← h2 cells[i] (List.getElem_mem hic)]; exact (List.getElem?_eq_some_iff.1 hu).1
  have e1 := flat6_get h2 hci j hj
  rw [hu, ← ht, List.getElem?_take, if_pos (by omega), Array.getElem?_toList] at e1
  rw [cell_of_row w g _ cur _ (0, 0) hg, e1]
 ·have hic : i < cells.length := by rw [h1]; exact (List.getElem?_eq_some_iff.1 hti).1
  have hci : cells[i]? = some cells[i] := List.getElem?_eq_getElem hic
  have e0 : cells.getD i [] = cells[i] := by simp [List.getD, hci]
  show RxD _ w (cells.getD i []) t
  rw [e0]
  exact (h4 i cells[i] t hci hti).mono fun k hk => ⟨hk.1, hk.2.1, fun e => hk.2.2 (by rw [e]; rfl)⟩
def canS (s : Nat → Bool) : Prop := ∀ b, 256 ≤ b → s b = false
mutual
def canT : T → Prop
 | .node _ s l => canS s ∧ canL l
def canL : List T → Prop
 | [] => True
 | t :: r => canT t ∧ canL r
end
def fitsT (p k : Int) : Bool := if p = 2 then decide (k = 5) else decide (p ≠ 1) && decide (p ≠ k)
def countT (k : Int) (s : Nat → Bool) (n : Nat) : Bool :=
 if k = 3 then !eqS s zeroS && decide (n = 0) else if k = 1 ∨ k = 2 then decide (n = 0) else if k = 4 ∨ k = 5 then decide (2 ≤ n) else decide (k = 6) && decide (n = 1)
def folT (a b : T) : Bool := decide (cmpT b a < 0) && !(decide (a.kind = 3) && decide (b.kind = 3))
def ascF : List T → Bool
 | a :: b :: r => folT b a && ascF (b :: r)
 | _ => true
mutual
def plainT : T → Bool
 | .node k s l => (decide (k = 3) || eqS s zeroS) && countT k s l.length && plainL k l && (decide (k ≠ 5) || ascF l)
def plainL (k : Int) : List T → Bool
 | [] => true
 | a :: r => fitsT a.kind k && plainT a && plainL k r
end
theorem canL_iff : ∀ {l : List T}, canL l ↔ ∀ t ∈ l, canT t
 | [] => by simp [canL]
 | t :: r => by simp [canL, @canL_iff r]
theorem plainL_iff {k : Int} : ∀ {l : List T}, plainL k l = true ↔ ∀ t ∈ l, fitsT t.kind k = true ∧ plainT t = true
 | [] => by simp [plainL]
 | t :: r => by simp [plainL, @plainL_iff k r]
def good (t : T) : Prop := canT t ∧ plainT t = true
theorem good_node {k : Int} {s : Nat → Bool} {l : List T} : good (.node k s l) ↔ canS s ∧ (∀ t ∈ l, good t) ∧ (k = 3 ∨ eqS s zeroS = true) ∧ countT k s l.length = true ∧ (∀ t ∈ l, fitsT t.kind k = true) ∧ (k = 5 → ascF l = true) := by
 unfold good
 simp only [canT, plainT, canL_iff, Bool.and_eq_true, Bool.or_eq_true, decide_eq_true_eq, plainL_iff]
 constructor
 ·rintro ⟨⟨h1, h2⟩, ⟨⟨h3, h4⟩, h5⟩, h6⟩
  exact ⟨h1, fun t ht => ⟨h2 t ht, (h5 t ht).2⟩, h3, h4, fun t ht => (h5 t ht).1, fun h => by rcases h6 with h6 | h6; exact absurd h h6; exact h6⟩
 ·rintro ⟨h1, h2, h3, h4, h5, h6⟩
  refine ⟨⟨h1, fun t ht => (h2 t ht).1⟩, ⟨⟨h3, h4⟩, fun t ht => ⟨h5 t ht, (h2 t ht).2⟩⟩, ?_⟩
  by_cases h : k = 5
  ·exact .inr (h6 h)
  ·exact .inl h
theorem can_zero : canS zeroS := fun _ _ => rfl
theorem can_eq {s s' : Nat → Bool} (h : canS s) (h' : canS s') (he : eqS s s' = true) : s = s' := by
 funext b
 by_cases hb : b < 256
 ·exact (eqS_iff s s').1 he b hb
 ·rw [h b (by omega), h' b (by omega)]
mutual
theorem cmpT_eq : ∀ t u : T, good t → good u → cmpT t u = 0 → t = u
 | .node k s l, .node k' s' l', hg, hg', h => by
  obtain ⟨c1, c2, c3, _⟩ := good_node.1 hg
  obtain ⟨d1, d2, d3, _⟩ := good_node.1 hg'
  rw [cmpT_lex] at h
  have hk : kindD k k' = 0 := by
   by_cases e : kindD k k' = 0
   ·exact e
   ·rw [lex_ne _ e] at h; exact absurd h e
  have hkk : k = k' := by
   unfold kindD at hk
   by_cases e : k = k'
   ·exact e
   ·rw [if_neg e] at hk
    split at hk <;> simp at hk
  subst hkk
  rw [hk, lex_zero] at h
  have hs : setD k s s' = 0 := by
   by_cases e : setD k s s' = 0
   ·exact e
   ·rw [lex_ne _ e] at h; exact absurd h e
  rw [hs, lex_zero] at h
  have hss : s = s' := by
   refine can_eq c1 d1 ?_
   by_cases h3 : k = 3
   ·unfold setD at hs
    rw [if_pos h3] at hs
    cases e : eqS s s' with
    | true => rfl
    | false =>
     rw [e, if_pos rfl] at hs
     split at hs <;> simp at hs
   ·have e1 := (eqS_iff _ _).1 (c3.resolve_left h3)
    have e2 := (eqS_iff _ _).1 (d3.resolve_left h3)
    exact (eqS_iff _ _).2 fun b hb => (e1 b hb).trans (e2 b hb).symm
  rw [hss, cmpL_eq l l' c2 d2 h]
theorem cmpL_eq : ∀ l m : List T, (∀ t ∈ l, good t) → (∀ t ∈ m, good t) → cmpL l m = 0 → l = m
 | [], [], _, _, _ => rfl
 | [], _ :: _, _, _, h => by simp [cmpL] at h
 | _ :: _, [], _, _, h => by simp [cmpL] at h
 | a :: r, b :: s, hl, hm, h => by
  simp only [cmpL] at h
  have h0 : cmpT a b = 0 := by
   by_cases e : cmpT a b = 0
   ·exact e
   ·rw [if_neg e] at h; exact h
  rw [if_pos h0] at h
  rw [cmpT_eq a b (hl a (by simp)) (hm b (by simp)) h0, cmpL_eq r s (fun t ht => hl t (by simp [ht])) (fun t ht => hm t (by simp [ht])) h]
end
/-! ### rising lists -/
def Asc (l : List T) : Prop := l.Pairwise fun a b => cmpT a b < 0
theorem asc_ext : ∀ {l m : List T}, Asc l → Asc m → (∀ x, x ∈ l ↔ x ∈ m) → l = m
 | [], [], _, _, _ => rfl
 | [], b :: s, _, _, h => absurd ((h b).2 (by simp)) (by simp)
 | a :: r, [], _, _, h => absurd ((h a).1 (by simp)) (by simp)
 | a :: r, b :: s, hl, hm, h => by
  have hl' := List.pairwise_cons.1 hl
  have hm' := List.pairwise_cons.1 hm
  have hab : a = b := by
   rcases List.mem_cons.1 ((h a).1 (by simp)) with e | e
   ·exact e
   ·rcases List.mem_cons.1 ((h b).2 (by simp)) with e2 | e2
    ·exact e2.symm
    ·have h1 := hm'.1 a e
     have h2 := hl'.1 b e2
     have := cmpT_flip a b
     omega
  subst hab
  have hir : ∀ (x : T), cmpT x x < 0 → False := fun x hx => by rw [cmpT_self] at hx; omega
  rw [asc_ext hl'.2 hm'.2 fun x => ⟨fun hx => by
   rcases List.mem_cons.1 ((h x).1 (by simp [hx])) with e | e
   ·subst e; exact (hir x (hl'.1 x hx)).elim
   ·exact e, fun hx => by
   rcases List.mem_cons.1 ((h x).2 (by simp [hx])) with e | e
   ·subst e; exact (hir x (hm'.1 x hx)).elim
   ·exact e⟩]
def insT (r : T) : List T → List T
 | [] => [r]
 | a :: l => if cmpT a r < 0 then a :: insT r l else if cmpT a r = 0 then a :: l else r :: a :: l
theorem insT_mem {r : T} (hr : good r) : ∀ {l : List T}, (∀ t ∈ l, good t) → ∀ x, x ∈ insT r l ↔ x = r ∨ x ∈ l
 | [], _, x => by simp [insT]
 | a :: l, hl, x => by
  have ih := insT_mem hr (l := l) (fun t ht => hl t (by simp [ht])) x
  simp only [insT]
  by_cases h1 : cmpT a r < 0
  ·rw [if_pos h1, List.mem_cons, ih, List.mem_cons]
   constructor
   ·rintro (h | h | h)
    ·exact .inr (.inl h)
    ·exact .inl h
    ·exact .inr (.inr h)
   ·rintro (h | h | h)
    ·exact .inr (.inl h)
    ·exact .inl h
    ·exact .inr (.inr h)
  ·rw [if_neg h1]
   by_cases h2 : cmpT a r = 0
   ·rw [if_pos h2]
    have := cmpT_eq a r (hl a (by simp)) hr h2
    subst this
    simp
   ·rw [if_neg h2]
    simp
theorem insT_asc {r : T} : ∀ {l : List T}, Asc l → Asc (insT r l) ∧ ∀ x ∈ insT r l, x = r ∨ x ∈ l
 | [], _ => ⟨by simp [insT, Asc], by simp [insT]⟩
 | a :: l, hl => by
  have hl' := List.pairwise_cons.1 hl
  obtain ⟨i1, i2⟩ := insT_asc (r := r) hl'.2
  simp only [insT]
  by_cases h1 : cmpT a r < 0
  ·rw [if_pos h1]
   refine ⟨List.pairwise_cons.2 ⟨fun x hx => ?_, i1⟩, fun x hx => ?_⟩
   ·rcases i2 x hx with e | e
    ·subst e; exact h1
    ·exact hl'.1 x e
   ·rcases List.mem_cons.1 hx with e | e
    ·exact .inr (by simp [e])
    ·rcases i2 x e with e | e
     ·exact .inl e
     ·exact .inr (by simp [e])
  ·rw [if_neg h1]
   by_cases h2 : cmpT a r = 0
   ·rw [if_pos h2]
    exact ⟨hl, fun x hx => .inr hx⟩
   ·rw [if_neg h2]
    have hra : cmpT r a < 0 := by have := cmpT_flip a r; omega
    refine ⟨List.pairwise_cons.2 ⟨fun x hx => ?_, hl⟩, fun x hx => ?_⟩
    ·rcases List.mem_cons.1 hx with e | e
     ·subst e; exact hra
     ·exact cmpT_trans hra (by have := hl'.1 x e; omega)
    ·rcases List.mem_cons.1 hx with e | e
     ·exact .inl e
     ·exact .inr e
def sortU (l : List T) : List T := l.foldl (fun acc t => insT t acc) []
theorem sortU_snoc (l : List T) (t : T) : sortU (l ++ [t]) = insT t (sortU l) := by simp [sortU, List.foldl_append]
theorem sortU_asc : ∀ l : List T, Asc (sortU l) := by
 intro l
 have : ∀ (m acc : List T), Asc acc → Asc (m.foldl (fun acc t => insT t acc) acc) := by
  intro m
  induction m with
  | nil => intro acc h; exact h
  | cons t r ih => intro acc h; exact ih _ (insT_asc h).1
 exact this l [] List.Pairwise.nil
theorem sortU_mem {l : List T} (hl : ∀ t ∈ l, good t) : ∀ x, x ∈ sortU l ↔ x ∈ l := by
 have : ∀ (m acc : List T), (∀ t ∈ m, good t) → (∀ t ∈ acc, good t) → ∀ x, x ∈ m.foldl (fun acc t => insT t acc) acc ↔ x ∈ m ∨ x ∈ acc := by
  intro m
  induction m with
  | nil => intro acc _ _ x; simp
  | cons t r ih =>
   intro acc hm ha x
   have ht := hm t (by simp)
   have hmem := insT_mem ht ha
   rw [List.foldl_cons, ih _ (fun u hu => hm u (by simp [hu])) (fun u hu => by
    rcases (hmem u).1 hu with e | e
    ·rw [e]; exact ht
    ·exact ha u e) x, hmem x, List.mem_cons]
   constructor
   ·rintro (h | h | h)
    ·exact .inl (.inr h)
    ·exact .inl (.inl h)
    ·exact .inr h
   ·rintro ((h | h) | h)
    ·exact .inr (.inl h)
    ·exact .inl h
    ·exact .inr (.inr h)
 intro x
 rw [sortU, this l [] hl (by simp) x]
 simp
def orT (E : List T) : Nat → Bool := fun b => E.any fun t => decide (t.kind = 3) && t.set b
def itemsT (E : List T) : List T := withoutT 3 E ++ if eqS (orT E) zeroS then [] else [.node 3 (orT E) []]
def altT (l : List T) : T := wrapT 5 noneT (sortU (itemsT (withoutT 1 (flatT 5 l))))
theorem good_flat {k : Int} {l : List T} (h : ∀ t ∈ l, good t) : ∀ t ∈ flatT k l, good t := fun t ht => by
 unfold flatT at ht
 obtain ⟨u, hu, hu2⟩ := List.mem_flatMap.1 ht
 by_cases hk : u.kind = k
 ·rw [if_pos hk] at hu2
  cases u with
  | node k' s m => exact (good_node.1 (h _ hu)).2.1 t hu2
 ·rw [if_neg hk] at hu2
  obtain rfl := List.mem_singleton.1 hu2
  exact h t hu
theorem good_without {k : Int} {l : List T} (h : ∀ t ∈ l, good t) : ∀ t ∈ withoutT k l, good t := fun t ht => h t (List.mem_filter.1 ht).1
theorem can_or {E : List T} (h : ∀ t ∈ E, good t) : canS (orT E) := fun b hb => by
 unfold orT
 rw [List.any_eq_false]
 intro t ht
 cases t with
 | node k s l =>
  have := (good_node.1 (h _ ht)).1 b hb
  simp [T.set, this]
theorem good_set {s : Nat → Bool} (hc : canS s) (hs : eqS s zeroS = false) : good (.node 3 s []) :=
 good_node.2 ⟨hc, by simp, .inl rfl, by simp [countT, hs], by simp, by simp⟩
theorem good_items {E : List T} (h : ∀ t ∈ E, good t) : ∀ t ∈ itemsT E, good t := fun t ht => by
 unfold itemsT at ht
 rcases List.mem_append.1 ht with ht | ht
 ·exact good_without h t ht
 ·cases hs : eqS (orT E) zeroS with
  | true => rw [hs] at ht; simp at ht
  | false =>
   rw [hs] at ht
   obtain rfl : t = .node 3 (orT E) [] := by simpa using ht
   exact good_set (can_or h) hs
theorem insT_nodes (r : T) : ∀ l : List T, nodesL (insT r l) ≤ r.nodes + nodesL l
 | [] => by simp [insT, nodesL]
 | a :: l => by
  have ih := insT_nodes r l
  simp only [insT]
  by_cases h1 : cmpT a r < 0
  ·rw [if_pos h1]; simp only [nodesL]; omega
  ·rw [if_neg h1]
   by_cases h2 : cmpT a r = 0
   ·rw [if_pos h2]; omega
   ·rw [if_neg h2]; simp only [nodesL]; omega
theorem sortU_nodes (l : List T) : nodesL (sortU l) ≤ nodesL l := by
 have : ∀ (m acc : List T), nodesL (m.foldl (fun acc t => insT t acc) acc) ≤ nodesL m + nodesL acc := by
  intro m
  induction m with
  | nil => intro acc; simp [nodesL]
  | cons t r ih =>
   intro acc
   have h1 := ih (insT t acc)
   have h2 := insT_nodes t acc
   rw [List.foldl_cons]
   simp only [nodesL]
   omega
 have := this l []
 simp only [nodesL] at this
 exact this
theorem itemsT_nodes (E : List T) : nodesL (itemsT E) ≤ nodesL E + 1 := by
 unfold itemsT
 have h1 := withoutT_nodes 3 E
 rw [nodesL_append]
 split
 ·simp only [nodesL]; omega
 ·simp only [nodesL, T.nodes]; omega
theorem altT_nodes (l : List T) : (altT l).nodes ≤ 3 + nodesL l := by
 unfold altT
 have h1 := wrapT_nodes 5 noneT (sortU (itemsT (withoutT 1 (flatT 5 l))))
 have h2 := sortU_nodes (itemsT (withoutT 1 (flatT 5 l)))
 have h3 := itemsT_nodes (withoutT 1 (flatT 5 l))
 have h4 := withoutT_nodes 1 (flatT 5 l)
 have h5 := flatT_nodes 5 l
 have h6 : noneT.nodes = 1 := rfl
 omega
theorem grown_at {w w1 w2 w0 : World} {g B : Nat} (h : w.grownBy w1 (some g)) (b1 : Below B w0 w1) (b2 : Below B w0 w2) (hs : w1.heap.size ≤ w2.heap.size) (ho : ∀ k, k ≠ g → w2.heap[k]? = w1.heap[k]?) : w.grownBy w2 (some g) :=
 ⟨b2.os.trans (b1.os.symm.trans h.os), b2.tape.trans (b1.tape.symm.trans h.tape), b2.output.trans (b1.output.symm.trans h.output), Nat.le_trans h.size hs, fun k hk hne => (ho k fun e => hne (by rw [e])).trans (h.block k hk hne)⟩
theorem bulkR_one {H : Type} (d : DataW H) : 1 ≤ Rows.uptoBulk d := by
 cases d with
 | lit l => cases l <;> simp [Rows.uptoBulk]
 | _ => simp [Rows.uptoBulk]
theorem bulkR_part {H : Type} {d : DataW H} {l : List (DataW H)} (h : d ∈ l) : Rows.uptoBulk d ≤ Rows.uptoBulkAll l := by
 induction l with
 | nil => cases h
 | cons a l ih =>
  simp only [Rows.uptoBulkAll]
  rcases List.mem_cons.1 h with rfl | h
  ·omega
  ·have := ih h
   omega
theorem nodes_bulk {H : Type} (D : Nat → DataW H) (f : Nat → T) : ∀ n, (∀ i, i < n → (f i).nodes ≤ Rows.uptoBulk (D i)) → nodesL ((List.range n).map f) ≤ Rows.uptoBulkAll ((List.range n).map D)
 | 0, _ => by simp [nodesL]
 | n + 1, h => by
  have ih := nodes_bulk D f n fun i hi => h i (by omega)
  have hap : ∀ l r : List (DataW H), Rows.uptoBulkAll (l ++ r) = Rows.uptoBulkAll l + Rows.uptoBulkAll r := by
   intro l r
   induction l with
   | nil => simp [Rows.uptoBulkAll]
   | cons a l ih => simp only [List.cons_append, Rows.uptoBulkAll, ih]; omega
  rw [List.range_succ, List.map_append, List.map_append, nodesL_append, hap]
  have h1 := h n (by omega)
  simp only [List.map_cons, List.map_nil, nodesL, Rows.uptoBulkAll]
  omega
def canonS (p : Nat → Bool) : Nat → Bool := fun b => decide (b < 256) && p b
theorem canon_can (p : Nat → Bool) : canS (canonS p) := fun b hb => by
 unfold canonS
 rw [decide_eq_false (by omega)]
 rfl
theorem canon_wds (p : Nat → Bool) : wds (canonS p) = wds p := wds_congr fun b hb => by
 unfold canonS
 rw [decide_eq_true hb]
 rfl
set_option maxRecDepth 100000 in
theorem open_rxN {H : Type} {enc : TypeId × Value → H} {W : World} {base : Nat} {spare : Nat → Bool} {held : Bool} : ∀ (n : Nat) (d : DataW H), Rows.uptoBulk d ≤ n → ∀ (fuel : Nat) (cs : List Value) (p : List MemPlace),
  DataW.trod enc Try.prog W base spare held fuel 40 cs = some (d, p) → ∃ t : T, canT t ∧ RxD (fun k => k < W.heap.size) W cs t ∧ t.nodes ≤ Rows.uptoBulk d := by
 intro n
 induction n with
 | zero =>
  intro d hd
  have := bulkR_one d
  omega
 | succ n ih =>
  intro d hd fuel cs p h
  obtain ⟨y0, y1, y2, m, hx, hl, h0, h1, h2⟩ := Deep.trod_struct3 Try.underlying40 h
  have hl6 : cs.length = 6 := by rw [hl]; kernel_rfl
  match cs, hl6 with
  | [c0, c1, c2, c3, c4, c5], _ =>
   have h0' : DataW.trod enc Try.prog W base spare held m 3 [c0] = some y0 := h0
   have h1' : DataW.trod enc Try.prog W base spare held m 37 [c1, c2, c3, c4] = some y1 := h1
   have h2' : DataW.trod enc Try.prog W base spare held m 38 [c5] = some y2 := h2
   obtain ⟨k, hk, _, _⟩ := DataW.trod_int Try.underlying3 h0'
   obtain ⟨s, hs⟩ := set_of_trod Try.underlying37 Try.underlying35 (by kernel_rfl) (by kernel_rfl) h1'
   have hc0 : c0 = .int .i64 k := by simpa using hk
   have hcs : [c0, c1, c2, c3, c4, c5] = rxc k (canonS s) c5 := by
    unfold rxc
    rw [canon_wds, ← hs, hc0]
    rfl
   have hd' : d = .agg [y0.1, y1.1, y2.1] := congrArg Prod.fst hx
   have hbd : Rows.uptoBulk d = Rows.uptoBulk y0.1 + (Rows.uptoBulk y1.1 + (Rows.uptoBulk y2.1 + 0)) + 1 := by rw [hd']; rfl
   rw [hcs]
   rcases Deep.open_slice Try.underlying38 h2' with ⟨he, _⟩ | ⟨a, len, cap, m2, n2, D, Pl, he, _, hlc, hcm, hmm, hx2, hall⟩
   ·have hc5 : c5 = .slice none 0 0 := by simpa using he
    refine ⟨.node k (canonS s) [], ⟨canon_can s, trivial⟩, by rw [hc5]; exact rx_leaf _ _ _ _, ?_⟩
    simp only [T.nodes, nodesL]
    rw [hbd]
    omega
   ·have hc5 : c5 = .slice (some a) len cap := by simpa using he
    have hy2 : y2.1 = .slice ((List.range len).map D) ((List.range (m2 - len)).map fun j => D (len + j)) := congrArg Prod.fst hx2
    have hml : len ≤ m2 := by rw [hmm]; split <;> omega
    have hsz : ∀ i, i < len → Rows.uptoBulk (D i) ≤ n := fun i hi => by
     have e1 : D i ∈ (List.range len).map D := List.mem_map.2 ⟨i, List.mem_range.2 hi, rfl⟩
     have e2 := bulkR_part e1
     have hb2 : Rows.uptoBulk y2.1 = Rows.uptoBulkAll ((List.range len).map D) + Rows.uptoBulkAll ((List.range (m2 - len)).map fun j => D (len + j)) + 1 := by rw [hy2]; rfl
     omega
    obtain ⟨b, off, spot⟩ := a
    have hce : Try.prog.cellsOf 40 = 6 := by kernel_rfl
    rcases Nat.eq_zero_or_pos len with hz | hpos
    ·subst hz
     refine ⟨.node k (canonS s) [], ⟨canon_can s, trivial⟩, ?_, ?_⟩
     ·rw [hc5]
      exact RxD.node (l := []) (fun _ => []) (Nat.zero_le _) hcm (fun h => by cases h) (fun h => absurd rfl h) (fun i t h => by simp at h)
     ·simp only [T.nodes, nodesL]
      rw [hbd]
      omega
    have hspot : spot = none := by
     obtain ⟨cs', g1, _⟩ := hall 0 (by omega)
     rw [hce] at g1
     obtain ⟨_, g2, g3⟩ := World.cells?_some g1
     have g4 := g3 0 (by omega)
     rw [List.getElem?_eq_getElem (by omega)] at g4
     simpa [Addr.add] using World.cell?_spot g4
    subst hspot
    have key : ∀ i, i < len → ∃ q : List Value × T, canT q.2 ∧ RxD (fun k => k < W.heap.size) W q.1 q.2 ∧ q.2.nodes ≤ Rows.uptoBulk (D i) ∧ W.rangeAt b (off + i * 6) q.1 ∧ b < W.heap.size := by
     intro i hi
     obtain ⟨cs', g1, g2⟩ := hall i (by omega)
     obtain ⟨t, t1, t2, t3⟩ := ih (D i) (hsz i hi) _ _ _ g2
     rw [hce, Addr.add_mid] at g1
     exact ⟨(cs', t), t1, t2, t3, (cells_range g1).2, by have := World.cells?_block g1 (by omega); exact this⟩
    haveI : Inhabited (List Value × T) := ⟨([], noneT)⟩
    obtain ⟨f, hf⟩ := Deep.choose_lt key
    refine ⟨.node k (canonS s) ((List.range len).map fun i => (f i).2), ⟨canon_can s, canL_iff.2 fun t ht => ?_⟩, ?_, ?_⟩
    ·obtain ⟨i, hi, rfl⟩ := List.mem_map.1 ht
     exact (hf i (List.mem_range.1 hi)).1
    ·rw [hc5]
     have hll : ((List.range len).map fun i => (f i).2).length = len := by simp
     have hr := RxD.node (D := fun k => k < W.heap.size) (w := W) (k := k) (s := canonS s) (l := (List.range len).map fun i => (f i).2) (A := some ⟨b, off, none⟩) (cap := cap) (fun i => (f i).1) (by rw [hll]; exact hlc) hcm (fun h => by cases h)
      (fun _ => ⟨b, off, rfl, (hf 0 hpos).2.2.2.2, fun i hi => (hf i (by rw [hll] at hi; exact hi)).2.2.2.1⟩)
      (fun i t ht => by
       have hi : i < len := by have := (List.getElem?_eq_some_iff.1 ht).1; simpa using this
       have : t = (f i).2 := by simpa [hi] using ht.symm
       rw [this]
       exact (hf i hi).2.1)
     rw [hll] at hr
     exact hr
    ·have hn := nodes_bulk D (fun i => (f i).2) len fun i hi => (hf i hi).2.2.1
     have hb2 : Rows.uptoBulk y2.1 = Rows.uptoBulkAll ((List.range len).map D) + Rows.uptoBulkAll ((List.range (m2 - len)).map fun j => D (len + j)) + 1 := by rw [hy2]; rfl
     simp only [T.nodes]
     rw [hbd, hb2]
     omega
theorem open_rx {H : Type} {enc : TypeId × Value → H} {W : World} {base : Nat} {spare : Nat → Bool} {held : Bool} {v : Value} {d : DataW H} {p : List MemPlace} (h : DataW.Trod enc Try.prog W base spare held 40 v d p) :
  ∃ t : T, canT t ∧ RxV W.heap.size W v.cells.toList t ∧ t.nodes ≤ Rows.uptoBulk d := by
 obtain ⟨fuel, hf⟩ := h
 exact open_rxN _ d (Nat.le_refl _) _ _ _ hf
section
variable {w : World} {o : Oper} {a : Act} {K : Act → World → Prop} {Q : Exit → Act → World → Prop}
theorem wp_appT {D : Nat → Prop} {base : Nat} (s x : Operand)
  (ho : o.op = .call { callee := .builtin .append, args := #[s, x], argTypes := #[38, 38] })
  (i : TypeInfo) (hi : Try.prog.info? 40 = some i) (hz : i.zero = some (.agg (Value.int .i64 0 :: (wds (fun _ => false) ++ [.slice none 0 0])).toArray))
  (hsize : i.size = 6) (hby : i.bytes = 64)
  (v : Value) (l : List T) (hs : a.eval s = v) (hown : OwnT D base w v l)
  (g cap : Nat) (tg : TypeId) (c : List Value) (t : T) (hx : a.eval x = .slice (some ⟨g, 0, none⟩) 1 cap) (hr : Blk w g tg c) (hel : RxD (fun k => D k ∧ k < w.heap.size ∧ some k ≠ v.ownBlock) w c t)
  (hlen : l.length + 1 ≤ 1099511627776) (hb : base ≤ w.heap.size)
  (h : ∀ v' w', OwnT D base w' v' (l ++ [t]) → w.grownBy w' v.ownBlock → K (a.put o.dst v') w') : o.wp Try.prog a w K Q := by
 obtain ⟨cells, h1, h2, h3, h4⟩ := hown
 have hc6 : c.length = 6 := hel.length
 have hnews : ∀ j u, c[j]? = some u → w.cell? ((⟨g, 0, none⟩ : Addr).add j) = some u := fun j u hj => by
  rw [Addr.add_lit, Nat.zero_add, hr.cell j]
  exact hj
 obtain ⟨v', w', hrun, hown', hgr, _⟩ := run_append_own (P := Try.prog) w base 38 o.type 40 i _ 6 64 Try.underlying38 hi hz hsize hby (by simp [Value.cells, wds]) (by omega) v l.length cells.flatten h3 ⟨g, 0, none⟩ 1 cap c (by omega) hnews hel.one (by unfold maxLen; omega) (by omega) hb
 have hwh := append_where (P := Try.prog) (w := w) base 38 o.type 40 i _ 6 64 Try.underlying38 hi hz hsize hby (by omega) v l.length cells.flatten h3 ⟨g, 0, none⟩ 1 cap c (by omega) hnews hel.one (by unfold maxLen; omega) (by omega) hrun
 unfold Oper.wp execOp
 simp only [ho, resolve, invoke, builtin, Sem.run_bind, Sem.run_pure, Result.andThen_ok, List.map_toArray, List.map_cons, List.map_nil, hs, hx, hrun]
 refine h v' w' ⟨cells ++ [c], by simp [h1], fun d hd => ?_, ?_, fun j d u hd hu => ?_⟩ hgr
 ·rcases List.mem_append.1 hd with hd | hd
  ·exact h2 d hd
  ·obtain rfl := List.mem_singleton.1 hd
   exact hc6
 ·rw [List.flatten_append, List.length_append]
  simpa using hown'
 ·have key : RxD (fun k => D k ∧ k < w.heap.size ∧ some k ≠ v.ownBlock) w d u := by
   by_cases hj : j < l.length
   ·rw [List.getElem?_append_left (by omega)] at hd hu
    exact h4 j d u hd hu
   ·have hjl : j = l.length := by
     have := (List.getElem?_eq_some_iff.1 hu).1
     simp at this
     omega
    subst hjl
    rw [List.getElem?_append_right (by omega)] at hd hu
    simp [h1] at hd hu
    rw [← hd, ← hu]
    exact hel
  refine (key.stay fun k hk => hgr.block k hk.2.1 hk.2.2).mono fun k hk => ⟨hk.1, Nat.lt_of_lt_of_le hk.2.1 hgr.size, fun he => ?_⟩
  rcases hwh k he.symm with h | h
  ·exact hk.2.2 h.symm
  ·have := hk.2.1
   omega
set_option maxRecDepth 100000 in
theorem wp_appTs {D D' : Nat → Prop} {base : Nat} (s x : Operand)
  (ho : o.op = .call { callee := .builtin .append, args := #[s, x], argTypes := #[38, 38] })
  (i : TypeInfo) (hi : Try.prog.info? 40 = some i) (hz : i.zero = some (.agg (Value.int .i64 0 :: (wds (fun _ => false) ++ [.slice none 0 0])).toArray))
  (hsize : i.size = 6) (hby : i.bytes = 64)
  (v : Value) (l : List T) (hs : a.eval s = v) (hown : OwnT D base w v l)
  (u : Value) (m : List T) (hx : a.eval x = u) (hr : RowD D' w u m) (hD : ∀ k, D' k → D k ∧ k < w.heap.size ∧ some k ≠ v.ownBlock)
  (hlen : l.length + m.length ≤ 1099511627776) (hb : base ≤ w.heap.size)
  (h : ∀ v' w', OwnT D base w' v' (l ++ m) → w.grownBy w' v.ownBlock → K (a.put o.dst v') w') : o.wp Try.prog a w K Q := by
 obtain ⟨A, cap, f, rfl, r1, r2, r0, r3, r4⟩ := hr
 cases A with
 | none =>
  have hcap : cap = 0 := r0 rfl
  subst hcap
  have hn : m = [] := List.eq_nil_of_length_eq_zero (by omega)
  subst hn
  obtain ⟨cells, h1, h2, h3, h4⟩ := hown
  have hrun := run_append_owned_none (P := Try.prog) (w := w) base 38 o.type 40 i 6 Try.underlying38 hi v _ _ h3
  unfold Oper.wp
  simp at hx
  simp [execOp, ho, resolve, invoke, builtin, hs, hx, hrun, Result.andThen]
  exact h v w (by simpa using ⟨cells, h1, h2, h3, h4⟩) (World.grownBy.refl _ _)
 | some ad =>
  obtain ⟨cells, h1, h2, h3, h4⟩ := hown
  obtain ⟨ms, hms⟩ : ∃ ms, ms = (List.range m.length).map f := ⟨_, rfl⟩
  have hml : ms.length = m.length := by rw [hms]; simp
  have hmi : ∀ (j : Nat) (c : List Value), ms[j]? = some c → j < m.length ∧ c = f j := fun j c hc => by
   have hj : j < m.length := by have := (List.getElem?_eq_some_iff.1 hc).1; omega
   rw [hms, List.getElem?_map, List.getElem?_range hj] at hc
   exact ⟨hj, by simpa using hc.symm⟩
  have hel : ∀ (j : Nat) (c : List Value) (t : T), ms[j]? = some c → m[j]? = some t → RxD D' w c t := fun j c t hc ht => by
   obtain ⟨_, rfl⟩ := hmi j c hc
   exact r4 j t ht
  have hm6 : ∀ c ∈ ms, c.length = 6 := fun c hc => by
   obtain ⟨j, hj⟩ := List.getElem?_of_mem hc
   exact (hel j c (m[j]'((hmi j c hj).1)) hj (List.getElem?_eq_getElem _)).length
  have hone : ∀ x ∈ ms.flatten, x.oneCell' = true := fun x hx => by
   obtain ⟨c, hc, hxc⟩ := List.mem_flatten.1 hx
   obtain ⟨j, hj⟩ := List.getElem?_of_mem hc
   exact RxD.one (hel j c (m[j]'((hmi j c hj).1)) hj (List.getElem?_eq_getElem _)) x hxc
  have hfl := flat6_len hm6
  have hnews : ∀ j x, ms.flatten[j]? = some x → w.cell? (ad.add j) = some x := fun j x hj => by
   have hlt : j < ms.length * 6 := by rw [← hfl]; exact (List.getElem?_eq_some_iff.1 hj).1
   have hk : j / 6 < ms.length := by omega
   have hg := flat6_get hm6 (List.getElem?_eq_getElem hk) (j % 6) (Nat.mod_lt _ (by omega))
   rw [show j / 6 * 6 + j % 6 = j by omega, hj] at hg
   obtain ⟨b, off, hA, _, hcell⟩ := r3 (fun he => by rw [he] at hml; simp only [List.length_nil] at hml; omega)
   injection hA with hA
   subst hA
   have hf := (hmi (j / 6) ms[j / 6] (List.getElem?_eq_getElem hk)).2
   rw [hf] at hg
   have := hcell (j / 6) (by omega) (j % 6) x hg.symm
   rw [show off + j / 6 * 6 + j % 6 = off + j by omega] at this
   rw [Addr.add_lit]
   exact this
  obtain ⟨v', w', hrun, hown', hgr, _⟩ := run_append_own (P := Try.prog) w base 38 o.type 40 i _ 6 64 Try.underlying38 hi hz hsize hby (by simp [Value.cells, wds]) (by omega) v l.length cells.flatten h3 ad m.length cap ms.flatten (by rw [hfl, hml]) hnews hone (by unfold maxLen; omega) (by omega) hb
  have hwh := append_where (P := Try.prog) (w := w) base 38 o.type 40 i _ 6 64 Try.underlying38 hi hz hsize hby (by omega) v l.length cells.flatten h3 ad m.length cap ms.flatten (by rw [hfl, hml]) hnews hone (by unfold maxLen; omega) (by omega) hrun
  unfold Oper.wp execOp
  simp only [ho, resolve, invoke, builtin, Sem.run_bind, Sem.run_pure, Result.andThen_ok, List.map_toArray, List.map_cons, List.map_nil, hs, hx, hrun]
  refine h v' w' ⟨cells ++ ms, by simp [h1, hml], fun d hd => ?_, ?_, fun j d t hd ht => ?_⟩ hgr
  ·rcases List.mem_append.1 hd with hd | hd
   ·exact h2 d hd
   ·exact hm6 d hd
  ·rw [List.flatten_append, List.length_append]
   exact hown'
  ·have key : RxD (fun k => D k ∧ k < w.heap.size ∧ some k ≠ v.ownBlock) w d t := by
    by_cases hj : j < l.length
    ·rw [List.getElem?_append_left (by omega)] at hd ht
     exact h4 j d t hd ht
    ·rw [List.getElem?_append_right (by omega)] at hd ht
     rw [h1] at hd
     exact RxD.mono (hel _ d t hd ht) fun k hk => hD k hk
   refine (key.stay fun k hk => hgr.block k hk.2.1 hk.2.2).mono fun k hk => ⟨hk.1, Nat.lt_of_lt_of_le hk.2.1 hgr.size, fun he => ?_⟩
   rcases hwh k he.symm with h | h
   ·exact hk.2.2 h.symm
   ·have := hk.2.1
    omega
end
section
variable {P : Program} {w : World} {o : Oper} {a : Act} {K : Act → World → Prop} {Q : Exit → Act → World → Prop}
theorem wp_bldT1 (t e : TypeId) (x : Operand) (ho : o.op = .buildSlice t 1 #[(0, x)]) (i : TypeInfo) (ht : P.underlying t = some (.slice e)) (hi : P.info? e = some i) (hz : i.zero = some (.agg (Value.int .i64 0 :: (wds (fun _ => false) ++ [.slice none 0 0])).toArray)) (hs : i.size = 6) (ds : List Value) (hl : ds.length = 6)
  (hx : a.eval x = .agg ds.toArray)
  (h : ∀ w', Blk w' w.heap.size e ds → Below w.heap.size w w' → w'.heap.size = w.heap.size + 1 → K (a.put o.dst (.slice (some ⟨w.heap.size, 0, none⟩) 1 1)) w') : o.wp P a w K Q := by
 have hrun := run_bldT1 (P := P) (w := w) t e i ht hi hz hs ds hl
 unfold Oper.wp
 simp only [execOp, ho, List.map_toArray, List.map_cons, List.map_nil, hx, hrun, Sem.run_bind, Result.andThen_ok, Sem.run_pure]
 exact (h _ (Blk.new w e _) ((Below.refl _ _).alloc (Nat.le_refl _) _) (by simp))
end
section
variable {w : World} {o : Oper} {a : Act} {K : Act → World → Prop} {Q : Exit → Act → World → Prop}
theorem wp_bldT0 (ho : o.op = .buildSlice 38 0 #[])
  (h : ∀ v' w', (∀ D, OwnT D w.heap.size w' v' []) → Below w.heap.size w w' → K (a.put o.dst v') w') : o.wp Try.prog a w K Q := by
 obtain ⟨i, hi, hz, hsz, hby⟩ := inf_rx'
 have hrun : (Instr.buildSlice 38 0 #[]).run Try.prog w = .ok (.slice (some ⟨w.heap.size, 0, none⟩) 0 0) (w.alloc (.cells #[] 40)) := by
  simp [Instr.buildSlice, run_underlying Try.underlying38, sizeOf, typeInfo, hi, hsz, Instr.fill, newRow, Array.range_zero']
 unfold Oper.wp
 simp only [execOp, ho, List.map_toArray, List.map_nil, hrun, Sem.run_bind, Result.andThen_ok, Sem.run_pure]
 exact h _ _ (fun D => ⟨[], rfl, by simp, ⟨by simp, .inr ⟨w.heap.size, 0, #[], rfl, Nat.le_refl _, heap_alloc_new w _, Nat.le_refl _, Nat.zero_le _, rfl, rfl⟩⟩, fun i c t h => by simp at h⟩) ((Below.refl _ _).alloc (Nat.le_refl _) _)
end
theorem RowD.take {D : Nat → Prop} {w : World} {A : Option Addr} {n cap : Nat} {l : List T} (h : RowD D w (.slice A n cap) l) (k : Nat) (hk : k ≤ l.length) : RowD D w (.slice A k cap) (l.take k) := by
 obtain ⟨A', cap', f, he, h1, h2, h0, h3, h4⟩ := h
 injection he with hA hn hc
 subst hA
 subst hc
 have hl : (l.take k).length = k := by rw [List.length_take]; omega
 refine ⟨A, cap, f, by rw [hl], by omega, h2, h0, fun hne => ?_, fun i t ht => ?_⟩
 ·obtain ⟨b, off, hA, hb, hr⟩ := h3 (fun e => hne (by rw [e]; simp))
  exact ⟨b, off, hA, hb, fun i hi => hr i (by omega)⟩
 ·have hi : i < k := by have := (List.getElem?_eq_some_iff.1 ht).1; omega
  rw [List.getElem?_take, if_pos hi] at ht
  exact h4 i t ht
theorem RowD.drop {D : Nat → Prop} {w : World} {A : Option Addr} {n cap : Nat} {l : List T} (h : RowD D w (.slice A n cap) l) (k : Nat) (hk : k < l.length) :
  ∃ b off, A = some ⟨b, off, none⟩ ∧ RowD D w (.slice (some ⟨b, off + k * 6, none⟩) (n - k) (cap - k)) (l.drop k) := by
 obtain ⟨A', cap', f, he, h1, h2, h0, h3, h4⟩ := h
 injection he with hA hn hc
 subst hA
 subst hc
 subst hn
 obtain ⟨b, off, rfl, hb, hr⟩ := h3 (fun e => by rw [e] at hk; simp at hk)
 refine ⟨b, off, rfl, some ⟨b, off + k * 6, none⟩, cap - k, fun i => f (k + i), by rw [List.length_drop], by rw [List.length_drop]; omega, by omega, (fun h => by cases h), fun _ => ⟨b, off + k * 6, rfl, hb, fun i hi => ?_⟩, fun i t ht => ?_⟩
 ·rw [List.length_drop] at hi
  have := hr (k + i) (by omega)
  rw [show off + k * 6 + i * 6 = off + (k + i) * 6 by omega]
  exact this
 ·rw [List.getElem?_drop] at ht
  exact h4 (k + i) t ht
end Go.Proofs.Ytmcpfaaakmehdaa
