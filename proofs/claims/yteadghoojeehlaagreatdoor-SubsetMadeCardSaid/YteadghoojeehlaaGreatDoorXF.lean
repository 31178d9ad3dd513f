/-
  Texts of this proof, put together: RxB, RxC. No statement is proved here.
-/
import Derived.Test.YteadghoojeehlaaGreatDoorXE
import Derived.Test.YteadghoojeehlaaGreatDoorXD
namespace Go.Proofs.YteadghoojeehlaaGreatDoor
open Go.RowKit
set_option linter.unusedSimpArgs false
set_option linter.unusedVariables false
def canS (s : Nat → Bool) : Prop := ∀ b, 256 ≤ b → s b = false
mutual
def canT : T → Prop
 | .node _ s l => canS s ∧ canL l
def canL : List T → Prop
 | [] => True
 | t :: r => canT t ∧ canL r
end
def fitsT (p k : Int) : Bool := if p = 2 then decide (k = 5) else decide (p ≠ 1) && decide (p ≠ k)
def countT (k : Int) (s : Nat → Bool) (n : Nat) : Bool :=
 if k = 3 then !eqS s zeroS && decide (n = 0) else if k = 1 ∨ k = 2 then decide (n = 0) else if k = 4 ∨ k = 5 then decide (2 ≤ n) else decide (k = 6) && decide (n = 1)
def folT (a b : T) : Bool := decide (cmpT b a < 0) && !(decide (a.kind = 3) && decide (b.kind = 3))
def ascF : List T → Bool
 | a :: b :: r => folT b a && ascF (b :: r)
 | _ => true
mutual
def plainT : T → Bool
 | .node k s l => (decide (k = 3) || eqS s zeroS) && countT k s l.length && plainL k l && (decide (k ≠ 5) || ascF l)
def plainL (k : Int) : List T → Bool
 | [] => true
 | a :: r => fitsT a.kind k && plainT a && plainL k r
end
theorem canL_iff : ∀ {l : List T}, canL l ↔ ∀ t ∈ l, canT t
 | [] => by simp [canL]
 | t :: r => by simp [canL, @canL_iff r]
theorem plainL_iff {k : Int} : ∀ {l : List T}, plainL k l = true ↔ ∀ t ∈ l, fitsT t.kind k = true ∧ plainT t = true
 | [] => by simp [plainL]
 | t :: r => by simp [plainL, @plainL_iff k r]
def good (t : T) : Prop := canT t ∧ plainT t = true
theorem good_node {k : Int} {s : Nat → Bool} {l : List T} : good (.node k s l) ↔ canS s ∧ (∀ t ∈ l, good t) ∧ (k = 3 ∨ eqS s zeroS = true) ∧ countT k s l.length = true ∧ (∀ t ∈ l, fitsT t.kind k = true) ∧ (k = 5 → ascF l = true) := by
 unfold good
 simp only [canT, plainT, canL_iff, Bool.and_eq_true, Bool.or_eq_true, decide_eq_true_eq, plainL_iff]
 constructor
 ·rintro ⟨⟨h1, h2⟩, ⟨⟨h3, h4⟩, h5⟩, h6⟩
  exact ⟨h1, fun t ht => ⟨h2 t ht, (h5 t ht).2⟩, h3, h4, fun t ht => (h5 t ht).1, fun h => by rcases h6 with h6 | h6; exact absurd h h6; exact h6⟩
 ·rintro ⟨h1, h2, h3, h4, h5, h6⟩
  refine ⟨⟨h1, fun t ht => (h2 t ht).1⟩, ⟨⟨h3, h4⟩, fun t ht => ⟨h5 t ht, (h2 t ht).2⟩⟩, ?_⟩
  by_cases h : k = 5
  ·exact .inr (h6 h)
  ·exact .inl h
theorem can_zero : canS zeroS := fun _ _ => rfl
theorem can_eq {s s' : Nat → Bool} (h : canS s) (h' : canS s') (he : eqS s s' = true) : s = s' := by
 funext b
 by_cases hb : b < 256
 ·exact (eqS_iff s s').1 he b hb
 ·rw [h b (by omega), h' b (by omega)]
mutual
theorem cmpT_eq : ∀ t u : T, good t → good u → cmpT t u = 0 → t = u
 | .node k s l, .node k' s' l', hg, hg', h => by
  obtain ⟨c1, c2, c3, _⟩ := good_node.1 hg
  obtain ⟨d1, d2, d3, _⟩ := good_node.1 hg'
  rw [cmpT_lex] at h
  have hk : kindD k k' = 0 := by
   by_cases e : kindD k k' = 0
   ·exact e
   ·rw [lex_ne _ e] at h; exact absurd h e
  have hkk : k = k' := by
   unfold kindD at hk
   by_cases e : k = k'
   ·exact e
   ·rw [if_neg e] at hk
    split at hk <;> simp at hk
  subst hkk
  rw [hk, lex_zero] at h
  have hs : setD k s s' = 0 := by
   by_cases e : setD k s s' = 0
   ·exact e
   ·rw [lex_ne _ e] at h; exact absurd h e
  rw [hs, lex_zero] at h
  have hss : s = s' := by
   refine can_eq c1 d1 ?_
   by_cases h3 : k = 3
   ·unfold setD at hs
    rw [if_pos h3] at hs
    cases e : eqS s s' with
    | true => rfl
    | false =>
     rw [e, if_pos rfl] at hs
     split at hs <;> simp at hs
   ·have e1 := (eqS_iff _ _).1 (c3.resolve_left h3)
    have e2 := (eqS_iff _ _).1 (d3.resolve_left h3)
    exact (eqS_iff _ _).2 fun b hb => (e1 b hb).trans (e2 b hb).symm
  rw [hss, cmpL_eq l l' c2 d2 h]
theorem cmpL_eq : ∀ l m : List T, (∀ t ∈ l, good t) → (∀ t ∈ m, good t) → cmpL l m = 0 → l = m
 | [], [], _, _, _ => rfl
 | [], _ :: _, _, _, h => by simp [cmpL] at h
 | _ :: _, [], _, _, h => by simp [cmpL] at h
 | a :: r, b :: s, hl, hm, h => by
  simp only [cmpL] at h
  have h0 : cmpT a b = 0 := by
   by_cases e : cmpT a b = 0
   ·exact e
   ·rw [if_neg e] at h; exact h
  rw [if_pos h0] at h
  rw [cmpT_eq a b (hl a (by simp)) (hm b (by simp)) h0, cmpL_eq r s (fun t ht => hl t (by simp [ht])) (fun t ht => hm t (by simp [ht])) h]
end
/-! ### rising lists -/
def Asc (l : List T) : Prop := l.Pairwise fun a b => cmpT a b < 0
def insT (r : T) : List T → List T
 | [] => [r]
 | a :: l => if cmpT a r < 0 then a :: insT r l else if cmpT a r = 0 then a :: l else r :: a :: l
theorem insT_mem {r : T} (hr : good r) : ∀ {l : List T}, (∀ t ∈ l, good t) → ∀ x, x ∈ insT r l ↔ x = r ∨ x ∈ l
 | [], _, x => by simp [insT]
 | a :: l, hl, x => by
  have ih := insT_mem hr (l := l) (fun t ht => hl t (by simp [ht])) x
  simp only [insT]
  by_cases h1 : cmpT a r < 0
  ·rw [if_pos h1, List.mem_cons, ih, List.mem_cons]
   constructor
   ·rintro (h | h | h)
    ·exact .inr (.inl h)
    ·exact .inl h
    ·exact .inr (.inr h)
   ·rintro (h | h | h)
    ·exact .inr (.inl h)
    ·exact .inl h
    ·exact .inr (.inr h)
  ·rw [if_neg h1]
   by_cases h2 : cmpT a r = 0
   ·rw [if_pos h2]
    have := cmpT_eq a r (hl a (by simp)) hr h2
    subst this
    simp
   ·rw [if_neg h2]
    simp
theorem insT_asc {r : T} : ∀ {l : List T}, Asc l → Asc (insT r l) ∧ ∀ x ∈ insT r l, x = r ∨ x ∈ l
 | [], _ => ⟨by simp [insT, Asc], by simp [insT]⟩
 | a :: l, hl => by
  have hl' := List.pairwise_cons.1 hl
  obtain ⟨i1, i2⟩ := insT_asc (r := r) hl'.2
  simp only [insT]
  by_cases h1 : cmpT a r < 0
  ·rw [if_pos h1]
   refine ⟨List.pairwise_cons.2 ⟨fun x hx => ?_, i1⟩, fun x hx => ?_⟩
   ·rcases i2 x hx with e | e
    ·subst e; exact h1
    ·exact hl'.1 x e
   ·rcases List.mem_cons.1 hx with e | e
    ·exact .inr (by simp [e])
    ·rcases i2 x e with e | e
     ·exact .inl e
     ·exact .inr (by simp [e])
  ·rw [if_neg h1]
   by_cases h2 : cmpT a r = 0
   ·rw [if_pos h2]
    exact ⟨hl, fun x hx => .inr hx⟩
   ·rw [if_neg h2]
    have hra : cmpT r a < 0 := by have := cmpT_flip a r; omega
    refine ⟨List.pairwise_cons.2 ⟨fun x hx => ?_, hl⟩, fun x hx => ?_⟩
    ·rcases List.mem_cons.1 hx with e | e
     ·subst e; exact hra
     ·exact cmpT_trans hra (by have := hl'.1 x e; omega)
    ·rcases List.mem_cons.1 hx with e | e
     ·exact .inl e
     ·exact .inr e
def sortU (l : List T) : List T := l.foldl (fun acc t => insT t acc) []
theorem sortU_snoc (l : List T) (t : T) : sortU (l ++ [t]) = insT t (sortU l) := by simp [sortU, List.foldl_append]
theorem sortU_asc : ∀ l : List T, Asc (sortU l) := by
 intro l
 have : ∀ (m acc : List T), Asc acc → Asc (m.foldl (fun acc t => insT t acc) acc) := by
  intro m
  induction m with
  | nil => intro acc h; exact h
  | cons t r ih => intro acc h; exact ih _ (insT_asc h).1
 exact this l [] List.Pairwise.nil
theorem sortU_mem {l : List T} (hl : ∀ t ∈ l, good t) : ∀ x, x ∈ sortU l ↔ x ∈ l := by
 have : ∀ (m acc : List T), (∀ t ∈ m, good t) → (∀ t ∈ acc, good t) → ∀ x, x ∈ m.foldl (fun acc t => insT t acc) acc ↔ x ∈ m ∨ x ∈ acc := by
  intro m
  induction m with
  | nil => intro acc _ _ x; simp
  | cons t r ih =>
   intro acc hm ha x
   have ht := hm t (by simp)
   have hmem := insT_mem ht ha
   rw [List.foldl_cons, ih _ (fun u hu => hm u (by simp [hu])) (fun u hu => by
    rcases (hmem u).1 hu with e | e
    ·rw [e]; exact ht
    ·exact ha u e) x, hmem x, List.mem_cons]
   constructor
   ·rintro (h | h | h)
    ·exact .inl (.inr h)
    ·exact .inl (.inl h)
    ·exact .inr h
   ·rintro ((h | h) | h)
    ·exact .inr (.inl h)
    ·exact .inl h
    ·exact .inr (.inr h)
 intro x
 rw [sortU, this l [] hl (by simp) x]
 simp
theorem cmpL_at : ∀ (l m : List T) (j : Nat) (a b : T), (∀ (i : Nat) (x y : T), i < j → l[i]? = some x → m[i]? = some y → cmpT x y = 0) → l[j]? = some a → m[j]? = some b → cmpT a b ≠ 0 → cmpL l m = cmpT a b
 | [], _, j, a, b, _, ha, _, _ => by simp at ha
 | _ :: _, [], j, a, b, _, _, hb, _ => by simp at hb
 | x :: r, y :: s, 0, a, b, _, ha, hb, hne => by
  simp at ha hb
  subst ha
  subst hb
  simp only [cmpL]
  rw [if_neg hne]
 | x :: r, y :: s, j + 1, a, b, h, ha, hb, hne => by
  have h0 := h 0 x y (by omega) rfl rfl
  simp only [cmpL]
  rw [if_pos h0]
  exact cmpL_at r s j a b (fun i p q hi hp hq => h (i + 1) p q (by omega) (by simpa using hp) (by simpa using hq)) (by simpa using ha) (by simpa using hb) hne
theorem cmpL_end : ∀ (l m : List T), (∀ (i : Nat) (x y : T), l[i]? = some x → m[i]? = some y → cmpT x y = 0) → cmpL l m = if l.length < m.length then -1 else if m.length < l.length then 1 else 0
 | [], [], _ => rfl
 | [], _ :: _, _ => by simp [cmpL]
 | _ :: _, [], _ => by simp [cmpL]
 | x :: r, y :: s, h => by
  have h0 := h 0 x y rfl rfl
  have ih := cmpL_end r s fun i p q hp hq => h (i + 1) p q (by simpa using hp) (by simpa using hq)
  simp only [cmpL]
  rw [if_pos h0, ih]
  simp only [List.length_cons, Nat.add_lt_add_iff_right]
set_option maxHeartbeats 8000000 in
set_option maxRecDepth 100000 in
theorem refCompare_any : ∀ (N : Nat) (t u : T), t.nodes ≤ N → t.nodes ≤ 1099511627776 → ∀ (cs ds : List Value) (w : World), RxV w.heap.size w cs t → RxV w.heap.size w ds u →
  Calls Tryz.prog 100 #[.agg cs.toArray, .agg ds.toArray] w fun e w' => e = .returned (.int .i64 (cmpT t u)) ∧ Below w.heap.size w w' := by
 intro N
 induction N with
 | zero => intro t u h; have := nodes_pos t; omega
 | succ N ih =>
  rintro ⟨k, s, l⟩ ⟨k', s', m⟩ hN hM cs ds w hv hv'
  have IH := qH ih
  clear ih
  obtain ⟨A, cap, f, rfl, h1, h2, h0, h3, h4⟩ := hv.opened
  obtain ⟨A', cap', f', rfl, h1', h2', h0', h3', h4'⟩ := hv'.opened
  have H3 := qH h3
  have H4 := qH h4
  have H3' := qH h3'
  have H4' := qH h4'
  have HNN := qH (show T.nodes (.node k s l) = 1 + nodesL l by simp only [T.nodes])
  have HSS := qH (show cmpT (.node k s l) (.node k' s' m) = if k = k' then (if k = 3 ∧ eqS s s' = false then (if lessS s s' then -1 else 1) else cmpL l m) else if k < k' then -1 else 1 by simp only [cmpT])
  rw [HNN.out] at hN hM
  rw [HSS.out]
  have HN := qH hN
  have HM := qH hM
  have HLL := qH (len_nodes l)
  obtain ⟨cs, hcs⟩ : ∃ cs, cs = Value.int .i64 k :: (wds s ++ [.slice A l.length cap]) := ⟨_, rfl⟩
  have HCL := qH (show cs.length = 6 by rw [hcs]; rfl)
  have HC0 := qH (show cs[0]? = some (.int .i64 k) by rw [hcs]; rfl)
  have HC5 := qH (show cs[5]? = some (.slice A l.length cap) by rw [hcs]; rfl)
  have HCS := qH hcs
  obtain ⟨ds, hds⟩ : ∃ ds, ds = Value.int .i64 k' :: (wds s' ++ [.slice A' m.length cap']) := ⟨_, rfl⟩
  have HDL := qH (show ds.length = 6 by rw [hds]; rfl)
  have HD0 := qH (show ds[0]? = some (.int .i64 k') by rw [hds]; rfl)
  have HD5 := qH (show ds[5]? = some (.slice A' m.length cap') by rw [hds]; rfl)
  have HDS := qH hds
  rw [← hcs, ← hds]
  clear hv h1 h2 h0 h3 h4 hcs hN hM hv' h1' h2' h0' h3' h4' hds
  by_cases hk : k = k'
  ·subst hk
   rw [if_pos rfl]
   by_cases h3k : k = 3
   ·cases hs : eqS s s' with
    | false =>
     have HNE := qH (show (!eqS s s') = true by rw [hs]; rfl)
     rw [if_pos ⟨h3k, rfl⟩]
     subst h3k
     clear hs
     cases hl : lessS s s' with
     | true =>
      rw [if_pos rfl]
      have HL := qH hl
      clear hl
      go_enter Tryz.func100, Tryz.ntmps100
      go_wp2_with (first
       | ((with_reducible refine atDst 2 ?_); refine wpList_box rfl 46 _ rfl cs rfl (Below.refl w.heap.size w) (Nat.le_refl _) ?_; intro w1 hk1 hb1 hs1 _; have K1 := qH hk1; have B1 := qH hb1; clear hk1 hb1 hs1)
       | ((with_reducible refine atDst 3 ?_); refine wpList_box rfl 46 _ rfl ds rfl (Below.refl w1.heap.size w1) (Nat.le_refl _) ?_; intro w2 hk2 hb2 hs2 _; have L2 := qH hk2; have B2 := qH (B1.out.trans (hb2.mono B1.out.size)); have K2 := qH (K1.out.below hb2 K1.out.lt); have a0 := K2.out.cell 0; rw [HC0.out] at a0; have b0 := L2.out.cell 0; rw [HD0.out] at b0; have a5 := K2.out.cell 5; rw [HC5.out] at a5; have b5 := L2.out.cell 5; rw [HD5.out] at b5; have RS := qH (set_range' HCS.out K2.out); have RS' := qH (set_range' HDS.out L2.out); clear hk2 hb2 hs2 K1 B1)
       | ((with_reducible refine atDst 22 ?_); refine wpList_ldMidG rfl 43 _ rfl w.heap.size 1 rfl (wds s) _ RS.out Tryz.underlying43 rfl (size_set s) ?_)
       | ((with_reducible refine atDst 24 ?_); refine wpList_ldMidG rfl 43 _ rfl w1.heap.size 1 rfl (wds s') _ RS'.out Tryz.underlying43 rfl (size_set s') ?_)
       | ((with_reducible refine atDst 25 ?_); refine wpList_neSetG rfl HNE.out 43 41 (.tmp 22) (.tmp 24) 43 rfl guardSet Tryz.underlying43 Tryz.underlying41 sizeU64 rfl rfl ?_)
       | ((with_reducible refine atDst 28 ?_); refine wpList_ldMidG rfl 43 _ rfl w.heap.size 1 rfl (wds s) _ RS.out Tryz.underlying43 rfl (size_set s) ?_)
       | ((with_reducible refine atDst 30 ?_); refine wpList_ldMidG rfl 43 _ rfl w1.heap.size 1 rfl (wds s') _ RS'.out Tryz.underlying43 rfl (size_set s') ?_))
      refine (refSetLess_any s s' w2).mono ?_
      rintro e w3 ⟨rfl, hb⟩
      rw [HL.out]
      have B3 := qH (B2.out.trans (hb.mono B2.out.size))
      clear hb
      go_wp2_with fail
      go_ret
      exact ⟨rfl, B3.out⟩
     | false =>
      rw [if_neg (by decide)]
      have HL := qH hl
      clear hl
      go_enter Tryz.func100, Tryz.ntmps100
      go_wp2_with (first
       | ((with_reducible refine atDst 2 ?_); refine wpList_box rfl 46 _ rfl cs rfl (Below.refl w.heap.size w) (Nat.le_refl _) ?_; intro w1 hk1 hb1 hs1 _; have K1 := qH hk1; have B1 := qH hb1; clear hk1 hb1 hs1)
       | ((with_reducible refine atDst 3 ?_); refine wpList_box rfl 46 _ rfl ds rfl (Below.refl w1.heap.size w1) (Nat.le_refl _) ?_; intro w2 hk2 hb2 hs2 _; have L2 := qH hk2; have B2 := qH (B1.out.trans (hb2.mono B1.out.size)); have K2 := qH (K1.out.below hb2 K1.out.lt); have a0 := K2.out.cell 0; rw [HC0.out] at a0; have b0 := L2.out.cell 0; rw [HD0.out] at b0; have a5 := K2.out.cell 5; rw [HC5.out] at a5; have b5 := L2.out.cell 5; rw [HD5.out] at b5; have RS := qH (set_range' HCS.out K2.out); have RS' := qH (set_range' HDS.out L2.out); clear hk2 hb2 hs2 K1 B1)
       | ((with_reducible refine atDst 22 ?_); refine wpList_ldMidG rfl 43 _ rfl w.heap.size 1 rfl (wds s) _ RS.out Tryz.underlying43 rfl (size_set s) ?_)
       | ((with_reducible refine atDst 24 ?_); refine wpList_ldMidG rfl 43 _ rfl w1.heap.size 1 rfl (wds s') _ RS'.out Tryz.underlying43 rfl (size_set s') ?_)
       | ((with_reducible refine atDst 25 ?_); refine wpList_neSetG rfl HNE.out 43 41 (.tmp 22) (.tmp 24) 43 rfl guardSet Tryz.underlying43 Tryz.underlying41 sizeU64 rfl rfl ?_)
       | ((with_reducible refine atDst 28 ?_); refine wpList_ldMidG rfl 43 _ rfl w.heap.size 1 rfl (wds s) _ RS.out Tryz.underlying43 rfl (size_set s) ?_)
       | ((with_reducible refine atDst 30 ?_); refine wpList_ldMidG rfl 43 _ rfl w1.heap.size 1 rfl (wds s') _ RS'.out Tryz.underlying43 rfl (size_set s') ?_))
      refine (refSetLess_any s s' w2).mono ?_
      rintro e w3 ⟨rfl, hb⟩
      rw [HL.out]
      have B3 := qH (B2.out.trans (hb.mono B2.out.size))
      clear hb
      go_wp2_with fail
      go_ret
      exact ⟨rfl, B3.out⟩
    | true =>
     have HNE := qH (show (!eqS s s') = false by rw [hs]; rfl)
     rw [if_neg (by rintro ⟨_, h⟩; cases h)]
     subst h3k
     clear hs
     go_enter Tryz.func100, Tryz.ntmps100
     go_wp2_with (first
      | ((with_reducible refine atDst 2 ?_); refine wpList_box rfl 46 _ rfl cs rfl (Below.refl w.heap.size w) (Nat.le_refl _) ?_; intro w1 hk1 hb1 hs1 _; have K1 := qH hk1; have B1 := qH hb1; clear hk1 hb1 hs1)
      | ((with_reducible refine atDst 3 ?_); refine wpList_box rfl 46 _ rfl ds rfl (Below.refl w1.heap.size w1) (Nat.le_refl _) ?_; intro w2 hk2 hb2 hs2 _; have L2 := qH hk2; have B2 := qH (B1.out.trans (hb2.mono B1.out.size)); have K2 := qH (K1.out.below hb2 K1.out.lt); have a0 := K2.out.cell 0; rw [HC0.out] at a0; have b0 := L2.out.cell 0; rw [HD0.out] at b0; have a5 := K2.out.cell 5; rw [HC5.out] at a5; have b5 := L2.out.cell 5; rw [HD5.out] at b5; have RS := qH (set_range' HCS.out K2.out); have RS' := qH (set_range' HDS.out L2.out); clear hk2 hb2 hs2 K1 B1)
      | ((with_reducible refine atDst 22 ?_); refine wpList_ldMidG rfl 43 _ rfl w.heap.size 1 rfl (wds s) _ RS.out Tryz.underlying43 rfl (size_set s) ?_)
      | ((with_reducible refine atDst 24 ?_); refine wpList_ldMidG rfl 43 _ rfl w1.heap.size 1 rfl (wds s') _ RS'.out Tryz.underlying43 rfl (size_set s') ?_)
      | ((with_reducible refine atDst 25 ?_); refine wpList_neSetG rfl HNE.out 43 41 (.tmp 22) (.tmp 24) 43 rfl guardSet Tryz.underlying43 Tryz.underlying41 sizeU64 rfl rfl ?_)
      | ((with_reducible refine atDst 28 ?_); refine wpList_ldMidG rfl 43 _ rfl w.heap.size 1 rfl (wds s) _ RS.out Tryz.underlying43 rfl (size_set s) ?_)
      | ((with_reducible refine atDst 30 ?_); refine wpList_ldMidG rfl 43 _ rfl w1.heap.size 1 rfl (wds s') _ RS'.out Tryz.underlying43 rfl (size_set s') ?_))
     go_loopw [5] (fun i wl => ∃ j : Nat, j ≤ l.length ∧ j ≤ m.length ∧ i = .int .i64 (j : Int) ∧ (∀ (i : Nat) (a b : T), i < j → l[i]? = some a → m[i]? = some b → cmpT a b = 0) ∧ Below w2.heap.size w2 wl) (fun i _ => l.length - (intOf i).toNat)
     case atStart => exact ⟨0, by omega, by omega, by simp, fun i a b h => by omega, Below.refl _ _⟩
     case round =>
      obtain ⟨j, hj, hjm0, rfl, hsm, hb⟩ := hrel
      have HSM := qH hsm
      have HB := qH hb
      clear hsm hb
      have a5r := (K2.out.below HB.out K2.out.lt).cell 5
      rw [HC5.out] at a5r
      have b5r := (L2.out.below HB.out L2.out.lt).cell 5
      rw [HD5.out] at b5r
      by_cases hjb : j < l.length ∧ j < m.length
      ·obtain ⟨hjl, hjm⟩ := hjb
       have j1 : (j : Int) < (l.length : Int) := Int.ofNat_lt.2 hjl
       have j2 : (j : Int) < (m.length : Int) := Int.ofNat_lt.2 hjm
       have BW := qH (B2.out.trans (HB.out.mono B2.out.size))
       obtain ⟨b, off, rfl, hb, hrng⟩ := H3.out (by rintro rfl; simp at hjl)
       obtain ⟨b', off', rfl, hb', hrng'⟩ := H3'.out (by rintro rfl; simp at hjm)
       obtain ⟨a, ha⟩ : ∃ a, l[j]? = some a := ⟨_, List.getElem?_eq_getElem hjl⟩
       obtain ⟨c, hc⟩ : ∃ c, m[j]? = some c := ⟨_, List.getElem?_eq_getElem hjm⟩
       have HV := qH (RxV.part H4.out BW.out BW.out.size ha)
       have HV' := qH (RxV.part H4'.out BW.out BW.out.size hc)
       have HRG := qH (range_below (hrng j hjl) BW.out hb)
       have HRG' := qH (range_below (hrng' j hjm) BW.out hb')
       have HB1 := qH (Nat.lt_of_lt_of_le hb BW.out.size)
       have HB2 := qH (Nat.lt_of_lt_of_le hb' BW.out.size)
       have hmem := nodes_mem (List.mem_of_getElem? ha)
       have HUN := qH (show a.nodes ≤ N by have := HN.out; omega)
       have HUM := qH (show a.nodes ≤ 1099511627776 by have := HM.out; omega)
       have HAJ := qH ha
       have HCJ := qH hc
       have hj62 : j ≤ 4611686018427387904 := by have := HM.out; have := HLL.out; omega
       have e3 := wrap_one j hj62
       have e4 := wrap_one' j hj62
       have KW := qH (K2.out.below HB.out K2.out.lt)
       have LW := qH (L2.out.below HB.out L2.out.lt)
       have aW : ∀ W, Below wr.heap.size wr W → W.cell? ⟨w.heap.size, 5, none⟩ = some (.slice (some ⟨b, off, none⟩) l.length cap) := fun W hW => by
        have := (KW.out.below hW KW.out.lt).cell 5
        rw [HC5.out] at this
        exact this
       have bW : ∀ W, Below wr.heap.size wr W → W.cell? ⟨w1.heap.size, 5, none⟩ = some (.slice (some ⟨b', off', none⟩) m.length cap') := fun W hW => by
        have := (LW.out.below hW LW.out.lt).cell 5
        rw [HD5.out] at this
        exact this
       clear hrng hrng' ha hc hmem hj62 hb hb'
       go_wp2_with fail
       refine sx_startB (B := wr.heap.size) (w0 := wr) (by kernel_rfl) (Below.refl _ _) (fun wd hwd hX => ?_)
       have SZ := qH hX.size
       have VD := qH ((HV.out.stay hX).mono SZ.out)
       have VD' := qH ((HV'.out.stay hX).mono SZ.out)
       clear hwd
       refine sx_take (i := 0) (oi := ⟨some 46, _, _, _, _, _⟩) (v := ?_) rfl (by kernel_rfl) (by kernel_rfl) (by kernel_rfl) (fun _ _ _ h => h) rfl hX ?_ ?_; rotate_left; (intro W hW; go_simp; try with_reducible rfl); simp only [Act.put, qA, qB, qC]
       refine sx_take (i := 1) (oi := ⟨some 47, _, _, _, _, _⟩) (v := ?_) rfl (by kernel_rfl) (by kernel_rfl) (by kernel_rfl) (fun _ _ _ h => h) rfl hX ?_ ?_; rotate_left; (intro W hW; go_simp; try with_reducible rfl); simp only [Act.put, qA, qB, qC]
       refine sx_take (i := 2) (oi := ⟨some 48, _, _, _, _, _⟩) (v := ?_) rfl (by kernel_rfl) (by kernel_rfl) (by kernel_rfl) (fun _ _ _ h => h) rfl hX ?_ ?_; rotate_left; (intro W hW; go_simp; try with_reducible rfl); simp only [Act.put, qA, qB, qC]
       refine sx_take (i := 3) (oi := ⟨some 49, _, _, _, _, _⟩) (v := ?_) rfl (by kernel_rfl) (by kernel_rfl) (by kernel_rfl) (fun _ _ _ h => h) rfl hX ?_ ?_; rotate_left; (intro W hW; go_simp; try with_reducible rfl); simp only [Act.put, qA, qB, qC]
       refine sx_take (i := 4) (oi := ⟨some 50, _, _, _, _, _⟩) (v := .agg (f j).toArray) rfl (by kernel_rfl) (by kernel_rfl) (by kernel_rfl) (fun _ _ _ h => h) rfl hX (ld_mid 46 _ rfl b (off + j * 6) rfl _ _ HRG.out HB1.out Tryz.underlying46 rfl (size_rx HV.out.length)) ?_; simp only [Act.put, qA, qB, qC]
       refine sx_take (i := 5) (oi := ⟨some 51, _, _, _, _, _⟩) (v := ?_) rfl (by kernel_rfl) (by kernel_rfl) (by kernel_rfl) (fun _ _ _ h => h) rfl hX ?_ ?_; rotate_left; (intro W hW; go_simp; try with_reducible rfl); simp only [Act.put, qA, qB, qC]
       refine sx_take (i := 6) (oi := ⟨some 52, _, _, _, _, _⟩) (v := ?_) rfl (by kernel_rfl) (by kernel_rfl) (by kernel_rfl) (fun _ _ _ h => h) rfl hX ?_ ?_; rotate_left; (intro W hW; go_simp; try with_reducible rfl); simp only [Act.put, qA, qB, qC]
       refine sx_take (i := 7) (oi := ⟨some 53, _, _, _, _, _⟩) (v := ?_) rfl (by kernel_rfl) (by kernel_rfl) (by kernel_rfl) (fun _ _ _ h => h) rfl hX ?_ ?_; rotate_left; (intro W hW; go_simp; try with_reducible rfl); simp only [Act.put, qA, qB, qC]
       refine sx_take (i := 8) (oi := ⟨some 54, _, _, _, _, _⟩) (v := ?_) rfl (by kernel_rfl) (by kernel_rfl) (by kernel_rfl) (fun _ _ _ h => h) rfl hX ?_ ?_; rotate_left; (intro W hW; go_simp; try with_reducible rfl); simp only [Act.put, qA, qB, qC]
       refine sx_take (i := 9) (oi := ⟨some 55, _, _, _, _, _⟩) (v := .agg (f' j).toArray) rfl (by kernel_rfl) (by kernel_rfl) (by kernel_rfl) (fun _ _ _ h => h) rfl hX (ld_mid 46 _ rfl b' (off' + j * 6) rfl _ _ HRG'.out HB2.out Tryz.underlying46 rfl (size_rx HV'.out.length)) ?_; simp only [Act.put, qA, qB, qC]
       refine sx_actB (i := 10) (o := ⟨some 56, _, _, _, _, _⟩) rfl (by kernel_rfl) rfl hX (fun K hK => ?_)
       go_wp2_with fail
       refine (IH.out a c HUN.out HUM.out (f j) (f' j) wd VD.out VD'.out).mono ?_
       rintro e w6 ⟨rfl, hb⟩
       obtain ⟨x, hx⟩ : ∃ x, cmpT a c = x := ⟨_, rfl⟩
       rw [hx]
       have HX := qH hx
       refine hK _ _ (hb.mono SZ.out) ?_
       clear hK K hx
       replace hX := hX.trans (hb.mono SZ.out)
       clear hb
       refine sx_take (i := 11) (oi := ⟨some 6, _, _, _, _, _⟩) (v := ?_) rfl (by kernel_rfl) (by kernel_rfl) (by kernel_rfl) (fun _ _ _ h => h) rfl hX ?_ ?_; rotate_left; (intro W hW; go_simp; try with_reducible rfl); simp only [Act.put, qA, qB, qC]
       refine wpAnyH_done (by kernel_rfl) ?_ _
       have B6 := qH (HB.out.trans (hX.mono HB.out.size))
       clear hX SZ
       by_cases hx0 : x = 0
       ·have hx1 : (x != 0) = false := by rw [hx0]; rfl
        have HX0 := qH hx0
        clear hx0
        go_wp2_with fail
        refine ⟨⟨j + 1, by omega, by omega, by congr 1, fun i a2 b2 hi ha2 hb2 => ?_, B6.out⟩, by simp [intOf] <;> omega⟩
        by_cases hij : i < j
        ·exact HSM.out i a2 b2 hij ha2 hb2
        ·obtain rfl : i = j := by omega
         rw [HAJ.out] at ha2
         rw [HCJ.out] at hb2
         obtain rfl := Option.some.inj ha2
         obtain rfl := Option.some.inj hb2
         rw [HX.out, HX0.out]
       ·have hx1 : (x != 0) = true := by simpa using hx0
        have HF := qH (show cmpL l m = x by rw [cmpL_at l m j a c HSM.out HAJ.out HCJ.out (by rw [HX.out]; exact hx0), HX.out])
        clear hx0
        have B9 := qH (B2.out.trans (B6.out.mono B2.out.size))
        go_wp2_with fail
        go_ret
        rw [HF.out]
        exact ⟨rfl, B9.out⟩
      ·have HE := qH (cmpL_end l m fun i a b ha hb => HSM.out i a b (by have h1 := (List.getElem?_eq_some_iff.1 ha).1; have h2 := (List.getElem?_eq_some_iff.1 hb).1; omega) ha hb)
       have B9 := qH (B2.out.trans (HB.out.mono B2.out.size))
       rcases Nat.lt_trichotomy l.length m.length with hlt | hlt | hlt
       ·obtain rfl : j = l.length := by omega
        have g1 : ¬ ((l.length : Int) < (l.length : Int)) := by omega
        have g2 : (l.length : Int) < (m.length : Int) := Int.ofNat_lt.2 hlt
        have HEE := qH (show cmpL l m = -1 by rw [HE.out, if_pos hlt])
        go_wp2_with fail
        go_ret
        rw [HEE.out]
        exact ⟨rfl, B9.out⟩
       ·obtain rfl : j = l.length := by omega
        have g1 : ¬ ((l.length : Int) < (l.length : Int)) := by omega
        have g2 : ¬ (l.length : Int) < (m.length : Int) := by omega
        have g3 : ¬ (m.length : Int) < (l.length : Int) := by omega
        have HEE := qH (show cmpL l m = 0 by rw [HE.out, if_neg (by omega), if_neg (by omega)])
        go_wp2_with fail
        go_ret
        rw [HEE.out]
        exact ⟨rfl, B9.out⟩
       ·obtain rfl : j = m.length := by omega
        have g1 : ¬ ((m.length : Int) < (m.length : Int)) := by omega
        have g2 : (m.length : Int) < (l.length : Int) := Int.ofNat_lt.2 hlt
        have g3 : ¬ (l.length : Int) < (m.length : Int) := by omega
        have HEE := qH (show cmpL l m = 1 by rw [HE.out, if_neg (by omega), if_pos hlt])
        go_wp2_with fail
        go_ret
        rw [HEE.out]
        exact ⟨rfl, B9.out⟩
   ·have hk3 : (k == 3) = false := by simpa using h3k
    have HNE := qH (rfl : (0 : Nat) = 0)
    rw [if_neg (by rintro ⟨h, _⟩; exact h3k h)]
    go_enter Tryz.func100, Tryz.ntmps100
    go_wp2_with (first
     | ((with_reducible refine atDst 2 ?_); refine wpList_box rfl 46 _ rfl cs rfl (Below.refl w.heap.size w) (Nat.le_refl _) ?_; intro w1 hk1 hb1 hs1 _; have K1 := qH hk1; have B1 := qH hb1; clear hk1 hb1 hs1)
     | ((with_reducible refine atDst 3 ?_); refine wpList_box rfl 46 _ rfl ds rfl (Below.refl w1.heap.size w1) (Nat.le_refl _) ?_; intro w2 hk2 hb2 hs2 _; have L2 := qH hk2; have B2 := qH (B1.out.trans (hb2.mono B1.out.size)); have K2 := qH (K1.out.below hb2 K1.out.lt); have a0 := K2.out.cell 0; rw [HC0.out] at a0; have b0 := L2.out.cell 0; rw [HD0.out] at b0; have a5 := K2.out.cell 5; rw [HC5.out] at a5; have b5 := L2.out.cell 5; rw [HD5.out] at b5; have RS := qH (set_range' HCS.out K2.out); have RS' := qH (set_range' HDS.out L2.out); clear hk2 hb2 hs2 K1 B1)
     | ((with_reducible refine atDst 22 ?_); refine wpList_ldMidG rfl 43 _ rfl w.heap.size 1 rfl (wds s) _ RS.out Tryz.underlying43 rfl (size_set s) ?_)
     | ((with_reducible refine atDst 24 ?_); refine wpList_ldMidG rfl 43 _ rfl w1.heap.size 1 rfl (wds s') _ RS'.out Tryz.underlying43 rfl (size_set s') ?_)
     | ((with_reducible refine atDst 25 ?_); refine wpList_neSetG rfl HNE.out 43 41 (.tmp 22) (.tmp 24) 43 rfl guardSet Tryz.underlying43 Tryz.underlying41 sizeU64 rfl rfl ?_)
     | ((with_reducible refine atDst 28 ?_); refine wpList_ldMidG rfl 43 _ rfl w.heap.size 1 rfl (wds s) _ RS.out Tryz.underlying43 rfl (size_set s) ?_)
     | ((with_reducible refine atDst 30 ?_); refine wpList_ldMidG rfl 43 _ rfl w1.heap.size 1 rfl (wds s') _ RS'.out Tryz.underlying43 rfl (size_set s') ?_))
    go_loopw [5] (fun i wl => ∃ j : Nat, j ≤ l.length ∧ j ≤ m.length ∧ i = .int .i64 (j : Int) ∧ (∀ (i : Nat) (a b : T), i < j → l[i]? = some a → m[i]? = some b → cmpT a b = 0) ∧ Below w2.heap.size w2 wl) (fun i _ => l.length - (intOf i).toNat)
    case atStart => exact ⟨0, by omega, by omega, by simp, fun i a b h => by omega, Below.refl _ _⟩
    case round =>
     obtain ⟨j, hj, hjm0, rfl, hsm, hb⟩ := hrel
     have HSM := qH hsm
     have HB := qH hb
     clear hsm hb
     have a5r := (K2.out.below HB.out K2.out.lt).cell 5
     rw [HC5.out] at a5r
     have b5r := (L2.out.below HB.out L2.out.lt).cell 5
     rw [HD5.out] at b5r
     by_cases hjb : j < l.length ∧ j < m.length
     ·obtain ⟨hjl, hjm⟩ := hjb
      have j1 : (j : Int) < (l.length : Int) := Int.ofNat_lt.2 hjl
      have j2 : (j : Int) < (m.length : Int) := Int.ofNat_lt.2 hjm
      have BW := qH (B2.out.trans (HB.out.mono B2.out.size))
      obtain ⟨b, off, rfl, hb, hrng⟩ := H3.out (by rintro rfl; simp at hjl)
      obtain ⟨b', off', rfl, hb', hrng'⟩ := H3'.out (by rintro rfl; simp at hjm)
      obtain ⟨a, ha⟩ : ∃ a, l[j]? = some a := ⟨_, List.getElem?_eq_getElem hjl⟩
      obtain ⟨c, hc⟩ : ∃ c, m[j]? = some c := ⟨_, List.getElem?_eq_getElem hjm⟩
      have HV := qH (RxV.part H4.out BW.out BW.out.size ha)
      have HV' := qH (RxV.part H4'.out BW.out BW.out.size hc)
      have HRG := qH (range_below (hrng j hjl) BW.out hb)
      have HRG' := qH (range_below (hrng' j hjm) BW.out hb')
      have HB1 := qH (Nat.lt_of_lt_of_le hb BW.out.size)
      have HB2 := qH (Nat.lt_of_lt_of_le hb' BW.out.size)
      have hmem := nodes_mem (List.mem_of_getElem? ha)
      have HUN := qH (show a.nodes ≤ N by have := HN.out; omega)
      have HUM := qH (show a.nodes ≤ 1099511627776 by have := HM.out; omega)
      have HAJ := qH ha
      have HCJ := qH hc
      have hj62 : j ≤ 4611686018427387904 := by have := HM.out; have := HLL.out; omega
      have e3 := wrap_one j hj62
      have e4 := wrap_one' j hj62
      have KW := qH (K2.out.below HB.out K2.out.lt)
      have LW := qH (L2.out.below HB.out L2.out.lt)
      have aW : ∀ W, Below wr.heap.size wr W → W.cell? ⟨w.heap.size, 5, none⟩ = some (.slice (some ⟨b, off, none⟩) l.length cap) := fun W hW => by
       have := (KW.out.below hW KW.out.lt).cell 5
       rw [HC5.out] at this
       exact this
      have bW : ∀ W, Below wr.heap.size wr W → W.cell? ⟨w1.heap.size, 5, none⟩ = some (.slice (some ⟨b', off', none⟩) m.length cap') := fun W hW => by
       have := (LW.out.below hW LW.out.lt).cell 5
       rw [HD5.out] at this
       exact this
      clear hrng hrng' ha hc hmem hj62 hb hb'
      go_wp2_with fail
      refine sx_startB (B := wr.heap.size) (w0 := wr) (by kernel_rfl) (Below.refl _ _) (fun wd hwd hX => ?_)
      have SZ := qH hX.size
      have VD := qH ((HV.out.stay hX).mono SZ.out)
      have VD' := qH ((HV'.out.stay hX).mono SZ.out)
      clear hwd
      refine sx_take (i := 0) (oi := ⟨some 46, _, _, _, _, _⟩) (v := ?_) rfl (by kernel_rfl) (by kernel_rfl) (by kernel_rfl) (fun _ _ _ h => h) rfl hX ?_ ?_; rotate_left; (intro W hW; go_simp; try with_reducible rfl); simp only [Act.put, qA, qB, qC]
      refine sx_take (i := 1) (oi := ⟨some 47, _, _, _, _, _⟩) (v := ?_) rfl (by kernel_rfl) (by kernel_rfl) (by kernel_rfl) (fun _ _ _ h => h) rfl hX ?_ ?_; rotate_left; (intro W hW; go_simp; try with_reducible rfl); simp only [Act.put, qA, qB, qC]
      refine sx_take (i := 2) (oi := ⟨some 48, _, _, _, _, _⟩) (v := ?_) rfl (by kernel_rfl) (by kernel_rfl) (by kernel_rfl) (fun _ _ _ h => h) rfl hX ?_ ?_; rotate_left; (intro W hW; go_simp; try with_reducible rfl); simp only [Act.put, qA, qB, qC]
      refine sx_take (i := 3) (oi := ⟨some 49, _, _, _, _, _⟩) (v := ?_) rfl (by kernel_rfl) (by kernel_rfl) (by kernel_rfl) (fun _ _ _ h => h) rfl hX ?_ ?_; rotate_left; (intro W hW; go_simp; try with_reducible rfl); simp only [Act.put, qA, qB, qC]
      refine sx_take (i := 4) (oi := ⟨some 50, _, _, _, _, _⟩) (v := .agg (f j).toArray) rfl (by kernel_rfl) (by kernel_rfl) (by kernel_rfl) (fun _ _ _ h => h) rfl hX (ld_mid 46 _ rfl b (off + j * 6) rfl _ _ HRG.out HB1.out Tryz.underlying46 rfl (size_rx HV.out.length)) ?_; simp only [Act.put, qA, qB, qC]
      refine sx_take (i := 5) (oi := ⟨some 51, _, _, _, _, _⟩) (v := ?_) rfl (by kernel_rfl) (by kernel_rfl) (by kernel_rfl) (fun _ _ _ h => h) rfl hX ?_ ?_; rotate_left; (intro W hW; go_simp; try with_reducible rfl); simp only [Act.put, qA, qB, qC]
      refine sx_take (i := 6) (oi := ⟨some 52, _, _, _, _, _⟩) (v := ?_) rfl (by kernel_rfl) (by kernel_rfl) (by kernel_rfl) (fun _ _ _ h => h) rfl hX ?_ ?_; rotate_left; (intro W hW; go_simp; try with_reducible rfl); simp only [Act.put, qA, qB, qC]
      refine sx_take (i := 7) (oi := ⟨some 53, _, _, _, _, _⟩) (v := ?_) rfl (by kernel_rfl) (by kernel_rfl) (by kernel_rfl) (fun _ _ _ h => h) rfl hX ?_ ?_; rotate_left; (intro W hW; go_simp; try with_reducible rfl); simp only [Act.put, qA, qB, qC]
      refine sx_take (i := 8) (oi := ⟨some 54, _, _, _, _, _⟩) (v := ?_) rfl (by kernel_rfl) (by kernel_rfl) (by kernel_rfl) (fun _ _ _ h => h) rfl hX ?_ ?_; rotate_left; (intro W hW; go_simp; try with_reducible rfl); simp only [Act.put, qA, qB, qC]
      refine sx_take (i := 9) (oi := ⟨some 55, _, _, _, _, _⟩) (v := .agg (f' j).toArray) rfl (by kernel_rfl) (by kernel_rfl) (by kernel_rfl) (fun _ _ _ h => h) rfl hX (ld_mid 46 _ rfl b' (off' + j * 6) rfl _ _ HRG'.out HB2.out Tryz.underlying46 rfl (size_rx HV'.out.length)) ?_; simp only [Act.put, qA, qB, qC]
      refine sx_actB (i := 10) (o := ⟨some 56, _, _, _, _, _⟩) rfl (by kernel_rfl) rfl hX (fun K hK => ?_)
      go_wp2_with fail
      refine (IH.out a c HUN.out HUM.out (f j) (f' j) wd VD.out VD'.out).mono ?_
      rintro e w6 ⟨rfl, hb⟩
      obtain ⟨x, hx⟩ : ∃ x, cmpT a c = x := ⟨_, rfl⟩
      rw [hx]
      have HX := qH hx
      refine hK _ _ (hb.mono SZ.out) ?_
      clear hK K hx
      replace hX := hX.trans (hb.mono SZ.out)
      clear hb
      refine sx_take (i := 11) (oi := ⟨some 6, _, _, _, _, _⟩) (v := ?_) rfl (by kernel_rfl) (by kernel_rfl) (by kernel_rfl) (fun _ _ _ h => h) rfl hX ?_ ?_; rotate_left; (intro W hW; go_simp; try with_reducible rfl); simp only [Act.put, qA, qB, qC]
      refine wpAnyH_done (by kernel_rfl) ?_ _
      have B6 := qH (HB.out.trans (hX.mono HB.out.size))
      clear hX SZ
      by_cases hx0 : x = 0
      ·have hx1 : (x != 0) = false := by rw [hx0]; rfl
       have HX0 := qH hx0
       clear hx0
       go_wp2_with fail
       refine ⟨⟨j + 1, by omega, by omega, by congr 1, fun i a2 b2 hi ha2 hb2 => ?_, B6.out⟩, by simp [intOf] <;> omega⟩
       by_cases hij : i < j
       ·exact HSM.out i a2 b2 hij ha2 hb2
       ·obtain rfl : i = j := by omega
        rw [HAJ.out] at ha2
        rw [HCJ.out] at hb2
        obtain rfl := Option.some.inj ha2
        obtain rfl := Option.some.inj hb2
        rw [HX.out, HX0.out]
      ·have hx1 : (x != 0) = true := by simpa using hx0
       have HF := qH (show cmpL l m = x by rw [cmpL_at l m j a c HSM.out HAJ.out HCJ.out (by rw [HX.out]; exact hx0), HX.out])
       clear hx0
       have B9 := qH (B2.out.trans (B6.out.mono B2.out.size))
       go_wp2_with fail
       go_ret
       rw [HF.out]
       exact ⟨rfl, B9.out⟩
     ·have HE := qH (cmpL_end l m fun i a b ha hb => HSM.out i a b (by have h1 := (List.getElem?_eq_some_iff.1 ha).1; have h2 := (List.getElem?_eq_some_iff.1 hb).1; omega) ha hb)
      have B9 := qH (B2.out.trans (HB.out.mono B2.out.size))
      rcases Nat.lt_trichotomy l.length m.length with hlt | hlt | hlt
      ·obtain rfl : j = l.length := by omega
       have g1 : ¬ ((l.length : Int) < (l.length : Int)) := by omega
       have g2 : (l.length : Int) < (m.length : Int) := Int.ofNat_lt.2 hlt
       have HEE := qH (show cmpL l m = -1 by rw [HE.out, if_pos hlt])
       go_wp2_with fail
       go_ret
       rw [HEE.out]
       exact ⟨rfl, B9.out⟩
      ·obtain rfl : j = l.length := by omega
       have g1 : ¬ ((l.length : Int) < (l.length : Int)) := by omega
       have g2 : ¬ (l.length : Int) < (m.length : Int) := by omega
       have g3 : ¬ (m.length : Int) < (l.length : Int) := by omega
       have HEE := qH (show cmpL l m = 0 by rw [HE.out, if_neg (by omega), if_neg (by omega)])
       go_wp2_with fail
       go_ret
       rw [HEE.out]
       exact ⟨rfl, B9.out⟩
      ·obtain rfl : j = m.length := by omega
       have g1 : ¬ ((m.length : Int) < (m.length : Int)) := by omega
       have g2 : (m.length : Int) < (l.length : Int) := Int.ofNat_lt.2 hlt
       have g3 : ¬ (l.length : Int) < (m.length : Int) := by omega
       have HEE := qH (show cmpL l m = 1 by rw [HE.out, if_neg (by omega), if_pos hlt])
       go_wp2_with fail
       go_ret
       rw [HEE.out]
       exact ⟨rfl, B9.out⟩
  ·have hk1 : (k != k') = true := by simpa using hk
   have HNE := qH (rfl : (0 : Nat) = 0)
   rw [if_neg hk]
   by_cases hlt : k < k'
   ·rw [if_pos hlt]
    go_enter Tryz.func100, Tryz.ntmps100
    go_wp2_with (first
     | ((with_reducible refine atDst 2 ?_); refine wpList_box rfl 46 _ rfl cs rfl (Below.refl w.heap.size w) (Nat.le_refl _) ?_; intro w1 hk1 hb1 hs1 _; have K1 := qH hk1; have B1 := qH hb1; clear hk1 hb1 hs1)
     | ((with_reducible refine atDst 3 ?_); refine wpList_box rfl 46 _ rfl ds rfl (Below.refl w1.heap.size w1) (Nat.le_refl _) ?_; intro w2 hk2 hb2 hs2 _; have L2 := qH hk2; have B2 := qH (B1.out.trans (hb2.mono B1.out.size)); have K2 := qH (K1.out.below hb2 K1.out.lt); have a0 := K2.out.cell 0; rw [HC0.out] at a0; have b0 := L2.out.cell 0; rw [HD0.out] at b0; have a5 := K2.out.cell 5; rw [HC5.out] at a5; have b5 := L2.out.cell 5; rw [HD5.out] at b5; have RS := qH (set_range' HCS.out K2.out); have RS' := qH (set_range' HDS.out L2.out); clear hk2 hb2 hs2 K1 B1)
     | ((with_reducible refine atDst 22 ?_); refine wpList_ldMidG rfl 43 _ rfl w.heap.size 1 rfl (wds s) _ RS.out Tryz.underlying43 rfl (size_set s) ?_)
     | ((with_reducible refine atDst 24 ?_); refine wpList_ldMidG rfl 43 _ rfl w1.heap.size 1 rfl (wds s') _ RS'.out Tryz.underlying43 rfl (size_set s') ?_)
     | ((with_reducible refine atDst 25 ?_); refine wpList_neSetG rfl HNE.out 43 41 (.tmp 22) (.tmp 24) 43 rfl guardSet Tryz.underlying43 Tryz.underlying41 sizeU64 rfl rfl ?_)
     | ((with_reducible refine atDst 28 ?_); refine wpList_ldMidG rfl 43 _ rfl w.heap.size 1 rfl (wds s) _ RS.out Tryz.underlying43 rfl (size_set s) ?_)
     | ((with_reducible refine atDst 30 ?_); refine wpList_ldMidG rfl 43 _ rfl w1.heap.size 1 rfl (wds s') _ RS'.out Tryz.underlying43 rfl (size_set s') ?_))
    go_ret
    exact ⟨rfl, B2.out⟩
   ·rw [if_neg hlt]
    go_enter Tryz.func100, Tryz.ntmps100
    go_wp2_with (first
     | ((with_reducible refine atDst 2 ?_); refine wpList_box rfl 46 _ rfl cs rfl (Below.refl w.heap.size w) (Nat.le_refl _) ?_; intro w1 hk1 hb1 hs1 _; have K1 := qH hk1; have B1 := qH hb1; clear hk1 hb1 hs1)
     | ((with_reducible refine atDst 3 ?_); refine wpList_box rfl 46 _ rfl ds rfl (Below.refl w1.heap.size w1) (Nat.le_refl _) ?_; intro w2 hk2 hb2 hs2 _; have L2 := qH hk2; have B2 := qH (B1.out.trans (hb2.mono B1.out.size)); have K2 := qH (K1.out.below hb2 K1.out.lt); have a0 := K2.out.cell 0; rw [HC0.out] at a0; have b0 := L2.out.cell 0; rw [HD0.out] at b0; have a5 := K2.out.cell 5; rw [HC5.out] at a5; have b5 := L2.out.cell 5; rw [HD5.out] at b5; have RS := qH (set_range' HCS.out K2.out); have RS' := qH (set_range' HDS.out L2.out); clear hk2 hb2 hs2 K1 B1)
     | ((with_reducible refine atDst 22 ?_); refine wpList_ldMidG rfl 43 _ rfl w.heap.size 1 rfl (wds s) _ RS.out Tryz.underlying43 rfl (size_set s) ?_)
     | ((with_reducible refine atDst 24 ?_); refine wpList_ldMidG rfl 43 _ rfl w1.heap.size 1 rfl (wds s') _ RS'.out Tryz.underlying43 rfl (size_set s') ?_)
     | ((with_reducible refine atDst 25 ?_); refine wpList_neSetG rfl HNE.out 43 41 (.tmp 22) (.tmp 24) 43 rfl guardSet Tryz.underlying43 Tryz.underlying41 sizeU64 rfl rfl ?_)
     | ((with_reducible refine atDst 28 ?_); refine wpList_ldMidG rfl 43 _ rfl w.heap.size 1 rfl (wds s) _ RS.out Tryz.underlying43 rfl (size_set s) ?_)
     | ((with_reducible refine atDst 30 ?_); refine wpList_ldMidG rfl 43 _ rfl w1.heap.size 1 rfl (wds s') _ RS'.out Tryz.underlying43 rfl (size_set s') ?_))
    go_ret
    exact ⟨rfl, B2.out⟩
end Go.Proofs.YteadghoojeehlaaGreatDoor
