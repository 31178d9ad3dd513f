/-
  Texts of this proof, put together: (LgB) The empty word, a word at all, the first bytes, a step: as plain functions on expressions; what they say of the words. No conditions; no statement is proved here. (LgN) The document's Null: whether the empty word is one. No statement is proved here. (LgD) Where in a text words of an expression may lie: as plain facts. No conditions; no statement is proved here. (RegT) Two operations of a region that draws its order may both come up next: each is run first in a way of its own, under any condition that both keep. No conditions; no statement is proved here. (LwA) What package lang's place, behind and hits answer and leave. No statement is proved here.
-/
import Derived.Test.YtopnpdobcagcgaaGreatPR
import Derived.Test.YtopnpdobcagcgaaGreatPM
import Derived.Test.YtopnpdobcagcgaaGreatPC
import Derived.Test.YtopnpdobcagcgaaGreatPA
import Derived.Test.YtopnpdobcagcgaaGreatPB
namespace Go.Proofs.YtopnpdobcagcgaaGreat
open Go.RowKit
set_option linter.unusedSimpArgs false
set_option linter.unusedVariables false
mutual
def nullT : T → Bool
  | .node k _ l => if k = 2 ∨ k = 6 then true else if k = 4 then nullC l else if k = 5 then nullA l else false
def nullC : List T → Bool
  | [] => true
  | t :: r => nullT t && nullC r
def nullA : List T → Bool
  | [] => false
  | t :: r => nullT t || nullA r
end
mutual
theorem null_iff : ∀ t : T, nullT t = true ↔ Lg t []
  | .node k s l => by
    rw [nullT, Lg]
    by_cases h2 : k = 2
    · simp [h2]
    by_cases h6 : k = 6
    · simp [h6, StarL.nil]
    by_cases h4 : k = 4
    · simp [h4, null_iffC l]
    by_cases h5 : k = 5
    · simp [h5, null_iffA l]
    by_cases h3 : k = 3
    · simp [h3]
    · simp [h2, h3, h4, h5, h6]
theorem null_iffC : ∀ l : List T, nullC l = true ↔ LgC l []
  | [] => by simp [nullC, LgC]
  | t :: r => by
    simp only [nullC, LgC, Bool.and_eq_true, null_iff t, null_iffC r]
    constructor
    · rintro ⟨a, b⟩; exact ⟨[], [], rfl, a, b⟩
    · rintro ⟨u, v, h, a, b⟩
      obtain ⟨rfl, rfl⟩ := List.append_eq_nil_iff.1 h.symm
      exact ⟨a, b⟩
theorem null_iffA : ∀ l : List T, nullA l = true ↔ LgA l []
  | [] => by simp [nullA, LgA]
  | t :: r => by simp only [nullA, LgA, Bool.or_eq_true, null_iff t, null_iffA r]
end
mutual
def someT : T → Bool
  | .node k s l => if k = 2 ∨ k = 6 then true else if k = 3 then !eqS s zeroS else if k = 4 then someC l else if k = 5 then someA l else false
def someC : List T → Bool
  | [] => true
  | t :: r => someT t && someC r
def someA : List T → Bool
  | [] => false
  | t :: r => someT t || someA r
end
theorem set_some (s : Nat → Bool) : (!eqS s zeroS) = true ↔ ∃ b : UInt8, s b.toNat = true := by
  constructor
  · intro h
    rcases Classical.em (∃ b : UInt8, s b.toNat = true) with he | he
    · exact he
    · have : eqS s zeroS = true := (eqS_iff _ _).2 fun b hb => by
        cases hs : s b with
        | false => rfl
        | true => exact absurd ⟨UInt8.ofNat b, by rw [UInt8.toNat_ofNat', Nat.mod_eq_of_lt hb]; exact hs⟩ he
      rw [this] at h
      cases h
  · rintro ⟨b, hb⟩
    cases he : eqS s zeroS with
    | false => rfl
    | true =>
      have := (eqS_iff _ _).1 he b.toNat b.toNat_lt
      rw [hb] at this
      cases this
mutual
theorem some_iff : ∀ t : T, someT t = true ↔ ∃ w, Lg t w
  | .node k s l => by
    rw [someT]
    by_cases h2 : k = 2
    · subst h2
      simp only [true_or, if_true, true_iff]
      exact ⟨[], (lg_k2 rfl []).2 rfl⟩
    by_cases h6 : k = 6
    · subst h6
      simp only [or_true, if_true, true_iff]
      exact ⟨[], lg_star.2 .nil⟩
    rw [if_neg (by omega)]
    by_cases h3 : k = 3
    · subst h3
      rw [if_pos rfl, set_some]
      constructor
      · rintro ⟨b, hb⟩; exact ⟨[b], lg_set.2 ⟨b, rfl, hb⟩⟩
      · rintro ⟨w, hw⟩
        obtain ⟨b, _, hb⟩ := lg_set.1 hw
        exact ⟨b, hb⟩
    rw [if_neg h3]
    by_cases h4 : k = 4
    · subst h4
      rw [if_pos rfl, some_iffC l]
      exact ⟨fun ⟨w, h⟩ => ⟨w, lg_cat.2 h⟩, fun ⟨w, h⟩ => ⟨w, lg_cat.1 h⟩⟩
    rw [if_neg h4]
    by_cases h5 : k = 5
    · subst h5
      rw [if_pos rfl, some_iffA l]
      exact ⟨fun ⟨w, h⟩ => ⟨w, lg_alt.2 h⟩, fun ⟨w, h⟩ => ⟨w, lg_alt.1 h⟩⟩
    rw [if_neg h5]
    constructor
    · intro h; cases h
    · rintro ⟨w, hw⟩
      rw [Lg, if_neg h2, if_neg h3, if_neg h4, if_neg h5, if_neg h6] at hw
      exact hw.elim
theorem some_iffC : ∀ l : List T, someC l = true ↔ ∃ w, LgC l w
  | [] => by simp [someC, LgC]
  | t :: r => by
    simp only [someC, LgC, Bool.and_eq_true, some_iff t, some_iffC r]
    constructor
    · rintro ⟨⟨u, a⟩, ⟨v, b⟩⟩; exact ⟨u ++ v, u, v, rfl, a, b⟩
    · rintro ⟨w, u, v, _, a, b⟩; exact ⟨⟨u, a⟩, ⟨v, b⟩⟩
theorem some_iffA : ∀ l : List T, someA l = true ↔ ∃ w, LgA l w
  | [] => by simp [someA, LgA]
  | t :: r => by
    simp only [someA, LgA, Bool.or_eq_true, some_iff t, some_iffA r]
    constructor
    · rintro (⟨u, a⟩ | ⟨u, a⟩)
      · exact ⟨u, .inl a⟩
      · exact ⟨u, .inr a⟩
    · rintro ⟨w, a | a⟩
      · exact .inl ⟨w, a⟩
      · exact .inr ⟨w, a⟩
end
mutual
def firstT : T → Nat → Bool
  | .node k s l, b => if k = 3 then s b else if k = 5 ∨ k = 6 ∧ l.length = 1 then firstA l b else if k = 4 then someC l && firstC l b else false
def firstA : List T → Nat → Bool
  | [], _ => false
  | t :: r, b => firstT t b || firstA r b
def firstC : List T → Nat → Bool
  | [], _ => false
  | t :: r, b => firstT t b || (nullT t && firstC r b)
end
theorem starL_cons {P : List UInt8 → Prop} {b : UInt8} {w : List UInt8} : StarL P (b :: w) ↔ ∃ u v, w = u ++ v ∧ P (b :: u) ∧ StarL P v := by
  constructor
  · intro h
    generalize hx : b :: w = x at h
    induction h generalizing b w with
    | nil => cases hx
    | @app u v hu hv ih =>
      cases u with
      | nil => exact ih hx
      | cons c u =>
        injection hx with h1 h2
        subst h1
        exact ⟨u, v, h2, hu, hv⟩
  · rintro ⟨u, v, rfl, hu, hv⟩
    exact StarL.app hu hv
theorem cat_cons {P Q : List UInt8 → Prop} {b : UInt8} {w : List UInt8} : (∃ u v, b :: w = u ++ v ∧ P u ∧ Q v) ↔ (P [] ∧ Q (b :: w)) ∨ ∃ u v, w = u ++ v ∧ P (b :: u) ∧ Q v := by
  constructor
  · rintro ⟨u, v, h, hp, hq⟩
    cases u with
    | nil =>
      have h : b :: w = v := h
      subst h
      exact .inl ⟨hp, hq⟩
    | cons c u =>
      injection h with h1 h2
      subst h1
      exact .inr ⟨u, v, h2, hp, hq⟩
  · rintro (⟨hp, hq⟩ | ⟨u, v, rfl, hp, hq⟩)
    · exact ⟨[], b :: w, rfl, hp, hq⟩
    · exact ⟨b :: u, v, rfl, hp, hq⟩
mutual
theorem first_iff : ∀ (t : T) (b : UInt8), firstT t b.toNat = true ↔ ∃ w, Lg t (b :: w)
  | .node k s l, b => by
    rw [firstT]
    by_cases h3 : k = 3
    · subst h3
      rw [if_pos rfl]
      constructor
      · intro h; exact ⟨[], lg_set.2 ⟨b, rfl, h⟩⟩
      · rintro ⟨w, hw⟩
        obtain ⟨c, hc, hs⟩ := lg_set.1 hw
        injection hc with h1 _
        subst h1
        exact hs
    rw [if_neg h3]
    by_cases h5 : k = 5
    · subst h5
      rw [if_pos (.inl rfl), first_iffA l b]
      exact ⟨fun ⟨w, h⟩ => ⟨w, lg_alt.2 h⟩, fun ⟨w, h⟩ => ⟨w, lg_alt.1 h⟩⟩
    by_cases h6 : k = 6
    · subst h6
      by_cases hl : l.length = 1
      · rw [if_pos (.inr ⟨rfl, hl⟩), first_iffA l b]
        match l, hl with
        | [t], _ =>
          constructor
          · rintro ⟨w, h⟩
            have h : Lg t (b :: w) ∨ False := h
            rcases h with h | h
            · exact ⟨w, lg_star.2 (starL_one ((lgO_one t _).2 h))⟩
            · exact h.elim
          · rintro ⟨w, h⟩
            obtain ⟨u, v, _, hu, _⟩ := starL_cons.1 (lg_star.1 h)
            exact ⟨u, .inl ((lgO_one t _).1 hu)⟩
      · rw [if_neg (by omega), if_neg (by omega)]
        constructor
        · intro h; cases h
        · rintro ⟨w, h⟩
          obtain ⟨u, v, _, hu, _⟩ := starL_cons.1 (lg_star.1 h)
          cases l with
          | nil => exact hu.elim
          | cons t r =>
            have hu : r.length = 0 ∧ Lg t (b :: u) := hu
            exact absurd (by rw [List.length_cons, hu.1]) hl
    rw [if_neg (by omega)]
    by_cases h4 : k = 4
    · subst h4
      rw [if_pos rfl, Bool.and_eq_true]
      constructor
      · rintro ⟨h1, h2⟩
        obtain ⟨w, hw⟩ := (first_iffC l b h1).1 h2
        exact ⟨w, lg_cat.2 hw⟩
      · rintro ⟨w, hw⟩
        have h1 := (some_iffC l).2 ⟨_, lg_cat.1 hw⟩
        exact ⟨h1, (first_iffC l b h1).2 ⟨w, lg_cat.1 hw⟩⟩
    rw [if_neg h4]
    constructor
    · intro h; cases h
    · rintro ⟨w, hw⟩
      rw [Lg] at hw
      by_cases h2 : k = 2
      · rw [if_pos h2] at hw; cases hw
      · rw [if_neg h2, if_neg h3, if_neg h4, if_neg h5, if_neg h6] at hw
        exact hw.elim
theorem first_iffA : ∀ (l : List T) (b : UInt8), firstA l b.toNat = true ↔ ∃ w, LgA l (b :: w)
  | [], b => by simp [firstA, LgA]
  | t :: r, b => by
    simp only [firstA, LgA, Bool.or_eq_true, first_iff t b, first_iffA r b]
    constructor
    · rintro (⟨u, a⟩ | ⟨u, a⟩)
      · exact ⟨u, .inl a⟩
      · exact ⟨u, .inr a⟩
    · rintro ⟨w, a | a⟩
      · exact .inl ⟨w, a⟩
      · exact .inr ⟨w, a⟩
theorem first_iffC : ∀ (l : List T) (b : UInt8), someC l = true → (firstC l b.toNat = true ↔ ∃ w, LgC l (b :: w))
  | [], b, _ => by simp [firstC, LgC]
  | t :: r, b, h => by
    simp only [someC, Bool.and_eq_true] at h
    simp only [firstC, LgC, Bool.or_eq_true, Bool.and_eq_true, first_iff t b, first_iffC r b h.2, null_iff t]
    obtain ⟨v0, hv0⟩ := (some_iffC r).1 h.2
    constructor
    · rintro (⟨u, a⟩ | ⟨a, w, c⟩)
      · exact ⟨u ++ v0, b :: u, v0, rfl, a, hv0⟩
      · exact ⟨w, [], b :: w, rfl, a, c⟩
    · rintro ⟨w, hw⟩
      rcases cat_cons.1 hw with ⟨a, c⟩ | ⟨u, v, _, a, c⟩
      · exact .inr ⟨a, w, c⟩
      · exact .inl ⟨u, a⟩
end
def stepF : Nat → T → Nat → T
  | 0, _, _ => noneT
  | N + 1, t, b =>
    if t.kind = 3 then (if t.set b then emptyT else noneT)
    else if t.kind = 5 then altT (t.args.map fun x => stepF N x b)
    else if t.kind = 6 then catT [stepF N (t.args.headD noneT) b, t]
    else if t.kind = 4 then
      (if nullT (t.args.headD noneT) then altT [catT [stepF N (t.args.headD noneT) b, catT t.args.tail], stepF N (catT t.args.tail) b]
       else catT [stepF N (t.args.headD noneT) b, catT t.args.tail])
    else noneT
theorem tail_cat {a : T} {s : Nat → Bool} {l : List T} (h : good (.node 4 s (a :: l))) : good (catT l) ∧ (catT l).nodes < (T.node 4 s (a :: l)).nodes ∧ (catT l).depth ≤ (T.node 4 s (a :: l)).depth := by
  obtain ⟨h1, h2, h3, h4, h5, _⟩ := good_node.1 h
  rw [count45 (.inl rfl)] at h4
  have h4 : 2 ≤ (a :: l).length := by simpa using h4
  have hp := nodes_pos a
  match l, h2, h4, h5 with
  | [x], h2, _, h5 =>
    have hx := h2 x (by simp)
    rw [cat_of_one hx (fits4 (h5 x (by simp))).2.2]
    refine ⟨hx, ?_, ?_⟩
    · simp only [T.nodes, nodesL]; omega
    · simp only [T.depth, depthL]; omega
  | x :: y :: r, h2, _, h5 =>
    have hg : good (.node 4 zeroS (x :: y :: r)) := good_node.2 ⟨can_zero, fun t ht => h2 t (List.mem_cons_of_mem _ ht), .inr rfl, by simp [countT], fun t ht => h5 t (List.mem_cons_of_mem _ ht), fun h => by omega⟩
    rw [cat_eq hg]
    refine ⟨hg, ?_, ?_⟩
    · simp only [T.nodes, nodesL]; omega
    · simp only [T.depth, depthL]; omega
theorem step_lg : ∀ (N : Nat) (t : T), t.nodes ≤ N → good t → ∀ b : UInt8, good (stepF N t b.toNat) ∧ ∀ w, Lg (stepF N t b.toNat) w ↔ Lg t (b :: w) := by
  intro N
  induction N with
  | zero => intro t h; have := nodes_pos t; omega
  | succ N ih =>
    rintro ⟨k, s, l⟩ hN hg b
    have hgl := (good_node.1 hg).2.1
    have hnl : ∀ t ∈ l, t.nodes ≤ N := fun t ht => by
      have := nodes_mem (l := l) ht
      simp only [T.nodes] at hN
      omega
    rw [stepF]
    show good (if k = 3 then _ else _) ∧ ∀ w, Lg (if k = 3 then _ else _) w ↔ _
    by_cases h3 : k = 3
    · subst h3
      rw [if_pos rfl]
      show good (if s b.toNat = true then emptyT else noneT) ∧ ∀ w, Lg (if s b.toNat = true then emptyT else noneT) w ↔ _
      by_cases hs : s b.toNat = true
      · rw [if_pos hs]
        refine ⟨good_empty, fun w => ?_⟩
        rw [lg_k2 (t := emptyT) rfl, lg_set]
        constructor
        · rintro rfl; exact ⟨b, rfl, hs⟩
        · rintro ⟨c, hc, _⟩; injection hc
      · rw [if_neg hs]
        refine ⟨good_none, fun w => ?_⟩
        rw [lg_set]
        constructor
        · intro h; exact absurd h (lg_k1 (t := noneT) rfl w)
        · rintro ⟨c, hc, h⟩
          injection hc with h1 _
          subst h1
          exact absurd h hs
    rw [if_neg h3]
    show good (if k = 5 then _ else _) ∧ ∀ w, Lg (if k = 5 then _ else _) w ↔ _
    by_cases h5 : k = 5
    · subst h5
      rw [if_pos rfl]
      show good (altT (l.map fun x => stepF N x b.toNat)) ∧ ∀ w, Lg (altT (l.map fun x => stepF N x b.toNat)) w ↔ _
      have hgm : ∀ t ∈ l.map (fun x => stepF N x b.toNat), good t := fun t ht => by
        obtain ⟨x, hx, rfl⟩ := List.mem_map.1 ht
        exact (ih x (hnl x hx) (hgl x hx) b).1
      refine ⟨good_alt hgm, fun w => ?_⟩
      rw [lg_altT hgm, lg_alt, lgA_mem, lgA_mem]
      constructor
      · rintro ⟨t, ht, h⟩
        obtain ⟨x, hx, rfl⟩ := List.mem_map.1 ht
        exact ⟨x, hx, ((ih x (hnl x hx) (hgl x hx) b).2 w).1 h⟩
      · rintro ⟨x, hx, h⟩
        exact ⟨_, List.mem_map.2 ⟨x, hx, rfl⟩, ((ih x (hnl x hx) (hgl x hx) b).2 w).2 h⟩
    rw [if_neg h5]
    show good (if k = 6 then _ else _) ∧ ∀ w, Lg (if k = 6 then _ else _) w ↔ _
    by_cases h6 : k = 6
    · subst h6
      obtain ⟨x, rfl, hs⟩ := star_one hg
      rw [if_pos rfl]
      show good (catT [stepF N x b.toNat, .node 6 s [x]]) ∧ ∀ w, Lg (catT [stepF N x b.toNat, .node 6 s [x]]) w ↔ _
      obtain ⟨i1, i2⟩ := ih x (hnl x (by simp)) (hgl x (by simp)) b
      refine ⟨good_cat fun t ht => ?_, fun w => ?_⟩
      · simp only [List.mem_cons, List.not_mem_nil, or_false] at ht
        rcases ht with rfl | rfl
        · exact i1
        · exact hg
      · rw [lg_catT, lg_star, starL_cons]
        constructor
        · rintro ⟨u, v, rfl, h1, h2⟩
          rw [lgC_one, lg_star] at h2
          exact ⟨u, v, rfl, (lgO_one x _).2 ((i2 u).1 h1), h2⟩
        · rintro ⟨u, v, rfl, h1, h2⟩
          exact ⟨u, v, rfl, (i2 u).2 ((lgO_one x _).1 h1), (lgC_one _ _).2 (lg_star.2 h2)⟩
    rw [if_neg h6]
    show good (if k = 4 then _ else _) ∧ ∀ w, Lg (if k = 4 then _ else _) w ↔ _
    by_cases h4 : k = 4
    · subst h4
      have hc := (good_node.1 hg).2.2.2.1
      rw [count45 (.inl rfl)] at hc
      have hc : 2 ≤ l.length := by simpa using hc
      cases l with
      | nil => simp at hc
      | cons a l =>
        obtain ⟨j1, j2, _⟩ := tail_cat hg
        obtain ⟨i1, i2⟩ := ih a (hnl a (by simp)) (hgl a (by simp)) b
        obtain ⟨k1, k2⟩ := ih (catT l) (by omega) j1 b
        have hx : ∀ t ∈ [stepF N a b.toNat, catT l], good t := fun t ht => by
          simp only [List.mem_cons, List.not_mem_nil, or_false] at ht
          rcases ht with rfl | rfl
          · exact i1
          · exact j1
        have hxw : ∀ w, Lg (catT [stepF N a b.toNat, catT l]) w ↔ ∃ u v, w = u ++ v ∧ Lg a (b :: u) ∧ LgC l v := fun w => by
          rw [lg_catT]
          constructor
          · rintro ⟨u, v, rfl, h1, h2⟩
            rw [lgC_one, lg_catT] at h2
            exact ⟨u, v, rfl, (i2 u).1 h1, h2⟩
          · rintro ⟨u, v, rfl, h1, h2⟩
            exact ⟨u, v, rfl, (i2 u).2 h1, (lgC_one _ _).2 ((lg_catT l v).2 h2)⟩
        have hbig : ∀ w, Lg (.node 4 s (a :: l)) (b :: w) ↔ (Lg a [] ∧ LgC l (b :: w)) ∨ ∃ u v, w = u ++ v ∧ Lg a (b :: u) ∧ LgC l v := fun w => by
          rw [lg_cat]
          exact cat_cons
        rw [if_pos rfl]
        show good (if nullT a = true then altT [catT [stepF N a b.toNat, catT l], stepF N (catT l) b.toNat] else catT [stepF N a b.toNat, catT l]) ∧ ∀ w, Lg (if nullT a = true then altT [catT [stepF N a b.toNat, catT l], stepF N (catT l) b.toNat] else catT [stepF N a b.toNat, catT l]) w ↔ _
        by_cases hn : nullT a = true
        · have hy : ∀ t ∈ [catT [stepF N a b.toNat, catT l], stepF N (catT l) b.toNat], good t := fun t ht => by
            simp only [List.mem_cons, List.not_mem_nil, or_false] at ht
            rcases ht with rfl | rfl
            · exact good_cat hx
            · exact k1
          rw [if_pos hn]
          refine ⟨good_alt hy, fun w => ?_⟩
          rw [lg_altT hy, hbig]
          simp only [LgA, or_false]
          rw [hxw, k2, lg_catT]
          have h0 := (null_iff a).1 hn
          constructor
          · rintro (h | h)
            · exact .inr h
            · exact .inl ⟨h0, h⟩
          · rintro (⟨_, h⟩ | h)
            · exact .inr h
            · exact .inl h
        · rw [if_neg hn]
          refine ⟨good_cat hx, fun w => ?_⟩
          rw [hxw, hbig]
          constructor
          · intro h; exact .inr h
          · rintro (⟨h, _⟩ | h)
            · exact absurd ((null_iff a).2 h) hn
            · exact h
    rw [if_neg h4]
    refine ⟨good_none, fun w => ⟨fun h => absurd h (lg_k1 (t := noneT) rfl w), fun h => ?_⟩⟩
    rw [Lg] at h
    by_cases h2 : k = 2
    · rw [if_pos h2] at h; cases h
    · rw [if_neg h2, if_neg h3, if_neg h4, if_neg h5, if_neg h6] at h
      exact h.elim
theorem good_some : ∀ (N : Nat) (t : T), t.nodes ≤ N → good t → (∃ w, Lg t w) ∨ t.kind = 1 := by
  intro N
  induction N with
  | zero => intro t h; have := nodes_pos t; omega
  | succ N ih =>
    rintro ⟨k, s, l⟩ hN hg
    obtain ⟨h1, h2, h3, h4, h5, _⟩ := good_node.1 hg
    have hnl : ∀ t ∈ l, t.nodes ≤ N := fun t ht => by
      have := nodes_mem (l := l) ht
      simp only [T.nodes] at hN
      omega
    by_cases k1 : k = 1
    · exact .inr k1
    refine .inl ((some_iff _).1 ?_)
    rw [someT]
    by_cases k26 : k = 2 ∨ k = 6
    · rw [if_pos k26]
    rw [if_neg k26]
    by_cases k3 : k = 3
    · subst k3
      rw [if_pos rfl]
      have := (good_three hg rfl).2
      show (!eqS s zeroS) = true
      rw [show eqS s zeroS = false from this]
      rfl
    rw [if_neg k3]
    have hpart : ∀ t ∈ l, (k = 4 ∨ k = 5) → someT t = true := fun t ht hk => by
      have hf := h5 t ht
      have hk1 : t.kind ≠ 1 := by
        rcases hk with rfl | rfl
        · exact (fits4 hf).1
        · exact (fits5 hf).1
      rcases ih t (hnl t ht) (h2 t ht) with h | h
      · exact (some_iff t).2 h
      · exact absurd h hk1
    have hall : ∀ m : List T, (∀ t ∈ m, someT t = true) → someC m = true := fun m hm => by
      induction m with
      | nil => rfl
      | cons a r ih2 =>
        rw [someC, hm a (by simp), ih2 fun t ht => hm t (by simp [ht])]
        rfl
    by_cases k4 : k = 4
    · rw [if_pos k4]
      exact hall l fun t ht => hpart t ht (.inl k4)
    rw [if_neg k4]
    have k5 : k = 5 := by rcases good_kind hg with h | h | h | h | h | h <;> (have h : k = _ := h; omega)
    rw [if_pos k5]
    subst k5
    rw [count45 (.inr rfl)] at h4
    have h4 : 2 ≤ l.length := by simpa using h4
    cases l with
    | nil => simp at h4
    | cons a r =>
      rw [someA, hpart a (by simp) (.inr rfl)]
      rfl
end Go.Proofs.YtopnpdobcagcgaaGreat
namespace Go.Proofs.YtopnpdobcagcgaaGreat
open Go.RowKit
set_option linter.unusedSimpArgs false
set_option linter.unusedVariables false
theorem all_next {p : T → Bool} {l : List T} {j : Nat} {u : T} (h : l[j]? = some u) (ha : (l.take j).all p = true) (hu : p u = true) : (l.take (j + 1)).all p = true := by
 obtain ⟨hi, rfl⟩ := List.getElem?_eq_some_iff.1 h
 rw [List.take_succ_eq_append_getElem hi, List.all_append, ha]
 simp [hu]
theorem any_next {p : T → Bool} {l : List T} {j : Nat} {u : T} (h : l[j]? = some u) (ha : (l.take j).any p = false) (hu : p u = false) : (l.take (j + 1)).any p = false := by
 obtain ⟨hi, rfl⟩ := List.getElem?_eq_some_iff.1 h
 rw [List.take_succ_eq_append_getElem hi, List.any_append, ha]
 simp [hu]
theorem all_not {p : T → Bool} {l : List T} {j : Nat} {u : T} (h : l[j]? = some u) (hu : p u = false) : l.all p = false :=
 List.all_eq_false.2 ⟨u, List.mem_of_getElem? h, by rw [hu]; simp⟩
theorem any_is {p : T → Bool} {l : List T} {j : Nat} {u : T} (h : l[j]? = some u) (hu : p u = true) : l.any p = true :=
 List.any_eq_true.2 ⟨u, List.mem_of_getElem? h, hu⟩
end Go.Proofs.YtopnpdobcagcgaaGreat
namespace Go.Proofs.YtopnpdobcagcgaaGreat
open Go.RowKit
set_option linter.unusedSimpArgs false
set_option linter.unusedVariables false
def seg (w : List UInt8) (i j : Nat) : List UInt8 := (w.take j).drop i
theorem seg_len (w : List UInt8) (i j : Nat) (hj : j ≤ w.length) : (seg w i j).length = j - i := by
 simp [seg]; omega
theorem seg_same (w : List UInt8) (i : Nat) : seg w i i = [] := by
 apply List.eq_nil_of_length_eq_zero
 simp [seg]
theorem seg_nil {w : List UInt8} {i j : Nat} (hi : i ≤ j) (hj : j ≤ w.length) (h : seg w i j = []) : i = j := by
 have := seg_len w i j hj
 rw [h] at this
 simp at this
 omega
theorem seg_all (w : List UInt8) : seg w 0 w.length = w := by simp [seg]
theorem seg_app {w : List UInt8} {i k j : Nat} (h1 : i ≤ k) (h2 : k ≤ j) : seg w i j = seg w i k ++ seg w k j := by
 apply List.ext_getElem?
 intro n
 simp only [seg]
 rw [List.getElem?_append]
 simp only [List.getElem?_drop, List.getElem?_take, List.length_drop, List.length_take]
 by_cases hw : k ≤ w.length
 ·rw [Nat.min_eq_left hw]
  by_cases hn : n < k - i
  ·rw [if_pos hn, if_pos (by omega), if_pos (by omega)]
  ·rw [if_neg hn, show k + (n - (k - i)) = i + n from by omega]
 ·rw [Nat.min_eq_right (by omega)]
  by_cases hn : n < w.length - i
  ·rw [if_pos hn, if_pos (by omega), if_pos (by omega)]
  ·rw [if_neg hn]
   have e1 : w[i + n]? = none := List.getElem?_eq_none (by omega)
   have e2 : w[k + (n - (w.length - i))]? = none := List.getElem?_eq_none (by omega)
   rw [e1, e2]
   split <;> split <;> rfl
theorem seg_split {w u v : List UInt8} {i j : Nat} (hi : i ≤ j) (hj : j ≤ w.length) (h : seg w i j = u ++ v) : i + u.length ≤ j ∧ u = seg w i (i + u.length) ∧ v = seg w (i + u.length) j := by
 have hl := seg_len w i j hj
 rw [h, List.length_append] at hl
 have h1 : i + u.length ≤ j := by omega
 have h2 := seg_app (w := w) (show i ≤ i + u.length by omega) h1
 rw [h] at h2
 have h3 := seg_len w i (i + u.length) (by omega)
 obtain ⟨a, b⟩ := List.append_inj h2 (by omega)
 exact ⟨h1, a, b⟩
theorem seg_two {w : List UInt8} {i j : Nat} {P Q : List UInt8 → Prop} (hi : i ≤ j) (hj : j ≤ w.length) :
  (∃ u v, seg w i j = u ++ v ∧ P u ∧ Q v) ↔ ∃ k, i ≤ k ∧ k ≤ j ∧ P (seg w i k) ∧ Q (seg w k j) := by
 constructor
 ·rintro ⟨u, v, h, hp, hq⟩
  obtain ⟨h1, h2, h3⟩ := seg_split hi hj h
  exact ⟨i + u.length, by omega, h1, h2 ▸ hp, h3 ▸ hq⟩
 ·rintro ⟨k, h1, h2, hp, hq⟩
  exact ⟨_, _, seg_app h1 h2, hp, hq⟩
theorem seg_one {w : List UInt8} {i j : Nat} {s : Nat → Bool} (hi : i ≤ j) (hj : j ≤ w.length) :
  (∃ b : UInt8, seg w i j = [b] ∧ s b.toNat = true) ↔ j = i + 1 ∧ ∃ b, w[i]? = some b ∧ s b.toNat = true := by
 have e : ∀ (h : i < w.length), seg w i (i + 1) = [w[i]] := fun h => by
  apply List.ext_getElem?
  intro n
  simp only [seg, List.getElem?_drop, List.getElem?_take]
  rcases Nat.eq_zero_or_pos n with rfl | hn
  ·simp [h]
  ·rw [if_neg (by omega)]
   symm
   exact List.getElem?_eq_none (by simp; omega)
 constructor
 ·rintro ⟨b, h, hs⟩
  have hl := seg_len w i j hj
  rw [h] at hl
  simp at hl
  obtain rfl : j = i + 1 := by omega
  rw [e (by omega)] at h
  injection h with h
  exact ⟨rfl, b, by rw [← h]; simp, hs⟩
 ·rintro ⟨rfl, b, h, hs⟩
  obtain ⟨h1, rfl⟩ := List.getElem?_eq_some_iff.1 h
  exact ⟨_, e h1, hs⟩
/-! ### any number -/
theorem starL_snoc {P : List UInt8 → Prop} {a b : List UInt8} (ha : StarL P a) (hb : P b) : StarL P (a ++ b) := by
 induction ha with
 | nil =>
  have := StarL.app hb (StarL.nil (P := P))
  rwa [List.append_nil] at this
 | app hu _ ih => rw [List.append_assoc]; exact .app hu ih
theorem starL_last {P : List UInt8 → Prop} {w : List UInt8} (h : StarL P w) : w = [] ∨ ∃ a b, w = a ++ b ∧ b ≠ [] ∧ StarL P a ∧ P b := by
 induction h with
 | nil => exact .inl rfl
 | @app u v hu hv ih =>
  rcases ih with rfl | ⟨a, b, rfl, hb, ha, hp⟩
  ·cases u with
   | nil => exact .inl rfl
   | cons c u => exact .inr ⟨[], c :: u, by simp, by simp, .nil, hu⟩
  ·exact .inr ⟨u ++ a, b, by rw [List.append_assoc], hb, .app hu ha, hp⟩
theorem star_seg {P : List UInt8 → Prop} {w : List UInt8} {i m : Nat} (hi : i ≤ m) (hm : m ≤ w.length) :
  StarL P (seg w i m) ↔ i = m ∨ ∃ j, i ≤ j ∧ j < m ∧ StarL P (seg w i j) ∧ P (seg w j m) := by
 constructor
 ·intro h
  rcases starL_last h with h | ⟨a, b, h, hb, ha, hp⟩
  ·exact .inl (seg_nil hi hm h)
  ·obtain ⟨h1, h2, h3⟩ := seg_split hi hm h
   refine .inr ⟨i + a.length, by omega, ?_, h2 ▸ ha, h3 ▸ hp⟩
   rcases Nat.lt_or_ge (i + a.length) m with h4 | h4
   ·exact h4
   ·have : i + a.length = m := by omega
    rw [this, seg_same] at h3
    exact absurd h3 hb
 ·rintro (rfl | ⟨j, h1, h2, h3, h4⟩)
  ·rw [seg_same]; exact .nil
  ·rw [seg_app h1 (Nat.le_of_lt h2)]
   exact starL_snoc h3 h4
/-! ### where words end that begin at one of these places -/
def Ends (P : List UInt8 → Prop) (w : List UInt8) (f : Nat → Bool) (p : Nat) : Prop := p ≤ w.length ∧ ∃ q, q ≤ p ∧ f q = true ∧ P (seg w q p)
noncomputable def endsB (P : List UInt8 → Prop) (w : List UInt8) (f : Nat → Bool) (p : Nat) : Bool := @decide (Ends P w f p) (Classical.propDecidable _)
theorem endsB_iff {P : List UInt8 → Prop} {w : List UInt8} {f : Nat → Bool} {p : Nat} : endsB P w f p = true ↔ Ends P w f p := by
 unfold endsB
 exact @decide_eq_true_iff _ (Classical.propDecidable _)
theorem ends_congr {P Q : List UInt8 → Prop} {w : List UInt8} {f g : Nat → Bool} (h : ∀ u, P u ↔ Q u) (hf : ∀ q, q ≤ w.length → f q = g q) : endsB P w f = endsB Q w g := by
 funext p
 rw [Bool.eq_iff_iff, endsB_iff, endsB_iff]
 constructor
 ·rintro ⟨a, q, b, c, d⟩; exact ⟨a, q, b, by rw [← hf q (by omega)]; exact c, (h _).1 d⟩
 ·rintro ⟨a, q, b, c, d⟩; exact ⟨a, q, b, by rw [hf q (by omega)]; exact c, (h _).2 d⟩
theorem ends_nil {w : List UInt8} {f : Nat → Bool} (hf : ∀ q, f q = true → q ≤ w.length) : endsB (fun u => u = []) w f = f := by
 funext p
 rw [Bool.eq_iff_iff, endsB_iff]
 constructor
 ·rintro ⟨a, q, b, c, d⟩
  rw [← seg_nil b a d]; exact c
 ·intro h; exact ⟨hf p h, p, Nat.le_refl _, h, seg_same w p⟩
theorem ends_le {P : List UInt8 → Prop} {w : List UInt8} {f : Nat → Bool} {p : Nat} (h : endsB P w f p = true) : p ≤ w.length := (endsB_iff.1 h).1
theorem ends_two {P Q : List UInt8 → Prop} {w : List UInt8} {f : Nat → Bool} : endsB Q w (endsB P w f) = endsB (fun x => ∃ u v, x = u ++ v ∧ P u ∧ Q v) w f := by
 funext p
 rw [Bool.eq_iff_iff, endsB_iff, endsB_iff]
 constructor
 ·rintro ⟨a, k, b, c, d⟩
  obtain ⟨_, q, h1, h2, h3⟩ := endsB_iff.1 c
  exact ⟨a, q, by omega, h2, _, _, seg_app h1 b, h3, d⟩
 ·rintro ⟨a, q, b, c, d⟩
  obtain ⟨k, h1, h2, h3, h4⟩ := (seg_two b a).1 d
  exact ⟨a, k, h2, endsB_iff.2 ⟨by omega, q, h1, c, h3⟩, h4⟩
theorem ends_or {P Q : List UInt8 → Prop} {w : List UInt8} {f : Nat → Bool} (p : Nat) : (endsB P w f p || endsB Q w f p) = endsB (fun u => P u ∨ Q u) w f p := by
 rw [Bool.eq_iff_iff, Bool.or_eq_true, endsB_iff, endsB_iff, endsB_iff]
 constructor
 ·rintro (⟨a, q, b, c, d⟩ | ⟨a, q, b, c, d⟩)
  ·exact ⟨a, q, b, c, .inl d⟩
  ·exact ⟨a, q, b, c, .inr d⟩
 ·rintro ⟨a, q, b, c, d | d⟩
  ·exact .inl ⟨a, q, b, c, d⟩
  ·exact .inr ⟨a, q, b, c, d⟩
theorem ends_no {P : List UInt8 → Prop} {w : List UInt8} {f : Nat → Bool} (h : ∀ u, ¬ P u) : endsB P w f = fun _ => false := by
 funext p
 cases he : endsB P w f p with
 | false => rfl
 | true =>
  obtain ⟨_, q, _, _, d⟩ := endsB_iff.1 he
  exact absurd d (h _)
theorem ends_set {s : Nat → Bool} {w : List UInt8} {f : Nat → Bool} (p : Nat) :
  endsB (fun u => ∃ b : UInt8, u = [b] ∧ s b.toNat = true) w f p = true ↔ ∃ q, p = q + 1 ∧ f q = true ∧ ∃ b, w[q]? = some b ∧ s b.toNat = true := by
 rw [endsB_iff]
 constructor
 ·rintro ⟨a, q, b, c, d⟩
  obtain ⟨h1, h2⟩ := (seg_one b a).1 d
  exact ⟨q, h1, c, h2⟩
 ·rintro ⟨q, rfl, c, b, h, hs⟩
  have h1 := (List.getElem?_eq_some_iff.1 h).1
  exact ⟨by omega, q, by omega, c, (seg_one (by omega) (by omega)).2 ⟨rfl, b, h, hs⟩⟩
noncomputable def rndJ (P : List UInt8 → Prop) (w : List UInt8) (f : Nat → Bool) : Nat → Nat → Bool
 | 0 => f
 | n + 1 => fun p => rndJ P w f n p || (rndJ P w f n n && endsB P w (fun q => decide (q = n)) p)
theorem ends_at {P : List UInt8 → Prop} {w : List UInt8} {n p : Nat} : endsB P w (fun q => decide (q = n)) p = true ↔ p ≤ w.length ∧ n ≤ p ∧ P (seg w n p) := by
 rw [endsB_iff]
 constructor
 ·rintro ⟨a, q, b, c, d⟩
  obtain rfl : q = n := by simpa using c
  exact ⟨a, b, d⟩
 ·rintro ⟨a, b, c⟩
  exact ⟨a, n, b, by simp, c⟩
theorem rnd_iff {P : List UInt8 → Prop} {w : List UInt8} {f : Nat → Bool} (hf : ∀ q, f q = true → q ≤ w.length) : ∀ (n : Nat), n ≤ w.length + 1 → ∀ p,
  rndJ P w f n p = true ↔ f p = true ∨ ∃ q, q < n ∧ Ends (StarL P) w f q ∧ p ≤ w.length ∧ q ≤ p ∧ P (seg w q p)
 | 0, _, p => by simp [rndJ]
 | n + 1, hn, p => by
  have ih := rnd_iff (P := P) (w := w) hf n (by omega)
  have hat : rndJ P w f n n = true ↔ Ends (StarL P) w f n := by
   rw [ih]
   constructor
   ·rintro (h | ⟨q, h1, ⟨h2, q0, h3, h4, h5⟩, h6, h7, h8⟩)
    ·exact ⟨by omega, n, Nat.le_refl _, h, by rw [seg_same]; exact .nil⟩
    ·exact ⟨by omega, q0, by omega, h4, by rw [seg_app h3 h7]; exact starL_snoc h5 h8⟩
   ·rintro ⟨h1, q, h2, h3, h4⟩
    rcases (star_seg h2 h1).1 h4 with rfl | ⟨j, h5, h6, h7, h8⟩
    ·exact .inl h3
    ·exact .inr ⟨j, h6, ⟨by omega, q, h5, h3, h7⟩, by omega, by omega, h8⟩
  rw [rndJ, Bool.or_eq_true, Bool.and_eq_true, ih, hat, ends_at]
  constructor
  ·rintro ((h | ⟨q, h1, h2⟩) | ⟨h1, h2, h3, h4⟩)
   ·exact .inl h
   ·exact .inr ⟨q, by omega, h2⟩
   ·exact .inr ⟨n, by omega, h1, h2, h3, h4⟩
  ·rintro (h | ⟨q, h1, h2, h3⟩)
   ·exact .inl (.inl h)
   ·rcases Nat.lt_or_ge q n with h4 | h4
    ·exact .inl (.inr ⟨q, h4, h2, h3⟩)
    ·obtain rfl : q = n := by omega
     exact .inr ⟨h2, h3⟩
theorem rnd_all {P : List UInt8 → Prop} {w : List UInt8} {f : Nat → Bool} (hf : ∀ q, f q = true → q ≤ w.length) : rndJ P w f (w.length + 1) = endsB (StarL P) w f := by
 funext p
 rw [Bool.eq_iff_iff, rnd_iff hf _ (Nat.le_refl _), endsB_iff]
 constructor
 ·rintro (h | ⟨q, h1, ⟨h2, q0, h3, h4, h5⟩, h6, h7, h8⟩)
  ·exact ⟨hf p h, p, Nat.le_refl _, h, by rw [seg_same]; exact .nil⟩
  ·exact ⟨h6, q0, by omega, h4, by rw [seg_app h3 h7]; exact starL_snoc h5 h8⟩
 ·rintro ⟨h1, q, h2, h3, h4⟩
  rcases (star_seg h2 h1).1 h4 with rfl | ⟨j, h5, h6, h7, h8⟩
  ·exact .inl h3
  ·exact .inr ⟨j, by omega, ⟨by omega, q, h5, h3, h7⟩, h1, by omega, h8⟩
end Go.Proofs.YtopnpdobcagcgaaGreat
namespace Go.Proofs.YtopnpdobcagcgaaGreat
open Go.RowKit
set_option linter.unusedVariables false
section
variable {P : Program} {ops : Array Oper} {Q : Exit → Act → World → Prop} {md : Region.Mode} {S : World → Prop}
theorem sg_two {i j : Nat} {oi oj : Oper} {fuel : Nat} {listed : Array Bool} {a : Act} {w : World} (hi : ops[i]? = some oi) (hj : ops[j]? = some oj) (hr : Region.ready md ops listed = [i, j])
  (hwi : Region.wanted oi (yielded ops a.tmps) = true) (hwj : Region.wanted oj (yielded ops a.tmps) = true) (hS : S w)
  (h1 : ∀ K : Act → World → Prop, (∀ a' w', S w' → wpAnyH P md ops Q S fuel (listed.setIfInBounds i true) a' w' → K a' w') → oi.wp P a w K Q)
  (h2 : ∀ K : Act → World → Prop, (∀ a' w', S w' → wpAnyH P md ops Q S fuel (listed.setIfInBounds j true) a' w' → K a' w') → oj.wp P a w K Q) :
  wpAnyH P md ops Q S (fuel + 1) listed a w := by
 refine wpAnyH_all hr (by simp) (fun k hk => ?_)
 have hk2 : k = i ∨ k = j := by simpa using hk
 unfold wpOp
 rcases hk2 with rfl | rfl
 ·rw [hi]
  simp only [hwi, if_true]
  exact .inl (h1 _ fun a' w' hx hk => ⟨hx, hk⟩)
 ·rw [hj]
  simp only [hwj, if_true]
  exact .inl (h2 _ fun a' w' hx hk => ⟨hx, hk⟩)
end
theorem grown_start (w : World) (r : Option Nat) : w.grownBy w.drew r := ⟨rfl, rfl, rfl, Nat.le_refl _, fun _ _ _ => rfl⟩
theorem grown_cell {w W : World} {r : Option Nat} (h : w.grownBy W r) {b o : Nat} {v : Value} (hb : b < w.heap.size) (hr : some b ≠ r) (hc : w.cell? ⟨b, o, none⟩ = some v) : W.cell? ⟨b, o, none⟩ = some v := by
 have := h.block b hb hr
 unfold World.cell? at hc ⊢
 simp only [this]
 exact hc
theorem grown_blk {w W : World} {r : Option Nat} (h : w.grownBy W r) {b : Nat} {t : TypeId} {cs : List Value} (hr : some b ≠ r) (hc : Blk w b t cs) : Blk W b t cs := (h.block b hc.lt hr).trans hc
theorem grown_then {w W W' : World} {r : Option Nat} (h : w.grownBy W r) (hb : Below W.heap.size W W') : w.grownBy W' r :=
 ⟨hb.os.trans h.os, hb.tape.trans h.tape, hb.output.trans h.output, Nat.le_trans h.size hb.size, fun k hk hne => (hb.block k (Nat.lt_of_lt_of_le hk h.size)).trans (h.block k hk hne)⟩
end Go.Proofs.YtopnpdobcagcgaaGreat
namespace Go.Proofs.YtopnpdobcagcgaaGreat
open Go.RowKit
set_option linter.unusedSimpArgs false
set_option linter.unusedVariables false
set_option maxHeartbeats 1000000 in
set_option maxRecDepth 100000 in
theorem lPlace_any (n : Nat) (w : World) (hn : n < 256) :
  Calls Tryz.prog 33 #[.int .u8 (n : Int)] w fun e w' => e = .returned (.agg (wds fun b => decide (b = n)).toArray) ∧ Below w.heap.size w w' := by
 obtain ⟨r, hr⟩ : ∃ r : Nat → Bool, r = fun b => decide (b = n) := ⟨_, rfl⟩
 have HR := Lib.hid (show wds (fun b => decide (n ≤ b ∧ b ≤ n)) = wds r by rw [hr]; exact wds_congr fun b _ => decide_eq_decide.2 (by omega))
 have HN := Lib.hid hn
 rw [← hr]
 obtain ⟨i0, hi0, hz0⟩ := info_set
 obtain ⟨z, hz⟩ : ∃ z : Nat → Bool, z = fun _ => false := ⟨_, rfl⟩
 rw [← hz] at hz0
 clear hz hr hn
 go_enter Tryz.func33, Tryz.ntmps33
 go_wp2_with ((with_reducible refine atDst 2 ?_); refine wpList_new rfl 26 rfl i0 _ (wds z) hi0 hz0 rfl (Below.refl w.heap.size w) (Nat.le_refl _) ?_; intro w1 hk1 hb1 hs1 _; have K1 := Lib.hid hk1; have B1 := Lib.hid hb1; clear hk1 hb1 hs1)
 refine (bsRange_any n n w1 HN.out HN.out).mono ?_
 rintro e w2 ⟨rfl, hb2⟩
 rw [HR.out]
 have K2 := Lib.hid (K1.out.below hb2 K1.out.lt)
 have B2 := Lib.hid (B1.out.trans (hb2.mono B1.out.size))
 clear hb2
 go_wp2_with ((with_reducible refine atStore 26 2 5 ?_); refine wpList_stBlk rfl 26 _ _ rfl w.heap.size (wds r) rfl rfl 26 _ K2.out (size_set r) rfl (wds_all _) B2.out (Nat.le_refl _) ?_; intro w3 hk3 hb3 hs3 _; have K3 := Lib.hid hk3; have B3 := Lib.hid hb3; clear hk3 hb3)
 refine bodyPost_ret (results_blk rfl _ _ w.heap.size 26 _ _ rfl K3.out Tryz.underlying26 rfl (size_set r)) rfl ?_
 exact ⟨rfl, B3.out⟩
/-! ### behind -/
def shl (p : Nat → Bool) (b : Nat) : Bool := decide (0 < b) && p (b - 1)
def shlJ (p : Nat → Bool) (j b : Nat) : Bool := if b / 64 < j then shl p b else p b
theorem word_shlJ (p : Nat → Bool) (j i : Nat) : word (shlJ p j) i = if i < j then word (shl p) i else word p i := by
 by_cases h : i < j
 ·rw [if_pos h]
  exact wd_congr fun b hb => by unfold shlJ; rw [if_pos (by omega)]
 ·rw [if_neg h]
  exact wd_congr fun b hb => by unfold shlJ; rw [if_neg (by omega)]
theorem shlJ_next (p : Nat → Bool) (j : Nat) (hj : j < 4) : (wds (shlJ p j)).set j (.int .u64 (word (shl p) j : Int)) = wds (shlJ p (j + 1)) := by
 have h := word_shlJ p
 match j, hj with
 | 0, _ => simp [wds, h]
 | 1, _ => simp [wds, h]
 | 2, _ => simp [wds, h]
 | 3, _ => simp [wds, h]
theorem word_shl (p : Nat → Bool) (j : Nat) : (word p j * 2 % 18446744073709551616) ||| (if j = 0 then 0 else word p (j - 1) / 9223372036854775808) = word (shl p) j := by
 apply Nat.eq_of_testBit_eq
 intro b
 rw [Nat.testBit_or, show (18446744073709551616 : Nat) = 2 ^ 64 from rfl, Nat.testBit_mod_two_pow, show word p j * 2 = word p j <<< 1 by rw [Nat.shiftLeft_eq], Nat.testBit_shiftLeft]
 have e : (if j = 0 then 0 else word p (j - 1) / 9223372036854775808).testBit b = (decide (b = 0) && (decide (0 < j) && p (64 * j - 1))) := by
  by_cases hj : j = 0
  ·simp [hj]
  ·rw [if_neg hj, show (9223372036854775808 : Nat) = 2 ^ 63 from rfl, Nat.testBit_div_two_pow]
   unfold word
   rw [wd_bit]
   by_cases hb : b = 0
   ·subst hb
    have h1 : 64 * (j - 1) + (63 + 0) = 64 * j - 1 := by omega
    have h2 : 0 < j := by omega
    simp [h1, h2]
   ·have : ¬ (63 + b < 64) := by omega
    rw [Nat.add_comm 63 b] at this
    rw [decide_eq_false this, decide_eq_false hb, Bool.false_and, Bool.false_and]
 rw [e]
 unfold word shl
 rw [wd_bit, wd_bit]
 by_cases hb : b < 64
 ·by_cases h0 : b = 0
  ·subst h0
   simp
  ·have h1 : 1 ≤ b := by omega
   have h2 : b - 1 < 64 := by omega
   have h3 : 0 < 64 * j + b := by omega
   have h4 : 64 * j + (b - 1) = 64 * j + b - 1 := by omega
   simp [hb, h0, h1, h2, h3, h4]
 ·have h0 : b ≠ 0 := by omega
  simp [hb, h0]
theorem idxS0 (p : Nat → Bool) (w : World) : (Instr.index 26 (.agg (wds p).toArray) (.int .i64 0)).run Tryz.prog w = .ok (.int .u64 (word p 0 : Int)) w := by kernel_rfl
theorem idxS1 (p : Nat → Bool) (w : World) : (Instr.index 26 (.agg (wds p).toArray) (.int .i64 1)).run Tryz.prog w = .ok (.int .u64 (word p 1 : Int)) w := by kernel_rfl
theorem idxS2 (p : Nat → Bool) (w : World) : (Instr.index 26 (.agg (wds p).toArray) (.int .i64 2)).run Tryz.prog w = .ok (.int .u64 (word p 2 : Int)) w := by kernel_rfl
theorem idxS3 (p : Nat → Bool) (w : World) : (Instr.index 26 (.agg (wds p).toArray) (.int .i64 3)).run Tryz.prog w = .ok (.int .u64 (word p 3 : Int)) w := by kernel_rfl
theorem idxS (p : Nat → Bool) (j : Nat) (hj : j < 4) (w : World) : (Instr.index 26 (.agg (wds p).toArray) (.int .i64 (j : Int))).run Tryz.prog w = .ok (.int .u64 (word p j : Int)) w := by
 match j, hj with
 | 0, _ => exact idxS0 p w
 | 1, _ => exact idxS1 p w
 | 2, _ => exact idxS2 p w
 | 3, _ => exact idxS3 p w
set_option maxHeartbeats 2000000 in
set_option maxRecDepth 100000 in
theorem lBehind_any (p : Nat → Bool) (w : World) :
  Calls Tryz.prog 50 #[.agg (wds p).toArray] w fun e w' => e = .returned (.agg (wds (shl p)).toArray) ∧ Below w.heap.size w w' := by
 obtain ⟨i0, hi0, hz0⟩ := info_set
 obtain ⟨z, hz⟩ : ∃ z : Nat → Bool, z = fun _ => false := ⟨_, rfl⟩
 rw [← hz] at hz0
 clear hz
 obtain ⟨cs, hcs⟩ : ∃ cs, cs = wds p := ⟨_, rfl⟩
 have HSZ := Lib.hid (show (Tryz.prog.info? 26).map (·.size) = some cs.length by rw [hcs]; exact size_set p)
 have HG := Lib.hid (show ∀ (i : Nat) (_ : i < 4) (w : World), (Instr.index 26 (.agg cs.toArray) (.int .i64 (i : Int))).run Tryz.prog w = .ok (.int .u64 (word p i : Int)) w by rw [hcs]; exact idxS p)
 have HCS := Lib.hid hcs
 rw [← hcs]
 clear hcs
 go_enter Tryz.func50, Tryz.ntmps50
 go_wp2_with (first
  | ((with_reducible refine atDst 1 ?_); refine wpList_box rfl 26 _ rfl cs rfl (Below.refl w.heap.size w) (Nat.le_refl _) ?_; intro w1 hk1 hb1 hs1 _; have K1 := Lib.hid hk1; have B1 := Lib.hid hb1; clear hk1 hb1 hs1)
  | ((with_reducible refine atDst 2 ?_); refine wpList_new rfl 26 rfl i0 _ (wds z) hi0 hz0 rfl B1.out B1.out.size ?_; intro w2 hk2 hb2 hs2 ho2; have L2 := Lib.hid hk2; have B2 := Lib.hid hb2; have K2 := Lib.hid (show Blk w2 w.heap.size 26 cs from (ho2 _ K1.out.lt).trans K1.out); clear hk2 hb2 hs2 ho2)
  | ((with_reducible refine atDst 6 ?_); refine wpList_ldArr rfl 26 _ rfl w.heap.size rfl 26 _ _ K2.out Tryz.underlying26 rfl HSZ.out ?_))
 go_loopw [3, 7] (fun c i wl => ∃ j : Nat, j ≤ 4 ∧ i = .int .i64 (j : Int) ∧ c = .int .u64 ((if j = 0 then 0 else word p (j - 1) / 9223372036854775808 : Nat) : Int) ∧ Blk wl w.heap.size 26 (wds (shlJ p j)) ∧ Blk wl w1.heap.size 26 (wds z) ∧ Below w.heap.size w wl) (fun _ i _ => 4 - (intOf i).toNat)
 case atStart =>
  refine ⟨0, by omega, by simp, by simp, ?_, L2.out, B2.out⟩
  rw [wds_congr (q := p) fun b _ => by unfold shlJ; rw [if_neg (by omega)], ← HCS.out]
  exact K2.out
 case round =>
  obtain ⟨j, hj, rfl, rfl, hk, hl, hb⟩ := hrel
  have LR := Lib.hid hl
  have HKL := Lib.hid K1.out.lt
  clear hl
  have KR := Lib.hid hk
  have BR := Lib.hid hb
  clear hk hb
  by_cases hjl : j < 4
  ·have j1 : (j : Int) < 4 := by omega
   have hfz := KR.out.frozen j
   have hcr := KR.out.cell j
   rw [wds_get _ j hjl] at hcr
   have hix := HG.out j hjl
   obtain ⟨x, hx⟩ : ∃ x, x = word p j := ⟨_, rfl⟩
   obtain ⟨y, hy⟩ : ∃ y, y = (if j = 0 then 0 else word p (j - 1) / 9223372036854775808) := ⟨_, rfl⟩
   obtain ⟨z2, hz2⟩ : ∃ y, y = word (shlJ p j) j := ⟨_, rfl⟩
   rw [← hx] at hix
   rw [← hz2] at hcr
   rw [← hy]
   have HXY := Lib.hid (show (x * 2 % 18446744073709551616) ||| y = word (shl p) j by rw [hx, hy]; exact word_shl p j)
   have HX := Lib.hid hx
   have hly : y < 18446744073709551616 := by
    rw [hy]
    split
    ·omega
    ·have := word_lt p (j - 1); omega
   clear hx hy hz2
   have HLX := Lib.hid (show x < 18446744073709551616 by rw [HX.out]; exact word_lt _ _)
   have HLY := Lib.hid hly
   clear hly
   go_wp2_with fail
   refine ⟨⟨j + 1, by omega, by congr 1, ?_, ?_, LR.out.far (by have := HKL.out; show w1.heap.size ≠ w.heap.size; omega) _, BR.out.setCell (p := ⟨w.heap.size, j, none⟩) (Nat.le_refl _) _⟩, by simp [intOf] <;> omega⟩
   ·rw [if_neg (by omega), Nat.add_sub_cancel, ← HX.out]
    congr 1
   ·have hk := KR.out.set j (.int .u64 (word (shl p) j : Int))
    rw [shlJ_next p j hjl, ← HXY.out] at hk
    rw [IntKind.wrap_u64, show ((x : Int) * 2) % 18446744073709551616 = ((x * 2 % 18446744073709551616 : Nat) : Int) by omega, u64_or_nat _ y (Nat.mod_lt _ (by omega)) HLY.out]
    exact hk
  ·obtain rfl : j = 4 := by omega
   have k9 := KR.out
   rw [wds_congr (q := shl p) fun b hb => by unfold shlJ; rw [if_pos (by omega)]] at k9
   have K9 := Lib.hid k9
   clear k9 KR
   go_wp2_with (first
    | ((with_reducible refine atDst 20 ?_); refine wpList_ldArr rfl 26 _ rfl w.heap.size rfl 26 _ _ K9.out Tryz.underlying26 rfl (size_set _) ?_)
    | ((with_reducible refine atStore 26 2 20 ?_); refine wpList_stBlk rfl 26 _ _ rfl w1.heap.size (wds (shl p)) rfl rfl 26 _ LR.out (size_set _) rfl (wds_all _) BR.out B1.out.size ?_; intro w4 hk4 hb4 hs4 _; have K4 := Lib.hid hk4; have B4 := Lib.hid hb4; clear hk4 hb4))
   refine bodyPost_ret (results_blk rfl _ _ w1.heap.size 26 _ _ rfl K4.out Tryz.underlying26 rfl (size_set _)) rfl ?_
   exact ⟨rfl, B4.out⟩
/-! ### hits -/
def hitP (s : Nat → Bool) (l : List UInt8) (j : Nat) : Bool := match l[j]? with
 | some b => s b.toNat
 | none => false
theorem hitP_at {s : Nat → Bool} {l : List UInt8} {j : Nat} {b : UInt8} (h : l[j]? = some b) : hitP s l j = s b.toNat := by unfold hitP; rw [h]
theorem hitP_iff {s : Nat → Bool} {l : List UInt8} {j : Nat} : hitP s l j = true ↔ ∃ b, l[j]? = some b ∧ s b.toNat = true := by
 unfold hitP
 cases l[j]? <;> simp
theorem memJ_mem_at (p : Nat → Bool) (n b : Nat) (hn : n ≤ 256) (hb : b < 256) : decide (UInt8.ofNat b ∈ memJ p n) = (decide (b < n) && p b) := by
 rw [Bool.eq_iff_iff, decide_eq_true_iff, Bool.and_eq_true, decide_eq_true_iff]
 unfold memJ
 simp only [List.mem_map, List.mem_filter, List.mem_range]
 constructor
 ·rintro ⟨a, ⟨ha, hp⟩, he⟩
  have := congrArg UInt8.toNat he
  rw [UInt8.toNat_ofNat', UInt8.toNat_ofNat', Nat.mod_eq_of_lt (by omega), Nat.mod_eq_of_lt (by omega)] at this
  rw [← this]
  exact ⟨ha, hp⟩
 ·intro h
  exact ⟨b, h, rfl⟩
theorem wds_hits (s : Nat → Bool) (l : List UInt8) (h : l.length ≤ 256) : wds (fun b => decide (UInt8.ofNat b ∈ memJ (hitP s l) l.length)) = wds (hitP s l) := by
 refine wds_congr fun b hb => ?_
 rw [memJ_mem_at _ _ _ h hb]
 by_cases hl : b < l.length
 ·rw [decide_eq_true hl, Bool.true_and]
 ·rw [decide_eq_false hl, Bool.false_and]
  unfold hitP
  rw [List.getElem?_eq_none (by omega)]
set_option maxHeartbeats 2000000 in
set_option maxRecDepth 100000 in
theorem lHits_any (s : Nat → Bool) (V : Value) (l : List UInt8) (w : World) (hr : Row w V (bvs l)) (hl : l.length ≤ 200) :
  Calls Tryz.prog 49 #[.agg (wds s).toArray, V] w fun e w' => e = .returned (.agg (wds (hitP s l)).toArray) ∧ Below w.heap.size w w' := by
 obtain ⟨p, hp⟩ : ∃ p : Nat → Bool, p = hitP s l := ⟨_, rfl⟩
 have HWM := Lib.hid (show wds (fun b => decide (UInt8.ofNat b ∈ memJ p l.length)) = wds p by rw [hp]; exact wds_hits s l (by omega))
 have HPA := Lib.hid (show ∀ j b, l[j]? = some b → p j = s b.toNat by rw [hp]; exact fun j b h => hitP_at h)
 rw [← hp]
 have R0 := Lib.hid hr
 have HL := Lib.hid hl
 obtain ⟨A, cap, rfl, a1, a2, a0, a3⟩ := hr
 rw [bvs_length] at a1 R0 ⊢
 clear a3 a0 a2 a1 hp hl
 obtain ⟨i0, hi0, hz0⟩ := info_set
 obtain ⟨i1, hi1, hy0, hy1, hy2⟩ := infoP inf_u8
 obtain ⟨z, hz⟩ : ∃ z : Nat → Bool, z = fun _ => false := ⟨_, rfl⟩
 rw [← hz] at hz0
 clear hz
 go_enter Tryz.func49, Tryz.ntmps49
 go_wp2_with (first
  | ((with_reducible refine atDst 2 ?_); refine wpList_box rfl 26 _ rfl (wds s) rfl (Below.refl w.heap.size w) (Nat.le_refl _) ?_; intro w1 hk1 hb1 hs1 _; have K1 := Lib.hid hk1; have B1 := Lib.hid hb1; clear hk1 hb1 hs1)
  | ((with_reducible refine atDst 4 ?_); refine wpList_new rfl 26 rfl i0 _ (wds z) hi0 hz0 rfl B1.out B1.out.size ?_; intro w2 hk2 hb2 hs2 ho2; have L2 := Lib.hid hk2; have B2 := Lib.hid hb2; have K2 := Lib.hid (show Blk w2 w.heap.size 26 (wds s) from (ho2 _ K1.out.lt).trans K1.out); clear hk2 hb2 hs2 ho2))
 go_loopw [5, 10] (fun v i wl => ∃ j : Nat, j ≤ l.length ∧ i = .int .i64 (j : Int) ∧ wl.ownsRow w2.heap.size 5 1 v (memJ p j).length (bvs (memJ p j)) ∧ Below w2.heap.size w2 wl) (fun _ i _ => l.length - (intOf i).toNat)
 case atStart => exact ⟨0, by omega, by simp, ownN _ _ _, Below.refl _ _⟩
 case round =>
  obtain ⟨j, hj, rfl, ho, hb⟩ := hrel
  have HO := Lib.hid ho
  have HB := Lib.hid hb
  clear ho hb
  have HJ := Lib.hid hj
  by_cases hjl : j < l.length
  ·have j1 : (j : Int) < (l.length : Int) := Int.ofNat_lt.2 hjl
   have HW2 := Lib.hid (B2.out.trans (HB.out.mono B2.out.size))
   obtain ⟨b0, off, rfl, hb0, hcell⟩ := (R0.out.below HW2.out).at_ (by rw [bvs_length]; omega)
   have hcj := hcell j _ (bvs_get l j l[j] (List.getElem?_eq_getElem hjl))
   have hpj := HPA.out j l[j] (List.getElem?_eq_getElem hjl)
   obtain ⟨c, hc⟩ : ∃ c : UInt8, c = l[j] := ⟨_, rfl⟩
   rw [← hc] at hcj hpj
   have hlt := c.toNat_lt
   obtain ⟨n, hn⟩ : ∃ n, n = c.toNat := ⟨_, rfl⟩
   have hcj' : wr.cell? ⟨b0, off + j, none⟩ = some (.int .u8 (n : Int)) := by rw [hn]; exact hcj
   rw [← hn] at hlt hpj
   have HN := Lib.hid (show n < 256 from hlt)
   have KR := Lib.hid (K2.out.below HB.out K2.out.lt)
   obtain ⟨q, hq⟩ : ∃ q, q = s n := ⟨_, rfl⟩
   have HQ := Lib.hid hq
   rw [← hq] at hpj
   have hms := memJ_succ p j
   rw [hpj] at hms
   have HM := Lib.hid hms
   have HLN := Lib.hid (memJ_len p j)
   have HJ2 := Lib.hid (show j < 256 by have := HL.out; omega)
   have HJ3 := Lib.hid hjl
   have hj62 : j ≤ 4611686018427387904 := by have := HJ2.out; omega
   have e3 := wrap_one j hj62
   have e4 := wrap_one' j hj62
   clear hcell hc hcj hn hq hms hpj hlt hj62 hb0 hjl hj
   go_wp2_with ((with_reducible refine atDst 15 ?_); refine wpList_ldArr rfl 26 _ rfl w.heap.size rfl 26 _ _ KR.out Tryz.underlying26 rfl (size_set s) ?_; (try simp only [Act.put, qA, qB, qC]))
   refine (bsHas_any s n wr HN.out).mono ?_
   rintro e w3 ⟨rfl, hb3⟩
   rw [← HQ.out]
   have B3 := Lib.hid (HB.out.trans (hb3.mono HB.out.size))
   have O3 := Lib.hid (ownBelow HO.out hb3 (Nat.le_refl _))
   clear hb3
   cases q with
   | true =>
    have hw8 : IntKind.u8.wrap (j : Int) = (j : Int) := IntWalk.u8_in _ (by have := HJ2.out; omega)
    have R1 := Lib.hid (rowB (n := 1) (show Blk (w3.alloc (.cells #[.int .u8 (j : Int)] 5)) w3.heap.size 5 (bvs [UInt8.ofNat j]) by
     have := Blk.new w3 5 (bvs [UInt8.ofNat j])
     rw [show bvs [UInt8.ofNat j] = [.int .u8 (j : Int)] from congrArg (fun x => [x]) (bv_ofNat HJ2.out)] at this ⊢
     exact this) rfl (by omega))
    go_wp2_with ((with_reducible refine atDst 22 ?_); refine wpList_appR (w0 := w2) rfl (.tmp 18) (.tmp 21) 22 rfl 5 i1 (.int .u8 0) 1 Tryz.underlying22 hi1 hy0 hy1 hy2 rfl _ _ _ rfl (O3.out.alloc _) _ (bvs [UInt8.ofNat j]) rfl R1.out (bvs_one _) (by have := HLN.out; have := HJ2.out; rw [bvs_length]; simp; omega) (by omega) (B3.out.alloc B3.out.size _) ?_; intro v3 w4 ho4 _ hb4 _; have O4 := Lib.hid ho4; have B4 := Lib.hid hb4; clear ho4 hb4; (try simp only [Act.put, qA, qB, qC]))
    refine ⟨⟨j + 1, HJ3.out, by congr 1, ?_, B4.out⟩, by have := HJ3.out; simp [intOf] <;> omega⟩
    rw [HM.out]
    simp only [if_true, bvs_append, List.length_append]
    exact O4.out
   | false =>
    go_wp2_with fail
    refine ⟨⟨j + 1, HJ3.out, by congr 1, ?_, B3.out⟩, by have := HJ3.out; simp [intOf] <;> omega⟩
    rw [HM.out]
    simp only [Bool.false_eq_true, if_false]
    exact O3.out
  ·obtain rfl : j = l.length := by omega
   have j1 : ¬ ((l.length : Int) < (l.length : Int)) := by omega
   have HR := Lib.hid (Row.of_own HO.out)
   have HLN := Lib.hid (memJ_len p l.length)
   have K9 := Lib.hid (L2.out.below HB.out L2.out.lt)
   have B9 := Lib.hid (B2.out.trans (HB.out.mono B2.out.size))
   clear HO
   go_wp2_with fail
   refine (bsOf_any _ (memJ p l.length) wr HR.out (by have := HLN.out; have := HL.out; omega)).mono ?_
   rintro e w4 ⟨rfl, hb4⟩
   rw [HWM.out]
   have K10 := Lib.hid (K9.out.below hb4 K9.out.lt)
   have B10 := Lib.hid (B9.out.trans (hb4.mono B9.out.size))
   clear hb4
   go_wp2_with ((with_reducible refine atStore 26 4 25 ?_); refine wpList_stBlk rfl 26 _ _ rfl w1.heap.size (wds p) rfl rfl 26 _ K10.out (size_set p) rfl (wds_all _) B10.out B1.out.size ?_; intro w5 hk5 hb5 hs5 _; have K5 := Lib.hid hk5; have B5 := Lib.hid hb5; clear hk5 hb5)
   refine bodyPost_ret (results_blk rfl _ _ w1.heap.size 26 _ _ rfl K5.out Tryz.underlying26 rfl (size_set p)) rfl ?_
   exact ⟨rfl, B5.out⟩
end Go.Proofs.YtopnpdobcagcgaaGreat
