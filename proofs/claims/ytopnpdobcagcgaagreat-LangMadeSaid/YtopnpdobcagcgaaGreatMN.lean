/-
  Texts of this proof, put together: LwP, BsA, BsO, BsB. No statement is proved here.
-/
import Derived.Test.YtopnpdobcagcgaaGreatMM
import Derived.Test.YtopnpdobcagcgaaGreatMB
namespace Go.Proofs.YtopnpdobcagcgaaGreat
open Go.RowKit
set_option linter.unusedSimpArgs false
set_option linter.unusedVariables false
theorem flatT_cons (k : Int) (t : T) (r : List T) : flatT k (t :: r) = (if t.kind = k then t.args else [t]) ++ flatT k r := by simp [flatT]
theorem flatT_nil (k : Int) : flatT k [] = [] := rfl
theorem anyK_app (k : Int) (a b : List T) : anyK k (a ++ b) = (anyK k a || anyK k b) := by simp [anyK]
theorem withoutT_app (k : Int) (a b : List T) : withoutT k (a ++ b) = withoutT k a ++ withoutT k b := by simp [withoutT]
theorem withoutT_id {k : Int} {l : List T} (h : ∀ t ∈ l, t.kind ≠ k) : withoutT k l = l := List.filter_eq_self.2 fun t ht => by simpa using h t ht
theorem cat_one {y : T} (h : good y) : catT [y] = y := by
 by_cases h4 : y.kind = 4
 ·have e : catT [y] = catT y.args := by
   unfold catT
   have hk : flatT 4 [y] = flatT 4 y.args := by
    rw [flatT_cons, if_pos h4, flatT_nil, List.append_nil]
    cases y with
    | node k s l =>
     have h4 : k = 4 := h4
     subst h4
     have hf := (good_node.1 h).2.2.2.2.1
     show l = flatT 4 l
     have : ∀ m : List T, (∀ t ∈ m, t.kind ≠ 4) → m = flatT 4 m := fun m hm => by
      induction m with
      | nil => rfl
      | cons a r ih =>
       rw [flatT_cons, if_neg (hm a (by simp)), ← ih fun t ht => hm t (by simp [ht])]
       rfl
     exact this l fun t ht => (fits4 (hf t ht)).2.2
   rw [hk]
  rw [e, cat_args h h4]
 ·exact cat_of_one h h4
theorem cat_nest {s : T} {r : List T} (hs : good s) (hr : ∀ t ∈ r, good t) : catT [s, catT r] = catT (s :: r) := by
 have hk4 := flat_kind (k := 4) (.inl rfl) hr
 unfold catT
 rw [flatT_cons, flatT_cons, flatT_nil, List.append_nil, flatT_cons]
 generalize hF : (if s.kind = 4 then s.args else [s]) = F
 cases ha : anyK 1 (flatT 4 r) with
 | true =>
  have e : (if True then noneT else wrapT 4 emptyT (withoutT 2 (flatT 4 r))) = noneT := rfl
  rw [if_pos rfl]
  have h1 : anyK 1 (F ++ if noneT.kind = 4 then noneT.args else [noneT]) = true := by
   rw [anyK_app, show anyK 1 (if noneT.kind = 4 then noneT.args else [noneT]) = true from rfl, Bool.or_true]
  rw [if_pos h1, if_pos (by rw [anyK_app, ha, Bool.or_true])]
 | false =>
  simp only [Bool.false_eq_true, if_false]
  have key : anyK 1 (if (wrapT 4 emptyT (withoutT 2 (flatT 4 r))).kind = 4 then (wrapT 4 emptyT (withoutT 2 (flatT 4 r))).args else [wrapT 4 emptyT (withoutT 2 (flatT 4 r))]) = false ∧
    withoutT 2 (if (wrapT 4 emptyT (withoutT 2 (flatT 4 r))).kind = 4 then (wrapT 4 emptyT (withoutT 2 (flatT 4 r))).args else [wrapT 4 emptyT (withoutT 2 (flatT 4 r))]) = withoutT 2 (flatT 4 r) := by
   have hn1 : ∀ t ∈ withoutT 2 (flatT 4 r), t.kind ≠ 1 := fun t ht h => by
    have : anyK 1 (flatT 4 r) = true := List.any_eq_true.2 ⟨t, (List.mem_filter.1 ht).1, by simpa using h⟩
    rw [ha] at this
    cases this
   have hn4 : ∀ t ∈ withoutT 2 (flatT 4 r), t.kind ≠ 4 := fun t ht => hk4 t (List.mem_filter.1 ht).1
   have hn2 : ∀ t ∈ withoutT 2 (flatT 4 r), t.kind ≠ 2 := without_kind
   match hE : withoutT 2 (flatT 4 r) with
   | [] => exact ⟨rfl, rfl⟩
   | [t] =>
    rw [hE] at hn1 hn4 hn2
    have a1 := hn1 t (by simp)
    have a4 := hn4 t (by simp)
    have a2 := hn2 t (by simp)
    show anyK 1 (if t.kind = 4 then t.args else [t]) = false ∧ withoutT 2 (if t.kind = 4 then t.args else [t]) = [t]
    rw [if_neg a4]
    exact ⟨by simp [anyK, a1], withoutT_id (by simpa using a2)⟩
   | a :: b :: m =>
    rw [hE] at hn1 hn2
    show anyK 1 (if (4 : Int) = 4 then a :: b :: m else _) = false ∧ withoutT 2 (if (4 : Int) = 4 then a :: b :: m else _) = a :: b :: m
    rw [if_pos rfl]
    refine ⟨?_, withoutT_id hn2⟩
    unfold anyK
    rw [List.any_eq_false]
    intro t ht
    simpa using hn1 t ht
  rw [anyK_app, key.1, withoutT_app, key.2, anyK_app, ha, withoutT_app]
theorem can_ext {p q : Nat → Bool} (hp : canS p) (hq : canS q) (h : ∀ b, b < 256 → p b = q b) : p = q := by
 funext b
 by_cases hb : b < 256
 ·exact h b hb
 ·rw [hp b (by omega), hq b (by omega)]
theorem orT_app (a b : List T) : orT (a ++ b) = fun x => orT a x || orT b x := by funext x; simp [orT]
theorem mem_items {E : List T} {x : T} : x ∈ itemsT E ↔ (x ∈ E ∧ x.kind ≠ 3) ∨ (eqS (orT E) zeroS = false ∧ x = .node 3 (orT E) []) := by
 unfold itemsT
 rw [List.mem_append]
 constructor
 ·rintro (h | h)
  ·have := List.mem_filter.1 h
   exact .inl ⟨this.1, by simpa using this.2⟩
  ·cases hs : eqS (orT E) zeroS with
   | true => rw [hs] at h; simp at h
   | false => rw [hs] at h; exact .inr ⟨rfl, by simpa using h⟩
 ·rintro (⟨h, h3⟩ | ⟨h, rfl⟩)
  ·exact .inl (List.mem_filter.2 ⟨h, by simpa using h3⟩)
  ·rw [h]; exact .inr (by simp)
theorem alt_nest {w : T} {L : List T} (hw : good w) (hL : ∀ t ∈ L, good t) : altT [w, altT L] = altT (w :: L) := by
 have hgL := good_without (k := 1) (good_flat (k := 5) hL)
 have hiL := good_items hgL
 have hmS := fun t => sortU_mem hiL t
 have hor : orT (sortU (itemsT (withoutT 1 (flatT 5 L)))) = orT (withoutT 1 (flatT 5 L)) := by
  refine can_ext (can_or fun t ht => hiL t ((hmS t).1 ht)) (can_or hgL) fun b hb => ?_
  rw [Bool.eq_iff_iff]
  unfold orT
  rw [List.any_eq_true, List.any_eq_true]
  constructor
  ·rintro ⟨t, ht, h⟩
   rw [Bool.and_eq_true, decide_eq_true_eq] at h
   rcases mem_items.1 ((hmS t).1 ht) with ⟨_, h3⟩ | ⟨_, rfl⟩
   ·exact absurd h.1 h3
   ·exact List.any_eq_true.1 (show List.any (withoutT 1 (flatT 5 L)) (fun t => decide (t.kind = 3) && t.set b) = true from h.2)
  ·rintro ⟨t, ht, h⟩
   have ho : orT (withoutT 1 (flatT 5 L)) b = true := List.any_eq_true.2 ⟨t, ht, h⟩
   refine ⟨.node 3 (orT (withoutT 1 (flatT 5 L))) [], (hmS _).2 (mem_items.2 (.inr ⟨?_, rfl⟩)), by simpa [T.kind, T.set] using ho⟩
   cases he : eqS (orT (withoutT 1 (flatT 5 L))) zeroS with
   | false => rfl
   | true =>
    have := (eqS_iff _ _).1 he b hb
    rw [ho] at this
    cases this
 have hk1 : ∀ t ∈ sortU (itemsT (withoutT 1 (flatT 5 L))), t.kind ≠ 1 ∧ t.kind ≠ 5 := fun t ht => by
  rcases mem_items.1 ((hmS t).1 ht) with ⟨h, _⟩ | ⟨_, rfl⟩
  ·exact ⟨without_kind t h, flat_kind (k := 5) (.inr rfl) hL t (List.mem_filter.1 h).1⟩
  ·exact ⟨by show (3 : Int) ≠ 1; omega, by show (3 : Int) ≠ 5; omega⟩
 have hZ : withoutT 1 (if (altT L).kind = 5 then (altT L).args else [altT L]) = sortU (itemsT (withoutT 1 (flatT 5 L))) := by
  have e : altT L = wrapT 5 noneT (sortU (itemsT (withoutT 1 (flatT 5 L)))) := rfl
  rw [e]
  match hS : sortU (itemsT (withoutT 1 (flatT 5 L))) with
  | [] => rfl
  | [t] =>
   rw [hS] at hk1
   have a := hk1 t (by simp)
   show withoutT 1 (if t.kind = 5 then t.args else [t]) = [t]
   rw [if_neg a.2]
   exact withoutT_id (by simpa using a.1)
  | a :: b :: m =>
   rw [hS] at hk1
   show withoutT 1 (if (5 : Int) = 5 then a :: b :: m else _) = a :: b :: m
   rw [if_pos rfl]
   exact withoutT_id fun t ht => (hk1 t ht).1
 have hgw : ∀ t ∈ withoutT 1 (if w.kind = 5 then w.args else [w]), good t := by
  have := good_without (k := 1) (good_flat (k := 5) (l := [w]) (by simpa using hw))
  rwa [flatT_cons, flatT_nil, List.append_nil] at this
 show wrapT 5 noneT (sortU (itemsT (withoutT 1 (flatT 5 [w, altT L])))) = wrapT 5 noneT (sortU (itemsT (withoutT 1 (flatT 5 (w :: L)))))
 rw [flatT_cons, flatT_cons, flatT_nil, List.append_nil, flatT_cons, withoutT_app, withoutT_app, hZ]
 generalize hX : withoutT 1 (if w.kind = 5 then w.args else [w]) = X at hgw ⊢
 generalize hY : withoutT 1 (flatT 5 L) = Y at *
 congr 1
 have hO : orT (X ++ sortU (itemsT Y)) = orT (X ++ Y) := by rw [orT_app, orT_app, hor]
 have hg1 : ∀ t ∈ itemsT (X ++ sortU (itemsT Y)), good t := good_items fun t ht => by
  rcases List.mem_append.1 ht with h | h
  ·exact hgw t h
  ·exact hiL t ((hmS t).1 h)
 have hg2 : ∀ t ∈ itemsT (X ++ Y), good t := good_items fun t ht => by
  rcases List.mem_append.1 ht with h | h
  ·exact hgw t h
  ·exact hgL t h
 refine asc_ext (sortU_asc _) (sortU_asc _) fun x => ?_
 rw [sortU_mem hg1, sortU_mem hg2, mem_items, mem_items, hO, List.mem_append, List.mem_append, hmS, mem_items]
 constructor
 ·rintro (⟨h | ⟨h, _⟩ | ⟨_, rfl⟩, h3⟩ | h)
  ·exact .inl ⟨.inl h, h3⟩
  ·exact .inl ⟨.inr h, h3⟩
  ·exact absurd rfl h3
  ·exact .inr h
 ·rintro (⟨h | h, h3⟩ | h)
  ·exact .inl ⟨.inl h, h3⟩
  ·exact .inl ⟨.inr (.inl ⟨h, h3⟩), h3⟩
  ·exact .inr h
theorem alt_one {x : T} (h : good x) : altT [x] = x := by
 by_cases h5 : x.kind = 5
 ·have e : altT [x] = altT x.args := by
   have hk : flatT 5 [x] = flatT 5 x.args := by
    rw [flatT_cons, if_pos h5, flatT_nil, List.append_nil]
    cases x with
    | node k s l =>
     have h5 : k = 5 := h5
     subst h5
     have hf := (good_node.1 h).2.2.2.2.1
     show l = flatT 5 l
     have : ∀ m : List T, (∀ t ∈ m, t.kind ≠ 5) → m = flatT 5 m := fun m hm => by
      induction m with
      | nil => rfl
      | cons a r ih =>
       rw [flatT_cons, if_neg (hm a (by simp)), ← ih fun t ht => hm t (by simp [ht])]
       rfl
     exact this l fun t ht => (fits5 (hf t ht)).2
   unfold altT
   rw [hk]
  rw [e]
  cases x with
  | node k s l =>
   have h5 : k = 5 := h5
   subst h5
   exact alt_eq h
 ·exact alt_of_one h h5
/-! ### the steps do not ask how long they may go on -/
theorem stepF_fuel : ∀ (N : Nat) (t : T), t.nodes ≤ N → good t → ∀ (M : Nat), N ≤ M → ∀ b : UInt8, stepF M t b.toNat = stepF N t b.toNat := by
 intro N
 induction N with
 | zero => intro t h; have := nodes_pos t; omega
 | succ N ih =>
  rintro ⟨k, s, l⟩ hN hg M hM b
  obtain ⟨M, rfl⟩ : ∃ M', M = M' + 1 := ⟨M - 1, by omega⟩
  have hgl := (good_node.1 hg).2.1
  have hnl : ∀ t ∈ l, t.nodes ≤ N := fun t ht => by
   have := nodes_mem (l := l) ht
   simp only [T.nodes] at hN
   omega
  rw [stepF, stepF]
  show (if k = 3 then _ else if k = 5 then altT (l.map fun x => stepF M x b.toNat) else if k = 6 then catT [stepF M (l.headD noneT) b.toNat, _] else if k = 4 then (if nullT (l.headD noneT) = true then altT [catT [stepF M (l.headD noneT) b.toNat, catT l.tail], stepF M (catT l.tail) b.toNat] else catT [stepF M (l.headD noneT) b.toNat, catT l.tail]) else _) =
   (if k = 3 then _ else if k = 5 then altT (l.map fun x => stepF N x b.toNat) else if k = 6 then catT [stepF N (l.headD noneT) b.toNat, _] else if k = 4 then (if nullT (l.headD noneT) = true then altT [catT [stepF N (l.headD noneT) b.toNat, catT l.tail], stepF N (catT l.tail) b.toNat] else catT [stepF N (l.headD noneT) b.toNat, catT l.tail]) else _)
  by_cases h3 : k = 3
  ·rw [if_pos h3, if_pos h3]
  rw [if_neg h3, if_neg h3]
  by_cases h5 : k = 5
  ·rw [if_pos h5, if_pos h5]
   congr 1
   exact List.map_congr_left fun x hx => ih x (hnl x hx) (hgl x hx) M (by omega) b
  rw [if_neg h5, if_neg h5]
  by_cases h6 : k = 6
  ·subst h6
   obtain ⟨x, rfl, _⟩ := star_one hg
   rw [if_pos rfl, if_pos rfl]
   show catT [stepF M x b.toNat, _] = catT [stepF N x b.toNat, _]
   rw [ih x (hnl x (by simp)) (hgl x (by simp)) M (by omega) b]
  rw [if_neg h6, if_neg h6]
  by_cases h4 : k = 4
  ·subst h4
   have hc := (good_node.1 hg).2.2.2.1
   rw [count45 (.inl rfl)] at hc
   cases l with
   | nil => simp at hc
   | cons a r =>
    obtain ⟨j1, j2, _⟩ := tail_cat hg
    rw [if_pos rfl, if_pos rfl]
    show (if nullT a = true then altT [catT [stepF M a b.toNat, catT r], stepF M (catT r) b.toNat] else catT [stepF M a b.toNat, catT r]) = (if nullT a = true then altT [catT [stepF N a b.toNat, catT r], stepF N (catT r) b.toNat] else catT [stepF N a b.toNat, catT r])
    rw [ih a (hnl a (by simp)) (hgl a (by simp)) M (by omega) b, ih (catT r) (by omega) j1 M (by omega) b]
  rw [if_neg h4, if_neg h4]
def stepT (t : T) (b : Nat) : T := stepF t.nodes t b
theorem stepT_of {N : Nat} {t : T} (hN : t.nodes ≤ N) (hg : good t) (b : UInt8) : stepF N t b.toNat = stepT t b.toNat := stepF_fuel t.nodes t (Nat.le_refl _) hg N hN b
theorem stepT_lg {t : T} (hg : good t) (b : UInt8) : good (stepT t b.toNat) ∧ ∀ w, Lg (stepT t b.toNat) w ↔ Lg t (b :: w) := step_lg t.nodes t (Nat.le_refl _) hg b
def waysT : List T → Nat → List T
 | [], _ => []
 | x :: r, b => catT (stepT x b :: r) :: if nullT x then waysT r b else []
theorem step_set {s : Nat → Bool} {l : List T} (b : Nat) : stepT (.node 3 s l) b = if s b then emptyT else noneT := by
 unfold stepT
 obtain ⟨N, hN⟩ : ∃ N, (T.node 3 s l).nodes = N + 1 := ⟨nodesL l, by simp only [T.nodes]; omega⟩
 rw [hN, stepF]
 rfl
theorem step_alt {s : Nat → Bool} {l : List T} (hg : good (.node 5 s l)) (b : UInt8) : stepT (.node 5 s l) b.toNat = altT (l.map fun x => stepT x b.toNat) := by
 unfold stepT
 obtain ⟨N, hN, hNl⟩ : ∃ N, (T.node 5 s l).nodes = N + 1 ∧ N = nodesL l := ⟨nodesL l, by simp only [T.nodes]; omega, rfl⟩
 rw [hN, stepF]
 show altT (l.map fun x => stepF N x b.toNat) = _
 congr 1
 exact List.map_congr_left fun x hx => stepT_of (by rw [hNl]; exact nodes_mem hx) ((good_node.1 hg).2.1 x hx) b
theorem step_star {s : Nat → Bool} {x : T} (hg : good (.node 6 s [x])) (b : UInt8) : stepT (.node 6 s [x]) b.toNat = catT [stepT x b.toNat, .node 6 s [x]] := by
 rw [show stepT (.node 6 s [x]) b.toNat = stepF (T.node 6 s [x]).nodes (.node 6 s [x]) b.toNat from rfl]
 obtain ⟨N, hN, hNl⟩ : ∃ N, (T.node 6 s [x]).nodes = N + 1 ∧ N = nodesL [x] := ⟨nodesL [x], by simp only [T.nodes]; omega, rfl⟩
 rw [hN, stepF]
 show catT [stepF N x b.toNat, .node 6 s [x]] = _
 rw [stepT_of (by rw [hNl]; exact nodes_mem (by simp)) ((good_node.1 hg).2.1 x (by simp)) b]
theorem step_cat {s : Nat → Bool} {a : T} {r : List T} (hg : good (.node 4 s (a :: r))) (b : UInt8) : stepT (.node 4 s (a :: r)) b.toNat =
  if nullT a then altT [catT [stepT a b.toNat, catT r], stepT (catT r) b.toNat] else catT [stepT a b.toNat, catT r] := by
 rw [show stepT (.node 4 s (a :: r)) b.toNat = stepF (T.node 4 s (a :: r)).nodes (.node 4 s (a :: r)) b.toNat from rfl]
 obtain ⟨N, hN, hNl⟩ : ∃ N, (T.node 4 s (a :: r)).nodes = N + 1 ∧ N = nodesL (a :: r) := ⟨nodesL (a :: r), by simp only [T.nodes]; omega, rfl⟩
 obtain ⟨j1, j2, _⟩ := tail_cat hg
 rw [hN, stepF]
 show (if nullT a = true then altT [catT [stepF N a b.toNat, catT r], stepF N (catT r) b.toNat] else catT [stepF N a b.toNat, catT r]) = _
 rw [stepT_of (t := a) (by rw [hNl]; exact nodes_mem (by simp)) ((good_node.1 hg).2.1 a (by simp)) b, stepT_of (t := catT r) (by omega) j1 b]
theorem step_no {k : Int} {s : Nat → Bool} {l : List T} (h3 : k ≠ 3) (h4 : k ≠ 4) (h5 : k ≠ 5) (h6 : k ≠ 6) (b : Nat) : stepT (.node k s l) b = noneT := by
 unfold stepT
 obtain ⟨N, hN⟩ : ∃ N, (T.node k s l).nodes = N + 1 := ⟨nodesL l, by simp only [T.nodes]; omega⟩
 rw [hN, stepF]
 show (if k = 3 then _ else if k = 5 then _ else if k = 6 then _ else if k = 4 then _ else noneT) = noneT
 rw [if_neg h3, if_neg h5, if_neg h6, if_neg h4]
theorem ways_good : ∀ {l : List T} (hl : ∀ t ∈ l, good t) (b : UInt8), ∀ t ∈ waysT l b.toNat, good t
 | [], _, _, t, ht => by cases ht
 | x :: r, hl, b, t, ht => by
  rw [waysT] at ht
  rcases List.mem_cons.1 ht with rfl | ht
  ·exact good_cat fun u hu => by
    rcases List.mem_cons.1 hu with rfl | hu
    ·exact (stepT_lg (hl x (by simp)) b).1
    ·exact hl u (by simp [hu])
  ·split at ht
   ·exact ways_good (fun u hu => hl u (by simp [hu])) b t ht
   ·cases ht
theorem step_ways (b : UInt8) : ∀ (l : List T), l ≠ [] → (∀ t ∈ l, good t ∧ fitsT t.kind 4 = true) → stepT (catT l) b.toNat = altT (waysT l b.toNat)
 | [], h, _ => absurd rfl h
 | [y], _, hl => by
  have hy := hl y (by simp)
  have hs := (stepT_lg hy.1 b).1
  rw [cat_one hy.1, waysT, waysT, cat_one hs]
  simp only [ite_self]
  exact (alt_one hs).symm
 | y :: z :: r, _, hl => by
  have hg : good (.node 4 zeroS (y :: z :: r)) := good_node.2 ⟨can_zero, fun t ht => (hl t ht).1, .inr rfl, by simp [countT], fun t ht => (hl t ht).2, fun h => by omega⟩
  have hr : ∀ t ∈ z :: r, good t := fun t ht => (hl t (List.mem_cons_of_mem _ ht)).1
  have hs := (stepT_lg (hl y (by simp)).1 b).1
  have ih := step_ways b (z :: r) (by simp) fun t ht => hl t (List.mem_cons_of_mem _ ht)
  have hc : ∀ t ∈ stepT y b.toNat :: z :: r, good t := fun t ht => by
   rcases List.mem_cons.1 ht with rfl | ht
   ·exact hs
   ·exact hr t ht
  have hw : waysT (y :: z :: r) b.toNat = catT (stepT y b.toNat :: z :: r) :: (if nullT y then waysT (z :: r) b.toNat else []) := by rw [waysT]
  rw [cat_eq hg, step_cat hg b, cat_nest hs hr, ih, hw]
  by_cases hn : nullT y = true
  ·rw [if_pos hn, if_pos hn]
   exact alt_nest (good_cat hc) (ways_good hr b)
  ·rw [if_neg hn, if_neg hn]
   exact (alt_one (good_cat hc)).symm
theorem step_cat_ways {s : Nat → Bool} {l : List T} (hg : good (.node 4 s l)) (b : UInt8) : stepT (.node 4 s l) b.toNat = altT (waysT l b.toNat) := by
 have h := good_node.1 hg
 have hc := h.2.2.2.1
 rw [count45 (.inl rfl)] at hc
 have hc : 2 ≤ l.length := by simpa using hc
 rw [← step_ways b l (by rintro rfl; simp at hc) fun t ht => ⟨h.2.1 t ht, h.2.2.2.2.1 t ht⟩, cat_eq hg]
/-! ### how great a step is -/
theorem ways_nodes {q : Nat} (b : Nat) : ∀ {l : List T}, (∀ x ∈ l, (stepT x b).nodes ≤ x.nodes * q) → nodesL (waysT l b) ≤ nodesL l * q + l.length * (2 + nodesL l)
 | [], _ => by simp [waysT, nodesL]
 | x :: r, h => by
  have ih := ways_nodes b (l := r) fun y hy => h y (by simp [hy])
  have hx := h x (by simp)
  have hc := catT_nodes (stepT x b :: r)
  have h1 : nodesL (waysT (x :: r) b) ≤ (catT (stepT x b :: r)).nodes + nodesL (waysT r b) := by
   rw [waysT]
   split <;> simp only [nodesL] <;> omega
  have h2 : nodesL (stepT x b :: r) = (stepT x b).nodes + nodesL r := rfl
  have h3 : nodesL (x :: r) = x.nodes + nodesL r := rfl
  have h4 : (x.nodes + nodesL r) * q = x.nodes * q + nodesL r * q := Nat.add_mul _ _ _
  have h5 : (r.length + 1) * (2 + (x.nodes + nodesL r)) = r.length * (2 + (x.nodes + nodesL r)) + (2 + (x.nodes + nodesL r)) := Nat.succ_mul _ _
  have h6 : r.length * (2 + nodesL r) ≤ r.length * (2 + (x.nodes + nodesL r)) := Nat.mul_le_mul_left _ (by omega)
  rw [h3, List.length_cons, h4, h5]
  omega
theorem map_nodes {q : Nat} (b : Nat) : ∀ {l : List T}, (∀ x ∈ l, (stepT x b).nodes ≤ x.nodes * q) → nodesL (l.map fun x => stepT x b) ≤ nodesL l * q
 | [], _ => by simp [nodesL]
 | x :: r, h => by
  have ih := map_nodes b (l := r) fun y hy => h y (by simp [hy])
  have hx := h x (by simp)
  simp only [List.map_cons, nodesL]
  rw [Nat.add_mul]
  omega
theorem sq_mono {m n : Nat} (h : m ≤ n) : (m + 2) * (m + 2) ≤ (n + 2) * (n + 2) := Nat.mul_le_mul (by omega) (by omega)
theorem step_nodes (b : UInt8) : ∀ (N : Nat) (t : T), t.nodes ≤ N → good t → (stepT t b.toNat).nodes ≤ t.nodes * ((t.nodes + 2) * (t.nodes + 2)) := by
 intro N
 induction N with
 | zero => intro t h; have := nodes_pos t; omega
 | succ N ih =>
  rintro ⟨k, s, l⟩ hN hg
  obtain ⟨n, hn⟩ : ∃ n, n = (T.node k s l).nodes := ⟨_, rfl⟩
  have hnl : n = 1 + nodesL l := by rw [hn]; simp only [T.nodes]
  have hgl := (good_node.1 hg).2.1
  have hq : ∀ x ∈ l, (stepT x b.toNat).nodes ≤ x.nodes * ((n + 2) * (n + 2)) := fun x hx => by
   have h1 := nodes_mem hx
   refine Nat.le_trans (ih x (by omega) (hgl x hx)) (Nat.mul_le_mul_left _ (sq_mono (by omega)))
  rw [← hn]
  obtain ⟨q, hqq⟩ : ∃ q, q = (n + 2) * (n + 2) := ⟨_, rfl⟩
  have e1 : n * q = nodesL l * q + q := by rw [hnl, Nat.add_mul, Nat.one_mul, Nat.add_comm]
  have e2 : (n + 2) * (n + 2) = n * n + 4 * n + 4 := by
   rw [Nat.add_mul, Nat.mul_add, Nat.mul_add]
   omega
  rw [← hqq] at hq ⊢
  by_cases h3 : k = 3
  ·subst h3
   rw [step_set]
   have : (if s b.toNat = true then emptyT else noneT).nodes ≤ 1 := by split <;> exact Nat.le_refl _
   omega
  by_cases h5 : k = 5
  ·subst h5
   rw [step_alt hg b]
   have h1 := altT_nodes (l.map fun x => stepT x b.toNat)
   have h2 := map_nodes b.toNat hq
   omega
  by_cases h6 : k = 6
  ·subst h6
   obtain ⟨x, rfl, _⟩ := star_one hg
   rw [step_star hg b]
   have h1 := catT_nodes [stepT x b.toNat, .node 6 s [x]]
   have h2 := hq x (by simp)
   have h3 : nodesL [stepT x b.toNat, .node 6 s [x]] = (stepT x b.toNat).nodes + (T.node 6 s [x]).nodes := by simp only [nodesL]; omega
   have h4 : nodesL [x] = x.nodes := by simp only [nodesL]; omega
   rw [h4] at e1
   omega
  by_cases h4 : k = 4
  ·subst h4
   rw [step_cat_ways hg b]
   have h1 := altT_nodes (waysT l b.toNat)
   have h2 := ways_nodes b.toNat hq
   have h3 := len_nodes l
   have h4 : l.length * (2 + nodesL l) ≤ n * (n + 1) := Nat.mul_le_mul (by omega) (by omega)
   have h5 : n * (n + 1) = n * n + n := by rw [Nat.mul_add, Nat.mul_one]
   omega
  ·rw [step_no h3 h4 h5 h6]
   have : noneT.nodes = 1 := rfl
   omega
theorem step_few {t : T} (hg : good t) (b : UInt8) (h : t.nodes ≤ 2000) : (stepT t b.toNat).nodes ≤ 8016008000 := by
 refine Nat.le_trans (step_nodes b _ t (Nat.le_refl _) hg) ?_
 exact Nat.le_trans (Nat.mul_le_mul h (Nat.mul_le_mul (Nat.add_le_add_right h 2) (Nat.add_le_add_right h 2))) (by decide)
theorem steps_q {l : List T} (hg : ∀ t ∈ l, good t) (b : UInt8) (h : nodesL l ≤ 2000) : ∀ x ∈ l, (stepT x b.toNat).nodes ≤ x.nodes * 4008004 := fun x hx => by
 have h1 := nodes_mem hx
 refine Nat.le_trans (step_nodes b _ x (Nat.le_refl _) (hg x hx)) (Nat.mul_le_mul_left _ ?_)
 exact Nat.le_trans (Nat.mul_le_mul (Nat.add_le_add_right (Nat.le_trans h1 h) 2) (Nat.add_le_add_right (Nat.le_trans h1 h) 2)) (by decide)
theorem ways_few {l : List T} (hg : ∀ t ∈ l, good t) (b : UInt8) (h : nodesL l ≤ 2000) : nodesL (waysT l b.toNat) ≤ 9000000000 := by
 have h1 := ways_nodes b.toNat (steps_q hg b h)
 have h2 : nodesL l * 4008004 ≤ 2000 * 4008004 := Nat.mul_le_mul_right _ h
 have h3 := len_nodes l
 have h4 : l.length * (2 + nodesL l) ≤ 2000 * 2002 := Nat.mul_le_mul (by omega) (by omega)
 omega
theorem alts_few {l : List T} (hg : ∀ t ∈ l, good t) (b : UInt8) (h : nodesL l ≤ 2000) : nodesL (l.map fun x => stepT x b.toNat) ≤ 9000000000 := by
 have h1 := map_nodes b.toNat (steps_q hg b h)
 have h2 : nodesL l * 4008004 ≤ 2000 * 4008004 := Nat.mul_le_mul_right _ h
 omega
theorem has_bit2 (x k : Nat) (hx : x < 18446744073709551616) : (bits .and .u64 ((x : Int) / 2 ^ k) 1 == 1) = decide (x / 2 ^ k % 2 = 1) := by
 have e : (2 ^ k : Int) = ((2 ^ k : Nat) : Int) := by rw [Int.natCast_pow]; rfl
 have hlt : x / 2 ^ k < 18446744073709551616 := Nat.lt_of_le_of_lt (Nat.div_le_self _ _) hx
 rw [e, ← Int.natCast_ediv]
 generalize x / 2 ^ k = y at hlt
 rw [show (1 : Int) = ((1 : Nat) : Int) from rfl, u64_and_nat y 1 hlt (by omega), Nat.and_one_is_mod, Bool.eq_iff_iff, beq_iff_eq, decide_eq_true_iff]
 omega
set_option maxHeartbeats 1000000 in
theorem bsHas_any (p : Nat → Bool) (b : Nat) (w : World) (hb : b < 256) :
  Calls Tryz.prog 30 #[.agg (wds p).toArray, .int .u8 (b : Int)] w fun e w' => e = .returned (.bool (p b)) ∧ Below w.heap.size w w' := by
 obtain ⟨x, hx⟩ : ∃ x, x = word p (b / 64) := ⟨_, rfl⟩
 have hlt := word_lt p (b / 64)
 have hsh := word_shift p b
 rw [← hx] at hlt hsh
 have HX := qH hx
 have HSH := qH hsh
 clear hx hsh
 go_enter Tryz.func30, Tryz.ntmps30
 go_wp2_with ((with_reducible refine atDst 2 ?_); refine wpList_box rfl 26 _ rfl (wds p) rfl (Below.refl w.heap.size w) (Nat.le_refl _) ?_; intro w1 hk1 hb1 hs1 _; have c1 := hk1.cell (b / 64); rw [wds_get p (b / 64) (by omega), ← HX.out] at c1; have B1 := qH hb1; clear hk1 hb1 hs1)
 go_ret
 refine ⟨?_, B1.out⟩
 rw [← HSH.out]
 refine congrArg (fun b => Ending.returned (.bool b)) ?_
 exact has_bit2 x _ hlt
set_option maxHeartbeats 2000000 in
set_option maxRecDepth 100000 in
theorem bsOf_any (v : Value) (l : List UInt8) (w : World) (hr : Row w v (bvs l)) (hl : l.length ≤ 1048576) :
  Calls Tryz.prog 70 #[v] w fun e w' => e = .returned (.agg (wds fun b => decide (UInt8.ofNat b ∈ l)).toArray) ∧ Below w.heap.size w w' := by
 have R0 := qH hr
 obtain ⟨A, cap, rfl, a1, a2, a0, a3⟩ := hr
 rw [bvs_length] at a1 R0 ⊢
 clear a3 a0 a2
 obtain ⟨i0, hi0, hz0⟩ := info_set
 obtain ⟨z, hz⟩ : ∃ z : Nat → Bool, z = fun _ => false := ⟨_, rfl⟩
 rw [← hz] at hz0
 have HZ := qH hz
 clear hz
 go_enter Tryz.func70, Tryz.ntmps70
 go_wp2_with ((with_reducible refine atDst 2 ?_); refine wpList_new rfl 26 rfl i0 _ (wds z) hi0 hz0 rfl (Below.refl w.heap.size w) (Nat.le_refl _) ?_; intro w1 hk1 hb1 hs1 _; have K1 := qH hk1; have B1 := qH hb1; clear hk1 hb1 hs1)
 go_loopw [7] (fun i wl => ∃ j : Nat, j ≤ l.length ∧ i = .int .i64 (j : Int) ∧ Blk wl w.heap.size 26 (wds fun b => decide (UInt8.ofNat b ∈ l.take j)) ∧ Below w.heap.size w wl) (fun i _ => l.length - (intOf i).toNat)
 case atStart => exact ⟨0, by omega, by simp, by simpa [HZ.out] using K1.out, B1.out⟩
 case round =>
  obtain ⟨j, hj, rfl, hk, hb⟩ := hrel
  have KR := qH hk
  have BR := qH hb
  clear hk hb
  by_cases hjl : j < l.length
  ·have i1 : (j : Int) < (l.length : Int) := by omega
   obtain ⟨b0, off, rfl, hb0, hcell⟩ := (R0.out.below BR.out).at_ (by rw [bvs_length]; omega)
   have hcj := hcell j _ (bvs_get l j l[j] (List.getElem?_eq_getElem hjl))
   obtain ⟨c, hc⟩ : ∃ c : UInt8, c = l[j] := ⟨_, rfl⟩
   rw [← hc] at hcj
   have HC := qH hc
   have hlt := c.toNat_lt
   obtain ⟨n, hn⟩ : ∃ n, n = c.toNat := ⟨_, rfl⟩
   have hcj' : wr.cell? ⟨b0, off + j, none⟩ = some (.int .u8 (n : Int)) := by rw [hn]; exact hcj
   rw [← hn] at hlt
   have HN := qH hn
   have hgc := KR.out.cell (n / 64)
   rw [wds_get _ (n / 64) (by omega)] at hgc
   obtain ⟨x, hx⟩ : ∃ x, x = word (fun b => decide (UInt8.ofNat b ∈ l.take j)) (n / 64) := ⟨_, rfl⟩
   rw [← hx] at hgc
   have hfz := KR.out.frozen (n / 64)
   have HX := qH hx
   have hlx : x < 18446744073709551616 := by rw [hx]; exact word_lt _ _
   have hsh := shl_bit (n % 64) (Nat.mod_lt _ (by omega))
   clear hcell hc hcj hn hx
   have hq1 : IntKind.u8.wrap ((n : Int) / 64) = ((n / 64 : Nat) : Int) := IntWalk.u8_in _ (by omega)
   have hq2 : ((n : Int).tmod 64) = ((n % 64 : Nat) : Int) := by rw [Int.tmod_eq_emod_of_nonneg (by omega)]; rfl
   have hq3 : (n : Int) / 64 < 4 := by omega
   have hq4 : 0 ≤ (n : Int) / 64 := by omega
   have hq5 : ((n : Int) / 64).toNat = n / 64 := by omega
   go_wp2_with fail
   refine ⟨⟨j + 1, by omega, by congr 1, ?_, (BR.out.setCell (p := ⟨w.heap.size, n / 64, none⟩) (Nat.le_refl _) _)⟩, by simp [intOf] <;> omega⟩
   rw [of_bits hlx (Nat.mod_lt n (by omega))]
   have hk := KR.out.set (n / 64) (.int .u64 ((x ||| 2 ^ (n % 64) : Nat) : Int))
   rw [HX.out, wds_put _ n (by omega)] at hk
   rw [HX.out]
   rw [wds_congr (q := fun b => decide (UInt8.ofNat b ∈ l.take j) || decide (b = n)) (fun b hb => ?_)]
   ·exact hk
   ·rw [List.take_succ_eq_append_getElem hjl, ← HC.out]
    exact mem_next b c n hb HN.out _
  ·obtain rfl : j = l.length := by omega
   have i1 : ¬ ((l.length : Int) < (l.length : Int)) := by omega
   have k9 := KR.out
   rw [List.take_length] at k9
   obtain ⟨q, hq⟩ : ∃ q : Nat → Bool, q = fun b => decide (UInt8.ofNat b ∈ l) := ⟨_, rfl⟩
   rw [← hq] at k9
   have K9 := qH k9
   have HQ := qH hq
   clear k9 hq KR
   go_wp2_with (first
    | ((with_reducible refine atDst 21 ?_); refine wpList_ldArr rfl 26 _ rfl w.heap.size rfl 26 _ _ K9.out Tryz.underlying26 rfl (size_set q) ?_)
    | ((with_reducible refine atStore 26 2 21 ?_); refine wpList_stBlk rfl 26 _ _ rfl w.heap.size (wds q) rfl rfl 26 _ K9.out (size_set q) rfl (wds_all _) BR.out (Nat.le_refl _) ?_; intro w3 hk3 hb3 hs3 _; have K3 := qH hk3; have B3 := qH hb3; clear hk3 hb3))
   refine bodyPost_ret (results_blk rfl _ _ w.heap.size 26 _ _ rfl K3.out Tryz.underlying26 rfl (size_set q)) rfl ?_
   exact ⟨by rw [HQ.out], B3.out⟩
def cutW (r : Nat → Bool) (j : Nat) : Nat → Bool := fun b => decide (b < 64 * j) && r b
theorem cutW_zero (r : Nat → Bool) : cutW r 0 = fun _ => false := by
 funext b
 simp [cutW]
theorem cutW_four (r : Nat → Bool) : wds (cutW r 4) = wds r := wds_congr fun b hb => by simp [cutW]; omega
theorem cutW_same (r : Nat → Bool) {i j : Nat} (h : i ≠ j) : word (cutW r j) i = word (cutW r (j + 1)) i := wd_congr fun k hk => by
 have : decide (64 * i + k < 64 * j) = decide (64 * i + k < 64 * (j + 1)) := decide_eq_decide.2 (by omega)
 simp only [cutW, this]
theorem cutW_here (r : Nat → Bool) (j : Nat) : word (cutW r (j + 1)) j = word r j := wd_congr fun k hk => by
 have : decide (64 * j + k < 64 * (j + 1)) = true := decide_eq_true (by omega)
 simp only [cutW, this, Bool.true_and]
theorem cutW_next (r : Nat → Bool) (j : Nat) (hj : j < 4) : (wds (cutW r j)).set j (.int .u64 (word r j : Int)) = wds (cutW r (j + 1)) := by
 rw [← cutW_here r j]
 match j, hj with
 | 0, _ => simp only [wds, List.set_cons_zero]; rw [cutW_same r (i := 1) (j := 0) (by omega), cutW_same r (i := 2) (j := 0) (by omega), cutW_same r (i := 3) (j := 0) (by omega)]
 | 1, _ => simp only [wds, List.set_cons_zero, List.set_cons_succ]; rw [cutW_same r (i := 0) (j := 1) (by omega), cutW_same r (i := 2) (j := 1) (by omega), cutW_same r (i := 3) (j := 1) (by omega)]
 | 2, _ => simp only [wds, List.set_cons_zero, List.set_cons_succ]; rw [cutW_same r (i := 0) (j := 2) (by omega), cutW_same r (i := 1) (j := 2) (by omega), cutW_same r (i := 3) (j := 2) (by omega)]
 | 3, _ => simp only [wds, List.set_cons_zero, List.set_cons_succ]; rw [cutW_same r (i := 0) (j := 3) (by omega), cutW_same r (i := 1) (j := 3) (by omega), cutW_same r (i := 2) (j := 3) (by omega)]
theorem word_not (p : Nat → Bool) (i : Nat) : (18446744073709551615 : Nat) ^^^ word p i = word (fun b => !p b) i := by
 rw [show (18446744073709551615 : Nat) = 2 ^ 64 - 1 from rfl]
 apply Nat.eq_of_testBit_eq
 intro j
 rw [Nat.testBit_xor, Nat.testBit_two_pow_sub_one]
 simp only [word, wd_bit]
 cases decide (j < 64) <;> simp
theorem word_low (n i : Nat) (k : Nat) (hk : k = min (n - 64 * i) 64) : 2 ^ k - 1 = word (fun b => decide (b < n)) i := by
 apply Nat.eq_of_testBit_eq
 intro j
 rw [Nat.testBit_two_pow_sub_one]
 simp only [word, wd_bit]
 rw [← Bool.decide_and, decide_eq_decide]
 omega
theorem low_val (n j k : Nat) (hk : k = min (n - 64 * j) 64) (hn : n ≤ 256) (hj : j < 4) :
  IntKind.u64.wrap (IntKind.u64.wrap (2 ^ (if 64 < if (n : Int) - (j : Int) * 64 < 0 then 0 else (n : Int) - (j : Int) * 64 then (64 : Int) else if (n : Int) - (j : Int) * 64 < 0 then 0 else (n : Int) - (j : Int) * 64).toNat) - 1) = ((2 ^ k - 1 : Nat) : Int) := by
 have e : (if 64 < if (n : Int) - (j : Int) * 64 < 0 then 0 else (n : Int) - (j : Int) * 64 then (64 : Int) else if (n : Int) - (j : Int) * 64 < 0 then 0 else (n : Int) - (j : Int) * 64).toNat = k := by
  rw [hk]
  split <;> split at * <;> omega
 rw [e]
 have e2 : (2 ^ k : Int) = ((2 ^ k : Nat) : Int) := by rw [Int.natCast_pow]; rfl
 rw [e2]
 by_cases h64 : k = 64
 ·rw [h64]
  decide
 ·have h : 2 ^ k < 2 ^ 64 := Nat.pow_lt_pow_right (by omega) (by omega)
  have h0 : 0 < 2 ^ k := Nat.pow_pos (by omega)
  generalize 2 ^ k = y at h h0
  rw [IntWalk.u64_in (y : Int) (by omega), IntWalk.u64_in _ (by omega)]
  omega
set_option maxHeartbeats 2000000 in
set_option maxRecDepth 100000 in
theorem bsOr_any (p q : Nat → Bool) (w : World) :
  Calls Tryz.prog 52 #[.agg (wds p).toArray, .agg (wds q).toArray] w fun e w' => e = .returned (.agg (wds fun b => Bool.or (p b) (q b)).toArray) ∧ Below w.heap.size w w' := by
 obtain ⟨r, hr⟩ : ∃ r : Nat → Bool, r = fun b => Bool.or (p b) (q b) := ⟨_, rfl⟩
 have HOP := qH (show ∀ i, HOr.hOr (word p i) (word q i) = word r i from fun i => by rw [hr]; exact word_or p q i)
 rw [← hr]
 clear hr
 obtain ⟨i0, hi0, hz0⟩ := info_set
 obtain ⟨z, hz⟩ : ∃ z : Nat → Bool, z = fun _ => false := ⟨_, rfl⟩
 rw [← hz] at hz0
 have HZ := qH hz
 clear hz
 go_enter Tryz.func52, Tryz.ntmps52
 go_wp2_with (first
  | ((with_reducible refine atDst 2 ?_); refine wpList_box rfl 26 _ rfl (wds p) rfl (Below.refl w.heap.size w) (Nat.le_refl _) ?_; intro w1 hk1 hb1 hs1 _; have K1 := qH hk1; have B1 := qH hb1; clear hk1 hb1 hs1)
  | ((with_reducible refine atDst 3 ?_); refine wpList_box rfl 26 _ rfl (wds q) rfl B1.out B1.out.size ?_; intro w2 hk2 hb2 hs2 ho2; have L2 := qH hk2; have B2 := qH hb2; have K2 := qH (show Blk w2 w.heap.size 26 (wds p) from (ho2 _ K1.out.lt).trans K1.out); clear hk2 hb2 hs2 ho2)
  | ((with_reducible refine atDst 4 ?_); refine wpList_new rfl 26 rfl i0 _ (wds z) hi0 hz0 rfl B2.out B2.out.size ?_; intro w3 hk3 hb3 hs3 ho3; have M3 := qH hk3; have B3 := qH hb3; have K3 := qH (show Blk w3 w.heap.size 26 (wds p) from (ho3 _ K2.out.lt).trans K2.out); have L3 := qH (show Blk w3 w1.heap.size 26 (wds q) from (ho3 _ L2.out.lt).trans L2.out); clear hk3 hb3 hs3 ho3))
 go_loopw [6] (fun i wl => ∃ j : Nat, j ≤ 4 ∧ i = .int .i64 (j : Int) ∧ Blk wl w2.heap.size 26 (wds (cutW r j)) ∧ Below w2.heap.size w3 wl) (fun i _ => 4 - (intOf i).toNat)
 case atStart => exact ⟨0, by omega, by simp, by rw [cutW_zero, ← HZ.out]; exact M3.out, Below.refl _ _⟩
 case round =>
  obtain ⟨j, hj, rfl, hk, hb⟩ := hrel
  have KR := qH hk
  have BR := qH hb
  clear hk hb
  by_cases hjl : j < 4
  ·have j1 : (j : Int) < 4 := by omega
   have hcp := (K3.out.below BR.out K2.out.lt).cell j
   rw [wds_get p j hjl] at hcp
   have hcq := (L3.out.below BR.out L2.out.lt).cell j
   rw [wds_get q j hjl] at hcq
   have hfz := KR.out.frozen j
   have hcr := KR.out.cell j
   rw [wds_get _ j hjl] at hcr
   obtain ⟨x, hx⟩ : ∃ x, x = word p j := ⟨_, rfl⟩
   obtain ⟨y, hy⟩ : ∃ y, y = word q j := ⟨_, rfl⟩
   obtain ⟨z2, hz2⟩ : ∃ y, y = word (cutW r j) j := ⟨_, rfl⟩
   rw [← hx] at hcp
   rw [← hy] at hcq
   rw [← hz2] at hcr
   have hlx : x < 18446744073709551616 := by rw [hx]; exact word_lt _ _
   have hly : y < 18446744073709551616 := by rw [hy]; exact word_lt _ _
   have HXY := qH (show HOr.hOr x y = word r j by rw [hx, hy]; exact HOP.out j)
   clear hx hy hz2
   go_wp2_with fail
   go_still_tail 9, (by kernel_rfl)
   change wpList _ _ _ _ _ wr.drew
   go_wp2_with fail
   refine ⟨⟨j + 1, by omega, by congr 1, ?_, (BR.out.setCell (p := ⟨w2.heap.size, j, none⟩) (Nat.le_refl _) _).drew⟩, by simp [intOf] <;> omega⟩
   have hk := KR.out.set j (.int .u64 ((HOr.hOr x y : Nat) : Int))
   rw [HXY.out, cutW_next r j hjl] at hk
   rw [u64_or_nat x y hlx hly, HXY.out]
   exact hk.drew
  ·obtain rfl : j = 4 := by omega
   have k9 := KR.out
   rw [cutW_four] at k9
   have K9 := qH k9
   have B9 := qH (B3.out.trans (BR.out.mono B2.out.size))
   clear k9 KR
   go_wp2_with (first
    | ((with_reducible refine atDst 19 ?_); refine wpList_ldArr rfl 26 _ rfl w2.heap.size rfl 26 _ _ K9.out Tryz.underlying26 rfl (size_set r) ?_)
    | ((with_reducible refine atStore 26 4 19 ?_); refine wpList_stBlk rfl 26 _ _ rfl w2.heap.size (wds r) rfl rfl 26 _ K9.out (size_set r) rfl (wds_all _) B9.out B2.out.size ?_; intro w4 hk4 hb4 hs4 _; have K4 := qH hk4; have B4 := qH hb4; clear hk4 hb4))
   refine bodyPost_ret (results_blk rfl _ _ w2.heap.size 26 _ _ rfl K4.out Tryz.underlying26 rfl (size_set r)) rfl ?_
   exact ⟨rfl, B4.out⟩
set_option maxHeartbeats 2000000 in
set_option maxRecDepth 100000 in
theorem bsAnd_any (p q : Nat → Bool) (w : World) :
  Calls Tryz.prog 51 #[.agg (wds p).toArray, .agg (wds q).toArray] w fun e w' => e = .returned (.agg (wds fun b => Bool.and (p b) (q b)).toArray) ∧ Below w.heap.size w w' := by
 obtain ⟨r, hr⟩ : ∃ r : Nat → Bool, r = fun b => Bool.and (p b) (q b) := ⟨_, rfl⟩
 have HOP := qH (show ∀ i, HAnd.hAnd (word p i) (word q i) = word r i from fun i => by rw [hr]; exact word_and p q i)
 rw [← hr]
 clear hr
 obtain ⟨i0, hi0, hz0⟩ := info_set
 obtain ⟨z, hz⟩ : ∃ z : Nat → Bool, z = fun _ => false := ⟨_, rfl⟩
 rw [← hz] at hz0
 have HZ := qH hz
 clear hz
 go_enter Tryz.func51, Tryz.ntmps51
 go_wp2_with (first
  | ((with_reducible refine atDst 2 ?_); refine wpList_box rfl 26 _ rfl (wds p) rfl (Below.refl w.heap.size w) (Nat.le_refl _) ?_; intro w1 hk1 hb1 hs1 _; have K1 := qH hk1; have B1 := qH hb1; clear hk1 hb1 hs1)
  | ((with_reducible refine atDst 3 ?_); refine wpList_box rfl 26 _ rfl (wds q) rfl B1.out B1.out.size ?_; intro w2 hk2 hb2 hs2 ho2; have L2 := qH hk2; have B2 := qH hb2; have K2 := qH (show Blk w2 w.heap.size 26 (wds p) from (ho2 _ K1.out.lt).trans K1.out); clear hk2 hb2 hs2 ho2)
  | ((with_reducible refine atDst 4 ?_); refine wpList_new rfl 26 rfl i0 _ (wds z) hi0 hz0 rfl B2.out B2.out.size ?_; intro w3 hk3 hb3 hs3 ho3; have M3 := qH hk3; have B3 := qH hb3; have K3 := qH (show Blk w3 w.heap.size 26 (wds p) from (ho3 _ K2.out.lt).trans K2.out); have L3 := qH (show Blk w3 w1.heap.size 26 (wds q) from (ho3 _ L2.out.lt).trans L2.out); clear hk3 hb3 hs3 ho3))
 go_loopw [6] (fun i wl => ∃ j : Nat, j ≤ 4 ∧ i = .int .i64 (j : Int) ∧ Blk wl w2.heap.size 26 (wds (cutW r j)) ∧ Below w2.heap.size w3 wl) (fun i _ => 4 - (intOf i).toNat)
 case atStart => exact ⟨0, by omega, by simp, by rw [cutW_zero, ← HZ.out]; exact M3.out, Below.refl _ _⟩
 case round =>
  obtain ⟨j, hj, rfl, hk, hb⟩ := hrel
  have KR := qH hk
  have BR := qH hb
  clear hk hb
  by_cases hjl : j < 4
  ·have j1 : (j : Int) < 4 := by omega
   have hcp := (K3.out.below BR.out K2.out.lt).cell j
   rw [wds_get p j hjl] at hcp
   have hcq := (L3.out.below BR.out L2.out.lt).cell j
   rw [wds_get q j hjl] at hcq
   have hfz := KR.out.frozen j
   have hcr := KR.out.cell j
   rw [wds_get _ j hjl] at hcr
   obtain ⟨x, hx⟩ : ∃ x, x = word p j := ⟨_, rfl⟩
   obtain ⟨y, hy⟩ : ∃ y, y = word q j := ⟨_, rfl⟩
   obtain ⟨z2, hz2⟩ : ∃ y, y = word (cutW r j) j := ⟨_, rfl⟩
   rw [← hx] at hcp
   rw [← hy] at hcq
   rw [← hz2] at hcr
   have hlx : x < 18446744073709551616 := by rw [hx]; exact word_lt _ _
   have hly : y < 18446744073709551616 := by rw [hy]; exact word_lt _ _
   have HXY := qH (show HAnd.hAnd x y = word r j by rw [hx, hy]; exact HOP.out j)
   clear hx hy hz2
   go_wp2_with fail
   go_still_tail 9, (by kernel_rfl)
   change wpList _ _ _ _ _ wr.drew
   go_wp2_with fail
   refine ⟨⟨j + 1, by omega, by congr 1, ?_, (BR.out.setCell (p := ⟨w2.heap.size, j, none⟩) (Nat.le_refl _) _).drew⟩, by simp [intOf] <;> omega⟩
   have hk := KR.out.set j (.int .u64 ((HAnd.hAnd x y : Nat) : Int))
   rw [HXY.out, cutW_next r j hjl] at hk
   rw [u64_and_nat x y hlx hly, HXY.out]
   exact hk.drew
  ·obtain rfl : j = 4 := by omega
   have k9 := KR.out
   rw [cutW_four] at k9
   have K9 := qH k9
   have B9 := qH (B3.out.trans (BR.out.mono B2.out.size))
   clear k9 KR
   go_wp2_with (first
    | ((with_reducible refine atDst 19 ?_); refine wpList_ldArr rfl 26 _ rfl w2.heap.size rfl 26 _ _ K9.out Tryz.underlying26 rfl (size_set r) ?_)
    | ((with_reducible refine atStore 26 4 19 ?_); refine wpList_stBlk rfl 26 _ _ rfl w2.heap.size (wds r) rfl rfl 26 _ K9.out (size_set r) rfl (wds_all _) B9.out B2.out.size ?_; intro w4 hk4 hb4 hs4 _; have K4 := qH hk4; have B4 := qH hb4; clear hk4 hb4))
   refine bodyPost_ret (results_blk rfl _ _ w2.heap.size 26 _ _ rfl K4.out Tryz.underlying26 rfl (size_set r)) rfl ?_
   exact ⟨rfl, B4.out⟩
set_option maxHeartbeats 2000000 in
set_option maxRecDepth 100000 in
theorem bsNot_any (p : Nat → Bool) (w : World) :
  Calls Tryz.prog 73 #[.agg (wds p).toArray] w fun e w' => e = .returned (.agg (wds fun b => !p b).toArray) ∧ Below w.heap.size w w' := by
 obtain ⟨r, hr⟩ : ∃ r : Nat → Bool, r = fun b => !p b := ⟨_, rfl⟩
 have HOP := qH (show ∀ i, (18446744073709551615 : Nat) ^^^ word p i = word r i from fun i => by rw [hr]; exact word_not p i)
 rw [← hr]
 clear hr
 obtain ⟨i0, hi0, hz0⟩ := info_set
 obtain ⟨z, hz⟩ : ∃ z : Nat → Bool, z = fun _ => false := ⟨_, rfl⟩
 rw [← hz] at hz0
 have HZ := qH hz
 clear hz
 go_enter Tryz.func73, Tryz.ntmps73
 go_wp2_with (first
  | ((with_reducible refine atDst 1 ?_); refine wpList_box rfl 26 _ rfl (wds p) rfl (Below.refl w.heap.size w) (Nat.le_refl _) ?_; intro w1 hk1 hb1 hs1 _; have K1 := qH hk1; have B1 := qH hb1; clear hk1 hb1 hs1)
  | ((with_reducible refine atDst 2 ?_); refine wpList_new rfl 26 rfl i0 _ (wds z) hi0 hz0 rfl B1.out B1.out.size ?_; intro w2 hk2 hb2 hs2 ho2; have M2 := qH hk2; have B2 := qH hb2; have K2 := qH (show Blk w2 w.heap.size 26 (wds p) from (ho2 _ K1.out.lt).trans K1.out); clear hk2 hb2 hs2 ho2))
 go_loopw [4] (fun i wl => ∃ j : Nat, j ≤ 4 ∧ i = .int .i64 (j : Int) ∧ Blk wl w1.heap.size 26 (wds (cutW r j)) ∧ Below w1.heap.size w2 wl) (fun i _ => 4 - (intOf i).toNat)
 case atStart => exact ⟨0, by omega, by simp, by rw [cutW_zero, ← HZ.out]; exact M2.out, Below.refl _ _⟩
 case round =>
  obtain ⟨j, hj, rfl, hk, hb⟩ := hrel
  have KR := qH hk
  have BR := qH hb
  clear hk hb
  by_cases hjl : j < 4
  ·have j1 : (j : Int) < 4 := by omega
   have hcp := (K2.out.below BR.out K1.out.lt).cell j
   rw [wds_get p j hjl] at hcp
   have hfz := KR.out.frozen j
   have hcr := KR.out.cell j
   rw [wds_get _ j hjl] at hcr
   obtain ⟨x, hx⟩ : ∃ x, x = word p j := ⟨_, rfl⟩
   obtain ⟨z2, hz2⟩ : ∃ y, y = word (cutW r j) j := ⟨_, rfl⟩
   rw [← hx] at hcp
   rw [← hz2] at hcr
   have hlx : x < 18446744073709551616 := by rw [hx]; exact word_lt _ _
   have HXY := qH (show (18446744073709551615 : Nat) ^^^ x = word r j by rw [hx]; exact HOP.out j)
   clear hx hz2
   go_wp2_with fail
   refine ⟨⟨j + 1, by omega, by congr 1, ?_, (BR.out.setCell (p := ⟨w1.heap.size, j, none⟩) (Nat.le_refl _) _)⟩, by simp [intOf] <;> omega⟩
   have hk := KR.out.set j (.int .u64 ((18446744073709551615 ^^^ x : Nat) : Int))
   rw [HXY.out, cutW_next r j hjl] at hk
   have e0 : (if IntKind.u64.signed = true then (-1 : Int) else IntKind.u64.max) = ((18446744073709551615 : Nat) : Int) := by decide
   rw [e0, u64_xor_nat 18446744073709551615 x (by omega) hlx, HXY.out]
   exact hk
  ·obtain rfl : j = 4 := by omega
   have k9 := KR.out
   rw [cutW_four] at k9
   have K9 := qH k9
   have B9 := qH (B2.out.trans (BR.out.mono B1.out.size))
   clear k9 KR
   go_wp2_with (first
    | ((with_reducible refine atDst 14 ?_); refine wpList_ldArr rfl 26 _ rfl w1.heap.size rfl 26 _ _ K9.out Tryz.underlying26 rfl (size_set r) ?_)
    | ((with_reducible refine atStore 26 2 14 ?_); refine wpList_stBlk rfl 26 _ _ rfl w1.heap.size (wds r) rfl rfl 26 _ K9.out (size_set r) rfl (wds_all _) B9.out B1.out.size ?_; intro w4 hk4 hb4 hs4 _; have K4 := qH hk4; have B4 := qH hb4; clear hk4 hb4))
   refine bodyPost_ret (results_blk rfl _ _ w1.heap.size 26 _ _ rfl K4.out Tryz.underlying26 rfl (size_set r)) rfl ?_
   exact ⟨rfl, B4.out⟩
set_option maxHeartbeats 2000000 in
set_option maxRecDepth 100000 in
theorem bsBelow_any (n : Nat) (w : World) (hn : n ≤ 256) :
  Calls Tryz.prog 72 #[.int .i64 (n : Int)] w fun e w' => e = .returned (.agg (wds fun b => decide (b < n)).toArray) ∧ Below w.heap.size w w' := by
 obtain ⟨r, hr⟩ : ∃ r : Nat → Bool, r = fun b => decide (b < n) := ⟨_, rfl⟩
 have HOP := qH (show ∀ i, (2 : Nat) ^ min (n - 64 * i) 64 - 1 = word r i from fun i => by rw [hr]; exact word_low n i _ rfl)
 rw [← hr]
 clear hr
 obtain ⟨i0, hi0, hz0⟩ := info_set
 obtain ⟨z, hz⟩ : ∃ z : Nat → Bool, z = fun _ => false := ⟨_, rfl⟩
 rw [← hz] at hz0
 have HZ := qH hz
 clear hz
 go_enter Tryz.func72, Tryz.ntmps72
 go_wp2_with ((with_reducible refine atDst 2 ?_); refine wpList_new rfl 26 rfl i0 _ (wds z) hi0 hz0 rfl (Below.refl w.heap.size w) (Nat.le_refl _) ?_; intro w2 hk2 hb2 hs2 ho2; have M2 := qH hk2; have B2 := qH hb2; clear hk2 hb2 hs2 ho2)
 go_loopw [4] (fun i wl => ∃ j : Nat, j ≤ 4 ∧ i = .int .i64 (j : Int) ∧ Blk wl w.heap.size 26 (wds (cutW r j)) ∧ Below w.heap.size w wl) (fun i _ => 4 - (intOf i).toNat)
 case atStart => exact ⟨0, by omega, by simp, by rw [cutW_zero, ← HZ.out]; exact M2.out, B2.out⟩
 case round =>
  obtain ⟨j, hj, rfl, hk, hb⟩ := hrel
  have KR := qH hk
  have BR := qH hb
  clear hk hb
  by_cases hjl : j < 4
  ·have j1 : (j : Int) < 4 := by omega
   have hfz := KR.out.frozen j
   have hcr := KR.out.cell j
   rw [wds_get _ j hjl] at hcr
   obtain ⟨z2, hz2⟩ : ∃ y, y = word (cutW r j) j := ⟨_, rfl⟩
   rw [← hz2] at hcr
   obtain ⟨k, hk⟩ : ∃ k, k = min (n - 64 * j) 64 := ⟨_, rfl⟩
   have HXY := qH (show (2 : Nat) ^ k - 1 = word r j by rw [hk]; exact HOP.out j)
   have HN := qH hn
   have hw1 : IntKind.i64.wrap ((j : Int) * 64) = (j : Int) * 64 := IntWalk.i64_in _ (by omega)
   have hw2 : IntKind.i64.wrap ((n : Int) - (j : Int) * 64) = (n : Int) - (j : Int) * 64 := IntWalk.i64_in _ (by omega)
   have HKK := qH hk
   clear hz2 hk hn
   go_wp2_with fail
   refine ⟨⟨j + 1, by omega, by congr 1, ?_, (BR.out.setCell (p := ⟨w.heap.size, j, none⟩) (Nat.le_refl _) _)⟩, by simp [intOf] <;> omega⟩
   have hk := KR.out.set j (.int .u64 ((2 ^ k - 1 : Nat) : Int))
   rw [HXY.out, cutW_next r j hjl] at hk
   rw [low_val n j k HKK.out HN.out hjl, HXY.out]
   exact hk
  ·obtain rfl : j = 4 := by omega
   have k9 := KR.out
   rw [cutW_four] at k9
   have K9 := qH k9
   clear k9 KR
   go_wp2_with (first
    | ((with_reducible refine atDst 18 ?_); refine wpList_ldArr rfl 26 _ rfl w.heap.size rfl 26 _ _ K9.out Tryz.underlying26 rfl (size_set r) ?_)
    | ((with_reducible refine atStore 26 2 18 ?_); refine wpList_stBlk rfl 26 _ _ rfl w.heap.size (wds r) rfl rfl 26 _ K9.out (size_set r) rfl (wds_all _) BR.out (Nat.le_refl _) ?_; intro w4 hk4 hb4 hs4 _; have K4 := qH hk4; have B4 := qH hb4; clear hk4 hb4))
   refine bodyPost_ret (results_blk rfl _ _ w.heap.size 26 _ _ rfl K4.out Tryz.underlying26 rfl (size_set r)) rfl ?_
   exact ⟨rfl, B4.out⟩
end Go.Proofs.YtopnpdobcagcgaaGreat
