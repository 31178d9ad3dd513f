/-
  Parts of all bytes: facts of lists of sets, how they are cut, how they stand in a line. No statement is proved here.
-/
import Derived.Test.YtaobeconjdeenaaDoorBsH
namespace Go.Proofs.YtaobeconjdeenaaDoor
open Go.RowKit
set_option linter.unusedSimpArgs false
set_option linter.unusedVariables false

/-! ### bytes alike -/
theorem alikeS_iff (ps : List (Nat → Bool)) (a b : Nat) : alikeS ps a b = true ↔ ∀ p ∈ ps, p a = p b := by
  unfold alikeS
  rw [List.all_eq_true]
  simp
theorem alikeS_refl (ps : List (Nat → Bool)) (a : Nat) : alikeS ps a a = true := (alikeS_iff ps a a).2 fun _ _ => rfl
theorem alikeS_symm {ps : List (Nat → Bool)} {a b : Nat} (h : alikeS ps a b = true) : alikeS ps b a = true := (alikeS_iff ps b a).2 fun p hp => ((alikeS_iff ps a b).1 h p hp).symm
theorem alikeS_trans {ps : List (Nat → Bool)} {a b c : Nat} (h : alikeS ps a b = true) (k : alikeS ps b c = true) : alikeS ps a c = true :=
  (alikeS_iff ps a c).2 fun p hp => ((alikeS_iff ps a b).1 h p hp).trans ((alikeS_iff ps b c).1 k p hp)
theorem alikeS_same {ps : List (Nat → Bool)} {a b : Nat} (h : alikeS ps a b = true) (c : Nat) : alikeS ps a c = alikeS ps b c := by
  rw [Bool.eq_iff_iff]
  exact ⟨fun k => alikeS_trans (alikeS_symm h) k, fun k => alikeS_trans h k⟩
theorem alikeS_more (ps : List (Nat → Bool)) (s : Nat → Bool) (a b : Nat) : alikeS (ps ++ [s]) a b = (alikeS ps a b && (s a == s b)) := by simp [alikeS]

/-! ### the first bytes -/
theorem firstJ_facts (ps : List (Nat → Bool)) : ∀ j, (firstJ ps j).Pairwise (fun f g => f < g ∧ alikeS ps f g = false) ∧ (∀ f ∈ firstJ ps j, ∀ b, b < f → alikeS ps f b = false) ∧ (∀ b, b < j → ∃ f ∈ firstJ ps j, alikeS ps f b = true)
  | 0 => ⟨List.Pairwise.nil, fun f hf => by simp [firstJ] at hf, fun b hb => by omega⟩
  | j + 1 => by
    obtain ⟨h1, h2, h3⟩ := firstJ_facts ps j
    by_cases hh : (firstJ ps j).any (fun f => alikeS ps j f) = true
    · have e : firstJ ps (j + 1) = firstJ ps j := by simp only [firstJ]; rw [if_pos hh]
      rw [e]
      refine ⟨h1, h2, fun b hb => ?_⟩
      by_cases hbj : b < j
      · exact h3 b hbj
      · obtain rfl : b = j := by omega
        obtain ⟨f, hf, ha⟩ := List.any_eq_true.1 hh
        exact ⟨f, hf, alikeS_symm ha⟩
    · have e : firstJ ps (j + 1) = firstJ ps j ++ [j] := by simp only [firstJ]; rw [if_neg hh]
      have hno : ∀ f ∈ firstJ ps j, alikeS ps f j = false := fun f hf => by
        rw [Bool.eq_false_iff]
        exact fun k => hh (List.any_eq_true.2 ⟨f, hf, alikeS_symm k⟩)
      rw [e]
      refine ⟨List.pairwise_append.2 ⟨h1, List.pairwise_singleton _ _, fun f hf g hg => ?_⟩, fun f hf b hb => ?_, fun b hb => ?_⟩
      · obtain rfl : g = j := by simpa using hg
        exact ⟨firstJ_lt ps _ f hf, hno f hf⟩
      · rcases List.mem_append.1 hf with hf | hf
        · exact h2 f hf b hb
        · obtain rfl : f = j := by simpa using hf
          rw [Bool.eq_false_iff]
          intro k
          obtain ⟨g, hg, ha⟩ := h3 b hb
          have := hno g hg
          rw [alikeS_trans ha (alikeS_symm k)] at this
          cases this
      · by_cases hbj : b < j
        · obtain ⟨f, hf, ha⟩ := h3 b hbj
          exact ⟨f, List.mem_append.2 (.inl hf), ha⟩
        · obtain rfl : b = j := by omega
          exact ⟨b, by simp, alikeS_refl ps b⟩
theorem firstJ_prefix (ps : List (Nat → Bool)) (j : Nat) : ∀ d, firstJ ps j <+: firstJ ps (j + d)
  | 0 => List.prefix_refl _
  | d + 1 => by
    refine List.IsPrefix.trans (firstJ_prefix ps j d) ?_
    rw [show j + (d + 1) = (j + d) + 1 from rfl]
    simp only [firstJ]
    split
    · exact List.prefix_refl _
    · exact List.prefix_append _ _
theorem clsOf_ltN (ps : List (Nat → Bool)) {N j : Nat} (hj : j < N) : clsOf ps j < (firstJ ps N).length := by
  have h1 := firstJ_mono ps (j + 1) (N - (j + 1))
  rw [show j + 1 + (N - (j + 1)) = N from by omega] at h1
  have h2 := clsOf_le ps j
  rcases Nat.lt_or_ge (clsOf ps j) (firstJ ps j).length with h | h
  · rw [firstJ_hit h] at h1
    omega
  · rw [firstJ_new (by omega), List.length_append] at h1
    simp at h1
    omega
/-- A byte's number is that of the first byte that is like it. -/
theorem clsOf_is (ps : List (Nat → Bool)) (N b : Nat) (hb : b < N) (k : Nat) (hk : k < (firstJ ps N).length) : clsOf ps b = k ↔ alikeS ps ((firstJ ps N)[k]'hk) b = true := by
  obtain ⟨h1, h2, h3⟩ := firstJ_facts ps N
  have hlt := clsOf_ltN ps hb
  have hat : alikeS ps ((firstJ ps N)[clsOf ps b]'hlt) b = true := by
    have hp := firstJ_prefix ps (b + 1) (N - (b + 1))
    rw [show b + 1 + (N - (b + 1)) = N by omega] at hp
    rcases Nat.lt_or_ge (clsOf ps b) (firstJ ps b).length with h | h
    · have ht := List.findIdx_getElem (p := fun f => alikeS ps b f) (w := h)
      have hp2 := firstJ_prefix ps b (N - b)
      rw [show b + (N - b) = N by omega] at hp2
      have := List.IsPrefix.getElem hp2 h
      have e : (firstJ ps N)[clsOf ps b]'hlt = (firstJ ps b)[clsOf ps b]'h := this.symm
      rw [e]
      exact alikeS_symm ht
    · have hle := clsOf_le ps b
      have e0 : clsOf ps b = (firstJ ps b).length := by omega
      have en := firstJ_new e0
      have hl2 : clsOf ps b < (firstJ ps (b + 1)).length := by rw [en, List.length_append]; simp; omega
      have := List.IsPrefix.getElem hp hl2
      have e : (firstJ ps N)[clsOf ps b]'hlt = (firstJ ps (b + 1))[clsOf ps b]'hl2 := this.symm
      rw [e]
      have e2 : (firstJ ps (b + 1))[clsOf ps b]'hl2 = b := by
        have : (firstJ ps (b + 1))[clsOf ps b]? = some b := by rw [en, e0]; simp
        rw [List.getElem?_eq_getElem hl2] at this
        exact Option.some.inj this
      rw [e2]
      exact alikeS_refl ps b
  constructor
  · rintro rfl
    exact hat
  · intro ha
    have hl := alikeS_trans hat (alikeS_symm ha)
    rcases Nat.lt_trichotomy (clsOf ps b) k with h | h | h
    · have := (List.pairwise_iff_getElem.1 h1 _ _ hlt hk h).2
      rw [hl] at this; cases this
    · exact h
    · have := (List.pairwise_iff_getElem.1 h1 _ _ hk hlt h).2
      rw [alikeS_symm hl] at this; cases this

/-! ### the document's parts -/
/-- The parts of the bytes below N. -/
def partsN (ps : List (Nat → Bool)) (N : Nat) : List (Nat → Bool) := outs ps (firstJ ps N).length N
theorem partsN_length (ps : List (Nat → Bool)) (N : Nat) : (partsN ps N).length = (firstJ ps N).length := outs_length _ _ _
theorem parts_length (ps : List (Nat → Bool)) : (parts ps).length = (firstJ ps 256).length := outs_length _ _ _
theorem partsN_at (ps : List (Nat → Bool)) (N : Nat) (k : Nat) (hk : k < (partsN ps N).length) (b : Nat) (hb : b < N) : ((partsN ps N)[k]'hk) b = alikeS ps ((firstJ ps N)[k]'(by rw [← partsN_length]; exact hk)) b := by
  have hk' : k < (firstJ ps N).length := by rw [← partsN_length]; exact hk
  have e : (partsN ps N)[k]'hk = fun b => decide (b < N) && decide (clsOf ps b = k) := outs_at ps _ N k hk
  rw [e]
  show (decide (b < N) && decide (clsOf ps b = k)) = _
  have := clsOf_is ps N b hb k hk'
  rw [decide_eq_true hb, Bool.true_and, Bool.eq_iff_iff, decide_eq_true_iff]
  exact this
theorem partsN_less (ps : List (Nat → Bool)) (N : Nat) (hN : N ≤ 256) : (partsN ps N).Pairwise fun p q => lessS p q = true := by
  rw [List.pairwise_iff_getElem]
  intro i j hi hj hij
  obtain ⟨h1, h2, h3⟩ := firstJ_facts ps N
  have hi' : i < (firstJ ps N).length := by rw [← partsN_length]; exact hi
  have hj' : j < (firstJ ps N).length := by rw [← partsN_length]; exact hj
  have hlt := List.pairwise_iff_getElem.1 h1 i j hi' hj' hij
  have hm := firstJ_lt ps N _ (List.getElem_mem hi')
  refine (lessS_iff _ _).2 ⟨(firstJ ps N)[i]'hi', Nat.lt_of_lt_of_le hm hN, fun b hb => ?_, ?_, ?_⟩
  · rw [partsN_at ps N i hi b (by omega), partsN_at ps N j hj b (by omega), h2 _ (List.getElem_mem hi') b hb, h2 _ (List.getElem_mem hj') b (by omega)]
  · rw [partsN_at ps N i hi _ hm]
    exact alikeS_refl _ _
  · rw [partsN_at ps N j hj _ hm]
    exact h2 _ (List.getElem_mem hj') _ hlt.1
theorem partsN_some (ps : List (Nat → Bool)) (N : Nat) (q : Nat → Bool) (hq : q ∈ partsN ps N) : ∃ a, a < N ∧ ∀ b, b < N → q b = alikeS ps a b := by
  obtain ⟨k, hk, rfl⟩ := List.getElem_of_mem hq
  have hk' : k < (firstJ ps N).length := by rw [← partsN_length]; exact hk
  exact ⟨(firstJ ps N)[k]'hk', firstJ_lt ps N _ (List.getElem_mem hk'), fun b hb => partsN_at ps N k hk b hb⟩
theorem partsN_all (ps : List (Nat → Bool)) (N a : Nat) (ha : a < N) : ∃ q ∈ partsN ps N, ∀ b, b < N → q b = alikeS ps a b := by
  have hk : clsOf ps a < (partsN ps N).length := by rw [partsN_length]; exact clsOf_ltN ps ha
  have hk' : clsOf ps a < (firstJ ps N).length := clsOf_ltN ps ha
  refine ⟨(partsN ps N)[clsOf ps a]'hk, List.getElem_mem hk, fun b hb => ?_⟩
  rw [partsN_at ps N _ hk b hb]
  exact alikeS_same ((clsOf_is ps N a ha _ hk').1 rfl) b

theorem parts_less (ps : List (Nat → Bool)) : (parts ps).Pairwise fun p q => lessS p q = true := partsN_less ps 256 (Nat.le_refl _)
theorem parts_some (ps : List (Nat → Bool)) (q : Nat → Bool) (hq : q ∈ parts ps) : ∃ a, a < 256 ∧ ∀ b, b < 256 → q b = alikeS ps a b := partsN_some ps 256 q hq
theorem parts_all (ps : List (Nat → Bool)) (a : Nat) (ha : a < 256) : ∃ q ∈ parts ps, ∀ b, b < 256 → q b = alikeS ps a b := partsN_all ps 256 a ha
theorem partsN_apart (ps : List (Nat → Bool)) (N : Nat) : (partsN ps N).Pairwise fun p q => ∀ b, b < N → ¬ (p b = true ∧ q b = true) := by
  rw [List.pairwise_iff_getElem]
  intro i j hi hj hij b hb
  rintro ⟨h1, h2⟩
  rw [partsN_at ps N i hi b hb] at h1
  rw [partsN_at ps N j hj b hb] at h2
  have hi' : i < (firstJ ps N).length := by rw [← partsN_length]; exact hi
  have hj' : j < (firstJ ps N).length := by rw [← partsN_length]; exact hj
  have := (List.pairwise_iff_getElem.1 (firstJ_facts ps N).1 i j hi' hj' hij).2
  rw [alikeS_trans h1 (alikeS_symm h2)] at this
  cases this

/-! ### cut by set after set -/
/-- The parts, one set after the other. -/
def curS (ps : List (Nat → Bool)) : List (Nat → Bool) := ps.foldl splitS [fun _ => true]
theorem curS_more (ps : List (Nat → Bool)) (s : Nat → Bool) : curS (ps ++ [s]) = splitS (curS ps) s := by simp [curS, List.foldl_append]
theorem nonE_iff (q : Nat → Bool) : nonE q = true ↔ ∃ b, b < 256 ∧ q b = true := by
  unfold nonE
  rw [Bool.not_eq_true', Bool.eq_false_iff]
  constructor
  · intro h
    apply Classical.byContradiction
    intro hn
    exact h ((eqS_iff q _).2 fun b hb => by
      cases hq : q b with
      | false => rfl
      | true => exact absurd ⟨b, hb, hq⟩ hn)
  · rintro ⟨b, hb, hq⟩ h
    rw [(eqS_iff q _).1 h b hb] at hq
    cases hq
theorem mem_split {ps : List (Nat → Bool)} {s q : Nat → Bool} : q ∈ splitS ps s ↔ ∃ p ∈ ps, (q = (fun b => p b && s b) ∨ q = fun b => p b && !s b) ∧ nonE q = true := by
  unfold splitS pieces
  simp only [List.mem_flatMap, List.mem_filter, List.mem_cons, List.not_mem_nil, or_false]
/-- No byte is in two. -/
def Apart (l : List (Nat → Bool)) : Prop := l.Pairwise fun p q => ∀ b, b < 256 → ¬ (p b = true ∧ q b = true)
theorem split_apart {ps : List (Nat → Bool)} (h : Apart ps) (s : Nat → Bool) : Apart (splitS ps s) := by
  unfold Apart splitS
  rw [List.pairwise_flatMap]
  have hin : ∀ p x, x ∈ (pieces p s).filter nonE → ∀ b, x b = true → p b = true := by
    intro p x hx b hb
    have := (List.mem_filter.1 hx).1
    simp only [pieces, List.mem_cons, List.not_mem_nil, or_false] at this
    rcases this with rfl | rfl
    · simp only [Bool.and_eq_true] at hb; exact hb.1
    · simp only [Bool.and_eq_true] at hb; exact hb.1
  refine ⟨fun p hp => List.Pairwise.filter _ ?_, List.Pairwise.imp ?_ h⟩
  · refine List.Pairwise.cons (fun q hq => ?_) (List.pairwise_singleton _ _)
    obtain rfl : q = fun b => p b && !s b := by simpa using hq
    intro b hb
    rintro ⟨h1, h2⟩
    simp only [Bool.and_eq_true] at h1 h2
    rw [h1.2] at h2
    exact absurd h2.2 (by decide)
  · intro p q hpq x hx y hy b hb
    rintro ⟨h1, h2⟩
    exact hpq b hb ⟨hin p x hx b h1, hin q y hy b h2⟩
/-- What the parts cut so far are. -/
structure Cut (ps cur : List (Nat → Bool)) : Prop where
  some_ : ∀ q ∈ cur, ∃ a, a < 256 ∧ ∀ b, b < 256 → q b = alikeS ps a b
  all_ : ∀ a, a < 256 → ∃ q ∈ cur, q a = true
  apart : Apart cur
theorem cut_nil : Cut [] [fun _ => true] where
  some_ q hq := by
    obtain rfl : q = fun _ => true := by simpa using hq
    exact ⟨0, by omega, fun b _ => rfl⟩
  all_ a _ := ⟨_, List.mem_singleton.2 rfl, rfl⟩
  apart := List.pairwise_singleton _ _
theorem cut_next {ps cur : List (Nat → Bool)} (h : Cut ps cur) (s : Nat → Bool) : Cut (ps ++ [s]) (splitS cur s) where
  some_ q hq := by
    obtain ⟨p, hp, hq2, hne⟩ := mem_split.1 hq
    obtain ⟨c, hc, hqc⟩ := (nonE_iff q).1 hne
    obtain ⟨a, ha, hpa⟩ := h.some_ p hp
    rcases hq2 with rfl | rfl
    · simp only [Bool.and_eq_true] at hqc
      refine ⟨c, hc, fun b hb => ?_⟩
      show (p b && s b) = _
      rw [alikeS_more, hpa b hb, hqc.2]
      rw [hpa c hc] at hqc
      rw [alikeS_same hqc.1 b]
      cases s b <;> rfl
    · simp only [Bool.and_eq_true, Bool.not_eq_true'] at hqc
      refine ⟨c, hc, fun b hb => ?_⟩
      show (p b && !s b) = _
      rw [alikeS_more, hpa b hb, hqc.2]
      rw [hpa c hc] at hqc
      rw [alikeS_same hqc.1 b]
      cases s b <;> rfl
  all_ a ha := by
    obtain ⟨p, hp, hpa⟩ := h.all_ a ha
    cases hs : s a with
    | true => exact ⟨_, mem_split.2 ⟨p, hp, .inl rfl, (nonE_iff _).2 ⟨a, ha, by simp [hpa, hs]⟩⟩, by simp [hpa, hs]⟩
    | false => exact ⟨_, mem_split.2 ⟨p, hp, .inr rfl, (nonE_iff _).2 ⟨a, ha, by simp [hpa, hs]⟩⟩, by simp [hpa, hs]⟩
  apart := split_apart h.apart s
theorem cut_fold : ∀ (ps qs cur : List (Nat → Bool)), Cut qs cur → Cut (qs ++ ps) (ps.foldl splitS cur)
  | [], qs, cur, h => by simpa using h
  | s :: r, qs, cur, h => by
    have := cut_fold r (qs ++ [s]) (splitS cur s) (cut_next h s)
    simpa using this
theorem cut_cur (ps : List (Nat → Bool)) : Cut ps (curS ps) := cut_fold ps [] _ cut_nil

/-! ### told by what they have below 256 -/
def norm (q : Nat → Bool) : Nat → Bool := fun b => decide (b < 256) && q b
theorem norm_eq {p q : Nat → Bool} : norm p = norm q ↔ ∀ b, b < 256 → p b = q b := by
  constructor
  · intro h b hb
    have := congrFun h b
    simpa [norm, hb] using this
  · intro h
    funext b
    by_cases hb : b < 256
    · simp [norm, hb, h b hb]
    · simp [norm, hb]
theorem wds_norm (q : Nat → Bool) : wds (norm q) = wds q := wds_congr fun b hb => by simp [norm, hb]
theorem sets_norm : ∀ qs : List (Nat → Bool), sets (qs.map norm) = sets qs
  | [] => rfl
  | q :: r => by rw [List.map_cons, sets_cons, sets_cons, wds_norm, sets_norm r]
theorem lessS_norm (p q : Nat → Bool) : lessS (norm p) (norm q) = lessS p q := by
  rw [Bool.eq_iff_iff, lessS_iff, lessS_iff]
  constructor
  · rintro ⟨j, hj, h1, h2, h3⟩
    exact ⟨j, hj, fun b hb => by have := h1 b hb; simpa [norm, show b < 256 by omega] using this, by simpa [norm, hj] using h2, by simpa [norm, hj] using h3⟩
  · rintro ⟨j, hj, h1, h2, h3⟩
    exact ⟨j, hj, fun b hb => by simp [norm, show b < 256 by omega, h1 b hb], by simp [norm, hj, h2], by simp [norm, hj, h3]⟩
theorem cut_mem {ps cur : List (Nat → Bool)} (h : Cut ps cur) (x : Nat → Bool) : x ∈ cur.map norm ↔ ∃ a, a < 256 ∧ x = norm (alikeS ps a) := by
  rw [List.mem_map]
  constructor
  · rintro ⟨q, hq, rfl⟩
    obtain ⟨a, ha, hqa⟩ := h.some_ q hq
    exact ⟨a, ha, norm_eq.2 hqa⟩
  · rintro ⟨a, ha, rfl⟩
    obtain ⟨q, hq, hqa⟩ := h.all_ a ha
    obtain ⟨c, hc, hqc⟩ := h.some_ q hq
    refine ⟨q, hq, norm_eq.2 fun b hb => ?_⟩
    rw [hqc b hb]
    rw [hqc a ha] at hqa
    exact alikeS_same hqa b
theorem cut_nodup {ps cur : List (Nat → Bool)} (h : Cut ps cur) : (cur.map norm).Nodup := by
  unfold List.Nodup
  rw [List.pairwise_map, List.pairwise_iff_getElem]
  intro i j hi hj hij hn
  obtain ⟨a, ha, hq⟩ := h.some_ _ (List.getElem_mem hi)
  have hp := List.pairwise_iff_getElem.1 h.apart i j hi hj hij a ha
  have h1 : cur[i] a = true := by rw [hq a ha]; exact alikeS_refl ps a
  exact hp ⟨h1, by rw [← norm_eq.1 hn a ha]; exact h1⟩
theorem parts_cut (ps : List (Nat → Bool)) : Cut ps (parts ps) where
  some_ := parts_some ps
  all_ a ha := by
    obtain ⟨q, hq, h⟩ := parts_all ps a ha
    exact ⟨q, hq, by rw [h a ha]; exact alikeS_refl ps a⟩
  apart := partsN_apart ps 256
theorem cut_perm {ps cur : List (Nat → Bool)} (h : Cut ps cur) : (cur.map norm).Perm ((parts ps).map norm) :=
  (List.perm_ext_iff_of_nodup (cut_nodup h) (cut_nodup (parts_cut ps))).2 fun x => by rw [cut_mem h, cut_mem (parts_cut ps)]
theorem cut_length {ps cur : List (Nat → Bool)} (h : Cut ps cur) : cur.length = (parts ps).length := by
  have := (cut_perm h).length_eq
  simpa using this
theorem lessS_asymm {p q : Nat → Bool} (h : lessS p q = true) : lessS q p = false := by
  cases k : lessS q p with
  | false => rfl
  | true =>
    have := lessS_trans h k
    rw [show lessS p p = false from lessS_none fun _ _ => rfl] at this
    cases this
/-- Sorted, they are the document's. -/
theorem sorted_parts {ps cur qs : List (Nat → Bool)} (h : Cut ps cur) (hp : qs.Perm cur) (hs : qs.Pairwise fun p q => lessS q p = false) : qs.map norm = (parts ps).map norm := by
  refine List.Perm.eq_of_pairwise (le := fun p q => lessS q p = false) ?_ ?_ ?_ ((hp.map norm).trans (cut_perm h))
  · intro a b ha hb h1 h2
    have e := lessS_not h2
    rw [h1, Bool.not_false] at e
    obtain ⟨a', _, rfl⟩ := List.mem_map.1 ha
    obtain ⟨b', _, rfl⟩ := List.mem_map.1 hb
    have := (eqS_iff _ _).1 e
    exact norm_eq.2 fun b hb => by simpa [norm, hb] using this b hb
  · rw [List.pairwise_map]
    exact hs.imp fun h => by rw [lessS_norm]; exact h
  · rw [List.pairwise_map]
    exact (parts_less ps).imp fun h => by rw [lessS_norm]; exact lessS_asymm h
theorem parts_le (ps : List (Nat → Bool)) : (parts ps).length ≤ 256 := by rw [parts_length]; exact firstJ_len ps 256
theorem curS_le (ps : List (Nat → Bool)) : (curS ps).length ≤ 256 := by rw [cut_length (cut_cur ps)]; exact parts_le ps
theorem curS_pos (ps : List (Nat → Bool)) : 0 < (curS ps).length := by
  obtain ⟨q, hq, _⟩ := (cut_cur ps).all_ 0 (by omega)
  exact List.length_pos_of_mem hq
end Go.Proofs.YtaobeconjdeenaaDoor
