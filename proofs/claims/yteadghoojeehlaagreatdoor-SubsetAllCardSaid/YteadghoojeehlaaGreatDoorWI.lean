/-
  Texts of this proof, put together: BsH, BsM, SbB, SbC, SbD, PyE. No statement is proved here.
-/
import Derived.Test.YteadghoojeehlaaGreatDoorWH
import Derived.Test.YteadghoojeehlaaGreatDoorWD
import Derived.Test.YteadghoojeehlaaGreatDoorWC
import Derived.Maps.Keyed
import Derived.WideKeyArr
import Derived.Carry
namespace Go.Proofs.YteadghoojeehlaaGreatDoor
open Go.RowKit
set_option linter.unusedSimpArgs false
set_option linter.unusedVariables false
def pieces (p s : Nat → Bool) : List (Nat → Bool) := [fun b => p b && s b, fun b => p b && !s b]
def nonE (q : Nat → Bool) : Bool := !eqS q fun _ => false
def splitS (ps : List (Nat → Bool)) (s : Nat → Bool) : List (Nat → Bool) := ps.flatMap fun p => (pieces p s).filter nonE
theorem splitS_next (ps : List (Nat → Bool)) (s : Nat → Bool) (j : Nat) (h : j < ps.length) : splitS (ps.take (j + 1)) s = splitS (ps.take j) s ++ (pieces ps[j] s).filter nonE := by
 unfold splitS
 rw [List.take_succ_eq_append_getElem h, List.flatMap_append, List.flatMap_cons, List.flatMap_nil, List.append_nil]
theorem splitS_len (s : Nat → Bool) : ∀ ps : List (Nat → Bool), (splitS ps s).length ≤ 2 * ps.length
 | [] => Nat.le_refl _
 | p :: r => by
  have h1 : ((pieces p s).filter nonE).length ≤ 2 := List.length_filter_le _ _
  have h2 := splitS_len s r
  have e : splitS (p :: r) s = (pieces p s).filter nonE ++ splitS r s := by simp [splitS]
  rw [e, List.length_append, List.length_cons]
  omega
theorem pieces_next (p s : Nat → Bool) (k : Nat) (q : Nat → Bool) (hk : (pieces p s)[k]? = some q) : ((pieces p s).take (k + 1)).filter nonE = ((pieces p s).take k).filter nonE ++ if nonE q then [q] else [] := by
 obtain ⟨h, e⟩ := List.getElem?_eq_some_iff.1 hk
 rw [List.take_succ_eq_append_getElem h, List.filter_append, e]
 cases hq : nonE q <;> simp [hq]
/-! ### rows of sets of the call's own -/
theorem own4Below {w w' : World} {base B n k : Nat} {e : TypeId} {v : Value} {xs : List Value} (h : w.ownsRow base e k v n xs) (hb : Below B w w') (hB : w.heap.size ≤ B) : w'.ownsRow base e k v n xs := by
 refine ⟨h.1, ?_⟩
 rcases h.2 with h0 | ⟨g, cap, cur, rfl, hb2, hg, h3⟩
 ·exact .inl h0
 ·exact .inr ⟨g, cap, cur, rfl, hb2, (hb.block g (Nat.lt_of_lt_of_le (Array.getElem?_eq_some_iff.1 hg).1 hB)).trans hg, h3⟩
theorem own4_above {w : World} {base n k : Nat} {e : TypeId} {v : Value} {xs : List Value} (h : w.ownsRow base e k v n xs) : ∀ j, v.ownBlock = some j → base ≤ j := by
 intro j hj
 rcases h.2 with ⟨rfl, h0⟩ | ⟨g, cap, cur, rfl, hb, hg, _⟩
 ·cases hj
 ·have hk' : some g = some j := hj
  injection hk' with hk'
  omega
theorem own4_lt {w : World} {base n k : Nat} {e : TypeId} {v : Value} {xs : List Value} (h : w.ownsRow base e k v n xs) : ∀ j, v.ownBlock = some j → j < w.heap.size := by
 intro j hj
 rcases h.2 with ⟨rfl, h0⟩ | ⟨g, cap, cur, rfl, hb, hg, _⟩
 ·cases hj
 ·have hk' : some g = some j := hj
  injection hk' with hk'
  subst hk'
  exact (Array.getElem?_eq_some_iff.1 hg).1
theorem own4N (w : World) (B : Nat) (e : TypeId) : w.ownsRow B e 4 (.slice none 0 0) 0 [] := ⟨by simp, .inl ⟨rfl, rfl⟩⟩
theorem own4_row {w : World} {base : Nat} {e : TypeId} {v : Value} {ps : List (Nat → Bool)} (h : w.ownsRow base e 4 v ps.length (sets ps)) : RowS w v ps := by
 rcases h.2 with ⟨rfl, h0⟩ | ⟨g, cap, cur, rfl, hb, hg, hn, hm, hs, ht⟩
 ·obtain rfl : ps = [] := List.eq_nil_of_length_eq_zero h0
  exact RowS.nil w
 ·refine ⟨_, cap, rfl, hn, hm, (fun h => by cases h), fun _ => ⟨g, 0, rfl, (Array.getElem?_eq_some_iff.1 hg).1, fun i p hp j u hu => ?_⟩⟩
  have hi := (List.getElem?_eq_some_iff.1 hp).1
  have hj : j < 4 := by simpa [wds_length] using (List.getElem?_eq_some_iff.1 hu).1
  have e1 := sets_get hp j hj
  rw [hu, ← ht, List.getElem?_take, if_pos (by omega), Array.getElem?_toList] at e1
  rw [cell_of_row w g _ cur e (0, 0) hg, Nat.zero_add, e1]
section
variable {P : Program} {w : World} {ops : Array Oper} {rest : List Oper} {o : Oper} {a : Act} {Q : Exit → Act → World → Prop}
theorem wpList_appS {base : Nat} (hgd : o.guard = none) (s x : Operand) (t : TypeId)
  (ho : o.op = .call { callee := .builtin .append, args := #[s, x], argTypes := #[t, t] })
  (e : TypeId) (i : TypeInfo) (ht : P.underlying t = some (.slice e)) (hi : P.info? e = some i) (hz : i.zero = some (.agg (wds fun _ => false).toArray))
  (hsize : i.size = 4) (hby : i.bytes = 32)
  (v : Value) (ps : List (Nat → Bool)) (hs : a.eval s = v) (hown : w.ownsRow base e 4 v ps.length (sets ps))
  (g c : Nat) (tg : TypeId) (qs : List (Nat → Bool)) (hx : a.eval x = .slice (some ⟨g, 0, none⟩) qs.length c) (hr : Blk w g tg (sets qs))
  (hlen : ps.length + qs.length ≤ 1048576) (hb : base ≤ w.heap.size)
  (h : ∀ v' w', w'.ownsRow base e 4 v' (ps ++ qs).length (sets (ps ++ qs)) → w.grownBy w' v.ownBlock → wpList P ops Q rest (a.put o.dst v') w') : wpList P ops Q (o :: rest) a w := by
 refine wpList_plain hgd fun K hK => ?_
 refine wp_append_own w s x t ho base e i _ 4 32 ht hi hz hsize hby (by simp [Value.cells, wds]) (by omega) v ps.length (sets ps) hs hown ⟨g, 0, none⟩ qs.length c (sets qs) hx (sets_length qs) (fun j u hj => ?_) (sets_one qs) (by unfold maxLen; omega) (by omega) hb
  (fun v' w' h2 h3 _ => hK _ _ (h v' w' ?_ h3))
 ·rw [Addr.add_lit, Nat.zero_add, hr.cell j]; exact hj
 ·rw [List.length_append, sets_append]; exact h2
theorem wpList_ldMid (hgd : o.guard = none) (ty : TypeId) (x : Operand) (ho : o.op = .load ty x) (b off : Nat) (hx : a.eval x = .pointer (some ⟨b, off, none⟩)) (cs : List Value) (d : TypeDesc)
  (hg : w.rangeAt b off cs) (hu : P.underlying ty = some d) (hd : d.isRow = true) (hi : (P.info? ty).map (·.size) = some cs.length)
  (h : wpList P ops Q rest (a.put o.dst (.agg cs.toArray)) w) : wpList P ops Q (o :: rest) a w :=
 wpList_plain hgd fun _ hK => wp_load_mid ty x ho b off hx cs d hg hu hd hi (hK _ _ h)
theorem wpList_neSet_is (hgd : Region.wanted o (yielded ops a.tmps) = true) {b : Bool} {p q : Nat → Bool} (hb : (!eqS p q) = b) (t e : TypeId) (x y : Operand) (oT : TypeId) (ho : o.op = .binOp .neq t x y oT) (hm : P.eqGuardType P.depth t = false)
  (ht : P.underlying t = some (.array 4 e)) (he : P.underlying e = some (.int .u64)) (hsz : ∀ w, (sizeOf e).run P w = .ok 1 w)
  (ex : a.eval x = .agg (wds p).toArray) (ey : a.eval y = .agg (wds q).toArray)
  (h : wpList P ops Q rest (a.put o.dst (.bool b)) w) : wpList P ops Q (o :: rest) a w := by
 refine BigFrame.wpList_want hgd fun K hK => ?_
 unfold Oper.wp
 simp only [execOp, ho, ex, ey, Sem.run_bind, run_eqGuard_agg w .neq t x y _ _ hm, Result.andThen_ok, run_neq_sets w t e ht he hsz p q, Sem.run_pure, hb]
 exact hK _ _ h
end
theorem runTwo (p q : Nat → Bool) (w : World) : (Instr.build 122 #[(0, .agg (wds p).toArray), (1, .agg (wds q).toArray)]).run Tryz.prog w = .ok (.agg (wds p ++ wds q).toArray) w := by kernel_rfl
theorem idxP0 (p q : Nat → Bool) (w : World) : (Instr.index 122 (.agg (wds p ++ wds q).toArray) (.int .i64 0)).run Tryz.prog w = .ok (.agg (wds p).toArray) w := by kernel_rfl
theorem idxP1 (p q : Nat → Bool) (w : World) : (Instr.index 122 (.agg (wds p ++ wds q).toArray) (.int .i64 1)).run Tryz.prog w = .ok (.agg (wds q).toArray) w := by kernel_rfl
theorem zeroB : Tryz.prog.built 43 [] = some (wds fun _ => false).toArray := by kernel_rfl
/-! ### bytes alike -/
theorem alikeS_iff (ps : List (Nat → Bool)) (a b : Nat) : alikeS ps a b = true ↔ ∀ p ∈ ps, p a = p b := by
 unfold alikeS
 rw [List.all_eq_true]
 simp
theorem alikeS_refl (ps : List (Nat → Bool)) (a : Nat) : alikeS ps a a = true := (alikeS_iff ps a a).2 fun _ _ => rfl
theorem alikeS_symm {ps : List (Nat → Bool)} {a b : Nat} (h : alikeS ps a b = true) : alikeS ps b a = true := (alikeS_iff ps b a).2 fun p hp => ((alikeS_iff ps a b).1 h p hp).symm
theorem alikeS_trans {ps : List (Nat → Bool)} {a b c : Nat} (h : alikeS ps a b = true) (k : alikeS ps b c = true) : alikeS ps a c = true :=
 (alikeS_iff ps a c).2 fun p hp => ((alikeS_iff ps a b).1 h p hp).trans ((alikeS_iff ps b c).1 k p hp)
theorem alikeS_same {ps : List (Nat → Bool)} {a b : Nat} (h : alikeS ps a b = true) (c : Nat) : alikeS ps a c = alikeS ps b c := by
 rw [Bool.eq_iff_iff]
 exact ⟨fun k => alikeS_trans (alikeS_symm h) k, fun k => alikeS_trans h k⟩
theorem alikeS_more (ps : List (Nat → Bool)) (s : Nat → Bool) (a b : Nat) : alikeS (ps ++ [s]) a b = (alikeS ps a b && (s a == s b)) := by simp [alikeS]
/-! ### the first bytes -/
theorem firstJ_facts (ps : List (Nat → Bool)) : ∀ j, (firstJ ps j).Pairwise (fun f g => f < g ∧ alikeS ps f g = false) ∧ (∀ f ∈ firstJ ps j, ∀ b, b < f → alikeS ps f b = false) ∧ (∀ b, b < j → ∃ f ∈ firstJ ps j, alikeS ps f b = true)
 | 0 => ⟨List.Pairwise.nil, fun f hf => by simp [firstJ] at hf, fun b hb => by omega⟩
 | j + 1 => by
  obtain ⟨h1, h2, h3⟩ := firstJ_facts ps j
  by_cases hh : (firstJ ps j).any (fun f => alikeS ps j f) = true
  ·have e : firstJ ps (j + 1) = firstJ ps j := by simp only [firstJ]; rw [if_pos hh]
   rw [e]
   refine ⟨h1, h2, fun b hb => ?_⟩
   by_cases hbj : b < j
   ·exact h3 b hbj
   ·obtain rfl : b = j := by omega
    obtain ⟨f, hf, ha⟩ := List.any_eq_true.1 hh
    exact ⟨f, hf, alikeS_symm ha⟩
  ·have e : firstJ ps (j + 1) = firstJ ps j ++ [j] := by simp only [firstJ]; rw [if_neg hh]
   have hno : ∀ f ∈ firstJ ps j, alikeS ps f j = false := fun f hf => by
    rw [Bool.eq_false_iff]
    exact fun k => hh (List.any_eq_true.2 ⟨f, hf, alikeS_symm k⟩)
   rw [e]
   refine ⟨List.pairwise_append.2 ⟨h1, List.pairwise_singleton _ _, fun f hf g hg => ?_⟩, fun f hf b hb => ?_, fun b hb => ?_⟩
   ·obtain rfl : g = j := by simpa using hg
    exact ⟨firstJ_lt ps _ f hf, hno f hf⟩
   ·rcases List.mem_append.1 hf with hf | hf
    ·exact h2 f hf b hb
    ·obtain rfl : f = j := by simpa using hf
     rw [Bool.eq_false_iff]
     intro k
     obtain ⟨g, hg, ha⟩ := h3 b hb
     have := hno g hg
     rw [alikeS_trans ha (alikeS_symm k)] at this
     cases this
   ·by_cases hbj : b < j
    ·obtain ⟨f, hf, ha⟩ := h3 b hbj
     exact ⟨f, List.mem_append.2 (.inl hf), ha⟩
    ·obtain rfl : b = j := by omega
     exact ⟨b, by simp, alikeS_refl ps b⟩
theorem firstJ_prefix (ps : List (Nat → Bool)) (j : Nat) : ∀ d, firstJ ps j <+: firstJ ps (j + d)
 | 0 => List.prefix_refl _
 | d + 1 => by
  refine List.IsPrefix.trans (firstJ_prefix ps j d) ?_
  rw [show j + (d + 1) = (j + d) + 1 from rfl]
  simp only [firstJ]
  split
  ·exact List.prefix_refl _
  ·exact List.prefix_append _ _
theorem clsOf_ltN (ps : List (Nat → Bool)) {N j : Nat} (hj : j < N) : clsOf ps j < (firstJ ps N).length := by
 have h1 := firstJ_mono ps (j + 1) (N - (j + 1))
 rw [show j + 1 + (N - (j + 1)) = N from by omega] at h1
 have h2 := clsOf_le ps j
 rcases Nat.lt_or_ge (clsOf ps j) (firstJ ps j).length with h | h
 ·rw [firstJ_hit h] at h1
  omega
 ·rw [firstJ_new (by omega), List.length_append] at h1
  simp at h1
  omega
theorem clsOf_is (ps : List (Nat → Bool)) (N b : Nat) (hb : b < N) (k : Nat) (hk : k < (firstJ ps N).length) : clsOf ps b = k ↔ alikeS ps ((firstJ ps N)[k]'hk) b = true := by
 obtain ⟨h1, h2, h3⟩ := firstJ_facts ps N
 have hlt := clsOf_ltN ps hb
 have hat : alikeS ps ((firstJ ps N)[clsOf ps b]'hlt) b = true := by
  have hp := firstJ_prefix ps (b + 1) (N - (b + 1))
  rw [show b + 1 + (N - (b + 1)) = N by omega] at hp
  rcases Nat.lt_or_ge (clsOf ps b) (firstJ ps b).length with h | h
  ·have ht := List.findIdx_getElem (p := fun f => alikeS ps b f) (w := h)
   have hp2 := firstJ_prefix ps b (N - b)
   rw [show b + (N - b) = N by omega] at hp2
   have := List.IsPrefix.getElem hp2 h
   have e : (firstJ ps N)[clsOf ps b]'hlt = (firstJ ps b)[clsOf ps b]'h := this.symm
   rw [e]
   exact alikeS_symm ht
  ·have hle := clsOf_le ps b
   have e0 : clsOf ps b = (firstJ ps b).length := by omega
   have en := firstJ_new e0
   have hl2 : clsOf ps b < (firstJ ps (b + 1)).length := by rw [en, List.length_append]; simp; omega
   have := List.IsPrefix.getElem hp hl2
   have e : (firstJ ps N)[clsOf ps b]'hlt = (firstJ ps (b + 1))[clsOf ps b]'hl2 := this.symm
   rw [e]
   have e2 : (firstJ ps (b + 1))[clsOf ps b]'hl2 = b := by
    have : (firstJ ps (b + 1))[clsOf ps b]? = some b := by rw [en, e0]; simp
    rw [List.getElem?_eq_getElem hl2] at this
    exact Option.some.inj this
   rw [e2]
   exact alikeS_refl ps b
 constructor
 ·rintro rfl
  exact hat
 ·intro ha
  have hl := alikeS_trans hat (alikeS_symm ha)
  rcases Nat.lt_trichotomy (clsOf ps b) k with h | h | h
  ·have := (List.pairwise_iff_getElem.1 h1 _ _ hlt hk h).2
   rw [hl] at this; cases this
  ·exact h
  ·have := (List.pairwise_iff_getElem.1 h1 _ _ hk hlt h).2
   rw [alikeS_symm hl] at this; cases this
/-! ### the document's parts -/
def partsN (ps : List (Nat → Bool)) (N : Nat) : List (Nat → Bool) := outs ps (firstJ ps N).length N
theorem partsN_length (ps : List (Nat → Bool)) (N : Nat) : (partsN ps N).length = (firstJ ps N).length := outs_length _ _ _
theorem parts_length (ps : List (Nat → Bool)) : (parts ps).length = (firstJ ps 256).length := outs_length _ _ _
theorem partsN_at (ps : List (Nat → Bool)) (N : Nat) (k : Nat) (hk : k < (partsN ps N).length) (b : Nat) (hb : b < N) : ((partsN ps N)[k]'hk) b = alikeS ps ((firstJ ps N)[k]'(by rw [← partsN_length]; exact hk)) b := by
 have hk' : k < (firstJ ps N).length := by rw [← partsN_length]; exact hk
 have e : (partsN ps N)[k]'hk = fun b => decide (b < N) && decide (clsOf ps b = k) := outs_at ps _ N k hk
 rw [e]
 show (decide (b < N) && decide (clsOf ps b = k)) = _
 have := clsOf_is ps N b hb k hk'
 rw [decide_eq_true hb, Bool.true_and, Bool.eq_iff_iff, decide_eq_true_iff]
 exact this
theorem partsN_less (ps : List (Nat → Bool)) (N : Nat) (hN : N ≤ 256) : (partsN ps N).Pairwise fun p q => lessS p q = true := by
 rw [List.pairwise_iff_getElem]
 intro i j hi hj hij
 obtain ⟨h1, h2, h3⟩ := firstJ_facts ps N
 have hi' : i < (firstJ ps N).length := by rw [← partsN_length]; exact hi
 have hj' : j < (firstJ ps N).length := by rw [← partsN_length]; exact hj
 have hlt := List.pairwise_iff_getElem.1 h1 i j hi' hj' hij
 have hm := firstJ_lt ps N _ (List.getElem_mem hi')
 refine (lessS_iff _ _).2 ⟨(firstJ ps N)[i]'hi', Nat.lt_of_lt_of_le hm hN, fun b hb => ?_, ?_, ?_⟩
 ·rw [partsN_at ps N i hi b (by omega), partsN_at ps N j hj b (by omega), h2 _ (List.getElem_mem hi') b hb, h2 _ (List.getElem_mem hj') b (by omega)]
 ·rw [partsN_at ps N i hi _ hm]
  exact alikeS_refl _ _
 ·rw [partsN_at ps N j hj _ hm]
  exact h2 _ (List.getElem_mem hj') _ hlt.1
theorem partsN_some (ps : List (Nat → Bool)) (N : Nat) (q : Nat → Bool) (hq : q ∈ partsN ps N) : ∃ a, a < N ∧ ∀ b, b < N → q b = alikeS ps a b := by
 obtain ⟨k, hk, rfl⟩ := List.getElem_of_mem hq
 have hk' : k < (firstJ ps N).length := by rw [← partsN_length]; exact hk
 exact ⟨(firstJ ps N)[k]'hk', firstJ_lt ps N _ (List.getElem_mem hk'), fun b hb => partsN_at ps N k hk b hb⟩
theorem partsN_all (ps : List (Nat → Bool)) (N a : Nat) (ha : a < N) : ∃ q ∈ partsN ps N, ∀ b, b < N → q b = alikeS ps a b := by
 have hk : clsOf ps a < (partsN ps N).length := by rw [partsN_length]; exact clsOf_ltN ps ha
 have hk' : clsOf ps a < (firstJ ps N).length := clsOf_ltN ps ha
 refine ⟨(partsN ps N)[clsOf ps a]'hk, List.getElem_mem hk, fun b hb => ?_⟩
 rw [partsN_at ps N _ hk b hb]
 exact alikeS_same ((clsOf_is ps N a ha _ hk').1 rfl) b
theorem parts_less (ps : List (Nat → Bool)) : (parts ps).Pairwise fun p q => lessS p q = true := partsN_less ps 256 (Nat.le_refl _)
theorem parts_some (ps : List (Nat → Bool)) (q : Nat → Bool) (hq : q ∈ parts ps) : ∃ a, a < 256 ∧ ∀ b, b < 256 → q b = alikeS ps a b := partsN_some ps 256 q hq
theorem parts_all (ps : List (Nat → Bool)) (a : Nat) (ha : a < 256) : ∃ q ∈ parts ps, ∀ b, b < 256 → q b = alikeS ps a b := partsN_all ps 256 a ha
theorem partsN_apart (ps : List (Nat → Bool)) (N : Nat) : (partsN ps N).Pairwise fun p q => ∀ b, b < N → ¬ (p b = true ∧ q b = true) := by
 rw [List.pairwise_iff_getElem]
 intro i j hi hj hij b hb
 rintro ⟨h1, h2⟩
 rw [partsN_at ps N i hi b hb] at h1
 rw [partsN_at ps N j hj b hb] at h2
 have hi' : i < (firstJ ps N).length := by rw [← partsN_length]; exact hi
 have hj' : j < (firstJ ps N).length := by rw [← partsN_length]; exact hj
 have := (List.pairwise_iff_getElem.1 (firstJ_facts ps N).1 i j hi' hj' hij).2
 rw [alikeS_trans h1 (alikeS_symm h2)] at this
 cases this
/-! ### cut by set after set -/
def curS (ps : List (Nat → Bool)) : List (Nat → Bool) := ps.foldl splitS [fun _ => true]
theorem curS_more (ps : List (Nat → Bool)) (s : Nat → Bool) : curS (ps ++ [s]) = splitS (curS ps) s := by simp [curS, List.foldl_append]
theorem nonE_iff (q : Nat → Bool) : nonE q = true ↔ ∃ b, b < 256 ∧ q b = true := by
 unfold nonE
 rw [Bool.not_eq_true', Bool.eq_false_iff]
 constructor
 ·intro h
  apply Classical.byContradiction
  intro hn
  exact h ((eqS_iff q _).2 fun b hb => by
   cases hq : q b with
   | false => rfl
   | true => exact absurd ⟨b, hb, hq⟩ hn)
 ·rintro ⟨b, hb, hq⟩ h
  rw [(eqS_iff q _).1 h b hb] at hq
  cases hq
theorem mem_split {ps : List (Nat → Bool)} {s q : Nat → Bool} : q ∈ splitS ps s ↔ ∃ p ∈ ps, (q = (fun b => p b && s b) ∨ q = fun b => p b && !s b) ∧ nonE q = true := by
 unfold splitS pieces
 simp only [List.mem_flatMap, List.mem_filter, List.mem_cons, List.not_mem_nil, or_false]
def Apart (l : List (Nat → Bool)) : Prop := l.Pairwise fun p q => ∀ b, b < 256 → ¬ (p b = true ∧ q b = true)
theorem split_apart {ps : List (Nat → Bool)} (h : Apart ps) (s : Nat → Bool) : Apart (splitS ps s) := by
 unfold Apart splitS
 rw [List.pairwise_flatMap]
 have hin : ∀ p x, x ∈ (pieces p s).filter nonE → ∀ b, x b = true → p b = true := by
  intro p x hx b hb
  have := (List.mem_filter.1 hx).1
  simp only [pieces, List.mem_cons, List.not_mem_nil, or_false] at this
  rcases this with rfl | rfl
  ·simp only [Bool.and_eq_true] at hb; exact hb.1
  ·simp only [Bool.and_eq_true] at hb; exact hb.1
 refine ⟨fun p hp => List.Pairwise.filter _ ?_, List.Pairwise.imp ?_ h⟩
 ·refine List.Pairwise.cons (fun q hq => ?_) (List.pairwise_singleton _ _)
  obtain rfl : q = fun b => p b && !s b := by simpa using hq
  intro b hb
  rintro ⟨h1, h2⟩
  simp only [Bool.and_eq_true] at h1 h2
  rw [h1.2] at h2
  exact absurd h2.2 (by decide)
 ·intro p q hpq x hx y hy b hb
  rintro ⟨h1, h2⟩
  exact hpq b hb ⟨hin p x hx b h1, hin q y hy b h2⟩
structure Cut (ps cur : List (Nat → Bool)) : Prop where
 some_ : ∀ q ∈ cur, ∃ a, a < 256 ∧ ∀ b, b < 256 → q b = alikeS ps a b
 all_ : ∀ a, a < 256 → ∃ q ∈ cur, q a = true
 apart : Apart cur
theorem cut_nil : Cut [] [fun _ => true] where
 some_ q hq := by
  obtain rfl : q = fun _ => true := by simpa using hq
  exact ⟨0, by omega, fun b _ => rfl⟩
 all_ a _ := ⟨_, List.mem_singleton.2 rfl, rfl⟩
 apart := List.pairwise_singleton _ _
theorem cut_next {ps cur : List (Nat → Bool)} (h : Cut ps cur) (s : Nat → Bool) : Cut (ps ++ [s]) (splitS cur s) where
 some_ q hq := by
  obtain ⟨p, hp, hq2, hne⟩ := mem_split.1 hq
  obtain ⟨c, hc, hqc⟩ := (nonE_iff q).1 hne
  obtain ⟨a, ha, hpa⟩ := h.some_ p hp
  rcases hq2 with rfl | rfl
  ·simp only [Bool.and_eq_true] at hqc
   refine ⟨c, hc, fun b hb => ?_⟩
   show (p b && s b) = _
   rw [alikeS_more, hpa b hb, hqc.2]
   rw [hpa c hc] at hqc
   rw [alikeS_same hqc.1 b]
   cases s b <;> rfl
  ·simp only [Bool.and_eq_true, Bool.not_eq_true'] at hqc
   refine ⟨c, hc, fun b hb => ?_⟩
   show (p b && !s b) = _
   rw [alikeS_more, hpa b hb, hqc.2]
   rw [hpa c hc] at hqc
   rw [alikeS_same hqc.1 b]
   cases s b <;> rfl
 all_ a ha := by
  obtain ⟨p, hp, hpa⟩ := h.all_ a ha
  cases hs : s a with
  | true => exact ⟨_, mem_split.2 ⟨p, hp, .inl rfl, (nonE_iff _).2 ⟨a, ha, by simp [hpa, hs]⟩⟩, by simp [hpa, hs]⟩
  | false => exact ⟨_, mem_split.2 ⟨p, hp, .inr rfl, (nonE_iff _).2 ⟨a, ha, by simp [hpa, hs]⟩⟩, by simp [hpa, hs]⟩
 apart := split_apart h.apart s
theorem cut_fold : ∀ (ps qs cur : List (Nat → Bool)), Cut qs cur → Cut (qs ++ ps) (ps.foldl splitS cur)
 | [], qs, cur, h => by simpa using h
 | s :: r, qs, cur, h => by
  have := cut_fold r (qs ++ [s]) (splitS cur s) (cut_next h s)
  simpa using this
theorem cut_cur (ps : List (Nat → Bool)) : Cut ps (curS ps) := cut_fold ps [] _ cut_nil
/-! ### told by what they have below 256 -/
def norm (q : Nat → Bool) : Nat → Bool := fun b => decide (b < 256) && q b
theorem norm_eq {p q : Nat → Bool} : norm p = norm q ↔ ∀ b, b < 256 → p b = q b := by
 constructor
 ·intro h b hb
  have := congrFun h b
  simpa [norm, hb] using this
 ·intro h
  funext b
  by_cases hb : b < 256
  ·simp [norm, hb, h b hb]
  ·simp [norm, hb]
theorem wds_norm (q : Nat → Bool) : wds (norm q) = wds q := wds_congr fun b hb => by simp [norm, hb]
theorem lessS_norm (p q : Nat → Bool) : lessS (norm p) (norm q) = lessS p q := by
 rw [Bool.eq_iff_iff, lessS_iff, lessS_iff]
 constructor
 ·rintro ⟨j, hj, h1, h2, h3⟩
  exact ⟨j, hj, fun b hb => by have := h1 b hb; simpa [norm, show b < 256 by omega] using this, by simpa [norm, hj] using h2, by simpa [norm, hj] using h3⟩
 ·rintro ⟨j, hj, h1, h2, h3⟩
  exact ⟨j, hj, fun b hb => by simp [norm, show b < 256 by omega, h1 b hb], by simp [norm, hj, h2], by simp [norm, hj, h3]⟩
theorem cut_mem {ps cur : List (Nat → Bool)} (h : Cut ps cur) (x : Nat → Bool) : x ∈ cur.map norm ↔ ∃ a, a < 256 ∧ x = norm (alikeS ps a) := by
 rw [List.mem_map]
 constructor
 ·rintro ⟨q, hq, rfl⟩
  obtain ⟨a, ha, hqa⟩ := h.some_ q hq
  exact ⟨a, ha, norm_eq.2 hqa⟩
 ·rintro ⟨a, ha, rfl⟩
  obtain ⟨q, hq, hqa⟩ := h.all_ a ha
  obtain ⟨c, hc, hqc⟩ := h.some_ q hq
  refine ⟨q, hq, norm_eq.2 fun b hb => ?_⟩
  rw [hqc b hb]
  rw [hqc a ha] at hqa
  exact alikeS_same hqa b
theorem cut_nodup {ps cur : List (Nat → Bool)} (h : Cut ps cur) : (cur.map norm).Nodup := by
 unfold List.Nodup
 rw [List.pairwise_map, List.pairwise_iff_getElem]
 intro i j hi hj hij hn
 obtain ⟨a, ha, hq⟩ := h.some_ _ (List.getElem_mem hi)
 have hp := List.pairwise_iff_getElem.1 h.apart i j hi hj hij a ha
 have h1 : cur[i] a = true := by rw [hq a ha]; exact alikeS_refl ps a
 exact hp ⟨h1, by rw [← norm_eq.1 hn a ha]; exact h1⟩
theorem parts_cut (ps : List (Nat → Bool)) : Cut ps (parts ps) where
 some_ := parts_some ps
 all_ a ha := by
  obtain ⟨q, hq, h⟩ := parts_all ps a ha
  exact ⟨q, hq, by rw [h a ha]; exact alikeS_refl ps a⟩
 apart := partsN_apart ps 256
theorem cut_perm {ps cur : List (Nat → Bool)} (h : Cut ps cur) : (cur.map norm).Perm ((parts ps).map norm) :=
 (List.perm_ext_iff_of_nodup (cut_nodup h) (cut_nodup (parts_cut ps))).2 fun x => by rw [cut_mem h, cut_mem (parts_cut ps)]
theorem cut_length {ps cur : List (Nat → Bool)} (h : Cut ps cur) : cur.length = (parts ps).length := by
 have := (cut_perm h).length_eq
 simpa using this
theorem lessS_asymm {p q : Nat → Bool} (h : lessS p q = true) : lessS q p = false := by
 cases k : lessS q p with
 | false => rfl
 | true =>
  have := lessS_trans h k
  rw [show lessS p p = false from lessS_none fun _ _ => rfl] at this
  cases this
theorem sorted_parts {ps cur qs : List (Nat → Bool)} (h : Cut ps cur) (hp : qs.Perm cur) (hs : qs.Pairwise fun p q => lessS q p = false) : qs.map norm = (parts ps).map norm := by
 refine List.Perm.eq_of_pairwise (le := fun p q => lessS q p = false) ?_ ?_ ?_ ((hp.map norm).trans (cut_perm h))
 ·intro a b ha hb h1 h2
  have e := lessS_not h2
  rw [h1, Bool.not_false] at e
  obtain ⟨a', _, rfl⟩ := List.mem_map.1 ha
  obtain ⟨b', _, rfl⟩ := List.mem_map.1 hb
  have := (eqS_iff _ _).1 e
  exact norm_eq.2 fun b hb => by simpa [norm, hb] using this b hb
 ·rw [List.pairwise_map]
  exact hs.imp fun h => by rw [lessS_norm]; exact h
 ·rw [List.pairwise_map]
  exact (parts_less ps).imp fun h => by rw [lessS_norm]; exact lessS_asymm h
theorem parts_le (ps : List (Nat → Bool)) : (parts ps).length ≤ 256 := by rw [parts_length]; exact firstJ_len ps 256
theorem curS_le (ps : List (Nat → Bool)) : (curS ps).length ≤ 256 := by rw [cut_length (cut_cur ps)]; exact parts_le ps
theorem curS_pos (ps : List (Nat → Bool)) : 0 < (curS ps).length := by
 obtain ⟨q, hq, _⟩ := (cut_cur ps).all_ 0 (by omega)
 exact List.length_pos_of_mem hq
def setsN (S : List St) : List (Nat → Bool) := S.map St.set
theorem setsN_len (S : List St) : (setsN S).length = S.length := by simp [setsN]
def fbN (S : List St) : List Nat := firstJ (setsN S) 256
theorem fbN_lt {S : List St} {b : Nat} (h : b ∈ fbN S) : b < 256 := firstJ_lt _ _ _ h
theorem fbN_len (S : List St) : (fbN S).length ≤ 256 := firstJ_len _ _
noncomputable def sucN (S : List St) (X : List Int) : List (List Int) := (fbN S).map fun b => stpN S X b
theorem sucN_len (S : List St) (X : List Int) : (sucN S X).length = (fbN S).length := by simp [sucN]
theorem sucN_get {S : List St} {X : List Int} {j b : Nat} (h : (fbN S)[j]? = some b) : (sucN S X)[j]? = some (stpN S X b) := by simp [sucN, h]
noncomputable def LN (S : List St) (a : Int) (r : Nat) : List (List Int) := Lq (sucN S) (clsN S [a]) r
def FitN (S : List St) (a : Int) (n : Nat) : Prop := Fit (sucN S) (clsN S [a]) n
structure Dm where
 cl : List UInt8
 next : List (List Int)
 ends : List Bool
deriving DecidableEq
def noDm : Dm := ⟨List.replicate 256 0, [], []⟩
def hasZ (z : Int) (X : List Int) : Bool := decide (z ∈ X)
noncomputable def machN (S : List St) (a z : Int) (n : Nat) : Dm := ⟨ctab (setsN S) 256, rowsI (sucN S) (LN S a n) n, endsI (hasZ z) (LN S a n) n⟩
noncomputable def mkN (S : List St) (a z most : Int) : Dm × Int := by
 classical exact if MayN S a z then (if h : ∃ n : Nat, FitN S a n ∧ (n : Int) ≤ most then (machN S a z h.choose, 0) else (noDm, 7)) else (noDm, 3)
theorem mkN_form {S : List St} {a z most : Int} (h : ¬ MayN S a z) : mkN S a z most = (noDm, 3) := by
 unfold mkN
 rw [if_neg h]
theorem mkN_ok {S : List St} {a z most : Int} (h : MayN S a z) {n : Nat} (hn : FitN S a n) (hm : (n : Int) ≤ most) : mkN S a z most = (machN S a z n, 0) := by
 have he : ∃ n : Nat, FitN S a n ∧ (n : Int) ≤ most := ⟨n, hn, hm⟩
 unfold mkN
 rw [if_pos h, dif_pos he]
 rw [fit_one he.choose_spec.1 hn]
theorem mkN_many {S : List St} {a z most : Int} (h : MayN S a z) {r : Nat} (hr : most < ((LN S a r).length : Int)) : mkN S a z most = (noDm, 7) := by
 have he : ¬ ∃ n : Nat, FitN S a n ∧ (n : Int) ≤ most := by
  rintro ⟨n, hn, hm⟩
  have := fit_most hn r
  unfold LN at hr
  omega
 unfold mkN
 rw [if_pos h, dif_neg he]
theorem mkN_is (S : List St) (a z most : Int) : (¬ MayN S a z ∧ mkN S a z most = (noDm, 3)) ∨ (MayN S a z ∧ ∃ n : Nat, FitN S a n ∧ (n : Int) ≤ most ∧ mkN S a z most = (machN S a z n, 0)) ∨
  (MayN S a z ∧ (∀ n : Nat, FitN S a n → most < (n : Int)) ∧ mkN S a z most = (noDm, 7)) := by
 by_cases h : MayN S a z
 ·by_cases he : ∃ n : Nat, FitN S a n ∧ (n : Int) ≤ most
  ·obtain ⟨n, hn, hm⟩ := he
   exact .inr (.inl ⟨h, n, hn, hm, mkN_ok h hn hm⟩)
  ·refine .inr (.inr ⟨h, fun n hn => Int.lt_of_not_ge fun hm => he ⟨n, hn, hm⟩, ?_⟩)
   unfold mkN
   rw [if_pos h, dif_neg he]
 ·exact .inl ⟨h, mkN_form h⟩
/-! ### sets of states -/
def memB (X : List Int) (i : Nat) : Bool := decide ((i : Int) ∈ X)
theorem memB_ris (t : Nat → Bool) (n i : Nat) : memB (risJ t n) i = (decide (i < n) && t i) := by
 unfold memB
 rw [Bool.eq_iff_iff, decide_eq_true_iff, risJ_mem, Bool.and_eq_true, decide_eq_true_iff]
 constructor
 ·rintro ⟨j, hj, h1, h2⟩
  have : i = j := by omega
  subst this
  exact ⟨h1, h2⟩
 ·rintro ⟨h1, h2⟩
  exact ⟨i, rfl, h1, h2⟩
def Ris (n : Nat) (X : List Int) : Prop := X = risJ (memB X) n
theorem ris_ris (t : Nat → Bool) (n : Nat) : Ris n (risJ t n) := by
 unfold Ris
 refine risJ_congr fun i hi => ?_
 rw [memB_ris]
 simp [hi]
theorem ris_cls (S : List St) (l : List Int) : Ris S.length (clsN S l) := ris_ris _ _
theorem ris_stp (S : List St) (l : List Int) (b : Nat) : Ris S.length (stpN S l b) := ris_cls _ _
theorem ris_eq {n : Nat} {X Y : List Int} (hX : Ris n X) (hY : Ris n Y) (h : ∀ i, i < n → memB X i = memB Y i) : X = Y := by
 rw [hX, hY]
 exact risJ_congr h
theorem ris_rng {n : Nat} {X : List Int} (h : Ris n X) {x : Int} (hx : x ∈ X) : ∃ i : Nat, x = (i : Int) ∧ i < n := by
 rw [h] at hx
 obtain ⟨i, h1, h2, _⟩ := risJ_mem.1 hx
 exact ⟨i, h1, h2⟩
theorem ris_len {n : Nat} {X : List Int} (h : Ris n X) : X.length ≤ n := by
 rw [h]
 exact risJ_len _ _
theorem LN_ris (S : List St) (a : Int) (r : Nat) : ∀ X ∈ LN S a r, Ris S.length X :=
 Lq_all (ris_cls S _) (fun X _ Y hY => by
  obtain ⟨b, _, rfl⟩ := List.mem_map.1 hY
  exact ris_stp _ _ _) r
theorem LN_zero (S : List St) (a : Int) : LN S a 0 = [clsN S [a]] := rfl
theorem memB_cls {S : List St} {l : List Int} {i : Nat} : memB (clsN S l) i = true ↔ Rc S (ofL l) i := by
 unfold memB
 rw [decide_eq_true_iff]
 exact clsN_mem
theorem rc_each {S : List St} {l : List Int} {i : Nat} : Rc S (ofL l) i ↔ ∃ x ∈ l, Rc S (ofL [x]) i := by
 constructor
 ·intro h
  induction h with
  | base h1 h2 => exact ⟨_, h1, .base (List.mem_singleton.2 rfl) h2⟩
  | go _ h2 h3 h4 ih =>
   obtain ⟨x, hx, hr⟩ := ih
   exact ⟨x, hx, .go hr h2 h3 h4⟩
 ·rintro ⟨x, hx, h⟩
  refine h.mono fun j hj => ?_
  have : (j : Int) = x := List.mem_singleton.1 hj
  rw [← this] at hx
  exact hx
theorem rc_nowhere {S : List St} {x : Int} (h : x < 0) {i : Nat} : ¬ Rc S (ofL [x]) i := by
 intro hr
 induction hr with
 | base h1 _ => have := List.mem_singleton.1 h1; omega
 | go _ _ _ _ ih => exact ih
theorem memB_stp {S : List St} {X : List Int} {b i : Nat} : memB (stpN S X b) i = true ↔ ∃ (p : Nat) (s : St), (p : Int) ∈ X ∧ S[p]? = some s ∧ s.set b = true ∧ Rc S (ofL [s.to]) i := by
 unfold stpN
 rw [memB_cls, rc_each]
 constructor
 ·rintro ⟨x, hx, hr⟩
  obtain ⟨p, s, h1, h2, h3, h4, rfl⟩ := goN_mem.1 hx
  exact ⟨p, s, h1, h2, h4, hr⟩
 ·rintro ⟨p, s, h1, h2, h3, hr⟩
  have h0 : 0 ≤ s.to := by
   refine Int.le_of_not_gt fun hlt => ?_
   exact rc_nowhere hlt hr
  exact ⟨s.to, goN_mem.2 ⟨p, s, h1, h2, h0, h3, rfl⟩, hr⟩
def clN (S : List St) (b : Nat) : Nat := clsOf (setsN S) b
theorem clN_lt {S : List St} {b : Nat} (hb : b < 256) : clN S b < (fbN S).length := clsOf_lt _ hb
theorem clN_fb {S : List St} {k c : Nat} (h : (fbN S)[k]? = some c) : clN S c = k := by
 obtain ⟨hk, rfl⟩ := List.getElem?_eq_some_iff.1 h
 refine (clsOf_is (setsN S) 256 _ (fbN_lt (List.getElem_mem hk)) k hk).2 ?_
 exact alikeS_refl _ _
def gds (t : Nat → Bool) : List Value := (List.range 32).map fun i => .int .u64 (word t i : Int)
theorem gds_length (t : Nat → Bool) : (gds t).length = 32 := by simp [gds]
theorem gds_get (t : Nat → Bool) {i : Nat} (hi : i < 32) : (gds t)[i]? = some (.int .u64 (word t i : Int)) := by simp [gds, hi]
theorem gds_one (t : Nat → Bool) : ∀ u ∈ gds t, u.oneCell' = true := by
 intro u hu
 obtain ⟨i, _, rfl⟩ := List.mem_map.1 hu
 rfl
theorem gds_all (t : Nat → Bool) : (gds t).all (·.oneCell') = true := by
 rw [List.all_eq_true]
 exact gds_one t
theorem wordG {t u : Nat → Bool} {i : Nat} (h : ∀ j, j < 64 → t (64 * i + j) = u (64 * i + j)) : word t i = word u i := wd_congr h
theorem gds_congr {t u : Nat → Bool} (h : ∀ b, b < 2048 → t b = u b) : gds t = gds u := by
 unfold gds
 refine List.map_congr_left fun i hi => ?_
 have := List.mem_range.1 hi
 rw [wordG fun j hj => h _ (by omega)]
theorem gds_inj {t u : Nat → Bool} (h : gds t = gds u) (b : Nat) (hb : b < 2048) : t b = u b := by
 have h2 : word t (b / 64) = word u (b / 64) := by
  have e1 := gds_get t (i := b / 64) (by omega)
  have e2 := gds_get u (i := b / 64) (by omega)
  rw [h, e2] at e1
  simp only [Option.some.injEq, Value.int.injEq, true_and] at e1
  omega
 rw [← word_bit t b, ← word_bit u b, h2]
theorem ris_gds {n : Nat} (hn : n ≤ 2048) {X Y : List Int} (hX : Ris n X) (hY : Ris n Y) (h : gds (memB X) = gds (memB Y)) : X = Y :=
 ris_eq hX hY fun i hi => gds_inj h i (by omega)
theorem gds_set (t : Nat → Bool) (i : Nat) (u : Nat → Bool) (hi : i < 32) (h : ∀ k, k < 32 → k ≠ i → word t k = word u k) : (gds t).set i (.int .u64 (word u i : Int)) = gds u := by
 apply List.ext_getElem
 ·simp [gds]
 ·intro k h1 h2
  have hk : k < 32 := by simpa [gds] using h2
  rw [List.getElem_set]
  by_cases hik : i = k
  ·subst hik
   simp [gds]
  ·rw [if_neg hik]
   simp only [gds, List.getElem_map, List.getElem_range]
   rw [h k hk fun e => hik e.symm]
theorem gds_put (t : Nat → Bool) (b : Nat) (hb : b < 2048) : (gds t).set (b / 64) (.int .u64 ((word t (b / 64) ||| 2 ^ (b % 64) : Nat) : Int)) = gds (fun c => t c || decide (c = b)) := by
 rw [word_put]
 exact gds_set t (b / 64) _ (by omega) fun k _ hne => word_other t b k hne
def grs (ts : List (Nat → Bool)) : List Value := ts.flatMap gds
theorem grs_append (ts us : List (Nat → Bool)) : grs (ts ++ us) = grs ts ++ grs us := by simp [grs]
theorem grs_get : ∀ {ts : List (Nat → Bool)} {k : Nat} {t : Nat → Bool}, ts[k]? = some t → ∀ i, i < 32 → (grs ts)[k * 32 + i]? = (gds t)[i]?
 | [], k, t, h, _, _ => by simp at h
 | u :: r, 0, t, h, i, hi => by
  have e : t = u := by simpa using h.symm
  subst e
  have : grs (t :: r) = gds t ++ grs r := rfl
  rw [this, Nat.zero_mul, Nat.zero_add, List.getElem?_append_left (by rw [gds_length]; exact hi)]
 | u :: r, k + 1, t, h, i, hi => by
  have h2 : r[k]? = some t := by simpa using h
  have : grs (u :: r) = gds u ++ grs r := rfl
  rw [this, List.getElem?_append_right (by rw [gds_length]; omega), gds_length, ← grs_get h2 i hi]
  congr 1
  omega
theorem grs_set : ∀ (ts : List (Nat → Bool)) (k i : Nat) (t u : Nat → Bool) (v : Value), ts[k]? = some t → i < 32 → (gds t).set i v = gds u → (grs ts).set (k * 32 + i) v = grs (ts.set k u)
 | [], k, i, t, u, v, h, _, _ => by simp at h
 | x :: r, 0, i, t, u, v, h, hi, hv => by
  have e : t = x := by simpa using h.symm
  subst e
  have e1 : grs (t :: r) = gds t ++ grs r := rfl
  have e2 : grs (List.set (t :: r) 0 u) = gds u ++ grs r := rfl
  rw [e1, e2, Nat.zero_mul, Nat.zero_add, List.set_append_left _ _ (by rw [gds_length]; exact hi), hv]
 | x :: r, k + 1, i, t, u, v, h, hi, hv => by
  have h2 : r[k]? = some t := by simpa using h
  have e1 : grs (x :: r) = gds x ++ grs r := rfl
  have e2 : grs (List.set (x :: r) (k + 1) u) = gds x ++ grs (r.set k u) := rfl
  rw [e1, e2, List.set_append_right _ _ (by rw [gds_length]; omega), gds_length, ← grs_set r k i t u v h2 hi hv]
  congr 2
  omega
theorem grs_range {w : World} {g : Nat} {ty : TypeId} {ts : List (Nat → Bool)} (h : Blk w g ty (grs ts)) {k : Nat} {t : Nat → Bool} (ht : ts[k]? = some t) : w.rangeAt g (k * 32) (gds t) := fun j v hv => by
 have hj : j < 32 := by have := (List.getElem?_eq_some_iff.1 hv).1; rwa [gds_length] at this
 rw [h.cell, grs_get ht j hj]
 exact hv
def RowG (w : World) (v : Value) (ts : List (Nat → Bool)) : Prop :=
 ∃ A cap, v = .slice A ts.length cap ∧ ts.length ≤ cap ∧ cap ≤ maxLen ∧ (A = none → cap = 0) ∧
  (ts ≠ [] → ∃ b off, A = some ⟨b, off, none⟩ ∧ b < w.heap.size ∧ ∀ i t, ts[i]? = some t → w.rangeAt b (off + i * 32) (gds t))
theorem RowG.below {w w' : World} {v : Value} {ts : List (Nat → Bool)} (h : RowG w v ts) (hb : Below w.heap.size w w') : RowG w' v ts := by
 obtain ⟨A, cap, hv, h1, h2, h0, h3⟩ := h
 refine ⟨A, cap, hv, h1, h2, h0, fun hne => ?_⟩
 obtain ⟨b, off, hA, hlt, hc⟩ := h3 hne
 exact ⟨b, off, hA, Nat.lt_of_lt_of_le hlt hb.size, fun i t ht => range_below (hc i t ht) hb hlt⟩
theorem RowG.at_ {w : World} {A : Option Addr} {n cap : Nat} {ts : List (Nat → Bool)} (h : RowG w (.slice A n cap) ts) (hne : 0 < ts.length) : ∃ b off, A = some ⟨b, off, none⟩ ∧ b < w.heap.size ∧ ∀ i t, ts[i]? = some t → w.rangeAt b (off + i * 32) (gds t) := by
 obtain ⟨A', cap', he, _, _, _, h3⟩ := h
 injection he with hA _ _
 subst hA
 exact h3 (by rintro rfl; simp at hne)
theorem own32N (w : World) (B : Nat) (e : TypeId) : w.ownsRow B e 32 (.slice none 0 0) 0 [] := ⟨by simp, .inl ⟨rfl, rfl⟩⟩
theorem own32_row {w : World} {base : Nat} {e : TypeId} {v : Value} {ts : List (Nat → Bool)} (h : w.ownsRow base e 32 v ts.length (grs ts)) : RowG w v ts := by
 rcases h.2 with ⟨rfl, h0⟩ | ⟨g, cap, cur, rfl, hb, hg, hn, hm, hs, ht⟩
 ·obtain rfl : ts = [] := List.eq_nil_of_length_eq_zero h0
  exact ⟨none, 0, rfl, Nat.le_refl _, Nat.zero_le _, fun _ => rfl, fun h => absurd rfl h⟩
 ·refine ⟨_, cap, rfl, hn, hm, (fun h => by cases h), fun _ => ⟨g, 0, rfl, (Array.getElem?_eq_some_iff.1 hg).1, fun i t hj j u hu => ?_⟩⟩
  have hi := (List.getElem?_eq_some_iff.1 hj).1
  have hj2 : j < 32 := by simpa [gds_length] using (List.getElem?_eq_some_iff.1 hu).1
  have e1 := grs_get hj j hj2
  rw [hu, ← ht, List.getElem?_take, if_pos (by omega), Array.getElem?_toList] at e1
  rw [cell_of_row w g _ cur e (0, 0) hg, Nat.zero_add, e1]
section
variable {P : Program} {w : World} {ops : Array Oper} {rest : List Oper} {o : Oper} {a : Act} {Q : Exit → Act → World → Prop}
theorem wp_appGr {base : Nat} {K : Act → World → Prop} (s x : Operand) (t : TypeId)
  (ho : o.op = .call { callee := .builtin .append, args := #[s, x], argTypes := #[t, t] })
  (e : TypeId) (i : TypeInfo) (ht : P.underlying t = some (.slice e)) (hi : P.info? e = some i) (hz : i.zero = some (.agg (gds fun _ => false).toArray))
  (hsize : i.size = 32) (hby : i.bytes = 256)
  (v : Value) (ps : List (Nat → Bool)) (hs : a.eval s = v) (hown : w.ownsRow base e 32 v ps.length (grs ps))
  (g c : Nat) (tg : TypeId) (q : Nat → Bool) (hx : a.eval x = .slice (some ⟨g, 0, none⟩) 1 c) (hr : Blk w g tg (gds q))
  (hlen : ps.length ≤ 1048575) (hb : base ≤ w.heap.size)
  (h : ∀ v' w', w'.ownsRow base e 32 v' (ps ++ [q]).length (grs (ps ++ [q])) → w.grownBy w' v.ownBlock → (∀ k, v'.ownBlock = some k → v.ownBlock = some k ∨ w.heap.size ≤ k) → K (a.put o.dst v') w') : o.wp P a w K Q := by
 have hnews : ∀ j u, (gds q)[j]? = some u → w.cell? ((⟨g, 0, none⟩ : Addr).add j) = some u := by
  intro j u hj
  rw [Addr.add_lit, Nat.zero_add, hr.cell j]
  exact hj
 have hzs : (Value.agg (gds fun _ => false).toArray).cells.size = 32 := by simp [Value.cells, gds_length]
 obtain ⟨v', w', hrun, hown', hgr, _⟩ := run_append_own (P := P) w base t o.type e i _ 32 256 ht hi hz hsize hby hzs (by omega) v ps.length (grs ps) hown ⟨g, 0, none⟩ 1 c (gds q) (by rw [gds_length]) hnews (gds_one q) (by unfold maxLen; omega) (by omega) hb
 have hwh := append_where (P := P) (w := w) base t o.type e i (.agg (gds fun _ => false).toArray) 32 256 ht hi hz hsize hby (by omega) v ps.length (grs ps) hown ⟨g, 0, none⟩ 1 c (gds q) (by rw [gds_length]) hnews (gds_one q) (by unfold maxLen; omega) (by omega) hrun
 unfold Oper.wp execOp
 simp only [ho, resolve, invoke, builtin, Sem.run_bind, Sem.run_pure, Result.andThen_ok, List.map_toArray, List.map_cons, List.map_nil, hs, hx, hrun]
 refine h v' w' ?_ hgr hwh
 rw [List.length_append, grs_append, List.length_singleton]
 have : grs [q] = gds q := by simp [grs]
 rw [this]
 exact hown'
end
def MapV (w : World) (b : Nat) (E : List (Value × Value)) : Prop := ∃ es clock, w.heap[b]? = some (.map es clock) ∧ es.toList.map (fun x => (x.key, x.val)) = E
theorem MapV.lt {w : World} {b : Nat} {E : List (Value × Value)} (h : MapV w b E) : b < w.heap.size := by
 obtain ⟨es, clock, hb, _⟩ := h
 exact (Array.getElem?_eq_some_iff.1 hb).1
theorem MapV.stay {w w' : World} {b : Nat} {E : List (Value × Value)} (h : MapV w b E) (hk : w'.heap[b]? = w.heap[b]?) : MapV w' b E := by
 obtain ⟨es, clock, hb, hE⟩ := h
 exact ⟨es, clock, hk.trans hb, hE⟩
theorem mapV_new (w : World) : MapV (w.alloc (.map #[] 0)) w.heap.size [] := ⟨#[], 0, heap_alloc_new w _, rfl⟩
section
variable {P : Program} {w : World} {t k e : TypeId} {b : Nat} {E : List (Value × Value)}
theorem run_look (K : Maps.Keyed P k) (ht : P.underlying t = some (.map k e)) {z : Value} (hz : (zeroValue e).run P w = .ok z w) (hm : MapV w b E) {key : Value} {kl : Lit} (hkey : keyOf P k key = some kl) (hE : ∀ p ∈ E, ∃ l, keyOf P k p.1 = some l) :
  (∃ v, (key, v) ∈ E ∧ (Instr.lookup t (.map (some b)) key true).run P w = .ok (.tuple #[v, .bool true]) w) ∨ ((∀ p ∈ E, p.1 ≠ key) ∧ (Instr.lookup t (.map (some b)) key true).run P w = .ok (.tuple #[z, .bool false]) w) := by
 obtain ⟨es, clock, hb, rfl⟩ := hm
 have hes : ∀ x ∈ es.toList, ∃ l, keyOf P k x.key = some l := fun x hx => hE (x.key, x.val) (List.mem_map.2 ⟨x, hx, rfl⟩)
 rcases K.find w hkey es.toList hes with ⟨h1, h2⟩ | ⟨j, e0, h1, h2, h3⟩
 ·refine .inr ⟨fun p hp => ?_, by simp [Instr.lookup, run_underlying ht, MapKept.run_getObj_map hb, K.check w _ hkey, h1, hz, Result.andThen]⟩
  obtain ⟨x, hx, rfl⟩ := List.mem_map.1 hp
  exact h2 x hx
 ·refine .inl ⟨e0.val, List.mem_map.2 ⟨e0, List.mem_of_getElem? h2, by rw [h3]⟩, by simp [Instr.lookup, run_underlying ht, MapKept.run_getObj_map hb, K.check w _ hkey, h1, Result.andThen]⟩
theorem run_putNew (K : Maps.Keyed P k) (ht : P.underlying t = some (.map k e)) (hm : MapV w b E) {key val : Value} {kl : Lit} (hkey : keyOf P k key = some kl) (hE : ∀ p ∈ E, ∃ l, keyOf P k p.1 = some l) (hno : ∀ p ∈ E, p.1 ≠ key) :
  ∃ w', (Instr.mapUpdate t (.map (some b)) key val).run P w = .ok () w' ∧ MapV w' b (E ++ [(key, val)]) ∧ w.grownBy w' (some b) := by
 obtain ⟨es, clock, hb, rfl⟩ := hm
 have hes : ∀ x ∈ es.toList, ∃ l, keyOf P k x.key = some l := fun x hx => hE (x.key, x.val) (List.mem_map.2 ⟨x, hx, rfl⟩)
 rcases K.find w hkey es.toList hes with ⟨h1, h2⟩ | ⟨j, e0, h1, h2, h3⟩
 ·refine ⟨ChangeMaps.setBlock w b (.map (es.push ⟨key, val, clock⟩) (clock + 1)), ?_, ⟨es.push ⟨key, val, clock⟩, clock + 1, ChangeMaps.heap_setBlock_same hb _, ?_⟩, ⟨rfl, rfl, rfl, by simp [ChangeMaps.setBlock], fun i _ hi => ChangeMaps.heap_setBlock_other hb _ (fun e => hi (by rw [e]))⟩⟩
  ·simp [Instr.mapUpdate, run_underlying ht, MapKept.run_getObj_map hb, K.check w false hkey, h1, MapKept.run_setObj_map _ hb, Result.andThen, ChangeMaps.setBlock]
  ·simp
 ·exact absurd h3 (hno (e0.key, e0.val) (List.mem_map.2 ⟨e0, List.mem_of_getElem? h2, rfl⟩))
theorem wp_putNew {o : Oper} {a : Act} {K' : Act → World → Prop} {Q : Exit → Act → World → Prop} (m x v : Operand) (ho : o.op = Op.mapUpdate t m x v) (K : Maps.Keyed P k) (ht : P.underlying t = some (.map k e))
  (he : a.eval m = .map (some b)) (hm : MapV w b E) {key val : Value} {kl : Lit} (hx : a.eval x = key) (hv : a.eval v = val) (hkey : keyOf P k key = some kl) (hE : ∀ p ∈ E, ∃ l, keyOf P k p.1 = some l) (hno : ∀ p ∈ E, p.1 ≠ key)
  (h : ∀ w', MapV w' b (E ++ [(key, val)]) → w.grownBy w' (some b) → K' (a.put o.dst undef) w') : o.wp P a w K' Q := by
 obtain ⟨w', hr, h1, h2⟩ := run_putNew (P := P) K ht hm (val := val) hkey hE hno
 unfold Oper.wp
 simp [execOp, ho, he, hx, hv, hr, Result.andThen]
 exact h w' h1 h2
end
/-! ### groups as keys -/
theorem mapM_all {α β : Type} {f : α → Option β} {g : α → β} : ∀ {l : List α}, (∀ x ∈ l, f x = some (g x)) → l.mapM f = some (l.map g)
 | [], _ => rfl
 | a :: r, h => by
  rw [List.mapM_cons, h a (.head _), mapM_all (l := r) fun x hx => h x (.tail _ hx)]
  rfl
theorem keyLits_words {P : Program} {k e : TypeId} (hu : P.underlying k = some (.array 32 e)) (he : P.underlying e = some (.int .u64)) (hce : P.cellsOf e = 1) (hck : P.cellsOf k = 32) (d : Nat) (t : Nat → Bool) :
  P.keyLits (d + 2) k (gds t) = some ((List.range 32).map fun i => Lit.int .u64 (word t i : Int)) := by
 have key : ∀ i ∈ List.range 32, P.keyLits (d + 1) e (((gds t).drop (i * P.cellsOf e)).take (P.cellsOf e)) = some [Lit.int .u64 (word t i : Int)] := by
  intro i hi
  have hi := List.mem_range.1 hi
  have h1 : ((gds t).drop (i * P.cellsOf e)).take (P.cellsOf e) = [.int .u64 (word t i : Int)] := by
   rw [hce, Nat.mul_one]
   have hlt : i < (gds t).length := by rw [gds_length]; exact hi
   rw [List.drop_eq_getElem_cons hlt]
   have := gds_get t hi
   rw [List.getElem?_eq_getElem hlt] at this
   injection this with this
   rw [this]
   rfl
  rw [h1]
  have hw := word_lt t i
  have hwf : (Lit.int .u64 (word t i : Int)).wf = true := by
   refine WalkArith.wf_u64 ?_
   omega
  unfold Program.keyLits
  rw [he]
  simp [hwf]
 unfold Program.keyLits
 rw [hu]
 simp only
 rw [if_pos (by rw [gds_length, hck]), mapM_all key, Option.map_some]
 congr 1
theorem und_group : Tryz.prog.underlying 67 = some (.array 32 41) := by kernel_rfl
theorem key_group : ∃ d, Tryz.prog.types.size = d + 1 := ⟨Tryz.prog.types.size - 1, by kernel_rfl⟩
theorem keyed_group : Maps.Keyed Tryz.prog 67 := Maps.Keyed.of_law (WideMaps.ArrKey.law ⟨und_group, by kernel_rfl, by kernel_rfl, by kernel_rfl⟩)
theorem keyOf_group (t : Nat → Bool) : ∃ l, keyOf Tryz.prog 67 (.agg (gds t).toArray) = some l := by
 have h1 : Tryz.prog.keyType 67 = true := by kernel_rfl
 have hc : Tryz.prog.cellsOf 67 = 32 := by kernel_rfl
 have h2 : (Value.agg (gds t).toArray).formed Tryz.prog 67 = true := by
  unfold Value.formed
  simp only [und_group, hc, List.size_toArray, gds_length]
  rfl
 obtain ⟨d, hd⟩ := key_group
 have h3 := keyLits_words und_group (by kernel_rfl) (by kernel_rfl) hc d t
 refine ⟨.string (keyBytes ((List.range 32).map fun i => Lit.int .u64 (word t i : Int))), ?_⟩
 unfold keyOf
 simp only [und_group, h1, h2, Bool.and_self, if_true, Value.cells, hd, h3, Option.map_some]
theorem und_int : Tryz.prog.underlying 3 = some (.int .i64) := by kernel_rfl
theorem keyed_int : Maps.Keyed Tryz.prog 3 := Maps.int_keyed und_int
theorem keyOf_int {x : Int} (h : -9223372036854775808 ≤ x ∧ x ≤ 9223372036854775807) : ∃ l, keyOf Tryz.prog 3 (.int .i64 x) = some l :=
 ⟨_, Maps.keyOf_int_mk (q := .i64) und_int (WalkArith.wf_i64 h)⟩
section
variable {P : Program} {w : World} {o : Oper} {a : Act} {K : Act → World → Prop} {Q : Exit → Act → World → Prop}
theorem wp_of_run {v : Value} (h : (execOp a.eval o).run P w = .ok (.value v) w) (hk : K (a.put o.dst v) w) : o.wp P a w K Q := by
 unfold Oper.wp
 rw [h]
 exact hk
end
end Go.Proofs.YteadghoojeehlaaGreatDoor
