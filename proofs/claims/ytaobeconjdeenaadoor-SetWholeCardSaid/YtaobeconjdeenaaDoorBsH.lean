/-
  What package byteset (split) answers and leaves. No statement is proved here.
-/
import Derived.Test.YtaobeconjdeenaaDoorBsB
import Derived.Test.YtaobeconjdeenaaDoorSetF
namespace Go.Proofs.YtaobeconjdeenaaDoor
open Go.RowKit
set_option linter.unusedSimpArgs false
set_option linter.unusedVariables false

/-- What a set has of a part, and the rest. -/
def pieces (p s : Nat → Bool) : List (Nat → Bool) := [fun b => p b && s b, fun b => p b && !s b]
/-- Is there a byte in it? -/
def nonE (q : Nat → Bool) : Bool := !eqS q fun _ => false
/-- The parts, each cut by a set. -/
def splitS (ps : List (Nat → Bool)) (s : Nat → Bool) : List (Nat → Bool) := ps.flatMap fun p => (pieces p s).filter nonE
theorem splitS_nil (s : Nat → Bool) : splitS [] s = [] := rfl
theorem splitS_next (ps : List (Nat → Bool)) (s : Nat → Bool) (j : Nat) (h : j < ps.length) : splitS (ps.take (j + 1)) s = splitS (ps.take j) s ++ (pieces ps[j] s).filter nonE := by
  unfold splitS
  rw [List.take_succ_eq_append_getElem h, List.flatMap_append, List.flatMap_cons, List.flatMap_nil, List.append_nil]
theorem splitS_len (s : Nat → Bool) : ∀ ps : List (Nat → Bool), (splitS ps s).length ≤ 2 * ps.length
  | [] => Nat.le_refl _
  | p :: r => by
    have h1 : ((pieces p s).filter nonE).length ≤ 2 := List.length_filter_le _ _
    have h2 := splitS_len s r
    have e : splitS (p :: r) s = (pieces p s).filter nonE ++ splitS r s := by simp [splitS]
    rw [e, List.length_append, List.length_cons]
    omega
theorem pieces_next (p s : Nat → Bool) (k : Nat) (q : Nat → Bool) (hk : (pieces p s)[k]? = some q) : ((pieces p s).take (k + 1)).filter nonE = ((pieces p s).take k).filter nonE ++ if nonE q then [q] else [] := by
  obtain ⟨h, e⟩ := List.getElem?_eq_some_iff.1 hk
  rw [List.take_succ_eq_append_getElem h, List.filter_append, e]
  cases hq : nonE q <;> simp [hq]

/-! ### rows of sets of the call's own -/
theorem own4Below {w w' : World} {base B n k : Nat} {e : TypeId} {v : Value} {xs : List Value} (h : w.ownsRow base e k v n xs) (hb : Below B w w') (hB : w.heap.size ≤ B) : w'.ownsRow base e k v n xs := by
  refine ⟨h.1, ?_⟩
  rcases h.2 with h0 | ⟨g, cap, cur, rfl, hb2, hg, h3⟩
  · exact .inl h0
  · exact .inr ⟨g, cap, cur, rfl, hb2, (hb.block g (Nat.lt_of_lt_of_le (Array.getElem?_eq_some_iff.1 hg).1 hB)).trans hg, h3⟩
theorem own4_above {w : World} {base n k : Nat} {e : TypeId} {v : Value} {xs : List Value} (h : w.ownsRow base e k v n xs) : ∀ j, v.ownBlock = some j → base ≤ j := by
  intro j hj
  rcases h.2 with ⟨rfl, h0⟩ | ⟨g, cap, cur, rfl, hb, hg, _⟩
  · cases hj
  · have hk' : some g = some j := hj
    injection hk' with hk'
    omega
theorem own4_lt {w : World} {base n k : Nat} {e : TypeId} {v : Value} {xs : List Value} (h : w.ownsRow base e k v n xs) : ∀ j, v.ownBlock = some j → j < w.heap.size := by
  intro j hj
  rcases h.2 with ⟨rfl, h0⟩ | ⟨g, cap, cur, rfl, hb, hg, _⟩
  · cases hj
  · have hk' : some g = some j := hj
    injection hk' with hk'
    subst hk'
    exact (Array.getElem?_eq_some_iff.1 hg).1
theorem own4N (w : World) (B : Nat) (e : TypeId) : w.ownsRow B e 4 (.slice none 0 0) 0 [] := ⟨by simp, .inl ⟨rfl, rfl⟩⟩
theorem own4_row {w : World} {base : Nat} {e : TypeId} {v : Value} {ps : List (Nat → Bool)} (h : w.ownsRow base e 4 v ps.length (sets ps)) : RowS w v ps := by
  rcases h.2 with ⟨rfl, h0⟩ | ⟨g, cap, cur, rfl, hb, hg, hn, hm, hs, ht⟩
  · obtain rfl : ps = [] := List.eq_nil_of_length_eq_zero h0
    exact RowS.nil w
  · refine ⟨_, cap, rfl, hn, hm, (fun h => by cases h), fun _ => ⟨g, 0, rfl, (Array.getElem?_eq_some_iff.1 hg).1, fun i p hp j u hu => ?_⟩⟩
    have hi := (List.getElem?_eq_some_iff.1 hp).1
    have hj : j < 4 := by simpa [wds_length] using (List.getElem?_eq_some_iff.1 hu).1
    have e1 := sets_get hp j hj
    rw [hu, ← ht, List.getElem?_take, if_pos (by omega), Array.getElem?_toList] at e1
    rw [cell_of_row w g _ cur e (0, 0) hg, Nat.zero_add, e1]
section
variable {P : Program} {w : World} {ops : Array Oper} {rest : List Oper} {o : Oper} {a : Act} {Q : Exit → Act → World → Prop}
/-- 'append(v, row...)' of sets. -/
theorem wpList_appS {base : Nat} (hgd : o.guard = none) (s x : Operand) (t : TypeId)
    (ho : o.op = .call { callee := .builtin .append, args := #[s, x], argTypes := #[t, t] })
    (e : TypeId) (i : TypeInfo) (ht : P.underlying t = some (.slice e)) (hi : P.info? e = some i) (hz : i.zero = some (.agg (wds fun _ => false).toArray))
    (hsize : i.size = 4) (hby : i.bytes = 32)
    (v : Value) (ps : List (Nat → Bool)) (hs : a.eval s = v) (hown : w.ownsRow base e 4 v ps.length (sets ps))
    (g c : Nat) (tg : TypeId) (qs : List (Nat → Bool)) (hx : a.eval x = .slice (some ⟨g, 0, none⟩) qs.length c) (hr : Blk w g tg (sets qs))
    (hlen : ps.length + qs.length ≤ 1048576) (hb : base ≤ w.heap.size)
    (h : ∀ v' w', w'.ownsRow base e 4 v' (ps ++ qs).length (sets (ps ++ qs)) → w.grownBy w' v.ownBlock → wpList P ops Q rest (a.put o.dst v') w') : wpList P ops Q (o :: rest) a w := by
  refine wpList_plain hgd fun K hK => ?_
  refine wp_append_own w s x t ho base e i _ 4 32 ht hi hz hsize hby (by simp [Value.cells, wds]) (by omega) v ps.length (sets ps) hs hown ⟨g, 0, none⟩ qs.length c (sets qs) hx (sets_length qs) (fun j u hj => ?_) (sets_one qs) (by unfold maxLen; omega) (by omega) hb
    (fun v' w' h2 h3 _ => hK _ _ (h v' w' ?_ h3))
  · rw [Addr.add_lit, Nat.zero_add, hr.cell j]; exact hj
  · rw [List.length_append, sets_append]; exact h2
/-- A set in the midst of a block, loaded. -/
theorem wpList_ldMid (hgd : o.guard = none) (ty : TypeId) (x : Operand) (ho : o.op = .load ty x) (b off : Nat) (hx : a.eval x = .pointer (some ⟨b, off, none⟩)) (cs : List Value) (d : TypeDesc)
    (hg : w.rangeAt b off cs) (hu : P.underlying ty = some d) (hd : d.isRow = true) (hi : (P.info? ty).map (·.size) = some cs.length)
    (h : wpList P ops Q rest (a.put o.dst (.agg cs.toArray)) w) : wpList P ops Q (o :: rest) a w :=
  wpList_plain hgd fun _ hK => wp_load_mid ty x ho b off hx cs d hg hu hd hi (hK _ _ h)
theorem wpList_neSet_is (hgd : Region.wanted o (yielded ops a.tmps) = true) {b : Bool} {p q : Nat → Bool} (hb : (!eqS p q) = b) (t e : TypeId) (x y : Operand) (oT : TypeId) (ho : o.op = .binOp .neq t x y oT) (hm : P.eqGuardType P.depth t = false)
    (ht : P.underlying t = some (.array 4 e)) (he : P.underlying e = some (.int .u64)) (hsz : ∀ w, (sizeOf e).run P w = .ok 1 w)
    (ex : a.eval x = .agg (wds p).toArray) (ey : a.eval y = .agg (wds q).toArray)
    (h : wpList P ops Q rest (a.put o.dst (.bool b)) w) : wpList P ops Q (o :: rest) a w := by
  refine BigFrame.wpList_want hgd fun K hK => ?_
  unfold Oper.wp
  simp only [execOp, ho, ex, ey, Sem.run_bind, run_eqGuard_agg w .neq t x y _ _ hm, Result.andThen_ok, run_neq_sets w t e ht he hsz p q, Sem.run_pure, hb]
  exact hK _ _ h
end
theorem twoP (p q : Nat → Bool) : Tryd.prog.built 54 [(0, .agg (wds p).toArray), (1, .agg (wds q).toArray)] = some (wds p ++ wds q).toArray := by kernel_rfl
theorem runTwo (p q : Nat → Bool) (w : World) : (Instr.build 54 #[(0, .agg (wds p).toArray), (1, .agg (wds q).toArray)]).run Tryd.prog w = .ok (.agg (wds p ++ wds q).toArray) w := by kernel_rfl
theorem idxP0 (p q : Nat → Bool) (w : World) : (Instr.index 54 (.agg (wds p ++ wds q).toArray) (.int .i64 0)).run Tryd.prog w = .ok (.agg (wds p).toArray) w := by kernel_rfl
theorem idxP1 (p q : Nat → Bool) (w : World) : (Instr.index 54 (.agg (wds p ++ wds q).toArray) (.int .i64 1)).run Tryd.prog w = .ok (.agg (wds q).toArray) w := by kernel_rfl
theorem zeroB : Tryd.prog.built 24 [] = some (wds fun _ => false).toArray := by kernel_rfl
end Go.Proofs.YtaobeconjdeenaaDoor
