/-
  Slices of sets put together at one operation; how many parts there are. No statement is proved here.
-/
import Derived.Test.YtaobeconjdeenaaDoorBsM
import Derived.Test.YtaobeconjdeenaaDoorBsI
namespace Go.Proofs.YtaobeconjdeenaaDoor
open Go.RowKit
set_option linter.unusedSimpArgs false
set_option linter.unusedVariables false

theorem rowS_cells {w : World} {b off : Nat} {qs : List (Nat → Bool)} (hc : ∀ i p, qs[i]? = some p → w.rangeAt b (off + i * 4) (wds p)) (j : Nat) (u : Value) (hu : (sets qs)[j]? = some u) : w.cell? ⟨b, off + j, none⟩ = some u := by
  have hj : j < qs.length * 4 := by have := (List.getElem?_eq_some_iff.1 hu).1; rwa [sets_length] at this
  have hk : j / 4 < qs.length := by omega
  have hg := sets_get (qs := qs) (k := j / 4) (q := qs[j / 4]) (List.getElem?_eq_getElem hk) (j % 4) (Nat.mod_lt _ (by omega))
  rw [show j / 4 * 4 + j % 4 = j by omega, hu] at hg
  have := hc (j / 4) qs[j / 4] (List.getElem?_eq_getElem hk) (j % 4) u hg.symm
  rw [show off + j / 4 * 4 + j % 4 = off + j by omega] at this
  exact this
section
variable {P : Program} {w : World} {o : Oper} {a : Act} {K : Act → World → Prop} {Q : Exit → Act → World → Prop}
/-- 'append(v, row...)' of sets, at one operation. -/
theorem wp_appQ {base : Nat} (s x : Operand) (t : TypeId)
    (ho : o.op = .call { callee := .builtin .append, args := #[s, x], argTypes := #[t, t] })
    (e : TypeId) (i : TypeInfo) (ht : P.underlying t = some (.slice e)) (hi : P.info? e = some i) (hz : i.zero = some (.agg (wds fun _ => false).toArray))
    (hsize : i.size = 4) (hby : i.bytes = 32)
    (v : Value) (ps : List (Nat → Bool)) (hs : a.eval s = v) (hown : w.ownsRow base e 4 v ps.length (sets ps))
    (u : Value) (qs : List (Nat → Bool)) (hx : a.eval x = u) (hr : RowS w u qs)
    (hlen : ps.length + qs.length ≤ 1048576) (hb : base ≤ w.heap.size)
    (h : ∀ v' w', w'.ownsRow base e 4 v' (ps ++ qs).length (sets (ps ++ qs)) → w.grownBy w' v.ownBlock → K (a.put o.dst v') w') : o.wp P a w K Q := by
  obtain ⟨A, cap, rfl, hl, hm, h0, hc⟩ := hr
  cases A with
  | none =>
    have hcap : cap = 0 := h0 rfl
    subst hcap
    have hn : qs = [] := List.eq_nil_of_length_eq_zero (by omega)
    subst hn
    have hrun := run_append_owned_none (P := P) (w := w) base t o.type e i 4 ht hi v _ _ hown
    unfold Oper.wp
    simp at hx
    simp [execOp, ho, resolve, invoke, builtin, hs, hx, hrun, Result.andThen]
    exact h v w (by simpa using hown) (World.grownBy.refl _ _)
  | some ad =>
    refine wp_append_own w s x t ho base e i _ 4 32 ht hi hz hsize hby (by simp [Value.cells, wds]) (by omega) v ps.length (sets ps) hs hown ad qs.length cap (sets qs) hx (sets_length qs) (fun j u hj => ?_) (sets_one qs) (by unfold maxLen; omega) (by omega) hb
      (fun v' w' h2 h3 _ => h v' w' ?_ h3)
    · obtain ⟨b, off, hA, _, hcell⟩ := hc (by rintro rfl; simp [sets] at hj)
      injection hA with hA
      subst hA
      rw [Addr.add_lit]
      exact rowS_cells hcell j u hj
    · rw [List.length_append, sets_append]; exact h2
theorem run_bldSet0 (t e : TypeId) (i : TypeInfo) (ht : P.underlying t = some (.slice e)) (hi : P.info? e = some i) (hz : i.zero = some (.agg (wds fun _ => false).toArray)) (hs : i.size = 4) :
    (Instr.buildSlice t 0 #[]).run P w = .ok (.slice (some ⟨w.heap.size, 0, none⟩) 0 0) (w.alloc (.cells (sets []).toArray e)) := by
  have hzv : (zeroValue e).run P w = .ok (.agg (wds fun _ => false).toArray) w := by simp [zeroValue, typeInfo, hi, hz]
  simp [Instr.buildSlice, run_underlying ht, sizeOf, typeInfo, hi, hs, hzv, Value.cells, Instr.fill, wds, Array.range_succ, Array.range_zero', newRow, sets]
theorem wp_bldSet0 (t e : TypeId) (ho : o.op = .buildSlice t 0 #[]) (i : TypeInfo) (ht : P.underlying t = some (.slice e)) (hi : P.info? e = some i) (hz : i.zero = some (.agg (wds fun _ => false).toArray)) (hs : i.size = 4)
    (h : ∀ w', Blk w' w.heap.size e (sets []) → Below w.heap.size w w' → K (a.put o.dst (.slice (some ⟨w.heap.size, 0, none⟩) 0 0)) w') : o.wp P a w K Q := by
  have hrun := run_bldSet0 (P := P) (w := w) t e i ht hi hz hs
  unfold Oper.wp
  simp only [execOp, ho, List.map_toArray, List.map_nil, Array.map_empty, hrun, Sem.run_bind, Result.andThen_ok, Sem.run_pure]
  exact h _ (Blk.new w e _) ((Below.refl _ _).alloc (Nat.le_refl _) _)
theorem run_bldSet2 (t e : TypeId) (i : TypeInfo) (ht : P.underlying t = some (.slice e)) (hi : P.info? e = some i) (hz : i.zero = some (.agg (wds fun _ => false).toArray)) (hs : i.size = 4) (p q : Nat → Bool) :
    (Instr.buildSlice t 2 #[(0, .agg (wds p).toArray), (1, .agg (wds q).toArray)]).run P w = .ok (.slice (some ⟨w.heap.size, 0, none⟩) 2 2) (w.alloc (.cells (sets [p, q]).toArray e)) := by
  have hzv : (zeroValue e).run P w = .ok (.agg (wds fun _ => false).toArray) w := by simp [zeroValue, typeInfo, hi, hz]
  simp [Instr.buildSlice, run_underlying ht, sizeOf, typeInfo, hi, hs, hzv, Value.cells, Instr.fill, wds, Array.range_succ, Array.range_zero', newRow, sets]
theorem wp_bldSet2 (t e : TypeId) (x y : Operand) (ho : o.op = .buildSlice t 2 #[(0, x), (1, y)]) (i : TypeInfo) (ht : P.underlying t = some (.slice e)) (hi : P.info? e = some i) (hz : i.zero = some (.agg (wds fun _ => false).toArray)) (hs : i.size = 4) (p q : Nat → Bool)
    (hx : a.eval x = .agg (wds p).toArray) (hy : a.eval y = .agg (wds q).toArray)
    (h : ∀ w', Blk w' w.heap.size e (sets [p, q]) → Below w.heap.size w w' → K (a.put o.dst (.slice (some ⟨w.heap.size, 0, none⟩) 2 2)) w') : o.wp P a w K Q := by
  have hrun := run_bldSet2 (P := P) (w := w) t e i ht hi hz hs p q
  unfold Oper.wp
  simp only [execOp, ho, List.map_toArray, List.map_cons, List.map_nil, hx, hy, hrun, Sem.run_bind, Result.andThen_ok, Sem.run_pure]
  exact h _ (Blk.new w e _) ((Below.refl _ _).alloc (Nat.le_refl _) _)
theorem wp_bldSet1B (t e : TypeId) (x : Operand) (ho : o.op = .buildSlice t 1 #[(0, x)]) (i : TypeInfo) (ht : P.underlying t = some (.slice e)) (hi : P.info? e = some i) (hz : i.zero = some (.agg (wds fun _ => false).toArray)) (hs : i.size = 4) (q : Nat → Bool)
    (hx : a.eval x = .agg (wds q).toArray)
    (h : ∀ w', Blk w' w.heap.size e (sets [q]) → Below w.heap.size w w' → K (a.put o.dst (.slice (some ⟨w.heap.size, 0, none⟩) 1 1)) w') : o.wp P a w K Q :=
  wp_bldSet1 t e x ho i ht hi hz hs q hx (h _ (Blk.new w e _) ((Below.refl _ _).alloc (Nat.le_refl _) _))
end
theorem own4_new {w : World} {g base : Nat} {e : TypeId} (h : Blk w g e (sets [])) (hb : base ≤ g) : w.ownsRow base e 4 (.slice (some ⟨g, 0, none⟩) 0 0) ([] : List (Nat → Bool)).length (sets []) :=
  ⟨by simp [sets], .inr ⟨g, 0, (sets []).toArray, rfl, hb, h, Nat.le_refl _, by unfold maxLen; omega, by simp [sets], by simp [sets]⟩⟩

/-! ### how many parts -/
theorem curS_length (ps : List (Nat → Bool)) : (curS ps).length = (parts ps).length := cut_length (cut_cur ps)
theorem split_ge (s : Nat → Bool) : ∀ ps : List (Nat → Bool), (∀ p ∈ ps, nonE p = true) → ps.length ≤ (splitS ps s).length
  | [], _ => Nat.le_refl _
  | p :: r, h => by
    have ih := split_ge s r fun q hq => h q (List.mem_cons_of_mem _ hq)
    obtain ⟨b, hb, hpb⟩ := (nonE_iff p).1 (h p (List.mem_cons_self))
    have h1 : 0 < ((pieces p s).filter nonE).length := by
      cases hs : s b with
      | true => exact List.length_pos_of_mem (List.mem_filter.2 ⟨by simp [pieces], (nonE_iff (fun b => p b && s b)).2 ⟨b, hb, by simp [hpb, hs]⟩⟩)
      | false => exact List.length_pos_of_mem (List.mem_filter.2 ⟨by simp [pieces], (nonE_iff (fun b => p b && !s b)).2 ⟨b, hb, by simp [hpb, hs]⟩⟩)
    have e : splitS (p :: r) s = (pieces p s).filter nonE ++ splitS r s := by simp [splitS]
    rw [e, List.length_append, List.length_cons]
    omega
theorem split_eq (s : Nat → Bool) : ∀ ps : List (Nat → Bool), (∀ p ∈ ps, nonE p = true ∧ ∀ a b, a < 256 → b < 256 → p a = true → p b = true → s a = s b) → (splitS ps s).length = ps.length
  | [], _ => rfl
  | p :: r, h => by
    have ih := split_eq s r fun q hq => h q (List.mem_cons_of_mem _ hq)
    obtain ⟨hne, hcon⟩ := h p (List.mem_cons_self)
    obtain ⟨b, hb, hpb⟩ := (nonE_iff p).1 hne
    have h1 : ((pieces p s).filter nonE).length = 1 := by
      cases hs : s b with
      | true =>
        have e1 : nonE (fun b => p b && s b) = true := (nonE_iff _).2 ⟨b, hb, by simp [hpb, hs]⟩
        have e2 : nonE (fun b => p b && !s b) = false := by
          rw [Bool.eq_false_iff]
          intro h
          obtain ⟨c, hc, hpc⟩ := (nonE_iff _).1 h
          simp only [Bool.and_eq_true, Bool.not_eq_true'] at hpc
          have := hcon b c hb hc hpb hpc.1
          rw [hs, hpc.2] at this
          cases this
        simp [pieces, e1, e2]
      | false =>
        have e1 : nonE (fun b => p b && !s b) = true := (nonE_iff _).2 ⟨b, hb, by simp [hpb, hs]⟩
        have e2 : nonE (fun b => p b && s b) = false := by
          rw [Bool.eq_false_iff]
          intro h
          obtain ⟨c, hc, hpc⟩ := (nonE_iff _).1 h
          simp only [Bool.and_eq_true] at hpc
          have := hcon b c hb hc hpb hpc.1
          rw [hs, hpc.2] at this
          cases this
        simp [pieces, e1, e2]
    have e : splitS (p :: r) s = (pieces p s).filter nonE ++ splitS r s := by simp [splitS]
    rw [e, List.length_append, List.length_cons, h1, ih]
    omega
theorem cut_nonE {ps cur : List (Nat → Bool)} (h : Cut ps cur) (q : Nat → Bool) (hq : q ∈ cur) : nonE q = true := by
  obtain ⟨a, ha, hqa⟩ := h.some_ q hq
  exact (nonE_iff q).2 ⟨a, ha, by rw [hqa a ha]; exact alikeS_refl ps a⟩
/-- A set that is alike where the others are parts no more. -/
theorem cut_same {ps cur : List (Nat → Bool)} (h : Cut ps cur) (s : Nat → Bool) (hs : ∀ a b, alikeS ps a b = true → s a = s b) : (splitS cur s).length = cur.length :=
  split_eq s cur fun p hp => ⟨cut_nonE h p hp, fun a b ha hb h1 h2 => by
    obtain ⟨c, hc, hpc⟩ := h.some_ p hp
    rw [hpc a ha] at h1
    rw [hpc b hb] at h2
    exact hs a b (alikeS_trans (alikeS_symm h1) h2)⟩
theorem parts_more (ps : List (Nat → Bool)) (s : Nat → Bool) : (parts ps).length ≤ (parts (ps ++ [s])).length ∧ (parts (ps ++ [s])).length ≤ 2 * (parts ps).length := by
  rw [← curS_length, ← curS_length, curS_more]
  exact ⟨split_ge s _ (cut_nonE (cut_cur ps)), splitS_len s _⟩
theorem parts_same (ps : List (Nat → Bool)) (x : Nat → Bool) (hx : x ∈ ps) : (parts (ps ++ [fun b => !x b, x])).length = (parts ps).length := by
  have h1 : ∀ a b, alikeS ps a b = true → x a = x b := fun a b h => (alikeS_iff ps a b).1 h x hx
  rw [← curS_length, ← curS_length, show ps ++ [fun b => !x b, x] = (ps ++ [fun b => !x b]) ++ [x] by simp, curS_more]
  rw [cut_same (cut_cur (ps ++ [fun b => !x b])) x fun a b h => (alikeS_iff _ a b).1 h x (List.mem_append.2 (.inl hx)), curS_more]
  exact cut_same (cut_cur ps) _ fun a b h => by rw [h1 a b h]
theorem parts_nil : (parts []).length = 1 := by rw [← curS_length]; rfl
end Go.Proofs.YtaobeconjdeenaaDoor
