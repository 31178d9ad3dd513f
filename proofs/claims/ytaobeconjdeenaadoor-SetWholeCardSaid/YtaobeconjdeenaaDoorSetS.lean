/-
  Blocks of sets of bytes: made, read, written at one place. No statement is proved here.
-/
import Derived.Test.YtaobeconjdeenaaDoorRowS
import Derived.Laws.MakeOwn
import Derived.Laws.IdiomCopy
namespace Go.Proofs.YtaobeconjdeenaaDoor
open Go.RowKit
set_option linter.unusedSimpArgs false
set_option linter.unusedVariables false

/-- The cells of a list of sets. -/
def sets (qs : List (Nat → Bool)) : List Value := qs.flatMap wds
theorem sets_nil : sets [] = [] := rfl
theorem sets_cons (q : Nat → Bool) (qs : List (Nat → Bool)) : sets (q :: qs) = wds q ++ sets qs := rfl
theorem sets_append (ps qs : List (Nat → Bool)) : sets (ps ++ qs) = sets ps ++ sets qs := by simp [sets]
theorem sets_length : ∀ qs : List (Nat → Bool), (sets qs).length = qs.length * 4
  | [] => rfl
  | q :: r => by rw [sets_cons, List.length_append, wds_length, sets_length r, List.length_cons]; omega
theorem sets_get : ∀ {qs : List (Nat → Bool)} {k : Nat} {q : Nat → Bool}, qs[k]? = some q → ∀ i, i < 4 → (sets qs)[k * 4 + i]? = (wds q)[i]?
  | [], k, q, h, _, _ => by simp at h
  | p :: r, 0, q, h, i, hi => by
    have : p = q := by simpa using h
    subst this
    rw [sets_cons, List.getElem?_append_left (by rw [wds_length]; omega), Nat.zero_mul, Nat.zero_add]
  | p :: r, k + 1, q, h, i, hi => by
    have h' : r[k]? = some q := by simpa using h
    rw [sets_cons, List.getElem?_append_right (by rw [wds_length]; omega), wds_length, show (k + 1) * 4 + i - 4 = k * 4 + i from by omega]
    exact sets_get h' i hi
theorem sets_one (qs : List (Nat → Bool)) : ∀ u ∈ sets qs, u.oneCell' = true := by
  intro u hu
  obtain ⟨q, _, hq⟩ := List.mem_flatMap.1 hu
  exact List.all_eq_true.1 (wds_all q) u hq
theorem sets_set : ∀ (qs : List (Nat → Bool)) (k : Nat) (q : Nat → Bool), k < qs.length → splice (sets qs) (k * 4) (wds q) = sets (qs.set k q)
  | [], _, _, h => by simp at h
  | p :: r, 0, q, _ => by
    unfold splice
    rw [sets_cons, Nat.zero_mul, List.take_zero, List.nil_append, Nat.zero_add, wds_length, List.drop_left' (wds_length p)]
    rfl
  | p :: r, k + 1, q, h => by
    have ih := sets_set r k q (by simpa using h)
    unfold splice at ih ⊢
    rw [wds_length] at ih ⊢
    rw [sets_cons, List.set_cons_succ, sets_cons, ← ih, List.take_append, List.drop_append, wds_length, List.take_of_length_le (by rw [wds_length]; omega), List.drop_eq_nil_of_le (by rw [wds_length]; omega)]
    simp only [List.nil_append, List.append_assoc]
    rw [show (k + 1) * 4 - 4 = k * 4 from by omega, show (k + 1) * 4 + 4 - 4 = k * 4 + 4 from by omega]
theorem Blk.range {w : World} {g : Nat} {t : TypeId} {qs : List (Nat → Bool)} (h : Blk w g t (sets qs)) {k : Nat} {q : Nat → Bool} (hq : qs[k]? = some q) : w.rangeAt g (k * 4) (wds q) := by
  intro j v hv
  have hj : j < 4 := by
    have := (List.getElem?_eq_some_iff.1 hv).1
    rwa [wds_length] at this
  rw [h.cell, sets_get hq j hj, hv]
theorem Blk.there {w : World} {g o n : Nat} {t : TypeId} {cs : List Value} (h : Blk w g t cs) (ho : o + n ≤ cs.length) : w.there g o n := by
  intro j hj
  refine ⟨?_, h.frozen _⟩
  rw [h.cell, List.getElem?_eq_getElem (by omega)]
  rfl
theorem splice_cons {cs : List Value} {o : Nat} {v : Value} {r : List Value} (h : o + (r.length + 1) ≤ cs.length) : splice (cs.set o v) (o + 1) r = splice cs o (v :: r) := by
  unfold splice
  rw [List.take_set, List.drop_set, if_pos (by omega), List.length_cons]
  have ho : o < cs.length := by omega
  rw [List.take_succ_eq_append_getElem ho, List.set_append_right _ _ (by simp; omega)]
  simp only [List.length_take, Nat.min_eq_left (Nat.le_of_lt ho), Nat.sub_self, List.set_cons_zero, List.append_assoc, List.cons_append, List.nil_append]
  rw [show o + 1 + r.length = o + (r.length + 1) from by omega]
theorem Blk.setCells {g : Nat} {t : TypeId} : ∀ {vs : List Value} {w : World} {cs : List Value} {o : Nat}, Blk w g t cs → o + vs.length ≤ cs.length → Blk (w.setCells g o vs) g t (splice cs o vs)
  | [], w, cs, o, h, _ => by simpa [World.setCells, splice] using h
  | v :: r, w, cs, o, h, hl => by
    have hl' : o + (r.length + 1) ≤ cs.length := by simpa using hl
    have := Blk.setCells (vs := r) (o := o + 1) (h.set o v) (by rw [List.length_set]; omega)
    rw [splice_cons hl'] at this
    exact this
theorem below_setCells {B g : Nat} {w0 : World} (hB : B ≤ g) : ∀ {vs : List Value} {w : World} {o : Nat}, Below B w0 w → Below B w0 (w.setCells g o vs)
  | [], _, _, h => h
  | v :: r, w, o, h => below_setCells (vs := r) hB (h.setCell (p := ⟨g, o, none⟩) hB v)
theorem setCells_size (g : Nat) : ∀ (vs : List Value) (w : World) (o : Nat), (w.setCells g o vs).heap.size = w.heap.size
  | [], _, _ => rfl
  | v :: r, w, o => by rw [World.setCells, setCells_size g r]; simp
theorem setCells_other (g k : Nat) (hk : k ≠ g) : ∀ (vs : List Value) (w : World) (o : Nat), (w.setCells g o vs).heap[k]? = w.heap[k]?
  | [], _, _ => rfl
  | v :: r, w, o => by rw [World.setCells, setCells_other g k hk r]; exact Below.heap_setCell w ⟨g, o, none⟩ v k hk
section
variable {P : Program} {w : World} {ops : Array Oper} {rest : List Oper} {o : Oper} {a : Act} {Q : Exit → Act → World → Prop}
theorem made_sets (n : Nat) : madeCells (wds fun _ => false).toArray (n * 4) = (sets (List.replicate n fun _ => false)).toArray := by
  apply Array.ext'
  simp only [madeCells, Array.toList_map, Array.toList_range]
  induction n with
  | zero => simp [sets]
  | succ n ih =>
    rw [show (n + 1) * 4 = n * 4 + 4 from by omega, List.range_add, List.map_append, ih, List.replicate_succ', sets_append]
    congr 1
    simp [List.range_succ, sets, wds, Nat.mul_add_mod, Nat.add_mod, Nat.mul_mod]
/-- 'make([]T, n)', T a set: a new block of n empty sets. -/
theorem wpList_mkSets (hg : o.guard = none) (l c : Operand) (t : TypeId) (hop : o.op = Op.makeSlice t l c)
    (e : TypeId) (i : TypeInfo) (h1 : P.underlying t = some (.slice e)) (h2 : P.info? e = some i) (h3 : i.zero = some (.agg (wds fun _ => false).toArray)) (h4 : i.size = 4) (h5 : i.bytes = 32)
    (n : Nat) (hl : a.eval l = .int .i64 (n : Int)) (hc : a.eval c = .int .i64 (n : Int)) (hn : n ≤ 1048576)
    (hK : ∀ w', Blk w' w.heap.size e (sets (List.replicate n fun _ => false)) → Below w.heap.size w w' → w'.heap.size = w.heap.size + 1 → wpList P ops Q rest (a.put o.dst (.slice (some ⟨w.heap.size, 0, none⟩) n n)) w') :
    wpList P ops Q (o :: rest) a w := by
  refine wpList_plain hg fun K hK' => ?_
  have hrun := run_make (P := P) w t e i _ h1 h2 h3 .i64 .i64 n n (by omega) (Int.le_refl _) (by rw [h5]; omega) (by omega)
  simp only [Int.toNat_natCast, h4] at hrun
  rw [show (Value.agg (wds fun _ => false).toArray).cells = (wds fun _ => false).toArray from rfl, made_sets] at hrun
  unfold Oper.wp
  simp [execOp, hop, hl, hc, hrun, Result.andThen]
  exact hK' _ _ (hK _ (Blk.new w e _) ((Below.refl _ _).alloc (Nat.le_refl _) _) (by simp))
end
end Go.Proofs.YtaobeconjdeenaaDoor
