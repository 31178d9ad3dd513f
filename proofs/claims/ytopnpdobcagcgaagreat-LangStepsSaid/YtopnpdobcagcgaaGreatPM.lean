/-
  Texts of this proof, put together: (PrP) Plain expressions: which parts fit, and what is made of such parts anew. No statement is proved here. (PyE) Laws of the walk: two expressions laid in a row, a whole block stored, at a single operation. No statement is proved here.
-/
import Derived.Test.YtopnpdobcagcgaaGreatPJ
import Derived.Test.YtopnpdobcagcgaaGreatPK
namespace Go.Proofs.YtopnpdobcagcgaaGreat
open Go.RowKit
set_option linter.unusedSimpArgs false
set_option linter.unusedVariables false
theorem fits4 {k : Int} (h : fitsT k 4 = true) : k ≠ 1 ∧ k ≠ 2 ∧ k ≠ 4 := by
 unfold fitsT at h
 by_cases h2 : k = 2
 ·rw [if_pos h2] at h; simp at h
 ·rw [if_neg h2] at h; simp at h; exact ⟨h.1, h2, h.2⟩
theorem fits5 {k : Int} (h : fitsT k 5 = true) : k ≠ 1 ∧ k ≠ 5 := by
 unfold fitsT at h
 by_cases h2 : k = 2
 ·omega
 ·rw [if_neg h2] at h; simp at h; exact h
theorem cat_eq {s : Nat → Bool} {l : List T} (h : good (.node 4 s l)) : catT l = .node 4 s l := by
 obtain ⟨h1, h2, h3, h4, h5, _⟩ := good_node.1 h
 have hl : 2 ≤ l.length := by rw [count45 (.inl rfl)] at h4; simpa using h4
 exact sameT_eq _ _ (good_cat h2).1 h.1 ((cat_same h2 hl h1 (h3.resolve_left (by omega))).2 h5)
theorem alt_eq {s : Nat → Bool} {l : List T} (h : good (.node 5 s l)) : altT l = .node 5 s l := by
 obtain ⟨h1, h2, h3, h4, h5, h6⟩ := good_node.1 h
 have hl : 2 ≤ l.length := by rw [count45 (.inr rfl)] at h4; simpa using h4
 exact sameT_eq _ _ (good_alt h2).1 h.1 ((alt_same h2 hl h1 (h3.resolve_left (by omega))).2 ⟨h5, h6 rfl⟩)
theorem star_one {s : Nat → Bool} {l : List T} (h : good (.node 6 s l)) : ∃ x, l = [x] ∧ s = zeroS := by
 obtain ⟨h1, h2, h3, h4, h5, h6⟩ := good_node.1 h
 rw [count6] at h4
 have h4 : l.length = 1 := by simpa using h4
 match l, h4 with
 | [x], _ => exact ⟨x, rfl, can_eq h1 can_zero (h3.resolve_left (by omega))⟩
theorem leaf_eq {t : T} (h : good t) (hk : t.kind = 1 ∨ t.kind = 2) : t = .node t.kind zeroS [] := by
 cases t with
 | node k s l =>
  obtain ⟨h1, h2, h3, h4, h5, h6⟩ := good_node.1 h
  have hk : k = 1 ∨ k = 2 := hk
  rw [count12 hk] at h4
  have hl : l = [] := List.eq_nil_of_length_eq_zero (by simpa using h4)
  show T.node k s l = .node k zeroS []
  rw [hl, can_eq h1 can_zero (h3.resolve_left (by omega))]
theorem cat_of_one {y : T} (h : good y) (h4 : y.kind ≠ 4) : catT [y] = y := by
 unfold catT
 have hf : flatT 4 [y] = [y] := by simp [flatT, h4]
 rw [hf]
 by_cases h1 : y.kind = 1
 ·rw [if_pos (by simp [anyK, h1]), leaf_eq h (.inl h1), h1]; rfl
 ·rw [if_neg (by simp [anyK, h1])]
  by_cases h2 : y.kind = 2
  ·rw [show withoutT 2 [y] = [] by simp [withoutT, h2], leaf_eq h (.inr h2), h2]; rfl
  ·rw [show withoutT 2 [y] = [y] by simp [withoutT, h2]]; rfl
theorem cat_args {y : T} (h : good y) (h4 : y.kind = 4) : catT y.args = y := by
 cases y with
 | node k s l =>
  have hk : k = 4 := h4
  subst hk
  exact cat_eq h
theorem alt_of_one {x : T} (h : good x) (h5 : x.kind ≠ 5) : altT [x] = x := by
 unfold altT
 have hf : flatT 5 [x] = [x] := by simp [flatT, h5]
 rw [hf]
 by_cases h1 : x.kind = 1
 ·rw [show withoutT 1 [x] = [] by simp [withoutT, h1], leaf_eq h (.inl h1), h1]
  show wrapT 5 noneT (sortU (itemsT [])) = noneT
  rfl
 ·rw [show withoutT 1 [x] = [x] by simp [withoutT, h1]]
  by_cases h3 : x.kind = 3
  ·obtain ⟨e1, e2⟩ := good_three h h3
   have hor : orT [x] = x.set := by
    funext b
    simp [orT, h3]
   unfold itemsT
   rw [hor, e2, show withoutT 3 [x] = [] by simp [withoutT, h3], ← e1]
   rfl
  ·have hor : eqS (orT [x]) zeroS = true := (eqS_iff _ _).2 fun b _ => by simp [orT, h3, zeroS]
   unfold itemsT
   rw [hor, show withoutT 3 [x] = [x] by simp [withoutT, h3]]
   rfl
theorem good_kind {t : T} (h : good t) : t.kind = 1 ∨ t.kind = 2 ∨ t.kind = 3 ∨ t.kind = 4 ∨ t.kind = 5 ∨ t.kind = 6 := by
 cases t with
 | node k s l =>
  have h4 := (good_node.1 h).2.2.2.1
  by_cases h1 : k = 1
  ·exact .inl h1
  by_cases h2 : k = 2
  ·exact .inr (.inl h2)
  by_cases h3 : k = 3
  ·exact .inr (.inr (.inl h3))
  by_cases h5 : k = 4
  ·exact .inr (.inr (.inr (.inl h5)))
  by_cases h6 : k = 5
  ·exact .inr (.inr (.inr (.inr (.inl h6))))
  by_cases h7 : k = 6
  ·exact .inr (.inr (.inr (.inr (.inr h7))))
  ·rw [count_no h1 h2 h3 h5 h6 h7] at h4; cases h4
end Go.Proofs.YtopnpdobcagcgaaGreat
namespace Go.Proofs.YtopnpdobcagcgaaGreat
open Go.RowKit
set_option linter.unusedSimpArgs false
set_option linter.unusedVariables false
section
variable {P : Program} {w : World} {o : Oper} {a : Act} {K : Act → World → Prop} {Q : Exit → Act → World → Prop}
theorem wp_of_run {v : Value} (h : (execOp a.eval o).run P w = .ok (.value v) w) (hk : K (a.put o.dst v) w) : o.wp P a w K Q := by
 unfold Oper.wp
 rw [h]
 exact hk
theorem run_bldT2 (t e : TypeId) (i : TypeInfo) (ht : P.underlying t = some (.slice e)) (hi : P.info? e = some i) (hz : i.zero = some (.agg (Value.int .i64 0 :: (wds (fun _ => false) ++ [.slice none 0 0])).toArray)) (hs : i.size = 6) (cs ds : List Value) (hc : cs.length = 6) (hl : ds.length = 6) :
  (Instr.buildSlice t 2 #[(0, .agg cs.toArray), (1, .agg ds.toArray)]).run P w = .ok (.slice (some ⟨w.heap.size, 0, none⟩) 2 2) (w.alloc (.cells (cs ++ ds).toArray e)) := by
 have hzv : (zeroValue e).run P w = .ok (.agg (Value.int .i64 0 :: (wds (fun _ => false) ++ [.slice none 0 0])).toArray) w := by simp [zeroValue, typeInfo, hi, hz]
 match cs, hc with
 | [c0, c1, c2, c3, c4, c5], _ =>
  match ds, hl with
  | [d0, d1, d2, d3, d4, d5], _ =>
   simp [Instr.buildSlice, run_underlying ht, sizeOf, typeInfo, hi, hs, hzv, Value.cells, Instr.fill, wds, Array.range_succ, Array.range_zero', newRow]
theorem wp_bldT2 (t e : TypeId) (x y : Operand) (ho : o.op = .buildSlice t 2 #[(0, x), (1, y)]) (i : TypeInfo) (ht : P.underlying t = some (.slice e)) (hi : P.info? e = some i) (hz : i.zero = some (.agg (Value.int .i64 0 :: (wds (fun _ => false) ++ [.slice none 0 0])).toArray)) (hs : i.size = 6) (cs ds : List Value) (hc : cs.length = 6) (hl : ds.length = 6)
  (hx : a.eval x = .agg cs.toArray) (hy : a.eval y = .agg ds.toArray)
  (h : ∀ w', Blk w' w.heap.size e (cs ++ ds) → Below w.heap.size w w' → w'.heap.size = w.heap.size + 1 → K (a.put o.dst (.slice (some ⟨w.heap.size, 0, none⟩) 2 2)) w') : o.wp P a w K Q := by
 have hrun := run_bldT2 (P := P) (w := w) t e i ht hi hz hs cs ds hc hl
 unfold Oper.wp
 simp only [execOp, ho, List.map_toArray, List.map_cons, List.map_nil, hx, hy, hrun, Sem.run_bind, Result.andThen_ok, Sem.run_pure]
 exact (h _ (Blk.new w e _) ((Below.refl _ _).alloc (Nat.le_refl _) _) (by simp))
end
theorem row_two {w : World} {g : Nat} {ty : TypeId} {cs ds : List Value} {t u : T} {B : Nat} (hb : Blk w g ty (cs ++ ds)) (hc : RxV B w cs t) (hd : RxV B w ds u) (hg : g < B) : RowT B w (.slice (some ⟨g, 0, none⟩) 2 2) [t, u] := by
 have hc6 := hc.length
 have hd6 := hd.length
 refine ⟨some ⟨g, 0, none⟩, 2, fun i => if i = 0 then cs else ds, rfl, Nat.le_refl _, by unfold maxLen; omega, (fun h => by cases h), fun _ => ⟨g, 0, rfl, hg, fun i hi => ?_⟩, fun i x hx => ?_⟩
 ·have hi2 : i = 0 ∨ i = 1 := by simp at hi; omega
  rcases hi2 with rfl | rfl
  ·intro j v hv
   have hj := (List.getElem?_eq_some_iff.1 hv).1
   have hv' : cs[j]? = some v := hv
   rw [hb.cell, show 0 + 0 * 6 + j = j by omega, List.getElem?_append_left (by have := (List.getElem?_eq_some_iff.1 hv').1; exact this)]
   exact hv'
  ·intro j v hv
   have hv' : ds[j]? = some v := hv
   rw [hb.cell, show 0 + 1 * 6 + j = cs.length + j by omega, List.getElem?_append_right (by omega), show cs.length + j - cs.length = j by omega]
   exact hv'
 ·match i, hx with
  | 0, hx =>
   obtain rfl : t = x := by simpa using hx
   exact hc
  | 1, hx =>
   obtain rfl : u = x := by simpa using hx
   exact hd
end Go.Proofs.YtopnpdobcagcgaaGreat
