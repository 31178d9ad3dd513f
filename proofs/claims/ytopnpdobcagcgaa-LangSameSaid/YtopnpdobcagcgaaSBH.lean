/-
  Rows of two and three expressions; parts of a row of bytes. No statement is proved here.
-/
import Derived.Test.YtopnpdobcagcgaaSBG
namespace Go.Proofs.Ytopnpdobcagcgaa
open Go.RowKit
set_option linter.unusedSimpArgs false
set_option linter.unusedVariables false
section
variable {P : Program} {w : World} {ops : Array Oper} {rest : List Oper} {o : Oper} {a : Act} {Q : Exit → Act → World → Prop} {K : Act → World → Prop}
theorem wpList_bldT2 (hg : o.guard = none) (t e : TypeId) (x y : Operand) (ho : o.op = .buildSlice t 2 #[(0, x), (1, y)]) (i : TypeInfo) (ht : P.underlying t = some (.slice e)) (hi : P.info? e = some i) (hz : i.zero = some (.agg (Value.int .i64 0 :: (wds (fun _ => false) ++ [.slice none 0 0])).toArray)) (hs : i.size = 6) (cs ds : List Value) (hc : cs.length = 6) (hl : ds.length = 6)
  (hx : a.eval x = .agg cs.toArray) (hy : a.eval y = .agg ds.toArray)
  (h : ∀ w', Blk w' w.heap.size e (cs ++ ds) → Below w.heap.size w w' → w'.heap.size = w.heap.size + 1 → wpList P ops Q rest (a.put o.dst (.slice (some ⟨w.heap.size, 0, none⟩) 2 2)) w') : wpList P ops Q (o :: rest) a w := by
 refine wpList_plain hg fun K hK => ?_
 exact wp_bldT2 t e x y ho i ht hi hz hs cs ds hc hl hx hy fun w' h1 h2 h3 => hK _ _ (h w' h1 h2 h3)
theorem run_bldT3 (t e : TypeId) (i : TypeInfo) (ht : P.underlying t = some (.slice e)) (hi : P.info? e = some i) (hz : i.zero = some (.agg (Value.int .i64 0 :: (wds (fun _ => false) ++ [.slice none 0 0])).toArray)) (hs : i.size = 6) (cs ds es : List Value) (hc : cs.length = 6) (hl : ds.length = 6) (he : es.length = 6) :
  (Instr.buildSlice t 3 #[(0, .agg cs.toArray), (1, .agg ds.toArray), (2, .agg es.toArray)]).run P w = .ok (.slice (some ⟨w.heap.size, 0, none⟩) 3 3) (w.alloc (.cells (cs ++ ds ++ es).toArray e)) := by
 have hzv : (zeroValue e).run P w = .ok (.agg (Value.int .i64 0 :: (wds (fun _ => false) ++ [.slice none 0 0])).toArray) w := by simp [zeroValue, typeInfo, hi, hz]
 match cs, hc with
 | [c0, c1, c2, c3, c4, c5], _ =>
  match ds, hl with
  | [d0, d1, d2, d3, d4, d5], _ =>
   match es, he with
   | [e0, e1, e2, e3, e4, e5], _ =>
    simp [Instr.buildSlice, run_underlying ht, sizeOf, typeInfo, hi, hs, hzv, Value.cells, Instr.fill, wds, Array.range_succ, Array.range_zero', newRow]
theorem wp_bldT3 (t e : TypeId) (x y q : Operand) (ho : o.op = .buildSlice t 3 #[(0, x), (1, y), (2, q)]) (i : TypeInfo) (ht : P.underlying t = some (.slice e)) (hi : P.info? e = some i) (hz : i.zero = some (.agg (Value.int .i64 0 :: (wds (fun _ => false) ++ [.slice none 0 0])).toArray)) (hs : i.size = 6) (cs ds es : List Value) (hc : cs.length = 6) (hl : ds.length = 6) (he : es.length = 6)
  (hx : a.eval x = .agg cs.toArray) (hy : a.eval y = .agg ds.toArray) (hq : a.eval q = .agg es.toArray)
  (h : ∀ w', Blk w' w.heap.size e (cs ++ ds ++ es) → Below w.heap.size w w' → w'.heap.size = w.heap.size + 1 → K (a.put o.dst (.slice (some ⟨w.heap.size, 0, none⟩) 3 3)) w') : o.wp P a w K Q := by
 have hrun := run_bldT3 (P := P) (w := w) t e i ht hi hz hs cs ds es hc hl he
 unfold Oper.wp
 simp only [execOp, ho, List.map_toArray, List.map_cons, List.map_nil, hx, hy, hq, hrun, Sem.run_bind, Result.andThen_ok, Sem.run_pure]
 exact (h _ (Blk.new w e _) ((Below.refl _ _).alloc (Nat.le_refl _) _) (by simp))
theorem wpList_bldT3 (hg : o.guard = none) (t e : TypeId) (x y q : Operand) (ho : o.op = .buildSlice t 3 #[(0, x), (1, y), (2, q)]) (i : TypeInfo) (ht : P.underlying t = some (.slice e)) (hi : P.info? e = some i) (hz : i.zero = some (.agg (Value.int .i64 0 :: (wds (fun _ => false) ++ [.slice none 0 0])).toArray)) (hs : i.size = 6) (cs ds es : List Value) (hc : cs.length = 6) (hl : ds.length = 6) (he : es.length = 6)
  (hx : a.eval x = .agg cs.toArray) (hy : a.eval y = .agg ds.toArray) (hq : a.eval q = .agg es.toArray)
  (h : ∀ w', Blk w' w.heap.size e (cs ++ ds ++ es) → Below w.heap.size w w' → w'.heap.size = w.heap.size + 1 → wpList P ops Q rest (a.put o.dst (.slice (some ⟨w.heap.size, 0, none⟩) 3 3)) w') : wpList P ops Q (o :: rest) a w := by
 refine wpList_plain hg fun K hK => ?_
 exact wp_bldT3 t e x y q ho i ht hi hz hs cs ds es hc hl he hx hy hq fun w' h1 h2 h3 => hK _ _ (h w' h1 h2 h3)
end
theorem row_three {w : World} {g : Nat} {ty : TypeId} {cs ds es : List Value} {t u v : T} {B : Nat} (hb : Blk w g ty (cs ++ ds ++ es)) (hc : RxV B w cs t) (hd : RxV B w ds u) (he : RxV B w es v) (hg : g < B) : RowT B w (.slice (some ⟨g, 0, none⟩) 3 3) [t, u, v] := by
 have hc6 := hc.length
 have hd6 := hd.length
 have he6 := he.length
 refine ⟨some ⟨g, 0, none⟩, 3, fun i => if i = 0 then cs else if i = 1 then ds else es, rfl, Nat.le_refl _, by unfold maxLen; omega, (fun h => by cases h), fun _ => ⟨g, 0, rfl, hg, fun i hi => ?_⟩, fun i x hx => ?_⟩
 ·have hi2 : i = 0 ∨ i = 1 ∨ i = 2 := by simp at hi; omega
  rcases hi2 with rfl | rfl | rfl
  ·intro j v hv
   have hj := (List.getElem?_eq_some_iff.1 hv).1
   have hv' : cs[j]? = some v := hv
   have hj' := (List.getElem?_eq_some_iff.1 hv').1
   rw [hb.cell, show 0 + 0 * 6 + j = j by omega, List.append_assoc, List.getElem?_append_left hj']
   exact hv'
  ·intro j v hv
   have hj := (List.getElem?_eq_some_iff.1 hv).1
   have hv' : ds[j]? = some v := hv
   have hj' := (List.getElem?_eq_some_iff.1 hv').1
   rw [hb.cell, show 0 + 1 * 6 + j = cs.length + j by omega, List.append_assoc, List.getElem?_append_right (by omega), show cs.length + j - cs.length = j by omega, List.getElem?_append_left hj']
   exact hv'
  ·intro j v hv
   have hj := (List.getElem?_eq_some_iff.1 hv).1
   have hv' : es[j]? = some v := hv
   rw [hb.cell, show 0 + 2 * 6 + j = cs.length + (ds.length + j) by omega, List.append_assoc, List.getElem?_append_right (by omega), show cs.length + (ds.length + j) - cs.length = ds.length + j by omega, List.getElem?_append_right (by omega), show ds.length + j - ds.length = j by omega]
   exact hv'
 ·match i, hx with
  | 0, hx => cases hx; exact hc
  | 1, hx => cases hx; exact hd
  | 2, hx => cases hx; exact he
  | n + 3, hx => simp at hx
end Go.Proofs.Ytopnpdobcagcgaa
