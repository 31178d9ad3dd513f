/-
  Texts of this proof, put together: PyE, TbF, RxDp, GrA, BsLs. No statement is proved here.
-/
import Derived.Test.YtmcpfaaakmehdaaRM
import Derived.Test.YtmcpfaaakmehdaaRP
import Derived.Test.YtmcpfaaakmehdaaRQ
import Derived.Test.YtmcpfaaakmehdaaRN
import Derived.Test.YtmcpfaaakmehdaaRC
import Derived.Test.YtmcpfaaakmehdaaRD
import Derived.Test.YtmcpfaaakmehdaaRE
import Derived.Test.YtmcpfaaakmehdaaRA
import Derived.Sort.Grow
import Derived.Shelf.Spec.TrailingZeros
import Derived.Test.YtmcpfaaakmehdaaRB
namespace Go.Proofs.Ytmcpfaaakmehdaa
open Go.RowKit
set_option linter.unusedSimpArgs false
set_option linter.unusedVariables false
section
variable {P : Program} {w : World} {o : Oper} {a : Act} {K : Act → World → Prop} {Q : Exit → Act → World → Prop}
theorem wp_of_run {v : Value} (h : (execOp a.eval o).run P w = .ok (.value v) w) (hk : K (a.put o.dst v) w) : o.wp P a w K Q := by
 unfold Oper.wp
 rw [h]
 exact hk
theorem run_bldT2 (t e : TypeId) (i : TypeInfo) (ht : P.underlying t = some (.slice e)) (hi : P.info? e = some i) (hz : i.zero = some (.agg (Value.int .i64 0 :: (wds (fun _ => false) ++ [.slice none 0 0])).toArray)) (hs : i.size = 6) (cs ds : List Value) (hc : cs.length = 6) (hl : ds.length = 6) :
  (Instr.buildSlice t 2 #[(0, .agg cs.toArray), (1, .agg ds.toArray)]).run P w = .ok (.slice (some ⟨w.heap.size, 0, none⟩) 2 2) (w.alloc (.cells (cs ++ ds).toArray e)) := by
 have hzv : (zeroValue e).run P w = .ok (.agg (Value.int .i64 0 :: (wds (fun _ => false) ++ [.slice none 0 0])).toArray) w := by simp [zeroValue, typeInfo, hi, hz]
 match cs, hc with
 | [c0, c1, c2, c3, c4, c5], _ =>
  match ds, hl with
  | [d0, d1, d2, d3, d4, d5], _ =>
   simp [Instr.buildSlice, run_underlying ht, sizeOf, typeInfo, hi, hs, hzv, Value.cells, Instr.fill, wds, Array.range_succ, Array.range_zero', newRow]
theorem wp_bldT2 (t e : TypeId) (x y : Operand) (ho : o.op = .buildSlice t 2 #[(0, x), (1, y)]) (i : TypeInfo) (ht : P.underlying t = some (.slice e)) (hi : P.info? e = some i) (hz : i.zero = some (.agg (Value.int .i64 0 :: (wds (fun _ => false) ++ [.slice none 0 0])).toArray)) (hs : i.size = 6) (cs ds : List Value) (hc : cs.length = 6) (hl : ds.length = 6)
  (hx : a.eval x = .agg cs.toArray) (hy : a.eval y = .agg ds.toArray)
  (h : ∀ w', Blk w' w.heap.size e (cs ++ ds) → Below w.heap.size w w' → w'.heap.size = w.heap.size + 1 → K (a.put o.dst (.slice (some ⟨w.heap.size, 0, none⟩) 2 2)) w') : o.wp P a w K Q := by
 have hrun := run_bldT2 (P := P) (w := w) t e i ht hi hz hs cs ds hc hl
 unfold Oper.wp
 simp only [execOp, ho, List.map_toArray, List.map_cons, List.map_nil, hx, hy, hrun, Sem.run_bind, Result.andThen_ok, Sem.run_pure]
 exact (h _ (Blk.new w e _) ((Below.refl _ _).alloc (Nat.le_refl _) _) (by simp))
end
theorem row_two {w : World} {g : Nat} {ty : TypeId} {cs ds : List Value} {t u : T} {B : Nat} (hb : Blk w g ty (cs ++ ds)) (hc : RxV B w cs t) (hd : RxV B w ds u) (hg : g < B) : RowT B w (.slice (some ⟨g, 0, none⟩) 2 2) [t, u] := by
 have hc6 := hc.length
 have hd6 := hd.length
 refine ⟨some ⟨g, 0, none⟩, 2, fun i => if i = 0 then cs else ds, rfl, Nat.le_refl _, by unfold maxLen; omega, (fun h => by cases h), fun _ => ⟨g, 0, rfl, hg, fun i hi => ?_⟩, fun i x hx => ?_⟩
 ·have hi2 : i = 0 ∨ i = 1 := by simp at hi; omega
  rcases hi2 with rfl | rfl
  ·intro j v hv
   have hj := (List.getElem?_eq_some_iff.1 hv).1
   have hv' : cs[j]? = some v := hv
   rw [hb.cell, show 0 + 0 * 6 + j = j by omega, List.getElem?_append_left (by have := (List.getElem?_eq_some_iff.1 hv').1; exact this)]
   exact hv'
  ·intro j v hv
   have hv' : ds[j]? = some v := hv
   rw [hb.cell, show 0 + 1 * 6 + j = cs.length + j by omega, List.getElem?_append_right (by omega), show cs.length + j - cs.length = j by omega]
   exact hv'
 ·match i, hx with
  | 0, hx =>
   obtain rfl : t = x := by simpa using hx
   exact hc
  | 1, hx =>
   obtain rfl : u = x := by simpa using hx
   exact hd
theorem bLink_end {w w4 w5 : World} {B g gl c0 f t : Nat} {D : Nat → Prop} {S : List St} {v5 : Value} {fv : Nat → Value} {s : St} (x : Bld w B g (.slice (some ⟨gl, 0, none⟩) S.length c0) fv S) (hD : ∀ k, Bd g (.slice (some ⟨gl, 0, none⟩) S.length c0) fv S.length k → D k) (hdB : ∀ k, D k → B ≤ k) (hdl : ∀ k, D k → k < w.heap.size)
  (hB : B ≤ w.heap.size) (hs : S[f]? = some s) (b4 : Below w.heap.size w w4) (ho : w5.ownsRow B 3 1 v5 (s.free.length + (nums .i64 [(t : Int)]).length) (nums .i64 s.free ++ nums .i64 [(t : Int)])) (hg : w4.grownBy w5 (fv f).ownBlock) (hw : ∀ k, v5.ownBlock = some k → (fv f).ownBlock = some k ∨ w4.heap.size ≤ k) :
  w5.cell? ⟨gl, f * 6 + 5, none⟩ = some (fv f) ∧ w5.frozen? ⟨gl, f * 6 + 5, none⟩ = false ∧ BPost w B g D (linkI S f [(t : Int)]) (w5.setCell ⟨gl, f * 6 + 5, none⟩ v5) := by
 have hs4 := b4.size
 have hs5 := hg.size
 have hf := (List.getElem?_eq_some_iff.1 hs).1
 have hgl : gl < w.heap.size := x.lt (.inr (.inl rfl))
 have hng : gl ≠ g := fun e => x.lg (by rw [← e]; rfl)
 have nfl : ∀ i, i < S.length → (fv i).ownBlock ≠ some gl := fun i hi e => x.fl i gl hi e rfl
 have hsz : (w5.setCell ⟨gl, f * 6 + 5, none⟩ v5).heap.size = w5.heap.size := by simp
 have hkeep : ∀ k, k < w.heap.size → (fv f).ownBlock ≠ some k → w5.heap[k]? = w.heap[k]? := fun k hk hn => (hg.block k (by omega) fun e => hn e.symm).trans (b4.block k hk)
 have hother : ∀ k, k ≠ gl → (w5.setCell ⟨gl, f * 6 + 5, none⟩ v5).heap[k]? = w5.heap[k]? := fun k hk => Below.heap_setCell w5 ⟨gl, f * 6 + 5, none⟩ v5 k hk
 have n5 : v5.ownBlock ≠ some gl := fun e => by
  rcases hw gl e with e | e
  ·exact nfl f hf e
  ·omega
 have own5 : w5.ownsRow B 61 6 (.slice (some ⟨gl, 0, none⟩) S.length c0) S.length (cellsN S fv).flatten := own6_stay x.own fun j hj => hkeep j (own6_lt x.own j hj).1 fun e => x.fl f j hf e hj
 have hcell : (cellsN S fv).flatten[f * 6 + 5]? = some (fv f) := by rw [cellsN_flat S fv hs (by omega)]; rfl
 have hset : (cellsN S fv).flatten.set (f * 6 + 5) v5 = (cellsN (linkI S f [(t : Int)]) (updV fv f v5)).flatten := by
  have hc : (cellsN S fv)[f]? = some (stc s (fv f)) := by rw [cellsN_get, hs]; rfl
  rw [flat6_set (cellsN_six S fv) v5 hc (by omega)]
  unfold linkI
  rw [cellsN_mod hs _ v5]
  rfl
 have hlen : (linkI S f [(t : Int)]).length = S.length := linkI_len _ _ _
 have hfrees : ∀ i s', (linkI S f [(t : Int)])[i]? = some s' → if i = f then s'.free = s.free ++ [(t : Int)] else S[i]? = some s' := fun i s' h => by
  unfold linkI at h
  rw [List.getElem?_modify] at h
  by_cases hi : f = i
  ·subst hi
   rw [hs] at h
   rw [if_pos rfl]
   simp at h
   rw [← h]
  ·rw [if_neg fun e => hi e.symm]
   cases h0 : S[i]? with
   | none => rw [h0] at h; cases h
   | some a => rw [h0] at h; simp [hi] at h; rw [h]
 have hu : ∀ i, i ≠ f → updV fv f v5 i = fv i := fun i hi => by unfold updV; rw [if_neg hi]
 refine ⟨(own_cell own5 hcell).1, (own_cell own5 hcell).2, ⟨⟨⟨.slice (some ⟨gl, 0, none⟩) S.length c0, updV fv f v5, ⟨?_, ?_, fun i s' hs' => ?_, x.lg, fun i hi e => ?_, fun i k hi e e' => ?_, fun i j k hi hj hij e e' => ?_⟩, fun k hk => ?_⟩, fun k hk => ?_, fun k hk => ?_⟩, ?_, hB⟩⟩
 ·exact (hother g hng.symm).trans ((hkeep g x.blk.lt (x.fg f hf)).trans x.blk)
 ·rw [hlen, ← hset]
  exact own_set own5 (List.getElem?_eq_some_iff.1 hcell).1 v5
 ·have hi : i < S.length := by rw [← hlen]; exact (List.getElem?_eq_some_iff.1 hs').1
  have h1 := hfrees i s' hs'
  by_cases hif : i = f
  ·subst hif
   rw [if_pos rfl] at h1
   rw [upd_at, h1, List.length_append, nums_append]
   exact own6_stay ho fun j hj => hother j (by rintro rfl; exact n5 hj)
  ·rw [if_neg hif] at h1
   rw [hu i hif]
   have h2 := x.free i s' h1
   refine own6_stay h2 fun j hj => (hother j (by rintro rfl; exact nfl i hi hj)).trans (hkeep j (own6_lt h2 j hj).1 fun e => x.ff i f j hi hf hif hj e)
 ·rw [hlen] at hi
  by_cases hif : i = f
  ·subst hif
   rw [upd_at] at e
   rcases hw g e with e | e
   ·exact x.fg i hi e
   ·have := x.blk.lt; omega
  ·rw [hu i hif] at e
   exact x.fg i hi e
 ·rw [hlen] at hi
  by_cases hif : i = f
  ·subst hif
   rw [upd_at] at e
   have : k = gl := by
    have h3 : some gl = some k := e'
    exact (Option.some.inj h3).symm
   rw [this] at e
   exact n5 e
  ·rw [hu i hif] at e
   exact x.fl i k hi e e'
 ·rw [hlen] at hi hj
  by_cases hif : i = f
  ·subst hif
   have hjf : j ≠ i := fun h => hij h.symm
   rw [upd_at] at e
   rw [hu j hjf] at e'
   rcases hw k e with e | e
   ·exact x.ff i j k hi hj hij e e'
   ·have := x.lt (.inr (.inr ⟨j, hj, e'⟩)); omega
  ·rw [hu i hif] at e
   by_cases hjf : j = f
   ·subst hjf
    rw [upd_at] at e'
    rcases hw k e' with e' | e'
    ·exact x.ff i j k hi hj hij e e'
    ·have := x.lt (.inr (.inr ⟨i, hi, e⟩)); omega
   ·rw [hu j hjf] at e'
    exact x.ff i j k hi hj hij e e'
 ·rcases hk with rfl | hk | ⟨i, hi, hk⟩
  ·exact .inl (hD _ (.inl rfl))
  ·exact .inl (hD _ (.inr (.inl hk)))
  ·rw [hlen] at hi
   by_cases hif : i = f
   ·subst hif
    rw [upd_at] at hk
    rcases hw k hk with h | h
    ·exact .inl (hD _ (.inr (.inr ⟨i, hi, h⟩)))
    ·exact .inr ⟨by omega, by rw [hsz]; exact (own6_lt ho k hk).1⟩
   ·rw [hu i hif] at hk
    exact .inl (hD _ (.inr (.inr ⟨i, hi, hk⟩)))
 ·rcases hk with hk | hk
  ·exact hdB k hk
  ·exact Nat.le_trans hB hk.1
 ·rcases hk with hk | hk
  ·have := hdl k hk; rw [hsz]; omega
  ·exact hk.2
 ·exact ((Off.new D b4).trans (Off.grown hg fun k hk => .inr (hD k (.inr (.inr ⟨f, hf, hk⟩))))).trans (Off.set w5 _ v5 (hD gl (.inr (.inl rfl))))
theorem wp_stL {o : Oper} {a : Act} {w : World} {K : Act → World → Prop} {Q : Exit → Act → World → Prop} (x y : Operand) (ho : o.op = .store 25 x y) (g q : Nat) (hx : a.eval x = .pointer (some ⟨g, q, none⟩)) (A : Option Addr) (n c : Nat) (hy : a.eval y = .slice A n c)
  (u : Value) (hc : w.cell? ⟨g, q, none⟩ = some u) (hf : w.frozen? ⟨g, q, none⟩ = false) (h : K (a.put o.dst undef) (w.setCell ⟨g, q, none⟩ (.slice A n c))) : o.wp Try.prog a w K Q := by
 unfold Oper.wp execOp
 simp only [ho, hx, hy]
 have hrun : (Instr.storeAt 25 (.pointer (some ⟨g, q, none⟩)) (.slice A n c)).run Try.prog w = .ok () (w.setCell ⟨g, q, none⟩ (.slice A n c)) := by
  go_simp
 simp only [Sem.run_bind, hrun, Result.andThen_ok, Sem.run_pure]
 exact h
theorem ld_ints9 {ev : Operand → Value} {o : Oper} (x : Operand) (ho : o.op = .load 25 x) {p : Addr} (hx : ev x = .pointer (some p)) {A : Option Addr} {n c : Nat} {W : World} (hc : W.cell? p = some (.slice A n c)) : (execOp ev o).run Try.prog W = .ok (.value (.slice A n c)) W := by
 simp only [execOp, ho, hx]
 go_simp
set_option maxHeartbeats 4000000 in
set_option maxRecDepth 1000000 in
theorem bLink_any {B g : Nat} {D : Nat → Prop} {S : List St} {s : St} (f t : Nat) (w : World) (h : BldV w B g D S) (hs : S[f]? = some s) (hS : S.length ≤ 2000) (hfr : s.free.length ≤ 8) :
  Calls Try.prog 66 #[.pointer (some ⟨g, 0, none⟩), .int .i64 (f : Int), .int .i64 (t : Int)] w fun e w' => e = .returned (.tuple #[]) ∧ BPost w B g D (linkS S f t) w' := by
 have HB := qH h.size
 obtain ⟨⟨lv, fv, hb, hd⟩, hdB, hdl⟩ := h
 have hf := (List.getElem?_eq_some_iff.1 hs).1
 obtain ⟨gl, c0, rfl, _⟩ : ∃ gl c0, lv = .slice (some ⟨gl, 0, none⟩) S.length c0 ∧ True := by
  rcases hb.own.2 with ⟨_, h0⟩ | ⟨g', cap, cur, he, _⟩
  ·omega
  ·exact ⟨g', cap, he, trivial⟩
 obtain ⟨nf, hnf⟩ : ∃ n, n = s.free.length := ⟨_, rfl⟩
 obtain ⟨Af, cf, hfv⟩ : ∃ A c, fv f = .slice A nf c := by rw [hnf]; exact own_form6 (hb.free f s hs)
 have X := qH hb
 have HD := qH hd
 have HDB := qH hdB
 have HDL := qH hdl
 have HNS := qH hS
 have HSF := qH hs
 have HNF := qH hnf
 have HF8 := qH (show nf ≤ 8 by omega)
 have HFV := qH hfv
 have f1 : (f : Int) < (S.length : Int) := by omega
 have HGL := qH (show gl < w.heap.size from hb.lt (.inr (.inl rfl)))
 have HG0 := qH hb.blk.lt
 have HD0 := qH (hb.blk.cell 0)
 simp only [List.getElem?_cons_zero] at HD0
 have HCF := qH (show w.cell? ⟨gl, f * 6 + 5, none⟩ = some (.slice Af nf cf) from (own_cell hb.own (by rw [cellsN_flat S fv hs (by omega), ← hfv]; rfl)).1)
 obtain ⟨i1, hi1, hy0, hy1, hy2⟩ := infoP inf_int
 obtain ⟨Dl, hDl⟩ : ∃ P : Nat → Prop, P = fun k => k = gl ∨ (fv f).ownBlock = some k := ⟨_, rfl⟩
 have HNG := qH (show ¬ Dl g by
  rw [hDl]
  rintro (e | e)
  ·exact hb.lg (by rw [e]; rfl)
  ·exact hb.fg f hf e)
 have HDF := qH (show ∀ k, (fv f).ownBlock = some k → Dl k by rw [hDl]; exact fun k hk => .inr hk)
 have HDG := qH (show Dl gl by rw [hDl]; exact .inl rfl)
 clear hb hd hdB hdl hS hs hf hnf hfv hDl hfr
 go_enter Try.func66, Try.ntmps66
 go_wp2_with fail
 refine sg_start (S := Off Dl w) (by kernel_rfl) (Off.start _ _) (fun wd hwd => ?_)
 have hX : Off Dl w wd := by rw [hwd]; exact Off.start _ _
 have BD := qH (show Below w.heap.size w wd by rw [hwd]; exact (Below.refl _ _).drew)
 clear hwd
 have HCF2 := qH ((BD.out.cell (p := ⟨gl, f * 6 + 5, none⟩) HGL.out).trans HCF.out)
 refine sg_take (i := 0) (oi := ⟨some 6, _, _, _, _, _⟩) (v := ?_) rfl (by kernel_rfl) (by kernel_rfl) (by kernel_rfl) (fun _ _ _ h => h) rfl hX ?_ ?_; rotate_left; (intro W hW; go_simp; try with_reducible rfl); simp only [Act.put, qA, qB, qC]
 refine sg_take (i := 1) (oi := ⟨some 7, _, _, _, _, _⟩) (v := ?_) rfl (by kernel_rfl) (by kernel_rfl) (by kernel_rfl) (fun _ _ _ h => h) rfl hX ?_ ?_; rotate_left; (intro W hW; go_simp; try with_reducible rfl); simp only [Act.put, qA, qB, qC]
 refine sg_take (i := 2) (oi := ⟨some 8, _, _, _, _, _⟩) (v := ?_) rfl (by kernel_rfl) (by kernel_rfl) (by kernel_rfl) (fun _ _ _ h => h) rfl hX ?_ ?_; rotate_left; (intro W hW; go_simp; try with_reducible rfl); simp only [Act.put, qA, qB, qC]
 refine sg_take (i := 3) (oi := ⟨some 9, _, _, _, _, _⟩) (v := .slice (some ⟨gl, 0, none⟩) S.length c0) rfl (by kernel_rfl) (by kernel_rfl) (by kernel_rfl) (fun _ _ _ h => h) rfl hX (fun W hW => ld_sts (.tmp 8) rfl rfl (hW.cell HG0.out HNG.out HD0.out)) ?_; simp only [Act.put, qA, qB, qC]
 refine sg_take (i := 4) (oi := ⟨some 10, _, _, _, _, _⟩) (v := ?_) rfl (by kernel_rfl) (by kernel_rfl) (by kernel_rfl) (fun _ _ _ h => h) rfl hX ?_ ?_; rotate_left; (intro W hW; go_simp; try with_reducible rfl); simp only [Act.put, qA, qB, qC]
 refine sg_take (i := 5) (oi := ⟨some 11, _, _, _, _, _⟩) (v := ?_) rfl (by kernel_rfl) (by kernel_rfl) (by kernel_rfl) (fun _ _ _ h => h) rfl hX ?_ ?_; rotate_left; (intro W hW; go_simp; try with_reducible rfl); simp only [Act.put, qA, qB, qC]
 refine sg_take (i := 6) (oi := ⟨some 12, _, _, _, _, _⟩) (v := ?_) rfl (by kernel_rfl) (by kernel_rfl) (by kernel_rfl) (fun _ _ _ h => h) rfl hX ?_ ?_; rotate_left; (intro W hW; go_simp; try with_reducible rfl); simp only [Act.put, qA, qB, qC]
 refine sg_take (i := 7) (oi := ⟨some 13, _, _, _, _, _⟩) (v := ?_) rfl (by kernel_rfl) (by kernel_rfl) (by kernel_rfl) (fun _ _ _ h => h) rfl hX ?_ ?_; rotate_left; (intro W hW; go_simp; try with_reducible rfl); simp only [Act.put, qA, qB, qC]
 refine sg_take (i := 8) (oi := ⟨some 14, _, _, _, _, _⟩) (v := .slice (some ⟨gl, 0, none⟩) S.length c0) rfl (by kernel_rfl) (by kernel_rfl) (by kernel_rfl) (fun _ _ _ h => h) rfl hX (fun W hW => ld_sts (.tmp 13) rfl rfl (hW.cell HG0.out HNG.out HD0.out)) ?_; simp only [Act.put, qA, qB, qC]
 refine sg_take (i := 9) (oi := ⟨some 15, _, _, _, _, _⟩) (v := ?_) rfl (by kernel_rfl) (by kernel_rfl) (by kernel_rfl) (fun _ _ _ h => h) rfl hX ?_ ?_; rotate_left; (intro W hW; go_simp; try with_reducible rfl); simp only [Act.put, qA, qB, qC]
 refine sg_take (i := 10) (oi := ⟨some 16, _, _, _, _, _⟩) (v := ?_) rfl (by kernel_rfl) (by kernel_rfl) (by kernel_rfl) (fun _ _ _ h => h) rfl hX ?_ ?_; rotate_left; (intro W hW; go_simp; try with_reducible rfl); simp only [Act.put, qA, qB, qC]
 refine sg_take (i := 11) (oi := ⟨some 17, _, _, _, _, _⟩) (v := ?_) rfl (by kernel_rfl) (by kernel_rfl) (by kernel_rfl) (fun _ _ _ h => h) rfl hX ?_ ?_; rotate_left; (intro W hW; go_simp; try with_reducible rfl); simp only [Act.put, qA, qB, qC]
 refine sg_take (i := 13) (oi := ⟨some 19, _, _, _, _, _⟩) (v := ?_) rfl (by kernel_rfl) (by kernel_rfl) (by kernel_rfl) (fun _ _ _ h => h) rfl hX ?_ ?_; rotate_left; (intro W hW; go_simp; try with_reducible rfl); simp only [Act.put, qA, qB, qC]
 refine sg_two (i := 12) (j := 14) (oi := ⟨some 18, _, _, _, _, _⟩) (oj := ⟨some 20, _, _, _, _, _⟩) rfl rfl (by kernel_rfl) rfl rfl hX (fun K hK => ?_) (fun K hK => ?_)
 focus
  refine wp_of_run (ld_ints9 (.tmp 17) rfl rfl HCF2.out) ?_
  refine hK _ _ hX ?_
  clear hK K
  (try simp only [Act.put, qA, qB, qC])
  refine sg_actB (i := 14) (o := ⟨some 20, _, _, _, _, _⟩) rfl (by kernel_rfl) rfl hX (fun K hK => ?_)
  refine wp_bldI 25 3 (.tmp 19) rfl i1 Try.underlying25 hi1 0 hy0 hy1 (t : Int) rfl ?_
  intro w4 hr4 hb4
  have R4 := qH hr4
  have B4 := qH (BD.out.trans (hb4.mono BD.out.size))
  refine hK _ _ (hX.trans (Off.new _ hb4)) ?_
  clear hK K
  (try simp only [Act.put, qA, qB, qC])
  replace hX := hX.trans (Off.new _ hb4)
  clear hr4 hb4
 rotate_left
 focus
  refine wp_bldI 25 3 (.tmp 19) rfl i1 Try.underlying25 hi1 0 hy0 hy1 (t : Int) rfl ?_
  intro w4 hr4 hb4
  have R4 := qH hr4
  have B4 := qH (BD.out.trans (hb4.mono BD.out.size))
  refine hK _ _ (hX.trans (Off.new _ hb4)) ?_
  clear hK K
  (try simp only [Act.put, qA, qB, qC])
  replace hX := hX.trans (Off.new _ hb4)
  clear hr4 hb4
  have HCF4 := qH ((B4.out.cell (p := ⟨gl, f * 6 + 5, none⟩) HGL.out).trans HCF.out)
  refine sg_actB (i := 12) (o := ⟨some 18, _, _, _, _, _⟩) rfl (by kernel_rfl) rfl hX (fun K hK => ?_)
  refine wp_of_run (ld_ints9 (.tmp 17) rfl rfl HCF4.out) ?_
  refine hK _ _ hX ?_
  clear hK K
  (try simp only [Act.put, qA, qB, qC])
  clear HCF4
 rotate_left
 all_goals
  refine sg_actB (i := 15) (o := ⟨some 21, _, _, _, _, _⟩) rfl (by kernel_rfl) rfl hX (fun K hK => ?_)
  have OF := qH (show w4.ownsRow B 3 1 (fv f) s.free.length (nums .i64 s.free) from ownBelow (X.out.free f s HSF.out) B4.out (Nat.le_refl _))
  refine wp_appW (.tmp 18) (.tmp 20) 25 rfl 3 i1 (.int .i64 0) 8 Try.underlying25 hi1 hy0 hy1 hy2 rfl (fv f) s.free.length (nums .i64 s.free) HFV.out.symm OF.out _ (nums .i64 [(t : Int)]) rfl R4.out (nums_one _ _) (by have := HF8.out; rw [HNF.out] at this; rw [nums_length .i64 [(t : Int)]]; simp only [List.length_singleton]; omega) (by omega) (Nat.le_trans HB.out B4.out.size) ?_
  intro v5 w5 ho5 hg5 hw5
  obtain ⟨A5, c5, rfl⟩ := own_form6 ho5
  have hE := bLink_end X.out HD.out HDB.out HDL.out HB.out HSF.out B4.out ho5 hg5 hw5
  have hoff : Off Dl w4 w5 := Off.grown hg5 fun k hk => .inr (HDF.out k hk)
  clear ho5 hg5 hw5
  generalize s.free.length + (nums .i64 [(t : Int)]).length = n5 at hE ⊢
  have E5 := qH hE
  clear hE
  refine hK _ _ (hX.trans hoff) ?_
  clear hK K
  (try simp only [Act.put, qA, qB, qC])
  replace hX := hX.trans hoff
  clear hoff
  refine sg_take (i := 16) (oi := ⟨some 22, _, _, _, _, _⟩) (v := ?_) rfl (by kernel_rfl) (by kernel_rfl) (by kernel_rfl) (fun _ _ _ h => h) rfl hX ?_ ?_; rotate_left; (intro W hW; go_simp; try with_reducible rfl); simp only [Act.put, qA, qB, qC]
  refine sg_take (i := 17) (oi := ⟨some 23, _, _, _, _, _⟩) (v := ?_) rfl (by kernel_rfl) (by kernel_rfl) (by kernel_rfl) (fun _ _ _ h => h) rfl hX ?_ ?_; rotate_left; (intro W hW; go_simp; try with_reducible rfl); simp only [Act.put, qA, qB, qC]
  refine sg_actB (i := 18) (o := ⟨none, _, _, _, _, _⟩) rfl (by kernel_rfl) rfl hX (fun K hK => ?_)
  refine wp_stL (.tmp 23) (.tmp 21) rfl gl (f * 6 + 5) rfl A5 n5 c5 rfl _ E5.out.1 E5.out.2.1 ?_
  refine hK _ _ (hX.trans (Off.set _ _ _ HDG.out)) ?_
  clear hK K
  refine wpAnyH_done (by kernel_rfl) ?_ _
  clear hX
  go_wp2_with fail
  go_end0
  exact ⟨rfl, E5.out.2.2⟩
mutual
theorem depth_nodes : ∀ t : T, t.depth ≤ t.nodes
 | .node _ _ l => by
  have := depthL_nodes l
  simp only [T.depth, T.nodes]
  omega
theorem depthL_nodes : ∀ l : List T, depthL l ≤ nodesL l
 | [] => Nat.le_refl _
 | t :: r => by
  have := depth_nodes t
  have := depthL_nodes r
  simp only [depthL, nodesL]
  omega
end
set_option maxHeartbeats 4000000 in
set_option maxRecDepth 1000000 in
theorem rxDepth_any : ∀ (N : Nat) (t : T), t.nodes ≤ N → t.nodes ≤ 1099511627776 → ∀ (cs : List Value) (w : World), RxV w.heap.size w cs t →
  Calls Try.prog 62 #[.agg cs.toArray] w fun e w' => e = .returned (.int .i64 (t.depth : Int)) ∧ Below w.heap.size w w' := by
 intro N
 induction N with
 | zero => intro t h; have := nodes_pos t; omega
 | succ N ih =>
  rintro ⟨k, s, l⟩ hN hM cs w hv
  have IH := qH ih
  clear ih
  obtain ⟨A, cap, f, rfl, h1, h2, h0, h3, h4⟩ := hv.opened
  have H3 := qH h3
  have H4 := qH h4
  have HNN := qH (show T.nodes (.node k s l) = 1 + nodesL l by simp only [T.nodes])
  have HDD := qH (show T.depth (.node k s l) = depthL l + 1 by simp only [T.depth])
  rw [HNN.out] at hN hM
  have HN := qH hN
  have HM := qH hM
  have HCM := qH h2
  have HCL := qH h1
  obtain ⟨cs, hcs⟩ : ∃ cs, cs = Value.int .i64 k :: (wds s ++ [.slice A l.length cap]) := ⟨_, rfl⟩
  have HC5 := qH (show cs[5]? = some (.slice A l.length cap) by rw [hcs]; rfl)
  rw [← hcs]
  obtain ⟨i0, hi0, hz0, hz1, hz2⟩ := inf_rx'
  obtain ⟨z, hz⟩ : ∃ z, z = rxc 0 zeroS (.slice none 0 0) := ⟨_, rfl⟩
  have HZL := qH (show z.length = 6 by rw [hz]; rfl)
  have HZ0 := qH (show i0.zero = some (.agg z.toArray) by rw [hz]; exact hz0)
  have HZ1 := qH hz0
  clear hz hz0
  clear hv h1 h2 h0 h3 h4 hcs hN hM
  rw [HDD.out]
  go_enter Try.func62, Try.ntmps62
  go_wp2_with ((with_reducible refine atDst 1 ?_); refine wpList_box rfl 40 _ rfl cs rfl (Below.refl w.heap.size w) (Nat.le_refl _) ?_; intro w1 hk1 hb1 hs1 _; have K1 := qH hk1; have B1 := qH hb1; have k5 := hk1.cell 5; rw [HC5.out] at k5; clear hk1 hb1 hs1)
  go_loopw [3, 9] (fun n i wl => ∃ j : Nat, j ≤ l.length ∧ i = .int .i64 (j : Int) ∧ n = .int .i64 ((depthL (l.take j) : Nat) : Int) ∧ Below w1.heap.size w1 wl) (fun _ i _ => l.length - (intOf i).toNat)
  case atStart => exact ⟨0, by omega, by simp, by simp [depthL], Below.refl _ _⟩
  case round =>
   obtain ⟨j, hj, rfl, rfl, hb⟩ := hrel
   have HB := qH hb
   clear hb
   by_cases hjl : j < l.length
   ·have j1 : (j : Int) < (l.length : Int) := Int.ofNat_lt.2 hjl
    obtain ⟨b, off, rfl, hb, hrng⟩ := H3.out (by rintro rfl; simp at hjl)
    have BW := qH (B1.out.trans (HB.out.mono B1.out.size))
    obtain ⟨u, hu⟩ : ∃ u, l[j]? = some u := ⟨_, List.getElem?_eq_getElem hjl⟩
    have HV := qH (RxV.part H4.out BW.out BW.out.size hu)
    have HV6 := qH HV.out.length
    have HV1 := qH (show (f j).all (·.oneCell') = true from List.all_eq_true.2 (RxD.one HV.out))
    have HRG := qH (range_below (hrng j hjl) BW.out hb)
    have HU := qH hu
    have HUN := qH (show u.nodes ≤ N by have h1 := nodes_mem (List.mem_of_getElem? hu); have := HN.out; omega)
    have HUM := qH (show u.nodes ≤ 1099511627776 by have h1 := nodes_mem (List.mem_of_getElem? hu); have := HM.out; omega)
    have HJ1 := qH hjl
    have e3 := wrap_len hjl HCL.out HCM.out
    have e4 := wrap_len' hjl HCL.out HCM.out
    clear hrng hu hb hj hjl
    obtain ⟨a, ha⟩ : ∃ a, a = depthL (l.take j) := ⟨_, rfl⟩
    obtain ⟨c, hc⟩ : ∃ c, c = u.depth := ⟨_, rfl⟩
    have HCC := qH hc
    have HS := qH (show max a c = depthL (l.take (j + 1)) by rw [depthL_next l j u HU.out, ha, hc])
    rw [← ha]
    clear ha hc
    go_wp2_with (first
     | ((with_reducible refine atDst 12 ?_); refine wpList_load_mid rfl 40 _ rfl b (off + j * 6) rfl (f j) _ HRG.out Try.underlying40 rfl (size_rx HV6.out) ?_; (try simp only [Act.put, qA, qB, qC]))
     | ((with_reducible refine atDst 5 ?_); refine wpList_new rfl 40 rfl i0 _ z hi0 HZ0.out rfl (Below.refl wr.heap.size wr) (Nat.le_refl _) ?_; intro w4 hk4 hb4 hs4 _; have K4 := qH hk4; have B4 := qH hb4; clear hk4 hb4 hs4; (try simp only [Act.put, qA, qB, qC]))
     | ((with_reducible refine atStore 40 5 12 ?_); refine wpList_stBlk rfl 40 _ _ rfl wr.heap.size (f j) rfl rfl 40 _ K4.out (size_rx HV6.out) (by rw [HZL.out, HV6.out]) HV1.out B4.out (Nat.le_refl _) ?_; intro w5 hk5 hb5 hs5 _; have K5 := qH hk5; have B5 := qH hb5; clear hk5 hb5 hs5; (try simp only [Act.put, qA, qB, qC]))
     | ((with_reducible refine atDst 14 ?_); refine wpList_ldArr rfl 40 _ rfl wr.heap.size rfl 40 _ _ K5.out Try.underlying40 rfl (size_rx HV6.out) ?_; (try simp only [Act.put, qA, qB, qC])))
    refine (IH.out u HUN.out HUM.out (f j) w5 (RxV.mono (HV.out.stay B5.out) B5.out.size)).mono ?_
    rintro e w6 ⟨rfl, hb6⟩
    have B6 := qH (HB.out.trans ((B5.out.trans (hb6.mono B5.out.size)).mono HB.out.size))
    clear hb6
    rw [← HCC.out]
    go_wp2_with fail
    exact ⟨⟨j + 1, HJ1.out, by congr 1, by rw [← HS.out]; congr 1; omega, B6.out⟩, by simpa [intOf] using sub_next HJ1.out⟩
   ·obtain rfl : j = l.length := by omega
    have j1 : ¬ ((l.length : Int) < (l.length : Int)) := by omega
    have B9 := qH (B1.out.trans (HB.out.mono B1.out.size))
    rw [List.take_length]
    obtain ⟨a, ha⟩ : ∃ a, a = depthL l := ⟨_, rfl⟩
    have hle : a ≤ 4611686018427387904 := by rw [ha]; have h1 := depthL_nodes l; have := HM.out; omega
    rw [← ha]
    have e5 : IntKind.i64.wrap (1 + (a : Int)) = ((a + 1 : Nat) : Int) := by rw [Int.add_comm]; exact wrap_one' a hle
    have e6 : wrap64 (1 + (a : Int)) = ((a + 1 : Nat) : Int) := by rw [Int.add_comm]; exact wrap_one a hle
    have HAA := qH ha
    clear ha hle
    go_wp2_with fail
    go_ret
    exact ⟨congrArg (fun x : Nat => Ending.returned (.int .i64 ((x : Int) + 1))) HAA.out, B9.out⟩
def Gr (w w' : World) : Prop := ∃ q os, w' = Sort.grow (w.drewN q) os
theorem Gr.refl (w : World) : Gr w w := ⟨0, #[], by rw [Sort.grow_empty]; rfl⟩
theorem Gr.alloc {w w' : World} (h : Gr w w') (o : Obj) : Gr w (w'.alloc o) := by
 obtain ⟨q, os, rfl⟩ := h
 exact ⟨q, os ++ #[o], by rw [Sort.alloc_eq_grow, Sort.grow_grow]⟩
theorem grow_drewN (w : World) (os : Array Obj) (n : Nat) : (Sort.grow w os).drewN n = Sort.grow (w.drewN n) os := rfl
theorem Gr.drewN {w w' : World} (h : Gr w w') (n : Nat) : Gr w (w'.drewN n) := by
 obtain ⟨q, os, rfl⟩ := h
 exact ⟨q + n, os, by rw [grow_drewN, World.drewN_drewN]⟩
theorem Gr.trans {w w' w'' : World} (h : Gr w w') (k : Gr w' w'') : Gr w w'' := by
 obtain ⟨q, os, rfl⟩ := h
 obtain ⟨r, os', rfl⟩ := k
 exact ⟨q + r, os ++ os', by rw [grow_drewN, World.drewN_drewN, Sort.grow_grow]⟩
theorem Gr.below {w w' : World} (h : Gr w w') : Below w.heap.size w w' := by
 obtain ⟨q, os, rfl⟩ := h
 refine ⟨rfl, rfl, rfl, by simp [Sort.grow], fun k hk => ?_⟩
 show (w.heap ++ os)[k]? = _
 rw [Array.getElem?_append_left hk]
theorem wpList_boxE {P : Program} {w : World} {ops : Array Oper} {rest : List Oper} {o : Oper} {a : Act} {Q : Exit → Act → World → Prop} (hgd : Region.wanted o (yielded ops a.tmps) = true) (ty : TypeId) (x : Operand) (ho : o.op = .box ty x) (cs : List Value) (hx : a.eval x = .agg cs.toArray)
  (h : ∀ w', Blk w' w.heap.size ty cs → Gr w w' → w'.heap.size = w.heap.size + 1 → (∀ k, k < w.heap.size → w'.heap[k]? = w.heap[k]?) → wpList P ops Q rest (a.put o.dst (.pointer (some ⟨w.heap.size, 0, none⟩))) w') :
  wpList P ops Q (o :: rest) a w := by
 refine BigFrame.wpList_want hgd fun K hK => ?_
 unfold Oper.wp
 have hrun : (Instr.box ty (.agg cs.toArray)).run P w = .ok (.pointer (some ⟨w.heap.size, 0, none⟩)) (w.alloc (.cells cs.toArray ty)) := by
  simp [Instr.box, newVar, Value.cells, run_newRow_blk]
 simp only [execOp, ho, hx, hrun, Sem.run_bind, Result.andThen_ok, Sem.run_pure]
 exact hK _ _ (h _ (Blk.new w ty cs) ((Gr.refl w).alloc _) (by simp) (fun k hk => Below.heap_alloc w _ k hk))
theorem Gr.of {w w' : World} (h : Below w.heap.size w w') (hd : w.drawn ≤ w'.drawn) : Gr w w' := by
 refine ⟨w'.drawn - w.drawn, w'.heap.extract w.heap.size w'.heap.size, ?_⟩
 have hh : w'.heap = w.heap ++ w'.heap.extract w.heap.size w'.heap.size := by
  apply Array.ext_getElem?
  intro i
  by_cases hi : i < w.heap.size
  ·rw [Array.getElem?_append_left hi]
   exact h.block i hi
  ·rw [Array.getElem?_append_right (by omega), Array.getElem?_extract]
   have hs := h.size
   by_cases h2 : i < w'.heap.size
   ·rw [if_pos (by omega)]
    congr 1
    omega
   ·rw [if_neg (by omega), Array.getElem?_eq_none (by omega)]
 obtain ⟨heap, tape, drawn, os, output⟩ := w
 obtain ⟨heap', tape', drawn', os', output'⟩ := w'
 have h1 := h.os
 have h2 := h.tape
 have h3 := h.output
 simp only at h1 h2 h3 hh hd
 subst h1 h2 h3
 unfold Sort.grow World.drewN
 simp only [World.mk.injEq, and_true, true_and]
 exact ⟨hh, by omega⟩
theorem Gr.drawn {w w' : World} (h : Gr w w') : w.drawn ≤ w'.drawn := by
 obtain ⟨q, os, rfl⟩ := h
 show w.drawn ≤ w.drawn + q
 omega
theorem Gr.size {w w' : World} (h : Gr w w') : w.heap.size ≤ w'.heap.size := h.below.size
section
variable {P : Program} {w : World} {ops : Array Oper} {rest : List Oper} {o : Oper} {a : Act} {Q : Exit → Act → World → Prop}
theorem wpList_newE {w0 : World} (hgd : Region.wanted o (yielded ops a.tmps) = true) (ty : TypeId) (ho : o.op = .alloc ty) (i : TypeInfo) (z : Value) (cs : List Value) (hi : P.info? ty = some i) (hz : i.zero = some z) (hc : z.cells = cs.toArray)
  (hb : Gr w0 w)
  (h : ∀ w', Blk w' w.heap.size ty cs → Gr w0 w' → w'.heap.size = w.heap.size + 1 → (∀ k, k < w.heap.size → w'.heap[k]? = w.heap[k]?) → wpList P ops Q rest (a.put o.dst (.pointer (some ⟨w.heap.size, 0, none⟩))) w') :
  wpList P ops Q (o :: rest) a w := by
 refine BigFrame.wpList_want hgd fun K hK => ?_
 unfold Oper.wp
 have hrun : (Instr.alloc ty true (.tuple #[])).run P w = .ok (.pointer (some ⟨w.heap.size, 0, none⟩)) (w.alloc (.cells cs.toArray ty)) := by
  have hzv : (zeroValue ty).run P w = .ok z w := by simp [zeroValue, typeInfo, hi, hz]
  simp [Instr.alloc, hzv, newVar, hc, run_newRow_blk]
 simp only [execOp, ho, hrun, Sem.run_bind, Result.andThen_ok, Sem.run_pure]
 exact hK _ _ (h _ (Blk.new w ty cs) (hb.alloc _) (by simp) (fun k hk => Below.heap_alloc w _ k hk))
theorem wpList_stE {w0 : World} (hgd : o.guard = none) (ty : TypeId) (x y : Operand) (ho : o.op = .store ty x y)
  (g : Nat) (cs : List Value) (hx : a.eval x = .pointer (some ⟨g, 0, none⟩)) (hy : a.eval y = .agg cs.toArray)
  (t : TypeId) (old : List Value) (hg : Blk w g t old) (hi : (P.info? ty).map (·.size) = some cs.length)
  (hold : old.length = cs.length) (h1 : cs.all (·.oneCell') = true) (hb : Gr w0 w) (hB : w0.heap.size ≤ g)
  (h : ∀ w', Blk w' g t cs → Gr w0 w' → w'.heap.size = w.heap.size → (∀ k, k ≠ g → w'.heap[k]? = w.heap[k]?) → wpList P ops Q rest (a.put o.dst undef) w') : wpList P ops Q (o :: rest) a w :=
 wpList_store_row hgd ty x y ho g cs.toArray hx hy t old.toArray hg (by simpa using hi) (by simpa using hold) (by simpa using h1)
  (h _ (setRow_heap w g old.toArray cs.toArray t (0, 0) hg) (Gr.of (below_setRow hb.below hB _) hb.drawn) (by simp) (fun k hk => setRow_other w g k _ hk))
end
theorem low_word (q : Nat → Bool) (y k : Nat) (hy : y = wd q 64) (h0 : y ≠ 0) (hk : k = Lib.ctz 64 y) :
  k < 64 ∧ q k = true ∧ (∀ j, j < k → q j = false) ∧ y &&& (y - 1) = wd (fun j => q j && decide (k + 1 ≤ j)) 64 ∧ y &&& (y - 1) < y := by
 have hlt : y < 2 ^ 64 := by rw [hy]; exact wd_lt q 64
 obtain ⟨m, hm, hk2⟩ := Lib.ctzFrom_spec 64 y (by omega) hlt
 have ek : Lib.ctz 64 y = Lib.ctzFrom 64 y := by simp [Lib.ctz, h0]
 rw [← ek, ← hk] at hm hk2
 have T : ∀ j, y.testBit j = (decide (j < 64) && q j) := fun j => by rw [hy]; exact wd_bit q 64 j
 have T2 : ∀ j, y.testBit j = (decide (j ≥ k) && (2 * m + 1).testBit (j - k)) := fun j => by rw [hm]; exact Nat.testBit_two_pow_mul
 have hp : 0 < 2 ^ k := Nat.pow_pos (by omega)
 have e1 : y - 1 = 2 ^ k * (2 * m) + (2 ^ k - 1) := by rw [hm, Nat.mul_add, Nat.mul_one]; omega
 have T3 : ∀ j, (y - 1).testBit j = if j < k then (2 ^ k - 1).testBit j else (2 * m).testBit (j - k) := fun j => by rw [e1]; exact Nat.testBit_two_pow_mul_add _ (by omega) j
 refine ⟨hk2, ?_, ?_, ?_, Nat.lt_of_le_of_lt Nat.and_le_right (by omega)⟩
 ·have h1 := T k
  rw [T2 k] at h1
  simpa [hk2, Nat.testBit_zero] using h1.symm
 ·intro j hj
  have h1 := T j
  rw [T2 j] at h1
  have : ¬ (j ≥ k) := by omega
  simpa [this, show j < 64 by omega] using h1.symm
 ·apply Nat.eq_of_testBit_eq
  intro j
  rw [Nat.testBit_and, wd_bit, T3, T]
  by_cases h1 : j < k
  ·have h2 := T j
   rw [T2 j] at h2
   have h3 : ¬ (j ≥ k) := by omega
   have h4 : ¬ (k + 1 ≤ j) := by omega
   have h5 : (decide (j < 64) && q j) = false := by rw [← h2]; simp [h3]
   simp [h4, h5]
  ·rw [if_neg h1]
   by_cases h2 : j = k
   ·subst h2
    simp [Nat.testBit_zero]
   ·obtain ⟨d, rfl⟩ : ∃ d, j = k + (d + 1) := ⟨j - k - 1, by omega⟩
    have h3 : k + (d + 1) - k = d + 1 := by omega
    have h4 := T (k + (d + 1))
    rw [T2 (k + (d + 1)), h3, Nat.testBit_succ, show (2 * m + 1) / 2 = m by omega] at h4
    rw [h3, Nat.testBit_succ, show 2 * m / 2 = m by omega]
    have h5 : k + 1 ≤ k + (d + 1) := by omega
    have h6 : k + (d + 1) ≥ k := by omega
    simp only [h6, decide_true, Bool.true_and] at h4
    simp only [h5, decide_true, Bool.and_true]
    rw [← h4]
    cases m.testBit d <;> simp
/-! ### one word of two sets -/
theorem word_xor (p q : Nat → Bool) (i : Nat) : word p i ^^^ word q i = wd (fun j => p (64 * i + j) != q (64 * i + j)) 64 := by
 apply Nat.eq_of_testBit_eq
 intro j
 rw [Nat.testBit_xor]
 simp only [word, wd_bit]
 cases decide (j < 64) <;> simp
theorem neg_wrap (d : Nat) (h0 : d ≠ 0) (h : d < 18446744073709551616) : IntKind.u64.wrap (-(d : Int)) = ((18446744073709551616 - d : Nat) : Int) := by
 rw [IntKind.wrap_u64]
 omega
theorem and_pow (x k : Nat) : x &&& 2 ^ k = if x.testBit k then 2 ^ k else 0 := by
 apply Nat.eq_of_testBit_eq
 intro j
 rw [Nat.testBit_and, Nat.testBit_two_pow]
 by_cases hj : k = j
 ·subst hj
  cases h : x.testBit k <;> simp [h]
 ·cases h : x.testBit k <;> simp [hj, Nat.testBit_two_pow]
theorem less_word (p q : Nat → Bool) (i d : Nat) (hi : i < 4) (hd : d = word p i ^^^ word q i) (h0 : d ≠ 0) (hb : ∀ b, b < 64 * i → p b = q b) :
  ((((word p i) &&& (d &&& (18446744073709551616 - d)) : Nat) : Int) != 0) = lessS p q := by
 have hlt : d < 2 ^ 64 := by rw [hd]; exact Nat.xor_lt_two_pow (word_lt p i) (word_lt q i)
 obtain ⟨hlow, hk64⟩ := Lib.lowest_bit 64 d h0 hlt
 obtain ⟨k, hk⟩ : ∃ k, k = Lib.ctz 64 d := ⟨_, rfl⟩
 obtain ⟨h1, h2, h3, _, _⟩ := low_word _ d k (by rw [hd, word_xor]) h0 hk
 rw [show (18446744073709551616 : Nat) = 2 ^ 64 from rfl, hlow, ← hk]
 have hle := lessS_at (p := p) (q := q) (j := 64 * i + k) (by omega) (fun b hb2 => by
  by_cases hb3 : b < 64 * i
  ·exact hb b hb3
  ·have := h3 (b - 64 * i) (by omega)
   rw [show 64 * i + (b - 64 * i) = b by omega] at this
   simpa using this) (by simpa using h2)
 rw [hle]
 have hbit := wd_bit (fun j => p (64 * i + j)) 64 k
 rw [decide_eq_true h1, Bool.true_and] at hbit
 have hw : (word p i).testBit k = p (64 * i + k) := hbit
 rw [and_pow, hw]
 have hp : 0 < 2 ^ k := Nat.pow_pos (by omega)
 cases p (64 * i + k)
 ·rfl
 ·simp only [if_true, bne_iff_ne, ne_eq]
  omega
theorem less_same (p q : Nat → Bool) (i : Nat) (h0 : word p i ^^^ word q i = 0) (hb : ∀ b, b < 64 * i → p b = q b) : ∀ b, b < 64 * (i + 1) → p b = q b := by
 intro b hb2
 by_cases hb3 : b < 64 * i
 ·exact hb b hb3
 ·rw [word_xor] at h0
  have := wd_zero h0 (b - 64 * i) (by omega)
  rw [show 64 * i + (b - 64 * i) = b by omega] at this
  simpa using this
set_option maxHeartbeats 4000000 in
set_option maxRecDepth 100000 in
theorem bsLess_gr (p q : Nat → Bool) (w : World) :
  Calls Try.prog 102 #[.agg (wds p).toArray, .agg (wds q).toArray] w fun e w' => e = .returned (.bool (lessS p q)) ∧ Gr w w' := by
 go_enter Try.func102, Try.ntmps102
 go_wp2_with (first
  | ((with_reducible refine atDst 2 ?_); refine wpList_boxE rfl 37 _ rfl (wds p) rfl ?_; intro w1 hk1 hb1 hs1 _; have K1 := qH hk1; have G1 := qH hb1; clear hk1 hb1 hs1)
  | ((with_reducible refine atDst 3 ?_); refine wpList_boxE rfl 37 _ rfl (wds q) rfl ?_; intro w2 hk2 hb2 hs2 ho2; have L2 := qH hk2; have G2 := qH (G1.out.trans hb2); have K2 := qH (show Blk w2 w.heap.size 37 (wds p) from (ho2 _ K1.out.lt).trans K1.out); clear hk2 hb2 hs2 ho2))
 go_loopw [7] (fun i wl => ∃ j n : Nat, j ≤ 4 ∧ i = .int .i64 (j : Int) ∧ wl = w2.drewN n ∧ ∀ b, b < 64 * j → p b = q b) (fun i _ => 4 - (intOf i).toNat)
 case atStart => exact ⟨0, 0, by omega, by simp, rfl, fun b hb => by omega⟩
 case round =>
  obtain ⟨j, n, hj, rfl, hwl, hb⟩ := hrel
  have HW := qH hwl
  have HB := qH hb
  have KR := qH (show Blk wr w.heap.size 37 (wds p) by rw [hwl]; exact K2.out)
  have LR := qH (show Blk wr w1.heap.size 37 (wds q) by rw [hwl]; exact L2.out)
  clear hwl hb
  by_cases hjl : j < 4
  ·have j1 : (j : Int) < 4 := by omega
   have hcp := KR.out.cell j
   rw [wds_get p j hjl] at hcp
   have hcq := LR.out.cell j
   rw [wds_get q j hjl] at hcq
   have HLP := qH (word_lt p j)
   have HLQ := qH (word_lt q j)
   have HLW := qH (fun d hd h0 => less_word p q j d hjl hd h0 HB.out)
   have HSM := qH (less_same p q j)
   obtain ⟨x, hx⟩ : ∃ x, x = word p j := ⟨_, rfl⟩
   obtain ⟨y, hy⟩ : ∃ y, y = word q j := ⟨_, rfl⟩
   rw [← hx] at hcp HLP HLW HSM
   rw [← hy] at hcq HLQ HLW HSM
   clear hx hy
   obtain ⟨d, hd⟩ : ∃ d, d = x ^^^ y := ⟨_, rfl⟩
   have HD := qH hd
   have hxy : bits .xor .u64 (x : Int) (y : Int) = (d : Int) := by rw [u64_xor_nat x y HLP.out HLQ.out, hd]
   have HLD := qH (show d < 18446744073709551616 by rw [hd]; exact Nat.xor_lt_two_pow (n := 64) HLP.out HLQ.out)
   clear hd
   by_cases h0 : d = 0
   ·have hdb : ((d : Int) != 0) = false := by rw [h0]; rfl
    have HN := qH (HSM.out (by rw [← HD.out]; exact h0) HB.out)
    clear h0
    go_wp2_with fail
    go_quiet (fail)
    go_wp2_with fail
    exact ⟨⟨j + 1, n + nq, by omega, by congr 1, by rw [HW.out, World.drewN_drewN], HN.out⟩, by simp [intOf] <;> omega⟩
   ·have hdb : ((d : Int) != 0) = true := by simpa using h0
    have HA := qH (HLW.out d HD.out h0)
    have hng := neg_wrap d h0 HLD.out
    obtain ⟨e, he⟩ : ∃ e, e = 18446744073709551616 - d := ⟨_, rfl⟩
    have HLE := qH (show e < 18446744073709551616 by have := HLD.out; omega)
    rw [← he] at hng HA
    obtain ⟨f, hf⟩ : ∃ f, f = d &&& e := ⟨_, rfl⟩
    have hde : bits .and .u64 (d : Int) (e : Int) = (f : Int) := by rw [u64_and_nat d e HLD.out HLE.out, hf]
    rw [← hf] at HA
    have HLF := qH (show f < 18446744073709551616 by rw [hf]; exact Nat.lt_of_le_of_lt Nat.and_le_left HLD.out)
    have hxf : bits .and .u64 (x : Int) (f : Int) = ((x &&& f : Nat) : Int) := u64_and_nat x f HLP.out HLF.out
    obtain ⟨g, hg⟩ : ∃ g, g = x &&& f := ⟨_, rfl⟩
    rw [← hg] at HA hxf
    clear he hf hg h0
    go_wp2_with fail
    go_quiet (fail)
    go_wp2_with fail
    go_ret
    rw [HA.out, HW.out]
    exact ⟨rfl, (G2.out.drewN _).drewN _⟩
  ·obtain rfl : j = 4 := by omega
   have j1 : ¬ ((4 : Int) < 4) := by omega
   have HL := qH (lessS_none HB.out)
   go_wp2_with fail
   go_ret
   rw [HL.out, HW.out]
   exact ⟨rfl, G2.out.drewN _⟩
end Go.Proofs.Ytmcpfaaakmehdaa
