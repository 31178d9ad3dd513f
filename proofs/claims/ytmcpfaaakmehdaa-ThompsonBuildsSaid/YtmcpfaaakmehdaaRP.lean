/-
  Texts of this proof, put together: AppW, TbD, TbE, ThE, ThF. No statement is proved here.
-/
import Derived.Test.YtmcpfaaakmehdaaRD
import Derived.Test.YtmcpfaaakmehdaaRN
import Derived.Test.YtmcpfaaakmehdaaRO
namespace Go.Proofs.Ytmcpfaaakmehdaa
open Go.RowKit
set_option linter.unusedSimpArgs false
set_option linter.unusedVariables false
section
variable {P : Program} {w : World} {ops : Array Oper} {rest : List Oper} {o : Oper} {a : Act} {Q : Exit → Act → World → Prop}
theorem wp_appW {base : Nat} {K : Act → World → Prop} (s x : Operand) (t : TypeId)
  (ho : o.op = .call { callee := .builtin .append, args := #[s, x], argTypes := #[t, t] })
  (e : TypeId) (i : TypeInfo) (z : Value) (bytes : Nat) (ht : P.underlying t = some (.slice e)) (hi : P.info? e = some i) (hz : i.zero = some z)
  (hsize : i.size = 1) (hby : i.bytes = bytes) (hzs : z.cells.size = 1)
  (v : Value) (n : Nat) (xs : List Value) (hs : a.eval s = v) (hown : w.ownsRow base e 1 v n xs)
  (u : Value) (news : List Value) (hx : a.eval x = u) (hr : Row w u news) (h1 : ∀ u ∈ news, u.oneCell' = true)
  (hlen : n + news.length ≤ 2097152) (hby2 : bytes ≤ 1000) (hb : base ≤ w.heap.size)
  (h : ∀ v' w', w'.ownsRow base e 1 v' (n + news.length) (xs ++ news) → w.grownBy w' v.ownBlock → (∀ k, v'.ownBlock = some k → v.ownBlock = some k ∨ w.heap.size ≤ k) → K (a.put o.dst v') w') : o.wp P a w K Q := by
 have hm : (n + news.length) * bytes ≤ 2097152 * 1000 := Nat.mul_le_mul hlen hby2
 obtain ⟨A, cap, rfl, hl, hmx, h0, hc⟩ := hr
 cases A with
 | none =>
  have hcap : cap = 0 := h0 rfl
  subst hcap
  have hn : news = [] := List.eq_nil_of_length_eq_zero (by omega)
  subst hn
  have hrun := run_append_owned_none (P := P) (w := w) base t o.type e i 1 ht hi v n xs hown
  unfold Oper.wp
  simp at hx
  simp [execOp, ho, resolve, invoke, builtin, hs, hx, hrun, Result.andThen]
  exact h v w (by simpa using hown) (World.grownBy.refl _ _) fun k hk => .inl hk
 | some ad =>
  have hnews : ∀ j u, news[j]? = some u → w.cell? (ad.add j) = some u := by
   intro j u hj
   obtain ⟨b, off, hA, _, hcell⟩ := hc (by intro e; rw [e] at hj; simp at hj)
   injection hA with hA
   subst hA
   rw [Addr.add_lit]
   exact hcell j u hj
  obtain ⟨v', w', hrun, hown', hgr, _⟩ := run_append_own (P := P) w base t o.type e i z 1 bytes ht hi hz hsize hby hzs (by omega) v n xs hown ad news.length cap news (by omega) hnews h1 (by unfold maxLen; omega) (by omega) hb
  have hwh := append_where (P := P) (w := w) base t o.type e i z 1 bytes ht hi hz hsize hby (by omega) v n xs hown ad news.length cap news (by omega) hnews h1 (by unfold maxLen; omega) (by omega) hrun
  unfold Oper.wp execOp
  simp only [ho, resolve, invoke, builtin, Sem.run_bind, Sem.run_pure, Result.andThen_ok, List.map_toArray, List.map_cons, List.map_nil, hs, hx, hrun]
  exact h v' w' hown' hgr hwh
theorem wpList_appW {base : Nat} (hgd : o.guard = none) (s x : Operand) (t : TypeId)
  (ho : o.op = .call { callee := .builtin .append, args := #[s, x], argTypes := #[t, t] })
  (e : TypeId) (i : TypeInfo) (z : Value) (bytes : Nat) (ht : P.underlying t = some (.slice e)) (hi : P.info? e = some i) (hz : i.zero = some z)
  (hsize : i.size = 1) (hby : i.bytes = bytes) (hzs : z.cells.size = 1)
  (v : Value) (n : Nat) (xs : List Value) (hs : a.eval s = v) (hown : w.ownsRow base e 1 v n xs)
  (u : Value) (news : List Value) (hx : a.eval x = u) (hr : Row w u news) (h1 : ∀ u ∈ news, u.oneCell' = true)
  (hlen : n + news.length ≤ 2097152) (hby2 : bytes ≤ 1000) (hb : base ≤ w.heap.size)
  (h : ∀ v' w', w'.ownsRow base e 1 v' (n + news.length) (xs ++ news) → w.grownBy w' v.ownBlock → (∀ k, v'.ownBlock = some k → v.ownBlock = some k ∨ w.heap.size ≤ k) → wpList P ops Q rest (a.put o.dst v') w') : wpList P ops Q (o :: rest) a w :=
 wpList_plain hgd fun _ hK => wp_appW s x t ho e i z bytes ht hi hz hsize hby hzs v n xs hs hown u news hx hr h1 hlen hby2 hb fun v' w' h2 h3 h4 => hK _ _ (h v' w' h2 h3 h4)
end
/-! ### cells of states -/
def cellsN (S : List St) (fv : Nat → Value) : List (List Value) := S.zipIdx.map fun p => stc p.1 (fv p.2)
theorem cellsN_get (S : List St) (fv : Nat → Value) (i : Nat) : (cellsN S fv)[i]? = S[i]?.map fun s => stc s (fv i) := by
 unfold cellsN
 rw [List.getElem?_map, List.getElem?_zipIdx]
 cases S[i]? <;> simp
theorem cellsN_len (S : List St) (fv : Nat → Value) : (cellsN S fv).length = S.length := by simp [cellsN]
theorem cellsN_six (S : List St) (fv : Nat → Value) : ∀ c ∈ cellsN S fv, c.length = 6 := fun c hc => by
 obtain ⟨p, _, rfl⟩ := List.mem_map.1 hc
 rfl
theorem cellsN_flat (S : List St) (fv : Nat → Value) {i j : Nat} {s : St} (hs : S[i]? = some s) (hj : j < 6) : (cellsN S fv).flatten[i * 6 + j]? = (stc s (fv i))[j]? :=
 flat6_get (cellsN_six S fv) (by rw [cellsN_get, hs]; rfl) j hj
theorem flat6_set : ∀ {cs : List (List Value)} (_ : ∀ c ∈ cs, c.length = 6) {i j : Nat} {c : List Value} (u : Value), cs[i]? = some c → j < 6 → cs.flatten.set (i * 6 + j) u = (cs.set i (c.set j u)).flatten
 | [], _, i, j, c, u, h, _ => by simp at h
 | a :: r, hl, 0, j, c, u, h, hj => by
  have : a = c := by simpa using h
  subst this
  have h6 := hl a (by simp)
  rw [List.flatten_cons, Nat.zero_mul, Nat.zero_add, List.set_append_left _ _ (by omega), List.set_cons_zero, List.flatten_cons]
 | a :: r, hl, i + 1, j, c, u, h, hj => by
  have h6 := hl a (by simp)
  have ih := flat6_set (cs := r) (fun d hd => hl d (List.mem_cons_of_mem _ hd)) (i := i) (j := j) (c := c) u (by simpa using h) hj
  rw [List.flatten_cons, List.set_append_right _ _ (by omega), List.set_cons_succ, List.flatten_cons, ← ih]
  congr 2
  omega
def updV (fv : Nat → Value) (i : Nat) (u : Value) : Nat → Value := fun j => if j = i then u else fv j
theorem cellsN_mod {S : List St} {fv : Nat → Value} {i : Nat} {s : St} (hs : S[i]? = some s) (g : St → St) (u : Value) (c : List Value) (hc : c = stc (g s) u) : (cellsN S fv).set i c = cellsN (S.modify i g) (updV fv i u) := by
 apply List.ext_getElem?
 intro j
 rw [cellsN_get, List.getElem?_modify, List.getElem?_set, cellsN_len]
 have hi := (List.getElem?_eq_some_iff.1 hs).1
 unfold updV
 by_cases hij : i = j
 ·subst hij
  rw [if_pos rfl, if_pos hi, hs, hc]
  simp
 ·rw [if_neg hij, cellsN_get]
  have : ¬ j = i := fun h => hij h.symm
  cases S[j]? <;> simp [hij, this]
theorem cellsN_app (S : List St) (s : St) (fv : Nat → Value) (u : Value) : cellsN (S ++ [s]) (updV fv S.length u) = cellsN S fv ++ [stc s u] := by
 apply List.ext_getElem?
 intro j
 rw [cellsN_get, List.getElem?_append, List.getElem?_append, cellsN_len]
 unfold updV
 by_cases hj : j < S.length
 ·rw [if_pos hj, if_pos hj, cellsN_get, if_neg (by omega)]
 ·rw [if_neg hj, if_neg hj]
  by_cases h0 : j = S.length
  ·subst h0; simp
  ·rw [List.getElem?_eq_none (by simp; omega), List.getElem?_eq_none (by simp; omega)]; rfl
/-! ### rows of the call's own, one cell turned -/
theorem own_set {w : World} {base n k cap g : Nat} {e : TypeId} {xs : List Value} (h : w.ownsRow base e k (.slice (some ⟨g, 0, none⟩) n cap) n xs) {j : Nat} (hj : j < xs.length) (u : Value) : (w.setCell ⟨g, j, none⟩ u).ownsRow base e k (.slice (some ⟨g, 0, none⟩) n cap) n (xs.set j u) := by
 refine ⟨by rw [List.length_set]; exact h.1, ?_⟩
 rcases h.2 with ⟨he, h0⟩ | ⟨g', cap', cur, he, hb, hg, hnc, hcm, hcs, ht⟩
 ·cases he
 ·injection he with h1 h2 h3
  injection h1 with h1
  injection h1 with h1
  subst h1
  subst h3
  refine .inr ⟨g, cap, cur.setIfInBounds j u, rfl, hb, ?_, hnc, hcm, by simp [hcs], ?_⟩
  ·have : Blk w g e cur.toList := by unfold Blk; simpa using hg
   have h2 := this.set j u
   unfold Blk at h2
   rw [h2]
   congr 2
   apply Array.ext'
   simp
  ·rw [Array.toList_setIfInBounds, ← ht, List.take_set]
theorem own_cell {w : World} {base n k cap g : Nat} {e : TypeId} {xs : List Value} (h : w.ownsRow base e k (.slice (some ⟨g, 0, none⟩) n cap) n xs) {j : Nat} {u : Value} (hj : xs[j]? = some u) : w.cell? ⟨g, j, none⟩ = some u ∧ w.frozen? ⟨g, j, none⟩ = false := by
 refine ⟨by have := h.cells (g := g) rfl j u hj; rwa [Addr.add_lit, Nat.zero_add] at this, ?_⟩
 rcases h.2 with ⟨he, h0⟩ | ⟨g', cap', cur, he, hb, hg, hnc, hcm, hcs, ht⟩
 ·cases he
 ·injection he with h1 h2 h3
  injection h1 with h1
  injection h1 with h1
  subst h1
  simp [World.frozen?, hg]
/-! ### a builder -/
structure Bld (w : World) (B g : Nat) (lv : Value) (fv : Nat → Value) (S : List St) : Prop where
 blk : Blk w g 78 [lv]
 own : w.ownsRow B 61 6 lv S.length (cellsN S fv).flatten
 free : ∀ i s, S[i]? = some s → w.ownsRow B 3 1 (fv i) s.free.length (nums .i64 s.free)
 lg : lv.ownBlock ≠ some g
 fg : ∀ i, i < S.length → (fv i).ownBlock ≠ some g
 fl : ∀ i k, i < S.length → (fv i).ownBlock = some k → lv.ownBlock ≠ some k
 ff : ∀ i j k, i < S.length → j < S.length → i ≠ j → (fv i).ownBlock = some k → (fv j).ownBlock ≠ some k
def Bd (g : Nat) (lv : Value) (fv : Nat → Value) (n k : Nat) : Prop := k = g ∨ lv.ownBlock = some k ∨ ∃ i, i < n ∧ (fv i).ownBlock = some k
structure BldV (w : World) (B g : Nat) (D : Nat → Prop) (S : List St) : Prop where
 is : ∃ lv fv, Bld w B g lv fv S ∧ ∀ k, Bd g lv fv S.length k → D k
 dB : ∀ k, D k → B ≤ k
 dl : ∀ k, D k → k < w.heap.size
def up (D : Nat → Prop) (w w' : World) (k : Nat) : Prop := D k ∨ (w.heap.size ≤ k ∧ k < w'.heap.size)
section
variable {w w' w'' : World} {B g : Nat} {D D' : Nat → Prop} {S : List St} {lv : Value} {fv : Nat → Value}
theorem Bld.lt (h : Bld w B g lv fv S) {k : Nat} (hk : Bd g lv fv S.length k) : k < w.heap.size := by
 rcases hk with rfl | hk | ⟨i, hi, hk⟩
 ·exact h.blk.lt
 ·exact (own6_lt h.own k hk).1
 ·exact (own6_lt (h.free i _ (List.getElem?_eq_getElem hi)) k hk).1
theorem Bld.stay (h : Bld w B g lv fv S) (hb : ∀ k, Bd g lv fv S.length k → w'.heap[k]? = w.heap[k]?) : Bld w' B g lv fv S :=
 ⟨(hb g (.inl rfl)).trans h.blk, own6_stay h.own fun j hj => hb j (.inr (.inl hj)), fun i s hs => own6_stay (h.free i s hs) fun j hj => hb j (.inr (.inr ⟨i, (List.getElem?_eq_some_iff.1 hs).1, hj⟩)), h.lg, h.fg, h.fl, h.ff⟩
theorem BldV.below (h : BldV w B g D S) (hb : Below w.heap.size w w') : BldV w' B g D S := by
 obtain ⟨lv, fv, h1, h2⟩ := h.is
 exact ⟨⟨lv, fv, h1.stay fun k hk => hb.block k (h1.lt hk), h2⟩, h.dB, fun k hk => Nat.lt_of_lt_of_le (h.dl k hk) hb.size⟩
theorem BldV.mono (h : BldV w B g D S) (hD : ∀ k, D k → D' k) (hB : ∀ k, D' k → B ≤ k) (hl : ∀ k, D' k → k < w.heap.size) : BldV w B g D' S := by
 obtain ⟨lv, fv, h1, h2⟩ := h.is
 exact ⟨⟨lv, fv, h1, fun k hk => hD k (h2 k hk)⟩, hB, hl⟩
theorem BldV.lt (h : BldV w B g D S) : g < w.heap.size := by
 obtain ⟨lv, fv, h1, h2⟩ := h.is
 exact h1.blk.lt
theorem BldV.size (h : BldV w B g D S) : B ≤ w.heap.size := by
 obtain ⟨lv, fv, h1, h2⟩ := h.is
 exact Nat.le_of_lt (Nat.lt_of_le_of_lt (h.dB g (h2 g (.inl rfl))) h1.blk.lt)
theorem BldV.off (h : BldV w B g D S) (ho : Off D w w') : Below B w w' := ho.below h.dB h.size
theorem up_trans (h1 : w.heap.size ≤ w'.heap.size) (h2 : w'.heap.size ≤ w''.heap.size) : ∀ k, up (up D w w') w' w'' k → up D w w'' k := fun k hk => by
 rcases hk with (hk | hk) | hk
 ·exact .inl hk
 ·exact .inr ⟨hk.1, Nat.lt_of_lt_of_le hk.2 h2⟩
 ·exact .inr ⟨Nat.le_trans h1 hk.1, hk.2⟩
theorem off_trans (x : Off D w w') (y : Off (up D w w') w' w'') : Off D w w'' := by
 refine ⟨y.os.trans x.os, y.tape.trans x.tape, y.output.trans x.output, Nat.le_trans x.size y.size, fun k hk hn => ?_⟩
 refine (y.block k (Nat.lt_of_lt_of_le hk x.size) fun hd => ?_).trans (x.block k hk hn)
 rcases hd with e | e
 ·exact hn e
 ·omega
structure BPost (w : World) (B g : Nat) (D : Nat → Prop) (S : List St) (w' : World) : Prop where
 bld : BldV w' B g (up D w w') S
 off : Off D w w'
 sz : B ≤ w.heap.size
theorem BPost.trans {S' : List St} (x : BPost w B g D S w') (y : BPost w' B g (up D w w') S' w'') : BPost w B g D S' w'' := by
 refine ⟨y.bld.mono (up_trans x.off.size y.off.size) (fun k hk => ?_) (fun k hk => ?_), off_trans x.off y.off, x.sz⟩
 ·rcases hk with hk | hk
  ·exact x.bld.dB k (.inl hk)
  ·exact Nat.le_trans x.sz hk.1
 ·rcases hk with hk | hk
  ·exact y.bld.dl k (.inl (.inl hk))
  ·exact hk.2
theorem BPost.below (x : BPost w B g D S w') {w0 : World} (hD : ∀ k, D k → B ≤ k) (hb : Below B w0 w) : Below B w0 w' := hb.trans (x.off.below hD x.sz)
theorem BPost.pre (hb : Below w.heap.size w w') (hD : ∀ k, D k → k < w.heap.size) (x : BPost w' B g D S w'') (hB : B ≤ w.heap.size) : BPost w B g D S w'' := by
 refine ⟨x.bld.mono (fun k hk => ?_) (fun k hk => ?_) fun k hk => ?_, ?_, hB⟩
 ·rcases hk with hk | hk
  ·exact .inl hk
  ·exact .inr ⟨Nat.le_trans hb.size hk.1, hk.2⟩
 ·rcases hk with hk | hk
  ·exact x.bld.dB k (.inl hk)
  ·exact Nat.le_trans hB hk.1
 ·rcases hk with hk | hk
  ·exact x.bld.dl k (.inl hk)
  ·exact hk.2
 ·exact (Off.new D hb).trans x.off
end
/-! ### laws of rows of states -/
theorem builtN : Try.prog.built 61 [(1, .int .i64 (-1))] = some (stc st0 (.slice none 0 0)).toArray := by kernel_rfl
section
variable {P : Program} {w : World} {ops : Array Oper} {rest : List Oper} {o : Oper} {a : Act} {K : Act → World → Prop} {Q : Exit → Act → World → Prop}
theorem wpList_bldN (hg : o.guard = none) (t e : TypeId) (x : Operand) (ho : o.op = .buildSlice t 1 #[(0, x)]) (i : TypeInfo) (ht : P.underlying t = some (.slice e)) (hi : P.info? e = some i) (z : List Value) (hz6 : z.length = 6) (hz : i.zero = some (.agg z.toArray)) (hs : i.size = 6) (ds : List Value) (hl : ds.length = 6)
  (hx : a.eval x = .agg ds.toArray)
  (h : ∀ w', Blk w' w.heap.size e ds → Below w.heap.size w w' → wpList P ops Q rest (a.put o.dst (.slice (some ⟨w.heap.size, 0, none⟩) 1 1)) w') : wpList P ops Q (o :: rest) a w := by
 have hrun : (Instr.buildSlice t 1 #[(0, .agg ds.toArray)]).run P w = .ok (.slice (some ⟨w.heap.size, 0, none⟩) 1 1) (w.alloc (.cells ds.toArray e)) := by
  have hzv : (zeroValue e).run P w = .ok (.agg z.toArray) w := by simp [zeroValue, typeInfo, hi, hz]
  match ds, hl, z, hz6 with
  | [d0, d1, d2, d3, d4, d5], _, [z0, z1, z2, z3, z4, z5], _ =>
   simp [Instr.buildSlice, run_underlying ht, sizeOf, typeInfo, hi, hs, hzv, Value.cells, Instr.fill, Array.range_succ, Array.range_zero', newRow]
 refine wpList_plain hg fun K hK => ?_
 unfold Oper.wp
 simp only [execOp, ho, List.map_toArray, List.map_cons, List.map_nil, hx, hrun, Sem.run_bind, Result.andThen_ok, Sem.run_pure]
 exact hK _ _ (h _ (Blk.new w e _) ((Below.refl _ _).alloc (Nat.le_refl _) _))
theorem wpList_appN {base : Nat} (hg : o.guard = none) (s x : Operand) (t : TypeId)
  (ho : o.op = .call { callee := .builtin .append, args := #[s, x], argTypes := #[t, t] })
  (e : TypeId) (i : TypeInfo) (z : List Value) (ht : P.underlying t = some (.slice e)) (hi : P.info? e = some i) (hz6 : z.length = 6) (hz : i.zero = some (.agg z.toArray)) (hsize : i.size = 6) (hby : i.bytes = 64)
  (v : Value) (n : Nat) (xs : List Value) (hs : a.eval s = v) (hown : w.ownsRow base e 6 v n xs)
  (g cap : Nat) (tg : TypeId) (c : List Value) (hc6 : c.length = 6) (hc1 : ∀ u ∈ c, u.oneCell' = true) (hx : a.eval x = .slice (some ⟨g, 0, none⟩) 1 cap) (hr : Blk w g tg c)
  (hlen : n + 1 ≤ 1048576) (hb : base ≤ w.heap.size)
  (h : ∀ v' w', w'.ownsRow base e 6 v' (n + 1) (xs ++ c) → w.grownBy w' v.ownBlock → (∀ k, v'.ownBlock = some k → v.ownBlock = some k ∨ w.heap.size ≤ k) → wpList P ops Q rest (a.put o.dst v') w') : wpList P ops Q (o :: rest) a w := by
 have hnews : ∀ j u, c[j]? = some u → w.cell? ((⟨g, 0, none⟩ : Addr).add j) = some u := fun j u hj => by
  rw [Addr.add_lit, Nat.zero_add, hr.cell j]
  exact hj
 obtain ⟨v', w', hrun, hown', hgr, _⟩ := run_append_own (P := P) w base t o.type e i _ 6 64 ht hi hz hsize hby (by simp [Value.cells, hz6]) (by omega) v n xs hown ⟨g, 0, none⟩ 1 cap c (by omega) hnews hc1 (by unfold maxLen; omega) (by omega) hb
 have hwh := append_where (P := P) (w := w) base t o.type e i _ 6 64 ht hi hz hsize hby (by omega) v n xs hown ⟨g, 0, none⟩ 1 cap c (by omega) hnews hc1 (by unfold maxLen; omega) (by omega) hrun
 refine wpList_plain hg fun K hK => ?_
 unfold Oper.wp execOp
 simp only [ho, resolve, invoke, builtin, Sem.run_bind, Sem.run_pure, Result.andThen_ok, List.map_toArray, List.map_cons, List.map_nil, hs, hx, hrun]
 exact hK _ _ (h v' w' hown' hgr hwh)
end
theorem upd_old {fv : Nat → Value} {n i : Nat} {u : Value} (h : i < n) : updV fv n u i = fv i := by unfold updV; rw [if_neg (by omega)]
theorem upd_at (fv : Nat → Value) (n : Nat) (u : Value) : updV fv n u n = u := by unfold updV; rw [if_pos rfl]
theorem bState_end {w w1 w2 : World} {B g : Nat} {D : Nat → Prop} {S : List St} {lv v' : Value} {fv : Nat → Value} (x : Bld w B g lv fv S) (hD : ∀ k, Bd g lv fv S.length k → D k) (hdB : ∀ k, D k → B ≤ k) (hdl : ∀ k, D k → k < w.heap.size) (hB : B ≤ w.heap.size)
  (b1 : Below w.heap.size w w1) (ho : w2.ownsRow B 61 6 v' (S.length + 1) ((cellsN S fv).flatten ++ stc st0 (.slice none 0 0))) (hg : w1.grownBy w2 lv.ownBlock) (hw : ∀ k, v'.ownBlock = some k → lv.ownBlock = some k ∨ w1.heap.size ≤ k) :
  w2.cell? ⟨g, 0, none⟩ = some lv ∧ w2.frozen? ⟨g, 0, none⟩ = false ∧ BPost w B g D (S ++ [st0]) (w2.setCell ⟨g, 0, none⟩ v') := by
 have hs1 := b1.size
 have hs2 := hg.size
 have hgl := x.blk.lt
 have g2 : Blk w2 g 78 [lv] := (x.blk.below b1 hgl).grown hg fun e => x.lg e.symm
 have ng : v'.ownBlock ≠ some g := fun e => by
  rcases hw g e with e | e
  ·exact x.lg e
  ·omega
 have hother : ∀ k, k ≠ g → (w2.setCell ⟨g, 0, none⟩ v').heap[k]? = w2.heap[k]? := fun k hk => Below.heap_setCell w2 ⟨g, 0, none⟩ v' k hk
 have hsz3 : (w2.setCell ⟨g, 0, none⟩ v').heap.size = w2.heap.size := by simp
 refine ⟨g2.cell 0, g2.frozen 0, ⟨⟨⟨v', updV fv S.length (.slice none 0 0), ⟨g2.set 0 v', ?_, fun i s hs => ?_, ng, fun i hi e => ?_, fun i k hi e e' => ?_, fun i j k hi hj hij e e' => ?_⟩, fun k hk => ?_⟩, fun k hk => ?_, fun k hk => ?_⟩, ?_, hB⟩⟩
 ·rw [List.length_append, List.length_singleton, cellsN_app, List.flatten_append]
  refine own6_stay ?_ fun j hj => hother j (by rintro rfl; exact ng hj)
  simpa using ho
 ·by_cases hi : i < S.length
  ·rw [List.getElem?_append_left hi] at hs
   have h0 := x.free i s hs
   rw [upd_old hi]
   have h1 : w1.ownsRow B 3 1 (fv i) s.free.length (nums .i64 s.free) := ownBelow h0 b1 (Nat.le_refl _)
   have h2 : w2.ownsRow B 3 1 (fv i) s.free.length (nums .i64 s.free) := own6_stay h1 fun j hj => hg.block j (own6_lt h1 j hj).1 fun e => x.fl i j hi hj e.symm
   exact own6_stay h2 fun j hj => hother j (by rintro rfl; exact x.fg i hi hj)
  ·have hil : i = S.length := by
    have := (List.getElem?_eq_some_iff.1 hs).1
    simp at this
    omega
   subst hil
   have : s = st0 := by simpa using hs.symm
   subst this
   rw [upd_at]
   exact ownN _ _ _
 ·rw [List.length_append, List.length_singleton] at hi
  by_cases h : i < S.length
  ·rw [upd_old h] at e; exact x.fg i h e
  ·obtain rfl : i = S.length := by omega
   rw [upd_at] at e; cases e
 ·rw [List.length_append, List.length_singleton] at hi
  by_cases h : i < S.length
  ·rw [upd_old h] at e
   rcases hw k e' with e' | e'
   ·exact x.fl i k h e e'
   ·have := x.lt (.inr (.inr ⟨i, h, e⟩)); omega
  ·obtain rfl : i = S.length := by omega
   rw [upd_at] at e; cases e
 ·rw [List.length_append, List.length_singleton] at hi hj
  by_cases h : i < S.length
  ·rw [upd_old h] at e
   by_cases h' : j < S.length
   ·rw [upd_old h'] at e'
    exact x.ff i j k h h' hij e e'
   ·obtain rfl : j = S.length := by omega
    rw [upd_at] at e'; cases e'
  ·obtain rfl : i = S.length := by omega
   rw [upd_at] at e; cases e
 ·rcases hk with rfl | hk | ⟨i, hi, hk⟩
  ·exact .inl (hD _ (.inl rfl))
  ·rcases hw k hk with h | h
   ·exact .inl (hD _ (.inr (.inl h)))
   ·exact .inr ⟨by omega, by rw [hsz3]; exact (own6_lt ho k hk).1⟩
  ·rw [List.length_append, List.length_singleton] at hi
   by_cases h : i < S.length
   ·rw [upd_old h] at hk
    exact .inl (hD _ (.inr (.inr ⟨i, h, hk⟩)))
   ·obtain rfl : i = S.length := by omega
    rw [upd_at] at hk; cases hk
 ·rcases hk with hk | hk
  ·exact hdB k hk
  ·exact Nat.le_trans hB hk.1
 ·rcases hk with hk | hk
  ·have := hdl k hk; rw [hsz3]; omega
  ·exact hk.2
 ·exact ((Off.new D b1).trans (Off.grown hg fun k hk => .inr (hD k (.inr (.inl hk))))).trans (Off.set w2 0 v' (hD g (.inl rfl)))
theorem own_form6 {w : World} {base n k : Nat} {e : TypeId} {v : Value} {xs : List Value} (h : w.ownsRow base e k v n xs) : ∃ A c, v = .slice A n c := by
 rcases h.2 with ⟨rfl, rfl⟩ | ⟨g, cap, cur, rfl, _⟩
 ·exact ⟨_, _, rfl⟩
 ·exact ⟨_, _, rfl⟩
theorem sub_len {n : Nat} (h : n ≤ 2000) : IntKind.i64.wrap (((n + 1 : Nat) : Int) - 1) = (n : Int) := by
 rw [IntWalk.i64_in _ (by omega)]
 omega
theorem sub_len' {n : Nat} (h : n ≤ 2000) : wrap64 (((n + 1 : Nat) : Int) - 1) = (n : Int) := by
 rw [IntWalk.wrap64_in _ (by omega)]
 omega
set_option maxHeartbeats 4000000 in
set_option maxRecDepth 1000000 in
theorem bState_any {B g : Nat} {D : Nat → Prop} {S : List St} (w : World) (h : BldV w B g D S) (hS : S.length ≤ 2000) :
  Calls Try.prog 64 #[.pointer (some ⟨g, 0, none⟩)] w fun e w' => e = .returned (.int .i64 (S.length : Int)) ∧ BPost w B g D (S ++ [st0]) w' := by
 have HB := qH h.size
 obtain ⟨⟨lv, fv, hb, hd⟩, hdB, hdl⟩ := h
 obtain ⟨A0, c0, rfl⟩ := own_form6 hb.own
 have X := qH hb
 have HD := qH hd
 have HDB := qH hdB
 have HDL := qH hdl
 have HS := qH hS
 have d0 := hb.blk.cell 0
 simp only [List.getElem?_cons_zero] at d0
 obtain ⟨i0, hi0, hz0, hs0, hy0⟩ := infoP inf_nst
 obtain ⟨zz, hzz⟩ : ∃ z : List Value, z = stc ⟨fun _ => false, 0, []⟩ (.slice none 0 0) := ⟨_, rfl⟩
 have HZL := qH (show zz.length = 6 by rw [hzz]; rfl)
 have HZ0 := qH (show i0.zero = some (.agg zz.toArray) by rw [hzz]; exact hz0)
 obtain ⟨cc, hcc⟩ : ∃ c : List Value, c = stc st0 (.slice none 0 0) := ⟨_, rfl⟩
 have HC := qH hcc
 have HC6 := qH (show cc.length = 6 by rw [hcc]; rfl)
 have HC1 := qH (show ∀ u ∈ cc, u.oneCell' = true by rw [hcc]; exact List.all_eq_true.1 (stc_one _ _ _ _))
 have HBN := qH (show Try.prog.built 61 [(1, .int .i64 (-1))] = some cc.toArray by rw [hcc]; exact builtN)
 have s1 := sub_len hS
 have s2 := sub_len' hS
 obtain ⟨m, hm⟩ : ∃ m, m = S.length + 1 := ⟨_, rfl⟩
 rw [← hm] at s1 s2
 have HM := qH hm
 clear hb hd hdB hdl hS hzz hz0 hcc hm
 go_enter Try.func64, Try.ntmps64
 go_wp2_with (first
  | ((with_reducible refine atDst 8 ?_); refine wpList_bld rfl 61 _ rfl cc HBN.out ?_; (try simp only [Act.put, qA, qB, qC]))
  | ((with_reducible refine atDst 9 ?_); refine wpList_bldN rfl 22 61 (.tmp 8) rfl i0 Try.underlying22 hi0 zz HZL.out HZ0.out hs0 cc HC6.out rfl ?_; intro w1 hk1 hb1; have K1 := qH hk1; have B1 := qH hb1; clear hk1 hb1; (try simp only [Act.put, qA, qB, qC]))
  | ((with_reducible refine atDst 10 ?_); refine wpList_appN rfl (.tmp 7) (.tmp 9) 22 rfl 61 i0 zz Try.underlying22 hi0 HZL.out HZ0.out hs0 hy0 (.slice A0 S.length c0) S.length (cellsN S fv).flatten rfl (own6_stay X.out.own fun j hj => B1.out.block j (own6_lt X.out.own j hj).1) w.heap.size 1 61 cc HC6.out HC1.out rfl K1.out (by have := HS.out; omega) (Nat.le_trans HB.out B1.out.size) ?_; intro v2 w2 ho2 hg2 hw2; obtain ⟨A2, c2, rfl⟩ : ∃ A c, v2 = .slice A m c := (by rw [HM.out]; exact own_form6 ho2); have O2 := qH (bState_end X.out HD.out HDB.out HDL.out HB.out B1.out (by rw [HC.out] at ho2; exact ho2) hg2 hw2); have e2 := O2.out.1; have f2 := O2.out.2.1; have L2 := qH (World.block_lt_of_cell? _ _ e2); have n2 := World.cell?_setCell_same' w2 _ (.slice A2 m c2) (by rw [e2]; rfl); clear ho2 hg2 hw2; (try simp only [Act.put, qA, qB, qC])))
 go_ret
 exact ⟨rfl, O2.out.2.2⟩
theorem inf_int : (Try.prog.info? 3).map (fun i => (i.zero, i.size, i.bytes)) = some (some (.int .i64 0), 1, 8) := by kernel_rfl
theorem nums_lenJ (t : Nat → Bool) (n : Nat) : (nums .i64 (risJ t n)).length ≤ n := by rw [nums_length]; exact risJ_len t n
set_option maxHeartbeats 4000000 in
set_option maxRecDepth 1000000 in
theorem refMarkedN_any (n : Nat) (hn : n ≤ 2000) (t : Nat → Bool) (V : Value) (w : World) (hr : Row w V (bcs n t)) :
  Calls Try.prog 42 #[V] w fun e w' => ∃ v, e = .returned v ∧ Row w' v (nums .i64 (risJ t n)) ∧ Below w.heap.size w w' := by
 have R0 := qH hr
 have HN := qH hn
 obtain ⟨A, cap, rfl, a1, a2, a0, a3⟩ := hr
 rw [bcs_len] at a1 R0 ⊢
 clear a3 a0 a2 a1 hn
 obtain ⟨i1, hi1, hy0, hy1, hy2⟩ := infoP inf_int
 go_enter Try.func42, Try.ntmps42
 go_wp2_with fail
 go_loopw [3, 4] (fun v i wl => ∃ j : Nat, j ≤ n ∧ i = .int .i64 (j : Int) ∧ wl.ownsRow w.heap.size 3 1 v (nums .i64 (risJ t j)).length (nums .i64 (risJ t j)) ∧ Below w.heap.size w wl) (fun _ i _ => n - (intOf i).toNat)
 case atStart => exact ⟨0, Nat.zero_le _, by simp, ownN _ _ _, Below.refl _ _⟩
 case round =>
  obtain ⟨j, hj, rfl, ho, hb⟩ := hrel
  have HO := qH ho
  have HB := qH hb
  clear ho hb
  by_cases hjl : j < n
  ·have j1 : (j : Int) < (n : Int) := Int.ofNat_lt.2 hjl
   obtain ⟨b0, off, rfl, hb0, hcell⟩ := (R0.out.below HB.out).at_ (by rw [bcs_len]; omega)
   have hcj := hcell j _ (bcs_get t hjl)
   have HJ := qH hjl
   have HMJ := qH (sub_next hjl)
   have e3 := wrap_one j (lt_bigN HJ.out HN.out)
   have e4 := wrap_one' j (lt_bigN HJ.out HN.out)
   obtain ⟨q, hq⟩ : ∃ q, t j = q := ⟨_, rfl⟩
   rw [hq] at hcj
   have HS := qH (risJ_succ t j)
   have HLN := qH (nums_lenJ t j)
   have HQ := qH hq
   clear hcell hb0 hjl hj hq
   cases q with
   | true =>
    have R1 := qH (rowB (n := 1) (show Blk (wr.alloc (.cells #[.int .i64 (j : Int)] 3)) wr.heap.size 3 (nums .i64 [(j : Int)]) from Blk.new wr 3 (nums .i64 [(j : Int)])) rfl (by omega))
    go_wp2_with ((with_reducible refine atDst 18 ?_); refine wpList_appR (w0 := w) rfl (.tmp 15) (.tmp 17) 25 rfl 3 i1 (.int .i64 0) 8 Try.underlying25 hi1 hy0 hy1 hy2 rfl _ _ _ rfl (HO.out.alloc _) _ (nums .i64 [(j : Int)]) rfl R1.out (nums_one _ _) (by have := HLN.out; have := HJ.out; have := HN.out; rw [nums_length .i64 [(j : Int)]]; simp only [List.length_singleton]; omega) (by omega) (HB.out.alloc HB.out.size _) ?_; intro v3 w4 ho4 _ hb4 _; have O4 := qH ho4; have B4 := qH hb4; clear ho4 hb4; (try simp only [Act.put, qA, qB, qC]))
    refine ⟨⟨j + 1, HJ.out, by congr 1, ?_, B4.out⟩, by simpa [intOf] using HMJ.out⟩
    rw [HS.out, HQ.out, if_pos rfl, nums_append, List.length_append]
    exact O4.out
   | false =>
    go_wp2_with fail
    refine ⟨⟨j + 1, HJ.out, by congr 1, ?_, HB.out⟩, by simpa [intOf] using HMJ.out⟩
    rw [HS.out, HQ.out, if_neg Bool.false_ne_true]
    exact HO.out
  ·obtain rfl : j = n := by omega
   have j1 : ¬ ((j : Int) < (j : Int)) := by omega
   have HR := qH (Row.of_own HO.out)
   clear HO
   go_wp2_with fail
   go_ret
   exact ⟨_, rfl, HR.out, HB.out⟩
set_option maxHeartbeats 4000000 in
set_option maxRecDepth 1000000 in
theorem refHasN_any (l : List Int) (k : Int) (V : Value) (w : World) (hr : Row w V (nums .i64 l)) :
  Calls Try.prog 40 #[V, .int .i64 k] w fun e w' => e = .returned (.bool (decide (k ∈ l))) ∧ w' = w := by
 have R0 := qH hr
 obtain ⟨A, cap, rfl, a1, a2, a0, a3⟩ := hr
 rw [nums_length] at a1 R0 ⊢
 have HN := qH (And.intro a1 a2)
 clear a3 a0 a2 a1
 go_enter Try.func40, Try.ntmps40
 go_wp2_with fail
 go_loopw [5] (fun i wl => ∃ j : Nat, j ≤ l.length ∧ i = .int .i64 (j : Int) ∧ (∀ m, m < j → l[m]? ≠ some k) ∧ wl = w) (fun i _ => l.length - (intOf i).toNat)
 case atStart => exact ⟨0, Nat.zero_le _, by simp, fun m h => absurd h (Nat.not_lt_zero m), rfl⟩
 case round =>
  obtain ⟨j, hj, rfl, hno, rfl⟩ := hrel
  have HO := qH hno
  clear hno
  by_cases hjl : j < l.length
  ·have j1 : (j : Int) < (l.length : Int) := Int.ofNat_lt.2 hjl
   obtain ⟨b0, off, rfl, hb0, hcell⟩ := R0.out.at_ (by rw [nums_length]; omega)
   obtain ⟨x, hx⟩ : ∃ x, l[j]? = some x := ⟨_, List.getElem?_eq_getElem hjl⟩
   have hcj := hcell j (.int .i64 x) (by simp [nums, hx])
   have HX := qH hx
   have HJ := qH hjl
   have HMJ := qH (sub_next hjl)
   have e3 := wrap_len HJ.out HN.out.1 HN.out.2
   have e4 := wrap_len' HJ.out HN.out.1 HN.out.2
   clear hcell hb0 hjl hj hx
   by_cases hxk : x = k
   ·subst hxk
    have HT := qH (show decide (x ∈ l) = true from decide_eq_true (List.mem_of_getElem? HX.out))
    go_wp2_with fail
    go_ret
    rw [HT.out]
    exact ⟨rfl, rfl⟩
   ·have HNX := qH hxk
    go_wp2_with fail
    refine ⟨⟨j + 1, HJ.out, by congr 1, fun m hm => ?_, trivial⟩, by simpa [intOf] using HMJ.out⟩
    rcases Nat.lt_succ_iff_lt_or_eq.1 hm with hm | rfl
    ·exact HO.out m hm
    ·rw [HX.out]
     exact fun h => HNX.out (Option.some.inj h)
  ·obtain rfl : j = l.length := by omega
   have j1 : ¬ ((l.length : Int) < (l.length : Int)) := by omega
   have HT := qH (show decide (k ∈ l) = false from decide_eq_false fun h => by
    obtain ⟨m, hm⟩ := List.mem_iff_getElem?.1 h
    have hlt := (List.getElem?_eq_some_iff.1 hm).1
    exact HO.out m hlt hm)
   go_wp2_with fail
   go_ret
   rw [HT.out]
   exact ⟨rfl, rfl⟩
def cellB (w : World) (g q : Nat) : Bool := match w.cell? ⟨g, q, none⟩ with | some (.bool b) => b | _ => false
def bOf : Value → Nat | .bool true => 1 | _ => 0
def farW (g n : Nat) (v : Value) (w : World) : Nat := 2 * unm n (cellB w g) + bOf v
theorem unm_congr {n : Nat} {t u : Nat → Bool} (h : ∀ q, q < n → t q = u q) : unm n t = unm n u := by
 unfold unm
 rw [List.filter_congr fun q hq => by rw [h q (List.mem_range.1 hq)]]
theorem unm_blk {w : World} {g n : Nat} {t : Nat → Bool} (h : Blk w g 4 (bcs n t)) : unm n (cellB w g) = unm n t :=
 unm_congr fun q hq => by
  unfold cellB
  rw [h.cell, bcs_get t hq]
theorem farW_yes {w : World} {g n : Nat} {t : Nat → Bool} (h : Blk w g 4 (bcs n t)) : farW g n (.bool true) w = 2 * unm n t + 1 := by
 unfold farW
 rw [unm_blk h]
 rfl
theorem farW_no {w : World} {g n : Nat} {t : Nat → Bool} (h : Blk w g 4 (bcs n t)) : farW g n (.bool false) w = 2 * unm n t := by
 unfold farW
 rw [unm_blk h]
 rfl
theorem Ps.far {S : List St} {P : Nat → Prop} {t0 t : Nat → Bool} {ag : Bool} {kk g : Nat} {w w' : World} (h : Ps S P t0 ag S.length kk t) (h0 : Blk w g 4 (bcs S.length t0)) (h1 : Blk w' g 4 (bcs S.length t)) :
  farW g S.length (.bool ag) w' < farW g S.length (.bool true) w := by
 rw [farW_yes h0]
 cases ag with
 | true =>
  rw [farW_yes h1]
  have := h.less
  omega
 | false =>
  rw [farW_no h1]
  have := unm_congr (h.still rfl)
  omega
structure Pq (S : List St) (P : Nat → Prop) (ag : Bool) (t : Nat → Bool) : Prop where
 seeds : ∀ q, q < S.length → P q → t q = true
 sound : ∀ q, q < S.length → t q = true → Rc S P q
 done : ag = false → ∀ q, q < S.length → (t q = true ↔ Rc S P q)
theorem Ps.all {S : List St} {P : Nat → Prop} {t0 t : Nat → Bool} {ag : Bool} {kk : Nat} (h : Ps S P t0 ag S.length kk t) : Pq S P ag t :=
 ⟨h.seeds, h.sound, fun ha q hq => by subst ha; exact h.end_ hq⟩
theorem Pq.first {S : List St} {l : List Int} : Pq S (ofL l) true (sdJ l l.length) :=
 ⟨fun q _ h => sdJ_all.2 h, fun q hq h => .base (sdJ_all.1 h) hq, fun h => (by cases h)⟩
theorem Pq.cls {S : List St} {l : List Int} {t : Nat → Bool} (h : Pq S (ofL l) false t) : risJ t S.length = clsN S l := by
 unfold clsN
 refine risJ_congr fun q hq => ?_
 rw [Bool.eq_iff_iff, rcB_iff]
 exact h.done rfl q hq
noncomputable def cloN (S : List St) (a z : Int) (l : List Int) : List Int := if mayNB S a z then clsN S l else []
theorem cloN_no {S : List St} {a z : Int} {l : List Int} (h : mayNB S a z = false) : cloN S a z l = [] := by
 unfold cloN
 rw [h]
 rfl
theorem cloN_yes {S : List St} {a z : Int} {l : List Int} (h : mayNB S a z = true) : cloN S a z l = clsN S l := by
 unfold cloN
 rw [h]
 rfl
set_option maxHeartbeats 4000000 in
set_option maxRecDepth 1000000 in
theorem refCloseN_any (S : List St) (a z : Int) (cs : List Value) (l : List Int) (V : Value) (w : World) (hv : NfaV w cs S a z) (hr : Row w V (nums .i64 l)) :
  Calls Try.prog 17 #[.agg cs.toArray, V] w fun e w' => ∃ v, e = .returned v ∧ Row w' v (nums .i64 (cloN S a z l)) ∧ Below w.heap.size w w' := by
 have N0 := qH hv
 have R0 := qH hr
 obtain ⟨A, cap, rfl, hlc, hcm, hA0⟩ := hv.len
 obtain ⟨A2, cap2, rfl, a1, a2, a0, a3⟩ := hr
 rw [nums_length] at a1 R0 ⊢
 have HLN := qH (And.intro a1 a2)
 have HCN := qH (And.intro hlc hcm)
 clear a3 a0 a2 a1 hv hlc hcm hA0
 obtain ⟨i2, hi2, hz2, hs2, hy2⟩ := infoP inf_bool
 go_enter Try.func17, Try.ntmps17
 go_wp2_with (first
  | ((with_reducible refine atDst 2 ?_); refine wpList_box rfl 24 _ rfl [.slice A S.length cap, .int .i64 a, .int .i64 z] rfl (Below.refl w.heap.size w) (Nat.le_refl _) ?_; intro w1 hk1 hb1 hs1 _; have K1 := qH hk1; have B1 := qH hb1; clear hk1 hb1 hs1; (try simp only [Act.put, qA, qB, qC]))
  | ((with_reducible refine atDst 11 ?_); refine wpList_ldBlk rfl 24 _ rfl w.heap.size rfl 24 _ _ K1.out Try.underlying24 rfl (size_nfa rfl) ?_; (try simp only [Act.put, qA, qB, qC])))
 refine (refMayN_any S a z _ w1 (N0.out.below B1.out)).mono ?_
 rintro e w2 ⟨rfl, hb2⟩
 have B2 := qH hb2
 have BW2 := qH (B1.out.trans (hb2.mono B1.out.size))
 have K2 := qH (K1.out.below hb2 K1.out.lt)
 clear hb2
 obtain ⟨m, hm⟩ : ∃ m, mayNB S a z = m := ⟨_, rfl⟩
 rw [hm]
 cases m with
 | false =>
  have HC := qH (cloN_no (l := l) hm)
  clear hm
  go_wp2_with fail
  go_ret
  rw [HC.out]
  exact ⟨_, rfl, Row.of_own (ownN w2 0 0), BW2.out⟩
 | true =>
  have HC := qH (cloN_yes (l := l) hm)
  have HM := qH (mayNB_iff.1 hm)
  clear hm
  have HN := qH HM.out.few
  have HY2 := qH (show i2.bytes * S.length ≤ 281474976710656 by have := HN.out; rw [hy2]; omega)
  have HN3 := qH (show S.length ≤ 9223372036854775807 by have := HN.out; omega)
  have c0 := K2.out.cell 0
  have N2 := qH (N0.out.below BW2.out)
  have R2 := qH (R0.out.below BW2.out)
  clear hy2
  go_wp2_with ((with_reducible refine atDst 17 ?_); refine wpList_mk _ rfl _ _ 66 rfl 4 i2 (.bool false) Try.underlying66 hi2 hz2 hs2 rfl S.length _ _ _ _ rfl rfl rfl rfl HY2.out HN3.out ?_; intro w3 hk hb hs; have T3 := qH hk; have B3 := qH hb; clear hk hb hs c0; (try simp only [Act.put, qA, qB, qC]))
  go_loopw [6] (fun iv wl => ∃ j : Nat, j ≤ l.length ∧ iv = .int .i64 (j : Int) ∧ Blk wl w2.heap.size 4 (bcs S.length (sdJ l j)) ∧ Below w2.heap.size w2 wl) (fun iv _ => l.length - (intOf iv).toNat)
  case atStart => exact ⟨0, Nat.zero_le _, by simp, by rw [sdJ_zero, ← bcs_no]; exact T3.out, B3.out⟩
  obtain ⟨j, hj, rfl, ht, hb⟩ := hrel
  have TQ := qH ht
  have BQ := qH hb
  clear ht hb
  by_cases hjl : j < l.length
  ·have j1 : (j : Int) < (l.length : Int) := Int.ofNat_lt.2 hjl
   obtain ⟨x, hx⟩ : ∃ x, l[j]? = some x := ⟨_, List.getElem?_eq_getElem hjl⟩
   have HX := qH hx
   obtain ⟨b0, off, rfl, hb0, hcell⟩ := (R2.out.below BQ.out).at_ (by rw [nums_length]; omega)
   have hcj := hcell j (.int .i64 x) (by simp [nums, hx])
   have HJ := qH hjl
   have HMJ := qH (sub_next hjl)
   have e3 := wrap_len HJ.out HLN.out.1 HLN.out.2
   have e4 := wrap_len' HJ.out HLN.out.1 HLN.out.2
   clear hcell hb0 hx hj hjl
   by_cases hx0 : 0 ≤ x
   ·by_cases hxn : x < (S.length : Int)
    ·obtain ⟨p, rfl⟩ : ∃ p : Nat, x = (p : Int) := ⟨x.toNat, by omega⟩
     have HP := qH (show p < S.length by omega)
     have hcr := TQ.out.cell p
     rw [bcs_get _ HP.out] at hcr
     have hfz := TQ.out.frozen p
     have TE := qH (show Blk (wr.setCell ⟨w2.heap.size, p, none⟩ (.bool true)) w2.heap.size 4 (bcs S.length (sdJ l (j + 1))) by
      have := TQ.out.set p (.bool true)
      rw [bcs_set] at this
      rw [← sdJ_in HX.out (by omega)]
      exact this)
     have BE := qH (BQ.out.setCell (p := ⟨w2.heap.size, p, none⟩) (Nat.le_refl _) (Value.bool true))
     go_wp2_with fail
     exact ⟨⟨j + 1, HJ.out, by congr 1, TE.out, BE.out⟩, by simpa [intOf] using HMJ.out⟩
    ·have TE := qH (show Blk wr w2.heap.size 4 (bcs S.length (sdJ l (j + 1))) by
      rw [bcs_congr fun q hq => sdJ_out HX.out (by omega) hq]
      exact TQ.out)
     go_wp2_with fail
     exact ⟨⟨j + 1, HJ.out, by congr 1, TE.out, BQ.out⟩, by simpa [intOf] using HMJ.out⟩
   ·have TE := qH (show Blk wr w2.heap.size 4 (bcs S.length (sdJ l (j + 1))) by
     rw [bcs_congr fun q hq => sdJ_out (k := S.length) HX.out (by omega) hq]
     exact TQ.out)
    go_wp2_with fail
    exact ⟨⟨j + 1, HJ.out, by congr 1, TE.out, BQ.out⟩, by simpa [intOf] using HMJ.out⟩
  obtain rfl : j = l.length := by omega
  have j1 : ¬ ((l.length : Int) < (l.length : Int)) := by omega
  obtain ⟨wq, hwq⟩ : ∃ v : World, v = wr := ⟨_, rfl⟩
  subst hwq
  go_wp2_with fail
  go_loopw [7] (fun v wl => ∃ (ag : Bool) (t : Nat → Bool), v = .bool ag ∧ Pq S (ofL l) ag t ∧ Blk wl w2.heap.size 4 (bcs S.length t) ∧ Below w2.heap.size w2 wl) (fun v wl => farW w2.heap.size S.length v wl)
  case atStart => exact ⟨true, _, rfl, Pq.first, TQ.out, BQ.out⟩
  clear TQ BQ T3 B3
  obtain ⟨ag, t, rfl, hp, ht, hb⟩ := hrel
  have PQ := qH hp
  have TQ := qH ht
  have BQ := qH hb
  clear hp ht hb hj j1
  obtain ⟨wp, hwp⟩ : ∃ v : World, v = wr := ⟨_, rfl⟩
  subst hwp
  cases ag with
  | false =>
   go_wp2_with fail
   refine (refMarkedN_any S.length HN.out t _ wp (rowB TQ.out (bcs_len _ _) (by have := HN.out; omega))).mono ?_
   rintro e w4 ⟨v, rfl, hr4, hb4⟩
   have R4 := qH hr4
   have B4 := qH (BW2.out.trans ((BQ.out.trans (hb4.mono BQ.out.size)).mono BW2.out.size))
   clear hr4 hb4
   go_wp2_with fail
   go_ret
   rw [HC.out, ← PQ.out.cls]
   exact ⟨_, rfl, R4.out, B4.out⟩
  | true =>
   go_wp2_with fail
   go_loopw [7, 8] (fun v iv wl => ∃ (ag : Bool) (i : Nat) (u : Nat → Bool), i ≤ S.length ∧ v = .bool ag ∧ iv = .int .i64 (i : Int) ∧ Ps S (ofL l) t ag i 0 u ∧ Blk wl w2.heap.size 4 (bcs S.length u) ∧ Below w2.heap.size w2 wl) (fun _ iv _ => S.length - (intOf iv).toNat)
   case atStart => exact ⟨false, 0, t, Nat.zero_le _, rfl, by simp, Ps.start PQ.out.seeds PQ.out.sound, TQ.out, BQ.out⟩
   obtain ⟨ag, i, u, hi, rfl, rfl, hp, ht, hb⟩ := hrel
   have PR := qH hp
   have TR := qH ht
   have BR := qH hb
   clear hp ht hb
   obtain ⟨wi, hwi⟩ : ∃ v : World, v = wr := ⟨_, rfl⟩
   subst hwi
   by_cases hin : i < S.length
   ·have x1 : (i : Int) < (S.length : Int) := Int.ofNat_lt.2 hin
    have HI := qH hin
    have HMI := qH (sub_next hin)
    have e3 := wrap_one i (lt_bigN HI.out HN.out)
    have e4 := wrap_one' i (lt_bigN HI.out HN.out)
    obtain ⟨s, hs⟩ : ∃ s, S[i]? = some s := ⟨_, List.getElem?_eq_getElem hin⟩
    have HS := qH hs
    obtain ⟨b, off, rfl, hlt, _, _, Af, cf, hf, hrow⟩ := N2.out.at_ hs
    obtain ⟨fl, hfl⟩ : ∃ n, n = s.free.length := ⟨_, rfl⟩
    rw [← hfl] at hf hrow
    have HFL := qH hfl
    have HF2 := qH hf
    have HLT := qH hlt
    have HROW := qH hrow
    have HF8 := qH (show fl ≤ 8 by have := HM.out.free8 s (List.mem_of_getElem? hs); omega)
    clear hi hin hs hf hrow hlt hfl
    go_wp2_with fail
    go_loopw [7, 9] (fun v kv wl => ∃ (ag : Bool) (k : Nat) (u : Nat → Bool), k ≤ fl ∧ v = .bool ag ∧ kv = .int .i64 (k : Int) ∧ Ps S (ofL l) t ag i k u ∧ Blk wl w2.heap.size 4 (bcs S.length u) ∧ Below w2.heap.size w2 wl) (fun _ kv _ => fl - (intOf kv).toNat)
    case atStart => exact ⟨ag, 0, u, Nat.zero_le _, rfl, by simp, PR.out, TR.out, BR.out⟩
    clear PR TR BR
    obtain ⟨ag, k, u, hk, rfl, rfl, hp, ht, hb⟩ := hrel
    have PR := qH hp
    have TR := qH ht
    have BR := qH hb
    have hfr := (BR.out.cell (p := ⟨b, off + i * 6 + 5, none⟩) HLT.out).trans HF2.out
    have c0 := (K2.out.below hb K2.out.lt).cell 0
    have RX := qH (HROW.out.below hb)
    clear hp ht hb
    by_cases hkl : k < fl
    ·have y1 : (k : Int) < (fl : Int) := Int.ofNat_lt.2 hkl
     have HK := qH hkl
     have HMK := qH (sub_next hkl)
     have f3 := wrap_one k (lt_bigN HK.out (Nat.le_trans HF8.out (by decide)))
     have f4 := wrap_one' k (lt_bigN HK.out (Nat.le_trans HF8.out (by decide)))
     obtain ⟨f, hf⟩ : ∃ f, s.free[k]? = some f := ⟨_, List.getElem?_eq_getElem (by rw [← HFL.out]; exact hkl)⟩
     have HF := qH hf
     obtain ⟨f0, f1⟩ := HM.out.free s (List.mem_of_getElem? HS.out) f (List.mem_of_getElem? hf)
     obtain ⟨p, rfl⟩ : ∃ p : Nat, f = (p : Int) := ⟨f.toNat, by omega⟩
     have HP := qH (show p < S.length by omega)
     obtain ⟨bf, of, rfl, hbf, hcf⟩ := RX.out.at_ (by rw [nums_length, ← HFL.out]; omega)
     have hcj := hcf k (.int .i64 (p : Int)) (by simp [nums, hf])
     have hci := TR.out.cell i
     rw [bcs_get _ HI.out] at hci
     obtain ⟨y, hy⟩ : ∃ y, u i = y := ⟨_, rfl⟩
     rw [hy] at hci
     have HYI := qH hy
     clear hk hkl hf hcf hbf hy f0
     cases y with
     | true =>
      have hcr := TR.out.cell p
      rw [bcs_get _ HP.out] at hcr
      obtain ⟨c, hc⟩ : ∃ c, u p = c := ⟨_, rfl⟩
      rw [hc] at hcr
      have HCC := qH hc
      have hfz := TR.out.frozen p
      have TE := qH (show Blk (wr.setCell ⟨w2.heap.size, p, none⟩ (.bool true)) w2.heap.size 4 (bcs S.length (updB u p true)) by
       have := TR.out.set p (.bool true)
       rw [bcs_set] at this
       exact this)
      have BE := qH (BR.out.setCell (p := ⟨w2.heap.size, p, none⟩) (Nat.le_refl _) (Value.bool true))
      have PE := qH (show Ps S (ofL l) t (ag || !c) i (k + 1) (updB u p true) by
       have := PR.out.mark HS.out HYI.out HF.out (by omega) (by have := HP.out; omega)
       rw [Int.toNat_natCast, HCC.out] at this
       exact this)
      clear hc
      cases ag with
      | true =>
       go_wp2_with fail
       exact ⟨⟨true, k + 1, _, HK.out, rfl, by congr 1, PE.out, TE.out, BE.out⟩, by simpa [intOf] using HMK.out⟩
      | false =>
       go_wp2_with fail
       exact ⟨⟨!c, k + 1, _, HK.out, by simp, by congr 1, PE.out, TE.out, BE.out⟩, by simpa [intOf] using HMK.out⟩
     | false =>
      have PE := qH (PR.out.next HS.out (.inr HYI.out))
      go_wp2_with fail
      exact ⟨⟨ag, i + 1, _, HI.out, rfl, by congr 1, PE.out, TR.out, BR.out⟩, by simpa [intOf] using HMI.out⟩
    ·obtain rfl : k = fl := by omega
     have y1 : ¬ ((k : Int) < (k : Int)) := by omega
     have PE := qH (PR.out.next HS.out (.inl HFL.out))
     go_wp2_with fail
     exact ⟨⟨ag, i + 1, _, HI.out, rfl, by congr 1, PE.out, TR.out, BR.out⟩, by simpa [intOf] using HMI.out⟩
   ·obtain rfl : i = S.length := by omega
    have x1 : ¬ ((S.length : Int) < (S.length : Int)) := by omega
    go_wp2_with fail
    exact ⟨⟨ag, _, rfl, PR.out.all, TR.out, BR.out⟩, PR.out.far TQ.out TR.out⟩
end Go.Proofs.Ytmcpfaaakmehdaa
