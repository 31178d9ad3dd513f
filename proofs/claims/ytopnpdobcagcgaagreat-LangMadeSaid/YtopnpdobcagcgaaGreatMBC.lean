/-
  Texts of this proof, put together: LwX, LwXe. No statement is proved here.
-/
import Derived.Test.YtopnpdobcagcgaaGreatMBB
import Derived.Test.YtopnpdobcagcgaaGreatMX
namespace Go.Proofs.YtopnpdobcagcgaaGreat
open Go.RowKit
set_option linter.unusedSimpArgs false
set_option linter.unusedVariables false
theorem inf_ptr : (Tryz.prog.info? 53).map (fun i => (i.zero, i.size, i.bytes)) = some (some (.pointer none), 1, 8) := by kernel_rfl
theorem inf_setS : (Tryz.prog.info? 26).map (fun i => (i.zero, i.size, i.bytes)) = some (some (.agg (wds fun _ => false).toArray), 4, 32) := by kernel_rfl
theorem builtM (k : Int) : Tryz.prog.built 68 [(0, .int .i64 k)] = some (mcl k zeroS (.slice none 0 0) zeroS (.slice none 0 0)).toArray := by kernel_rfl
section
variable {P : Program} {w : World} {ops : Array Oper} {rest : List Oper} {o : Oper} {a : Act} {Q : Exit → Act → World → Prop} {K : Act → World → Prop}
theorem wp_appW {base : Nat} (s x : Operand) (t : TypeId)
  (ho : o.op = .call { callee := .builtin .append, args := #[s, x], argTypes := #[t, t] })
  (e : TypeId) (i : TypeInfo) (z : Value) (bytes : Nat) (ht : P.underlying t = some (.slice e)) (hi : P.info? e = some i) (hz : i.zero = some z)
  (hsize : i.size = 1) (hby : i.bytes = bytes) (hzs : z.cells.size = 1)
  (v : Value) (n : Nat) (xs : List Value) (hs : a.eval s = v) (hown : w.ownsRow base e 1 v n xs)
  (u : Value) (news : List Value) (hx : a.eval x = u) (hr : Row w u news) (h1 : ∀ u ∈ news, u.oneCell' = true)
  (hlen : n + news.length ≤ 2097152) (hby2 : bytes ≤ 1000) (hb : base ≤ w.heap.size)
  (h : ∀ v' w', w'.ownsRow base e 1 v' (n + news.length) (xs ++ news) → w.grownBy w' v.ownBlock → (∀ k, v'.ownBlock = some k → v.ownBlock = some k ∨ w.heap.size ≤ k) → K (a.put o.dst v') w') : o.wp P a w K Q := by
 have hm : (n + news.length) * bytes ≤ 2097152 * 1000 := Nat.mul_le_mul hlen hby2
 obtain ⟨A, cap, rfl, hl, hmx, h0, hc⟩ := hr
 cases A with
 | none =>
  have hcap : cap = 0 := h0 rfl
  subst hcap
  have hn : news = [] := List.eq_nil_of_length_eq_zero (by omega)
  subst hn
  have hrun := run_append_owned_none (P := P) (w := w) base t o.type e i 1 ht hi v n xs hown
  unfold Oper.wp
  simp at hx
  simp [execOp, ho, resolve, invoke, builtin, hs, hx, hrun, Result.andThen]
  exact h v w (by simpa using hown) (World.grownBy.refl _ _) fun k hk => .inl hk
 | some ad =>
  have hnews : ∀ j u, news[j]? = some u → w.cell? (ad.add j) = some u := by
   intro j u hj
   obtain ⟨b, off, hA, _, hcell⟩ := hc (by intro e; rw [e] at hj; simp at hj)
   injection hA with hA
   subst hA
   rw [Addr.add_lit]
   exact hcell j u hj
  obtain ⟨v', w', hrun, hown', hgr, _⟩ := run_append_own (P := P) w base t o.type e i z 1 bytes ht hi hz hsize hby hzs (by omega) v n xs hown ad news.length cap news (by omega) hnews h1 (by unfold maxLen; omega) (by omega) hb
  have hwh := append_where (P := P) (w := w) base t o.type e i z 1 bytes ht hi hz hsize hby (by omega) v n xs hown ad news.length cap news (by omega) hnews h1 (by unfold maxLen; omega) (by omega) hrun
  unfold Oper.wp execOp
  simp only [ho, resolve, invoke, builtin, Sem.run_bind, Sem.run_pure, Result.andThen_ok, List.map_toArray, List.map_cons, List.map_nil, hs, hx, hrun]
  exact h v' w' hown' hgr hwh
theorem wp_bldP (t e : TypeId) (x : Operand) (ho : o.op = .buildSlice t 1 #[(0, x)]) (i : TypeInfo) (ht : P.underlying t = some (.slice e)) (hi : P.info? e = some i) (z : Option Addr) (hz : i.zero = some (.pointer z)) (hs : i.size = 1) (p : Option Addr) (hx : a.eval x = .pointer p)
  (h : ∀ w', Row w' (.slice (some ⟨w.heap.size, 0, none⟩) 1 1) [.pointer p] → Below w.heap.size w w' → K (a.put o.dst (.slice (some ⟨w.heap.size, 0, none⟩) 1 1)) w') : o.wp P a w K Q := by
 have hzv : (zeroValue e).run P w = .ok (.pointer z) w := by simp [zeroValue, typeInfo, hi, hz]
 have hrun : (Instr.buildSlice t 1 #[(0, .pointer p)]).run P w = .ok (.slice (some ⟨w.heap.size, 0, none⟩) 1 1) (w.alloc (.cells [Value.pointer p].toArray e)) := by
  simp [Instr.buildSlice, run_underlying ht, sizeOf, typeInfo, hi, hs, hzv, Value.cells, Instr.fill, Array.range_succ, Array.range_zero', newRow]
 unfold Oper.wp
 simp only [execOp, ho, List.map_toArray, List.map_cons, List.map_nil, hx, hrun, Sem.run_bind, Result.andThen_ok, Sem.run_pure]
 have hb := Blk.new w e [Value.pointer p]
 have hr : Row (w.alloc (.cells [Value.pointer p].toArray e)) (.slice (some ⟨w.heap.size, 0, none⟩) 1 1) [.pointer p] :=
  Row.of_own (hb.own (Nat.zero_le _) (by simp [maxLen]))
 exact h _ hr ((Below.refl _ _).alloc (Nat.le_refl _) _)
theorem made_flatS (n : Nat) : madeCells (wds fun _ => false).toArray (n * 4) = (flatS n fun _ _ => false).toArray := by
 apply Array.ext'
 simp only [madeCells, Array.toList_map, Array.toList_range]
 apply List.ext_getElem?
 intro i
 by_cases hi : i < n * 4
 ·have e : i = i / 4 * 4 + i % 4 := by omega
  have h2 : i % 4 < 4 := Nat.mod_lt _ (by omega)
  have hR := flatS_get (fun _ _ => false) n (i / 4) (i % 4) (by omega) h2
  rw [← e] at hR
  rw [hR]
  have hr : (List.range (n * 4))[i]? = some i := by simp [hi]
  rw [List.getElem?_map, hr, Option.map_some]
  have h4 : i % 4 = 0 ∨ i % 4 = 1 ∨ i % 4 = 2 ∨ i % 4 = 3 := by omega
  have hsz : (wds fun _ => false).toArray.size = 4 := rfl
  rw [hsz]
  rcases h4 with h | h | h | h <;> (rw [h]; rfl)
 ·rw [List.getElem?_eq_none (by simp; omega), List.getElem?_eq_none (by simp [flatS_len]; omega)]
theorem wpList_mkS (hg : o.guard = none) (l c : Operand) (t e : TypeId) (hop : o.op = Op.makeSlice t l c) (i : TypeInfo) (h1 : P.underlying t = some (.slice e)) (h2 : P.info? e = some i) (h3 : i.zero = some (.agg (wds fun _ => false).toArray)) (h4 : i.size = 4) (h5 : i.bytes = 32)
  (n : Nat) (hl : a.eval l = .int .i64 (n : Int)) (hc : a.eval c = .int .i64 (n : Int)) (hn : n ≤ 1048576)
  (hK : ∀ w', Blk w' w.heap.size e (flatS n fun _ _ => false) → Below w.heap.size w w' → w'.heap.size = w.heap.size + 1 → wpList P ops Q rest (a.put o.dst (.slice (some ⟨w.heap.size, 0, none⟩) n n)) w') :
  wpList P ops Q (o :: rest) a w := by
 refine wpList_plain hg fun K hK' => ?_
 have hrun := run_make (P := P) w t e i _ h1 h2 h3 .i64 .i64 n n (by omega) (Int.le_refl _) (by rw [h5]; omega) (by omega)
 simp only [Int.toNat_natCast, h4, Value.cells, made_flatS] at hrun
 unfold Oper.wp
 simp [execOp, hop, hl, hc, hrun, Result.andThen]
 exact hK' _ _ (hK _ (Blk.new w e _) ((Below.refl _ _).alloc (Nat.le_refl _) _) (by simp))
end
def iv (m : Nat × Nat × Nat) (k : Nat) : Prop := m.2.1 ≤ k ∧ k < m.2.2
def ptrs (ms : List (Nat × Nat × Nat)) : List Value := ms.map fun m => .pointer (some ⟨m.1, 0, none⟩)
structure Mk (W : List UInt8) (base g : Nat) (l : List T) (j : Nat) (v : Value) (ms : List (Nat × Nat × Nat)) (w : World) : Prop where
 len : ms.length = j
 own : w.ownsRow base 53 1 v j (ptrs ms)
 mat : ∀ (i : Nat) (m : Nat × Nat × Nat) (t : T), ms[i]? = some m → l[i]? = some t → Mat W w (iv m) m.1 t
 ivs : ∀ m ∈ ms, base ≤ m.2.1 ∧ m.2.2 ≤ w.heap.size ∧ ∀ q, v.ownBlock = some q → ¬ iv m q
 apart : ms.Pairwise fun a b => a.2.2 ≤ b.2.1
theorem Mk.stay {W : List UInt8} {base g : Nat} {l : List T} {j : Nat} {v : Value} {ms : List (Nat × Nat × Nat)} {w w' : World} (h : Mk W base g l j v ms w) (hb : Below w.heap.size w w') : Mk W base g l j v ms w' where
 len := h.len
 own := own6_stay h.own fun k hk => hb.block k (own6_lt h.own k hk).1
 mat := fun i m t hi ht => (h.mat i m t hi ht).stay fun k hk => hb.block k (Nat.lt_of_lt_of_le hk.2 (h.ivs m (List.mem_of_getElem? hi)).2.1)
 ivs := fun m hm => ⟨(h.ivs m hm).1, Nat.le_trans (h.ivs m hm).2.1 hb.size, (h.ivs m hm).2.2⟩
 apart := h.apart
theorem Mk.far {W : List UInt8} {base g : Nat} {l : List T} {j : Nat} {v : Value} {ms : List (Nat × Nat × Nat)} {w w' : World} (h : Mk W base g l j v ms w) (hs : w'.heap.size = w.heap.size) (hg : g < base) (hb : ∀ k, k ≠ g → w'.heap[k]? = w.heap[k]?) : Mk W base g l j v ms w' where
 len := h.len
 own := own6_stay h.own fun k hk => hb k (by have := (own6_lt h.own k hk).2; omega)
 mat := fun i m t hi ht => (h.mat i m t hi ht).stay fun k hk => hb k (by have := (h.ivs m (List.mem_of_getElem? hi)).1; have := hk.1; omega)
 ivs := fun m hm => ⟨(h.ivs m hm).1, by rw [hs]; exact (h.ivs m hm).2.1, (h.ivs m hm).2.2⟩
 apart := h.apart
theorem Mk.snoc {W : List UInt8} {base g : Nat} {l : List T} {j : Nat} {v v' : Value} {ms : List (Nat × Nat × Nat)} {w w7 w8 w9 : World} (h : Mk W base g l j v ms w) (hbw : base ≤ w.heap.size) {u : T} (hu : l[j]? = some u) {g7 : Nat} (hm : Mat W w7 (iv (g7, w.heap.size, w7.heap.size)) g7 u)
  (hb7 : Below w.heap.size w w7) (hb8 : Below w7.heap.size w7 w8) (ho : w9.ownsRow base 53 1 v' (j + 1) (ptrs ms ++ [.pointer (some ⟨g7, 0, none⟩)])) (hg : w8.grownBy w9 v.ownBlock) (hw : ∀ k, v'.ownBlock = some k → v.ownBlock = some k ∨ w8.heap.size ≤ k) :
  Mk W base g l (j + 1) v' (ms ++ [(g7, w.heap.size, w7.heap.size)]) w9 := by
 have hq : ∀ q, v.ownBlock = some q → q < w.heap.size := fun q h2 => (own6_lt h.own q h2).1
 have h78 := hb7.trans (hb8.mono hb7.size)
 refine ⟨by simp [h.len], by simpa [ptrs] using ho, fun i m t hi ht => ?_, fun m hm2 => ?_, ?_⟩
 ·rw [List.getElem?_append] at hi
  split at hi
  ·have hmm := List.mem_of_getElem? hi
   obtain ⟨a1, a2, a3⟩ := h.ivs m hmm
   exact (h.mat i m t hi ht).stay fun k hk => (hg.block k (Nat.lt_of_lt_of_le hk.2 (Nat.le_trans a2 h78.size)) fun e => a3 k e.symm hk).trans (h78.block k (Nat.lt_of_lt_of_le hk.2 a2))
  ·rename_i hlt
   have hij : i = j := by
    have := (List.getElem?_eq_some_iff.1 hi).1
    simp at this
    have := h.len
    omega
   subst hij
   rw [hu] at ht
   injection ht with ht
   subst ht
   rw [h.len, Nat.sub_self] at hi
   have hi : some (g7, w.heap.size, w7.heap.size) = some m := hi
   injection hi with hi
   subst hi
   exact hm.stay fun k hk => (hg.block k (Nat.lt_of_lt_of_le hk.2 hb8.size) fun e => by have h1 := hq k e.symm; have h2 : w.heap.size ≤ k := hk.1; omega).trans (hb8.block k hk.2)
 ·rcases List.mem_append.1 hm2 with hm2 | hm2
  ·obtain ⟨a1, a2, a3⟩ := h.ivs m hm2
   refine ⟨a1, Nat.le_trans a2 (Nat.le_trans h78.size hg.size), fun q hq2 hk => ?_⟩
   rcases hw q hq2 with h1 | h1
   ·exact a3 q h1 hk
   ·have h2 := h78.size
    have h3 := hk.2
    omega
  ·obtain rfl := List.mem_singleton.1 hm2
   refine ⟨hbw, Nat.le_trans hb8.size hg.size, fun q hq2 hk => ?_⟩
   have h3 : w.heap.size ≤ q := hk.1
   have h4 : q < w7.heap.size := hk.2
   rcases hw q hq2 with h1 | h1
   ·have := hq q h1
    omega
   ·have h2 := hb8.size
    omega
 ·rw [List.pairwise_append]
  refine ⟨h.apart, List.pairwise_singleton _ _, fun a ha b hb => ?_⟩
  obtain rfl := List.mem_singleton.1 hb
  exact (h.ivs a ha).2.1
theorem Mk.done {W : List UInt8} {base g : Nat} {k : Int} {s : Nat → Bool} {l : List T} {v tb : Value} {ms : List (Nat × Nat × Nat)} {w : World} (h : Mk W base g l l.length v ms w) (hg : g < base) {B : Nat} (hB : B ≤ g) (hbs : base ≤ w.heap.size)
  (hblk : Blk w g 68 (mcl k (if k = 3 then hitP s W else zeroS) v zeroS tb))
  (ht : k = 6 → l.length = 1 → ∃ tg, tb = .slice (some ⟨tg, 0, none⟩) (W.length + 1) (W.length + 1) ∧ B ≤ tg ∧ tg < base ∧ tg ≠ g ∧ Blk w tg 26 (flatS (W.length + 1) fun _ _ => false))
  (hn : ¬ (k = 6 ∧ l.length = 1) → tb = .slice none 0 0) : Mat W w (fun q => B ≤ q ∧ q < w.heap.size) g (.node k s l) := by
 have hrow := Row.of_own h.own
 have hpl : (ptrs ms).length = l.length := by simp [ptrs, h.len]
 obtain ⟨A, cap, hv, h1, h2, h0, h3⟩ := hrow
 rw [hpl] at hv h1
 subst hv
 refine .node A cap (fun i => (ms[i]?.map (·.1)).getD 0) (fun i q => ∃ m, ms[i]? = some m ∧ iv m q) zeroS tb ⟨hB, hblk.lt⟩ (fun i ⟨m, hm, hi⟩ => ?_) hblk h1 h2 (fun hne => ?_) (fun hk x hx => ?_) hn (fun i q ⟨m, hm, hi⟩ => ?_) (fun i j q ⟨m, hm, hi⟩ ⟨m', hm', hi'⟩ => ?_) (fun i t ht => ?_)
 ·have := (h.ivs m (List.mem_of_getElem? hm)).1
  have := hi.1
  omega
 ·obtain ⟨b, off, hA, hb, hc⟩ := h3 (by intro e; rw [← List.length_eq_zero_iff, hpl] at e; exact hne (List.eq_nil_of_length_eq_zero e))
  subst hA
  have hbl := (own6_lt h.own b rfl).2
  refine ⟨b, off, rfl, ⟨by omega, hb⟩, by omega, fun i ⟨m, hm, hi⟩ => (h.ivs m (List.mem_of_getElem? hm)).2.2 b rfl hi, fun i hi => ?_⟩
  have hmi : ms[i]? = some (ms[i]'(by rw [h.len]; exact hi)) := List.getElem?_eq_getElem _
  rw [hmi]
  exact hc i _ (by simp only [ptrs, List.getElem?_map, hmi, Option.map_some]; rfl)
 ·obtain ⟨tg, e, a1, a2, a3, a4⟩ := ht hk (by rw [hx]; rfl)
  refine ⟨tg, _, e, ⟨a1, a4.lt⟩, a3, fun i ⟨m, hm, hi⟩ => ?_, fun b off hA => ?_, a4, fun p hp hkn => by cases hkn⟩
  ·have := (h.ivs m (List.mem_of_getElem? hm)).1
   have := hi.1
   omega
  ·subst hA
   have hbl := (own6_lt h.own b rfl).2
   omega
 ·obtain ⟨a1, a2, _⟩ := h.ivs m (List.mem_of_getElem? hm)
  have := hi.1
  have := hi.2
  exact ⟨by omega, by omega⟩
 ·rcases Nat.lt_trichotomy i j with h4 | h4 | h4
  ·have := List.pairwise_iff_getElem.1 h.apart i j (List.getElem?_eq_some_iff.1 hm).1 (List.getElem?_eq_some_iff.1 hm').1 h4
   rw [(List.getElem?_eq_some_iff.1 hm).2, (List.getElem?_eq_some_iff.1 hm').2] at this
   have := hi.2
   have := hi'.1
   omega
  ·exact h4
  ·have := List.pairwise_iff_getElem.1 h.apart j i (List.getElem?_eq_some_iff.1 hm').1 (List.getElem?_eq_some_iff.1 hm).1 h4
   rw [(List.getElem?_eq_some_iff.1 hm).2, (List.getElem?_eq_some_iff.1 hm').2] at this
   have := hi'.2
   have := hi.1
   omega
 ·have hi : i < ms.length := by rw [h.len]; exact (List.getElem?_eq_some_iff.1 ht).1
  have hmi : ms[i]? = some ms[i] := List.getElem?_eq_getElem hi
  rw [hmi]
  exact (h.mat i _ t hmi ht).mono fun k hk => ⟨_, rfl, hk⟩
theorem wpList_stS {P : Program} {w : World} {ops : Array Oper} {rest : List Oper} {o : Oper} {a : Act} {Q : Exit → Act → World → Prop} (hgd : o.guard = none) (ty : TypeId) (x y : Operand) (ho : o.op = .store ty x y)
  (g off : Nat) (q : Nat → Bool) (hx : a.eval x = .pointer (some ⟨g, off, none⟩)) (hy : a.eval y = .agg (wds q).toArray) (ht : w.there g off 4) (hi : (P.info? ty).map (·.size) = some 4)
  (h : ∀ w', w' = w.setCells g off (wds q) → wpList P ops Q rest (a.put o.dst undef) w') : wpList P ops Q (o :: rest) a w :=
 wpList_store_mid hgd ty x y ho g off (wds q).toArray hx hy ht hi (wds_allA q) (h _ (by simp))
theorem st_ms {ev : Operand → Value} {o : Oper} (x y : Operand) (ho : o.op = .store 65 x y) {b i : Nat} (hx : ev x = .pointer (some ⟨b, i, none⟩)) {A : Option Addr} {n c : Nat} (hy : ev y = .slice A n c) {W : World} {u : Value} (hc : W.cell? ⟨b, i, none⟩ = some u) (hf : W.frozen? ⟨b, i, none⟩ = false) :
  (execOp ev o).run Tryz.prog W = .ok .skip (W.setCell ⟨b, i, none⟩ (.slice A n c)) := by
 simp only [execOp, ho, hx, hy]
 go_simp
theorem st_ss {ev : Operand → Value} {o : Oper} (x y : Operand) (ho : o.op = .store 66 x y) {b i : Nat} (hx : ev x = .pointer (some ⟨b, i, none⟩)) {A : Option Addr} {n c : Nat} (hy : ev y = .slice A n c) {W : World} {u : Value} (hc : W.cell? ⟨b, i, none⟩ = some u) (hf : W.frozen? ⟨b, i, none⟩ = false) :
  (execOp ev o).run Tryz.prog W = .ok .skip (W.setCell ⟨b, i, none⟩ (.slice A n c)) := by
 simp only [execOp, ho, hx, hy]
 go_simp
theorem wp_of_step {P : Program} {w w' : World} {o : Oper} {a : Act} {K : Act → World → Prop} {Q : Exit → Act → World → Prop} (h : (execOp a.eval o).run P w = .ok .skip w') (hk : K (a.put o.dst undef) w') : o.wp P a w K Q := by
 unfold Oper.wp
 rw [h]
 exact hk
theorem wpList_step {P : Program} {w w' : World} {ops : Array Oper} {rest : List Oper} {o : Oper} {a : Act} {Q : Exit → Act → World → Prop} (hg : o.guard = none) (h : (execOp a.eval o).run P w = .ok .skip w')
  (hk : ∀ w'', w'' = w' → wpList P ops Q rest (a.put o.dst undef) w'') : wpList P ops Q (o :: rest) a w :=
 wpList_plain hg fun _ hK => wp_of_step h (hK _ _ (hk _ rfl))
def MatchC (N : Nat) : Prop := ∀ t : T, t.nodes ≤ N → t.nodes ≤ 2000 → ∀ W : List UInt8, W.length ≤ 200 → ∀ (V : Value) (cs : List Value) (w : World), Row w V (bvs W) → RxV w.heap.size w cs t →
  Calls Tryz.prog 31 #[.agg cs.toArray, V] w fun e w' => ∃ g, e = .returned (.pointer (some ⟨g, 0, none⟩)) ∧ Mat W w' (fun k => w.heap.size ≤ k ∧ k < w'.heap.size) g t ∧ Below w.heap.size w w'
def TabW (W : List UInt8) (B g : Nat) (w : World) (tb : Value) : Prop :=
 ∃ tg, tb = .slice (some ⟨tg, 0, none⟩) (W.length + 1) (W.length + 1) ∧ B ≤ tg ∧ tg < w.heap.size ∧ tg ≠ g ∧ Blk w tg 26 (flatS (W.length + 1) fun _ _ => false)
set_option maxHeartbeats 32000000 in
set_option maxRecDepth 1000000 in
theorem lMatch_any : ∀ N : Nat, MatchC N := by
 intro N
 induction N with
 | zero => intro t h; have := nodes_pos t; omega
 | succ N ih =>
  rintro ⟨k, s, l⟩ hN hM W hW V cs w hr hv
  have IH := qH ih
  clear ih
  obtain ⟨A, cap, f, hcs, h1, h2, h0, h3, h4⟩ := hv.opened
  have H3 := qH h3
  have H4 := qH h4
  have HNN := qH (show T.nodes (.node k s l) = 1 + nodesL l by simp only [T.nodes])
  rw [HNN.out] at hN hM
  have HN := qH hN
  have HM := qH hM
  have HLL := qH (len_nodes l)
  have HCM := qH h2
  have HCL := qH h1
  have HW := qH hW
  have RV := qH hr
  have hr0 := hr
  have HC0 := qH (show cs[0]? = some (.int .i64 k) by rw [hcs]; rfl)
  have HC5 := qH (show cs[5]? = some (.slice A l.length cap) by rw [hcs]; rfl)
  have HCS := qH hcs
  obtain ⟨ix, hix, hx0, hx1, hx2⟩ := inf_rx'
  obtain ⟨ip, hip, hp0, hp1, hp2⟩ := infoP inf_ptr
  obtain ⟨z, hz⟩ : ∃ z, z = rxc 0 zeroS (.slice none 0 0) := ⟨_, rfl⟩
  have HZL := qH (show z.length = 6 by rw [hz]; rfl)
  have HZ0 := qH (show ix.zero = some (.agg z.toArray) by rw [hz]; exact hx0)
  obtain ⟨AV, cV, hVs, _⟩ := hr
  rw [bvs_length] at hVs
  have HVV := qH hVs
  clear hv h1 h2 h0 h3 h4 hcs hN hM hW hz hx0
  subst hVs
  by_cases k3 : k = 3
  focus
   have z3 : (k == 3) = true := by simpa using k3
   have z6 : (k == 6) = false := by rw [k3]; rfl
   have HK := qH k3
   obtain ⟨hp, hhp⟩ : ∃ hp, hp = hitP s W := ⟨_, rfl⟩
   have HHP := qH hhp
   have RVW := qH hr0
   clear hr0 hhp k3
   go_enter Tryz.func31, Tryz.ntmps31
   go_wp2_with (first
    | ((with_reducible refine atDst 2 ?_); refine wpList_box rfl 29 _ rfl cs rfl (Below.refl w.heap.size w) (Nat.le_refl _) ?_; intro w1 hk1 hb1 hs1 _; have K1 := qH hk1; have B1 := qH hb1; have c0 := K1.out.cell 0; rw [HC0.out] at c0; clear hk1 hb1 hs1; (try simp only [Act.put, qA, qB, qC]))
    | ((with_reducible refine atDst 10 ?_); refine wpList_bld rfl 68 _ rfl (mcl k zeroS (.slice none 0 0) zeroS (.slice none 0 0)) (builtM k) ?_; (try simp only [Act.put, qA, qB, qC]))
    | ((with_reducible refine atDst 11 ?_); refine wpList_box rfl 68 _ rfl (mcl k zeroS (.slice none 0 0) zeroS (.slice none 0 0)) rfl B1.out B1.out.size ?_; intro w2 hk2 hb2 hs2 ho2; have G2 := qH hk2; have B2 := qH hb2; have K2 := qH (show Blk w2 w.heap.size 29 cs from (ho2 _ K1.out.lt).trans K1.out); have c0 := K2.out.cell 0; rw [HC0.out] at c0; have c5 := K2.out.cell 5; rw [HC5.out] at c5; have HGL := qH K1.out.lt; have S2 := qH hs2; clear hk2 hb2 hs2 ho2; (try simp only [Act.put, qA, qB, qC]))
    | ((with_reducible refine atDst 18 ?_); refine wpList_ldMidG rfl 26 _ rfl w.heap.size 1 rfl (wds s) _ (set_range' HCS.out K2.out) Tryz.underlying26 rfl (size_set s) ?_; (try simp only [Act.put, qA, qB, qC])))
   refine (lHits_any s _ W w2 (RV.out.below B2.out) HW.out).mono ?_
   rintro e w3 ⟨rfl, hb3⟩
   rw [← HHP.out]
   have B3 := qH (B2.out.trans (hb3.mono B2.out.size))
   have G3 := qH (G2.out.below hb3 G2.out.lt)
   have K3 := qH (K2.out.below hb3 K2.out.lt)
   clear hb3
   go_wp2_with ((with_reducible refine atStore 26 22 20 ?_); refine wpList_stS rfl 26 _ _ rfl w1.heap.size 1 hp rfl rfl (blk_there G3.out 1 4 (by simp [mcl_len])) (size_set hp) ?_; intro wL hw4; have OF4 := qH (show Off (fun q => q = w1.heap.size) w3 wL by rw [hw4]; exact Off.setCells (D := fun q => q = w1.heap.size) rfl _ _ _); have GL := qH (show Blk wL w1.heap.size 68 (mcl k hp (.slice none 0 0) zeroS (.slice none 0 0)) by rw [hw4]; exact mcl_hits G3.out hp); have BL := qH (B3.out.trans (OF4.out.below (B := w.heap.size) (fun q hq => by rw [hq]; exact Nat.le_of_lt HGL.out) B3.out.size)); have KL := qH (show Blk wL w.heap.size 29 cs from OF4.out.blk (Nat.ne_of_lt HGL.out) K3.out); have d0 := KL.out.cell 0; rw [HC0.out] at d0; have d5 := KL.out.cell 5; rw [HC5.out] at d5; clear hw4; (try simp only [Act.put, qA, qB, qC]))
   obtain ⟨sv, hsv⟩ : ∃ x, x = hp := ⟨_, rfl⟩
   obtain ⟨tb, htb⟩ : ∃ x : Value, x = .slice none 0 0 := ⟨_, rfl⟩
   have GL := qH (show Blk wL w1.heap.size 68 (mcl k sv (.slice none 0 0) zeroS tb) by rw [hsv, htb]; exact GL.out)
   have HSV := qH (show (if k = 3 then hitP s W else zeroS) = sv by rw [if_pos HK.out, hsv, HHP.out])
   have HTB := qH (show k = 6 → l.length = 1 → TabW W w.heap.size w1.heap.size wL tb from fun h => by have := HK.out; omega)
   have HTN := qH (show ¬ (k = 6 ∧ l.length = 1) → tb = .slice none 0 0 from fun _ => htb)
   clear hsv htb
  rotate_left
  by_cases k6 : k = 6
  by_cases hl : l.length = 1
  focus
   have z3 : (k == 3) = false := by simpa using k3
   have z6 : (k == 6) = true := by simpa using k6
   have HK3 := qH k3
   have HK6 := qH k6
   have zl : ((l.length : Int) == 1) = true := by rw [hl]; rfl
   have HL1 := qH hl
   obtain ⟨n, hn⟩ : ∃ n, n = W.length + 1 := ⟨_, rfl⟩
   have HNW := qH hn
   have n1 : IntKind.i64.wrap ((W.length : Int) + 1) = (n : Int) := by rw [hn]; exact IntWalk.i64_in _ (by have := HW.out; omega)
   have n2 : wrap64 ((W.length : Int) + 1) = (n : Int) := by rw [hn]; exact IntWalk.wrap64_in _ (by have := HW.out; omega)
   obtain ⟨is, his, hs0, hs1, hs2⟩ := infoP inf_setS
   clear hl hn k3 k6 hr0
   go_enter Tryz.func31, Tryz.ntmps31
   go_wp2_with (first
    | ((with_reducible refine atDst 2 ?_); refine wpList_box rfl 29 _ rfl cs rfl (Below.refl w.heap.size w) (Nat.le_refl _) ?_; intro w1 hk1 hb1 hs1 _; have K1 := qH hk1; have B1 := qH hb1; have c0 := K1.out.cell 0; rw [HC0.out] at c0; clear hk1 hb1 hs1; (try simp only [Act.put, qA, qB, qC]))
    | ((with_reducible refine atDst 10 ?_); refine wpList_bld rfl 68 _ rfl (mcl k zeroS (.slice none 0 0) zeroS (.slice none 0 0)) (builtM k) ?_; (try simp only [Act.put, qA, qB, qC]))
    | ((with_reducible refine atDst 11 ?_); refine wpList_box rfl 68 _ rfl (mcl k zeroS (.slice none 0 0) zeroS (.slice none 0 0)) rfl B1.out B1.out.size ?_; intro w2 hk2 hb2 hs2 ho2; have G2 := qH hk2; have B2 := qH hb2; have K2 := qH (show Blk w2 w.heap.size 29 cs from (ho2 _ K1.out.lt).trans K1.out); have c0 := K2.out.cell 0; rw [HC0.out] at c0; have c5 := K2.out.cell 5; rw [HC5.out] at c5; have HGL := qH K1.out.lt; have S2 := qH hs2; clear hk2 hb2 hs2 ho2; (try simp only [Act.put, qA, qB, qC]))
    | ((with_reducible refine atDst 37 ?_); refine wpList_mkS rfl _ _ 66 26 rfl is Tryz.underlying66 his hs0 hs1 hs2 n rfl rfl (by have := HNW.out; have := HW.out; omega) ?_; intro w3 hk3 hb3 hs3; have T3 := qH hk3; have S3 := qH hs3; have G3 := qH (G2.out.below hb3 G2.out.lt); have K3 := qH (K2.out.below hb3 K2.out.lt); have B3 := qH (B2.out.trans (hb3.mono B2.out.size)); clear zl n1 n2 hk3 hb3 hs3; (try simp only [Act.put, qA, qB, qC]))
    | ((with_reducible refine atStore 66 39 37 ?_); refine wpList_step rfl (st_ss (.tmp 39) (.tmp 37) rfl rfl rfl (mcl_at G3.out).2.2.1 (G3.out.frozen 10)) ?_; intro wL hw4; have OF4 := qH (show Off (fun q => q = w1.heap.size) w3 wL by rw [hw4]; exact Off.set _ _ _ rfl); have GL := qH (show Blk wL w1.heap.size 68 (mcl k zeroS (.slice none 0 0) zeroS (.slice (some ⟨w2.heap.size, 0, none⟩) n n)) by rw [hw4]; exact G3.out.set 10 _); have BL := qH (B3.out.trans (OF4.out.below (B := w.heap.size) (fun q hq => by rw [hq]; exact Nat.le_of_lt HGL.out) B3.out.size)); have KL := qH (show Blk wL w.heap.size 29 cs from OF4.out.blk (Nat.ne_of_lt HGL.out) K3.out); have TL := qH (show Blk wL w2.heap.size 26 (flatS n fun _ _ => false) from OF4.out.blk (Ne.symm (Nat.ne_of_lt G2.out.lt)) T3.out); have d0 := KL.out.cell 0; rw [HC0.out] at d0; have d5 := KL.out.cell 5; rw [HC5.out] at d5; clear hw4; (try simp only [Act.put, qA, qB, qC])))
   obtain ⟨sv, hsv⟩ : ∃ x, x = zeroS := ⟨_, rfl⟩
   obtain ⟨tb, htb⟩ : ∃ x : Value, x = .slice (some ⟨w2.heap.size, 0, none⟩) n n := ⟨_, rfl⟩
   have GL := qH (show Blk wL w1.heap.size 68 (mcl k sv (.slice none 0 0) zeroS tb) by rw [hsv, htb]; exact GL.out)
   have HSV := qH (show (if k = 3 then hitP s W else zeroS) = sv by rw [if_neg HK3.out, hsv])
   have HTB := qH (show k = 6 → l.length = 1 → TabW W w.heap.size w1.heap.size wL tb from fun _ _ => ⟨w2.heap.size, by rw [htb, HNW.out], B2.out.size, TL.out.lt, Ne.symm (Nat.ne_of_lt G2.out.lt), by rw [← HNW.out]; exact TL.out⟩)
   have HTN := qH (show ¬ (k = 6 ∧ l.length = 1) → tb = .slice none 0 0 from fun h => absurd ⟨HK6.out, HL1.out⟩ h)
   clear hsv htb
  rotate_left
  focus
   have z3 : (k == 3) = false := by simpa using k3
   have z6 : (k == 6) = true := by simpa using k6
   have HK3 := qH k3
   have HK6 := qH k6
   have zl : ((l.length : Int) == 1) = false := by rw [beq_eq_false_iff_ne]; omega
   have HL1 := qH hl
   clear hl k3 k6 hr0
   go_enter Tryz.func31, Tryz.ntmps31
   go_wp2_with (first
    | ((with_reducible refine atDst 2 ?_); refine wpList_box rfl 29 _ rfl cs rfl (Below.refl w.heap.size w) (Nat.le_refl _) ?_; intro w1 hk1 hb1 hs1 _; have K1 := qH hk1; have B1 := qH hb1; have c0 := K1.out.cell 0; rw [HC0.out] at c0; clear hk1 hb1 hs1; (try simp only [Act.put, qA, qB, qC]))
    | ((with_reducible refine atDst 10 ?_); refine wpList_bld rfl 68 _ rfl (mcl k zeroS (.slice none 0 0) zeroS (.slice none 0 0)) (builtM k) ?_; (try simp only [Act.put, qA, qB, qC]))
    | ((with_reducible refine atDst 11 ?_); refine wpList_box rfl 68 _ rfl (mcl k zeroS (.slice none 0 0) zeroS (.slice none 0 0)) rfl B1.out B1.out.size ?_; intro w2 hk2 hb2 hs2 ho2; have G2 := qH hk2; have B2 := qH hb2; have K2 := qH (show Blk w2 w.heap.size 29 cs from (ho2 _ K1.out.lt).trans K1.out); have c0 := K2.out.cell 0; rw [HC0.out] at c0; have c5 := K2.out.cell 5; rw [HC5.out] at c5; have HGL := qH K1.out.lt; have S2 := qH hs2; clear hk2 hb2 hs2 ho2; (try simp only [Act.put, qA, qB, qC]))
    )
   obtain ⟨wL, hwL⟩ : ∃ v : World, v = w2 := ⟨_, rfl⟩
   subst hwL
   obtain ⟨sv, hsv⟩ : ∃ x, x = zeroS := ⟨_, rfl⟩
   obtain ⟨tb, htb⟩ : ∃ x : Value, x = .slice none 0 0 := ⟨_, rfl⟩
   have GL := qH (show Blk wL w1.heap.size 68 (mcl k sv (.slice none 0 0) zeroS tb) by rw [hsv, htb]; exact G2.out)
   have BL := B2
   have KL := K2
   have HSV := qH (show (if k = 3 then hitP s W else zeroS) = sv by rw [if_neg HK3.out, hsv])
   have HTB := qH (show k = 6 → l.length = 1 → TabW W w.heap.size w1.heap.size wL tb from fun _ h => absurd h HL1.out)
   have HTN := qH (show ¬ (k = 6 ∧ l.length = 1) → tb = .slice none 0 0 from fun _ => htb)
   clear hsv htb
  rotate_left
  focus
   have z3 : (k == 3) = false := by simpa using k3
   have z6 : (k == 6) = false := by simpa using k6
   have HK3 := qH k3
   have HK6 := qH k6
   clear k3 k6 hr0
   go_enter Tryz.func31, Tryz.ntmps31
   go_wp2_with (first
    | ((with_reducible refine atDst 2 ?_); refine wpList_box rfl 29 _ rfl cs rfl (Below.refl w.heap.size w) (Nat.le_refl _) ?_; intro w1 hk1 hb1 hs1 _; have K1 := qH hk1; have B1 := qH hb1; have c0 := K1.out.cell 0; rw [HC0.out] at c0; clear hk1 hb1 hs1; (try simp only [Act.put, qA, qB, qC]))
    | ((with_reducible refine atDst 10 ?_); refine wpList_bld rfl 68 _ rfl (mcl k zeroS (.slice none 0 0) zeroS (.slice none 0 0)) (builtM k) ?_; (try simp only [Act.put, qA, qB, qC]))
    | ((with_reducible refine atDst 11 ?_); refine wpList_box rfl 68 _ rfl (mcl k zeroS (.slice none 0 0) zeroS (.slice none 0 0)) rfl B1.out B1.out.size ?_; intro w2 hk2 hb2 hs2 ho2; have G2 := qH hk2; have B2 := qH hb2; have K2 := qH (show Blk w2 w.heap.size 29 cs from (ho2 _ K1.out.lt).trans K1.out); have c0 := K2.out.cell 0; rw [HC0.out] at c0; have c5 := K2.out.cell 5; rw [HC5.out] at c5; have HGL := qH K1.out.lt; have S2 := qH hs2; clear hk2 hb2 hs2 ho2; (try simp only [Act.put, qA, qB, qC]))
    )
   obtain ⟨wL, hwL⟩ : ∃ v : World, v = w2 := ⟨_, rfl⟩
   subst hwL
   obtain ⟨sv, hsv⟩ : ∃ x, x = zeroS := ⟨_, rfl⟩
   obtain ⟨tb, htb⟩ : ∃ x : Value, x = .slice none 0 0 := ⟨_, rfl⟩
   have GL := qH (show Blk wL w1.heap.size 68 (mcl k sv (.slice none 0 0) zeroS tb) by rw [hsv, htb]; exact G2.out)
   have BL := B2
   have KL := K2
   have HSV := qH (show (if k = 3 then hitP s W else zeroS) = sv by rw [if_neg HK3.out, hsv])
   have HTB := qH (show k = 6 → l.length = 1 → TabW W w.heap.size w1.heap.size wL tb from fun h => absurd h HK6.out)
   have HTN := qH (show ¬ (k = 6 ∧ l.length = 1) → tb = .slice none 0 0 from fun _ => htb)
   clear hsv htb
  all_goals
   have HBG := qH (show w1.heap.size < wL.heap.size from GL.out.lt)
   have k5 := KL.out.cell 5
   rw [HC5.out] at k5
   go_loopw [43] (fun i wl => ∃ (j : Nat) (ms : List (Nat × Nat × Nat)) (v : Value), j ≤ l.length ∧ i = .int .i64 (j : Int) ∧ Mk W wL.heap.size w1.heap.size l j v ms wl ∧ Blk wl w1.heap.size 68 (mcl k sv v zeroS tb) ∧ Off (fun q => q = w1.heap.size) wL wl) (fun i _ => l.length - (intOf i).toNat)
   case atStart => exact ⟨0, [], .slice none 0 0, by omega, by simp, ⟨rfl, ownN _ _ _, fun i m t h => (by simp at h), fun m h => (by cases h), List.Pairwise.nil⟩, GL.out, Off.refl _ _⟩
   case round =>
    obtain ⟨j, ms, v, hj, rfl, hm, hg, ho⟩ := hrel
    have MR := qH hm
    have GR := qH hg
    have OR := qH ho
    have BR := qH (BL.out.trans (ho.below (B := w.heap.size) (fun q hq => by rw [hq]; exact Nat.le_of_lt HGL.out) (Nat.le_trans (Nat.le_of_lt HGL.out) (Nat.le_of_lt HBG.out))))
    clear hm hg ho
    by_cases hjl : j < l.length
    ·have j1 : (j : Int) < (l.length : Int) := Int.ofNat_lt.2 hjl
     obtain ⟨b, off, rfl, hb, hrng⟩ := H3.out (by rintro rfl; simp at hjl)
     obtain ⟨u, hu⟩ : ∃ u, l[j]? = some u := ⟨_, List.getElem?_eq_getElem hjl⟩
     have HV := qH (RxV.part H4.out BR.out BR.out.size hu)
     have HV6 := qH HV.out.length
     have HV1 := qH (show (f j).all (·.oneCell') = true from List.all_eq_true.2 (RxD.one HV.out))
     have HRG := qH (range_below (hrng j hjl) BR.out hb)
     have HU := qH hu
     have HUN := qH (show u.nodes ≤ N by have h1 := nodes_mem (List.mem_of_getElem? hu); have := HN.out; omega)
     have HUM := qH (show u.nodes ≤ 2000 by have h1 := nodes_mem (List.mem_of_getElem? hu); have := HM.out; omega)
     have HJ1 := qH hjl
     have HJL := qH (show j + 1 ≤ 2097152 by have := HLL.out; have := HM.out; omega)
     have e3 := wrap_len hjl HCL.out HCM.out
     have e4 := wrap_len' hjl HCL.out HCM.out
     have RVR := qH (RV.out.below BR.out)
     have HBR := qH (show wL.heap.size ≤ wr.heap.size from OR.out.size)
     obtain ⟨Av, cv, hvs⟩ : ∃ Av cv, v = .slice Av j cv := by
      obtain ⟨Av, cv, hv, _⟩ := Row.of_own MR.out.own
      exact ⟨Av, cv, by rw [hv]; congr 1; simp [ptrs, MR.out.len]⟩
     have HVS := qH hvs
     clear hrng hu hb hj hjl hvs
     go_wp2_with (first
      | ((with_reducible refine atDst 46 ?_); refine wpList_load_mid rfl 29 _ rfl b (off + j * 6) rfl (f j) _ HRG.out Tryz.underlying29 rfl (size_rx HV6.out) ?_; (try simp only [Act.put, qA, qB, qC]))
      | ((with_reducible refine atDst 7 ?_); refine wpList_new rfl 29 rfl ix _ z hix HZ0.out rfl (Below.refl wr.heap.size wr) (Nat.le_refl _) ?_; intro w4 hk4 hb4 hs4 _; have K4 := qH hk4; have B4 := qH hb4; clear hk4 hb4 hs4; (try simp only [Act.put, qA, qB, qC]))
      | ((with_reducible refine atStore 29 7 46 ?_); refine wpList_stBlk rfl 29 _ _ rfl wr.heap.size (f j) rfl rfl 29 _ K4.out (size_rx HV6.out) (by rw [HZL.out, HV6.out]) HV1.out B4.out (Nat.le_refl _) ?_; intro w5 hk5 hb5 hs5 _; have K5 := qH hk5; have B5 := qH hb5; have G5 := qH (GR.out.below hb5 GR.out.lt); have M5 := qH (MR.out.stay hb5); clear hk5 hb5 hs5; (try simp only [Act.put, qA, qB, qC])))
     have HXG := qH (show ¬ (wr.heap.size = w1.heap.size ∨ v.ownBlock = some wr.heap.size) from by rintro (h | h); have := GR.out.lt; omega; have := (own6_lt MR.out.own _ h).1; omega)
     refine sg_start (S := fun V => Off (fun q => q = w1.heap.size ∨ v.ownBlock = some q) w5 V) (by kernel_rfl) (Off.start _ _) (fun wd hwd => ?_)
     have hX : Off (fun q => q = w1.heap.size ∨ v.ownBlock = some q) w5 wd := by rw [hwd]; exact Off.start _ _
     have BD := qH (show Below wr.heap.size wr wd by rw [hwd]; exact B5.out.drew)
     have GD := qH (show Blk wd w1.heap.size 68 (mcl k sv v zeroS tb) by rw [hwd]; exact G5.out)
     have MD := qH (show Mk W wL.heap.size w1.heap.size l j v ms wd from M5.out.stay (by rw [hwd]; exact (Below.refl _ _).drew))
     clear hwd
     refine sg_take (i := 0) (oi := ⟨some 47, _, _, _, _, _⟩) (v := ?_) rfl (by kernel_rfl) (by kernel_rfl) (by kernel_rfl) (fun _ _ _ h => h) rfl hX ?_ ?_; rotate_left; (intro W hW; go_simp; try with_reducible rfl); simp only [Act.put, qA, qB, qC]
     refine sg_take (i := 1) (oi := ⟨some 48, _, _, _, _, _⟩) (v := ?_) rfl (by kernel_rfl) (by kernel_rfl) (by kernel_rfl) (fun _ _ _ h => h) rfl hX ?_ ?_; rotate_left; (intro W hW; go_simp; try with_reducible rfl); simp only [Act.put, qA, qB, qC]
     refine sg_take (i := 2) (oi := ⟨some 49, _, _, _, _, _⟩) (v := ?_) rfl (by kernel_rfl) (by kernel_rfl) (by kernel_rfl) (fun _ _ _ h => h) rfl hX ?_ ?_; rotate_left; (intro W hW; go_simp; try with_reducible rfl); simp only [Act.put, qA, qB, qC]
     refine sg_take (i := 3) (oi := ⟨some 50, _, _, _, _, _⟩) (v := ?_) rfl (by kernel_rfl) (by kernel_rfl) (by kernel_rfl) (fun _ _ _ h => h) rfl hX ?_ ?_; rotate_left; (intro W hW; go_simp; try with_reducible rfl); simp only [Act.put, qA, qB, qC]
     refine sg_take (i := 5) (oi := ⟨some 52, _, _, _, _, _⟩) (v := .agg (f j).toArray) rfl (by kernel_rfl) (by kernel_rfl) (by kernel_rfl) (fun _ _ _ h => h) rfl hX (fun V hV => ld_keep 29 _ rfl wr.heap.size 0 rfl _ _ (fun i v hv => (K5.out.cell (0 + i)).trans (by rw [Nat.zero_add]; exact hv)) (hV.block _ K5.out.lt HXG.out) Tryz.underlying29 rfl (size_rx HV6.out)) ?_; simp only [Act.put, qA, qB, qC]
     refine sg_take (i := 6) (oi := ⟨some 53, _, _, _, _, _⟩) (v := ?_) rfl (by kernel_rfl) (by kernel_rfl) (by kernel_rfl) (fun _ _ _ h => h) rfl hX ?_ ?_; rotate_left; (intro W hW; go_simp; try with_reducible rfl); simp only [Act.put, qA, qB, qC]
     refine sg_two (i := 4) (j := 7) (oi := ⟨some 51, _, _, _, _, _⟩) (oj := ⟨some 54, _, _, _, _, _⟩) rfl rfl (by kernel_rfl) rfl rfl hX (fun K hK => ?_) (fun K hK => ?_)
     focus
      refine wp_of_run (ld_ms (.tmp 50) rfl rfl (by rw [(mcl_at GD.out).2.1, HVS.out])) ?_
      rw [← HVS.out]
      refine hK _ _ hX ?_
      clear hK K
      (try simp only [Act.put, qA, qB, qC])
      refine sg_actB (i := 7) (o := ⟨some 54, _, _, _, _, _⟩) rfl (by kernel_rfl) rfl hX (fun K hK => ?_)
      go_wp2_with fail
      refine (IH.out u HUN.out HUM.out W HW.out (.slice AV W.length cV) (f j) wd (RVR.out.below BD.out) (RxV.mono (HV.out.stay BD.out) BD.out.size)).mono ?_
      rintro e w7 ⟨g7, rfl, hm7, hb7⟩
      go_wp2_with fail
      refine hK _ _ (hX.then hb7) ?_
      clear hK K
      (try simp only [Act.put, qA, qB, qC])
      replace hX := hX.then hb7
      have G7 := qH (GD.out.below hb7 GD.out.lt)
      have M7 := qH hm7
      have C7 := qH hb7
      have D7 := qH (MD.out.stay hb7)
      clear hm7 hb7
      refine sg_actB (i := 8) (o := ⟨some 55, _, _, _, _, _⟩) rfl (by kernel_rfl) rfl hX (fun K hK => ?_)
      refine wp_bldP 65 53 _ rfl ip Tryz.underlying65 hip none hp0 hp1 (some ⟨g7, 0, none⟩) rfl ?_
      intro w8 hr8 hb8
      refine hK _ _ (hX.then hb8) ?_
      clear hK K
      (try simp only [Act.put, qA, qB, qC])
      replace hX := hX.then hb8
      have R8 := qH hr8
      have C8 := qH hb8
      have G8 := qH (G7.out.below hb8 G7.out.lt)
      have D8 := qH (D7.out.stay hb8)
      clear hr8 hb8
     rotate_left
     focus
      go_wp2_with fail
      refine (IH.out u HUN.out HUM.out W HW.out (.slice AV W.length cV) (f j) wd (RVR.out.below BD.out) (RxV.mono (HV.out.stay BD.out) BD.out.size)).mono ?_
      rintro e w7 ⟨g7, rfl, hm7, hb7⟩
      go_wp2_with fail
      refine hK _ _ (hX.then hb7) ?_
      clear hK K
      (try simp only [Act.put, qA, qB, qC])
      replace hX := hX.then hb7
      have G7 := qH (GD.out.below hb7 GD.out.lt)
      have M7 := qH hm7
      have C7 := qH hb7
      have D7 := qH (MD.out.stay hb7)
      clear hm7 hb7
      refine sg_two (i := 4) (j := 8) (oi := ⟨some 51, _, _, _, _, _⟩) (oj := ⟨some 55, _, _, _, _, _⟩) rfl rfl (by kernel_rfl) rfl rfl hX (fun K hK => ?_) (fun K hK => ?_)
      focus
       refine wp_of_run (ld_ms (.tmp 50) rfl rfl (by rw [(mcl_at G7.out).2.1, HVS.out])) ?_
       rw [← HVS.out]
       refine hK _ _ hX ?_
       clear hK K
       (try simp only [Act.put, qA, qB, qC])
       refine sg_actB (i := 8) (o := ⟨some 55, _, _, _, _, _⟩) rfl (by kernel_rfl) rfl hX (fun K hK => ?_)
       refine wp_bldP 65 53 _ rfl ip Tryz.underlying65 hip none hp0 hp1 (some ⟨g7, 0, none⟩) rfl ?_
       intro w8 hr8 hb8
       refine hK _ _ (hX.then hb8) ?_
       clear hK K
       (try simp only [Act.put, qA, qB, qC])
       replace hX := hX.then hb8
       have R8 := qH hr8
       have C8 := qH hb8
       have G8 := qH (G7.out.below hb8 G7.out.lt)
       have D8 := qH (D7.out.stay hb8)
       clear hr8 hb8
      rotate_left
      focus
       refine wp_bldP 65 53 _ rfl ip Tryz.underlying65 hip none hp0 hp1 (some ⟨g7, 0, none⟩) rfl ?_
       intro w8 hr8 hb8
       refine hK _ _ (hX.then hb8) ?_
       clear hK K
       (try simp only [Act.put, qA, qB, qC])
       replace hX := hX.then hb8
       have R8 := qH hr8
       have C8 := qH hb8
       have G8 := qH (G7.out.below hb8 G7.out.lt)
       have D8 := qH (D7.out.stay hb8)
       clear hr8 hb8
       refine sg_actB (i := 4) (o := ⟨some 51, _, _, _, _, _⟩) rfl (by kernel_rfl) rfl hX (fun K hK => ?_)
       refine wp_of_run (ld_ms (.tmp 50) rfl rfl (by rw [(mcl_at G8.out).2.1, HVS.out])) ?_
       rw [← HVS.out]
       refine hK _ _ hX ?_
       clear hK K
       (try simp only [Act.put, qA, qB, qC])
     all_goals
      refine sg_actB (i := 9) (o := ⟨some 56, _, _, _, _, _⟩) rfl (by kernel_rfl) rfl hX (fun K hK => ?_)
      refine wp_appW (base := wL.heap.size) (.tmp 51) (.tmp 55) 65 rfl 53 ip (.pointer none) 8 Tryz.underlying65 hip hp0 hp1 hp2 rfl v j (ptrs ms) rfl D8.out.own _ [.pointer (some ⟨g7, 0, none⟩)] rfl R8.out (by simp [Value.oneCell']) HJL.out (by omega) (Nat.le_trans HBR.out (Nat.le_trans BD.out.size (Nat.le_trans C7.out.size C8.out.size))) ?_
      intro v9 w9 ho9 hg9 hw9
      have hX9 := hX.trans (Off.grown (D := fun q => q = w1.heap.size ∨ v.ownBlock = some q) hg9 fun q hq => .inr (.inr hq))
      refine hK _ _ hX9 ?_
      clear hK K
      (try simp only [Act.put, qA, qB, qC])
      replace hX := hX9
      clear hX9
      have M9 := qH (MD.out.snoc (Nat.le_trans HBR.out BD.out.size) HU.out M7.out C7.out C8.out ho9 hg9 hw9)
      have G9 := qH (G8.out.grown hg9 (fun e => by have h1 := (own6_lt MR.out.own _ e.symm).2; have h2 := HBG.out; omega))
      obtain ⟨A9, c9, hv9⟩ : ∃ A9 c9, v9 = .slice A9 (j + 1) c9 := by
       obtain ⟨A9, c9, hv, _⟩ := Row.of_own ho9
       exact ⟨A9, c9, by rw [hv]; congr 1; simp [ptrs, MR.out.len]⟩
      subst hv9
      have HBE := qH (show Off (fun q => q = w1.heap.size) wL w9 from by
       have h9 := hX
       exact ⟨h9.os.trans (B5.out.os.trans OR.out.os), h9.tape.trans (B5.out.tape.trans OR.out.tape), h9.output.trans (B5.out.output.trans OR.out.output), Nat.le_trans OR.out.size (Nat.le_trans B5.out.size h9.size), fun q hq hn => (h9.block q (Nat.lt_of_lt_of_le hq (Nat.le_trans OR.out.size B5.out.size)) (by rintro (h | h); exact hn h; have h1 := (own6_lt MR.out.own _ h).2; omega)).trans ((B5.out.block q (Nat.lt_of_lt_of_le hq OR.out.size)).trans (OR.out.block q hq hn))⟩)
      clear ho9 hg9 hw9
      refine sg_take (i := 10) (oi := ⟨some 57, _, _, _, _, _⟩) (v := ?_) rfl (by kernel_rfl) (by kernel_rfl) (by kernel_rfl) (fun _ _ _ h => h) rfl hX ?_ ?_; rotate_left; (intro W hW; go_simp; try with_reducible rfl); simp only [Act.put, qA, qB, qC]
      refine sg_take (i := 11) (oi := ⟨some 58, _, _, _, _, _⟩) (v := ?_) rfl (by kernel_rfl) (by kernel_rfl) (by kernel_rfl) (fun _ _ _ h => h) rfl hX ?_ ?_; rotate_left; (intro W hW; go_simp; try with_reducible rfl); simp only [Act.put, qA, qB, qC]
      refine sg_actB (i := 12) (o := ⟨none, _, _, _, _, _⟩) rfl (by kernel_rfl) rfl hX (fun K hK => ?_)
      refine wp_of_step (st_ms (.tmp 58) (.tmp 56) rfl rfl rfl ((mcl_at G9.out).2.1) (G9.out.frozen 5)) ?_
      have hX9 := hX.trans (Off.set (D := fun q => q = w1.heap.size ∨ v.ownBlock = some q) w9 5 (.slice A9 (j + 1) c9) (.inl rfl))
      refine hK _ _ hX9 ?_
      clear hK K
      refine wpAnyH_done (by kernel_rfl) ?_ _
      have GZ := qH (show Blk (w9.setCell ⟨w1.heap.size, 5, none⟩ (.slice A9 (j + 1) c9)) w1.heap.size 68 (mcl k sv (.slice A9 (j + 1) c9) zeroS tb) from G9.out.set 5 _)
      have MZ := qH (M9.out.far (w' := w9.setCell ⟨w1.heap.size, 5, none⟩ (.slice A9 (j + 1) c9)) (by simp) HBG.out fun q hq => Below.heap_setCell w9 ⟨w1.heap.size, 5, none⟩ _ q hq)
      have OZ := qH (HBE.out.trans (Off.set (D := fun q => q = w1.heap.size) w9 5 (.slice A9 (j + 1) c9) rfl))
      clear hX hX9
      go_wp2_with fail
      exact ⟨⟨j + 1, _, _, HJ1.out, by congr 1, MZ.out, GZ.out, OZ.out⟩, by simpa [intOf] using sub_next HJ1.out⟩
    ·obtain rfl : j = l.length := by omega
     have j1 : ¬ ((l.length : Int) < (l.length : Int)) := by omega
     go_wp2_with fail
     go_ret
     refine ⟨w1.heap.size, rfl, ?_, BR.out⟩
     exact MR.out.done HBG.out (Nat.le_of_lt HGL.out) OR.out.size (by rw [HSV.out]; exact GR.out) (fun h6 h1 => by
      obtain ⟨tg, e1, e2, e3, e4, e5⟩ := HTB.out h6 h1
      exact ⟨tg, e1, e2, e3, e4, OR.out.blk e4 e5⟩) HTN.out
end Go.Proofs.YtopnpdobcagcgaaGreat
