/-
  Texts of this proof, put together: (OpenR) How an argument that is an expression reads, in the words of the walks; how great it is, by how much is read. No conditions; no statement is proved here. (RxW) Laws of rows of expressions at single operations. No statement is proved here.
-/
import Derived.Test.YtopnpdobcagcgaaRows
import Derived.Test.YtopnpdobcagcgaaQD
import Derived.Deep.Strs
namespace Go.Proofs.Ytopnpdobcagcgaa
open Go.RowKit
set_option linter.unusedSimpArgs false
set_option linter.unusedVariables false
theorem bulkR_one {H : Type} (d : DataW H) : 1 ≤ Rows.uptoBulk d := by
 cases d with
 | lit l => cases l <;> simp [Rows.uptoBulk]
 | _ => simp [Rows.uptoBulk]
theorem bulkR_part {H : Type} {d : DataW H} {l : List (DataW H)} (h : d ∈ l) : Rows.uptoBulk d ≤ Rows.uptoBulkAll l := by
 induction l with
 | nil => cases h
 | cons a l ih =>
  simp only [Rows.uptoBulkAll]
  rcases List.mem_cons.1 h with rfl | h
  ·omega
  ·have := ih h
   omega
theorem nodes_bulk {H : Type} (D : Nat → DataW H) (f : Nat → T) : ∀ n, (∀ i, i < n → (f i).nodes ≤ Rows.uptoBulk (D i)) → nodesL ((List.range n).map f) ≤ Rows.uptoBulkAll ((List.range n).map D)
 | 0, _ => by simp [nodesL]
 | n + 1, h => by
  have ih := nodes_bulk D f n fun i hi => h i (by omega)
  have hap : ∀ l r : List (DataW H), Rows.uptoBulkAll (l ++ r) = Rows.uptoBulkAll l + Rows.uptoBulkAll r := by
   intro l r
   induction l with
   | nil => simp [Rows.uptoBulkAll]
   | cons a l ih => simp only [List.cons_append, Rows.uptoBulkAll, ih]; omega
  rw [List.range_succ, List.map_append, List.map_append, nodesL_append, hap]
  have h1 := h n (by omega)
  simp only [List.map_cons, List.map_nil, nodesL, Rows.uptoBulkAll]
  omega
def canonS (p : Nat → Bool) : Nat → Bool := fun b => decide (b < 256) && p b
theorem canon_can (p : Nat → Bool) : canS (canonS p) := fun b hb => by
 unfold canonS
 rw [decide_eq_false (by omega)]
 rfl
theorem canon_wds (p : Nat → Bool) : wds (canonS p) = wds p := wds_congr fun b hb => by
 unfold canonS
 rw [decide_eq_true hb]
 rfl
set_option maxRecDepth 100000 in
theorem open_rxN {H : Type} {enc : TypeId × Value → H} {W : World} {base : Nat} {spare : Nat → Bool} {held : Bool} : ∀ (n : Nat) (d : DataW H), Rows.uptoBulk d ≤ n → ∀ (fuel : Nat) (cs : List Value) (p : List MemPlace),
  DataW.trod enc Try.prog W base spare held fuel 27 cs = some (d, p) → ∃ t : T, canT t ∧ RxD (fun k => k < W.heap.size) W cs t ∧ t.nodes ≤ Rows.uptoBulk d := by
 intro n
 induction n with
 | zero =>
  intro d hd
  have := bulkR_one d
  omega
 | succ n ih =>
  intro d hd fuel cs p h
  obtain ⟨y0, y1, y2, m, hx, hl, h0, h1, h2⟩ := Deep.trod_struct3 Try.underlying27 h
  have hl6 : cs.length = 6 := by rw [hl]; kernel_rfl
  match cs, hl6 with
  | [c0, c1, c2, c3, c4, c5], _ =>
   have h0' : DataW.trod enc Try.prog W base spare held m 3 [c0] = some y0 := h0
   have h1' : DataW.trod enc Try.prog W base spare held m 24 [c1, c2, c3, c4] = some y1 := h1
   have h2' : DataW.trod enc Try.prog W base spare held m 25 [c5] = some y2 := h2
   obtain ⟨k, hk, _, _⟩ := DataW.trod_int Try.underlying3 h0'
   obtain ⟨s, hs⟩ := set_of_trod Try.underlying24 Try.underlying22 (by kernel_rfl) (by kernel_rfl) h1'
   have hc0 : c0 = .int .i64 k := by simpa using hk
   have hcs : [c0, c1, c2, c3, c4, c5] = rxc k (canonS s) c5 := by
    unfold rxc
    rw [canon_wds, ← hs, hc0]
    rfl
   have hd' : d = .agg [y0.1, y1.1, y2.1] := congrArg Prod.fst hx
   have hbd : Rows.uptoBulk d = Rows.uptoBulk y0.1 + (Rows.uptoBulk y1.1 + (Rows.uptoBulk y2.1 + 0)) + 1 := by rw [hd']; rfl
   rw [hcs]
   rcases Deep.open_slice Try.underlying25 h2' with ⟨he, _⟩ | ⟨a, len, cap, m2, n2, D, Pl, he, _, hlc, hcm, hmm, hx2, hall⟩
   ·have hc5 : c5 = .slice none 0 0 := by simpa using he
    refine ⟨.node k (canonS s) [], ⟨canon_can s, trivial⟩, by rw [hc5]; exact rx_leaf _ _ _ _, ?_⟩
    simp only [T.nodes, nodesL]
    rw [hbd]
    omega
   ·have hc5 : c5 = .slice (some a) len cap := by simpa using he
    have hy2 : y2.1 = .slice ((List.range len).map D) ((List.range (m2 - len)).map fun j => D (len + j)) := congrArg Prod.fst hx2
    have hml : len ≤ m2 := by rw [hmm]; split <;> omega
    have hsz : ∀ i, i < len → Rows.uptoBulk (D i) ≤ n := fun i hi => by
     have e1 : D i ∈ (List.range len).map D := List.mem_map.2 ⟨i, List.mem_range.2 hi, rfl⟩
     have e2 := bulkR_part e1
     have hb2 : Rows.uptoBulk y2.1 = Rows.uptoBulkAll ((List.range len).map D) + Rows.uptoBulkAll ((List.range (m2 - len)).map fun j => D (len + j)) + 1 := by rw [hy2]; rfl
     omega
    obtain ⟨b, off, spot⟩ := a
    have hce : Try.prog.cellsOf 27 = 6 := by kernel_rfl
    rcases Nat.eq_zero_or_pos len with hz | hpos
    ·subst hz
     refine ⟨.node k (canonS s) [], ⟨canon_can s, trivial⟩, ?_, ?_⟩
     ·rw [hc5]
      exact RxD.node (l := []) (fun _ => []) (Nat.zero_le _) hcm (fun h => by cases h) (fun h => absurd rfl h) (fun i t h => by simp at h)
     ·simp only [T.nodes, nodesL]
      rw [hbd]
      omega
    have hspot : spot = none := by
     obtain ⟨cs', g1, _⟩ := hall 0 (by omega)
     rw [hce] at g1
     obtain ⟨_, g2, g3⟩ := World.cells?_some g1
     have g4 := g3 0 (by omega)
     rw [List.getElem?_eq_getElem (by omega)] at g4
     simpa [Addr.add] using World.cell?_spot g4
    subst hspot
    have key : ∀ i, i < len → ∃ q : List Value × T, canT q.2 ∧ RxD (fun k => k < W.heap.size) W q.1 q.2 ∧ q.2.nodes ≤ Rows.uptoBulk (D i) ∧ W.rangeAt b (off + i * 6) q.1 ∧ b < W.heap.size := by
     intro i hi
     obtain ⟨cs', g1, g2⟩ := hall i (by omega)
     obtain ⟨t, t1, t2, t3⟩ := ih (D i) (hsz i hi) _ _ _ g2
     rw [hce, Addr.add_mid] at g1
     exact ⟨(cs', t), t1, t2, t3, (cells_range g1).2, by have := World.cells?_block g1 (by omega); exact this⟩
    haveI : Inhabited (List Value × T) := ⟨([], noneT)⟩
    obtain ⟨f, hf⟩ := Deep.choose_lt key
    refine ⟨.node k (canonS s) ((List.range len).map fun i => (f i).2), ⟨canon_can s, canL_iff.2 fun t ht => ?_⟩, ?_, ?_⟩
    ·obtain ⟨i, hi, rfl⟩ := List.mem_map.1 ht
     exact (hf i (List.mem_range.1 hi)).1
    ·rw [hc5]
     have hll : ((List.range len).map fun i => (f i).2).length = len := by simp
     have hr := RxD.node (D := fun k => k < W.heap.size) (w := W) (k := k) (s := canonS s) (l := (List.range len).map fun i => (f i).2) (A := some ⟨b, off, none⟩) (cap := cap) (fun i => (f i).1) (by rw [hll]; exact hlc) hcm (fun h => by cases h)
      (fun _ => ⟨b, off, rfl, (hf 0 hpos).2.2.2.2, fun i hi => (hf i (by rw [hll] at hi; exact hi)).2.2.2.1⟩)
      (fun i t ht => by
       have hi : i < len := by have := (List.getElem?_eq_some_iff.1 ht).1; simpa using this
       have : t = (f i).2 := by simpa [hi] using ht.symm
       rw [this]
       exact (hf i hi).2.1)
     rw [hll] at hr
     exact hr
    ·have hn := nodes_bulk D (fun i => (f i).2) len fun i hi => (hf i hi).2.2.1
     have hb2 : Rows.uptoBulk y2.1 = Rows.uptoBulkAll ((List.range len).map D) + Rows.uptoBulkAll ((List.range (m2 - len)).map fun j => D (len + j)) + 1 := by rw [hy2]; rfl
     simp only [T.nodes]
     rw [hbd, hb2]
     omega
theorem open_rx {H : Type} {enc : TypeId × Value → H} {W : World} {base : Nat} {spare : Nat → Bool} {held : Bool} {v : Value} {d : DataW H} {p : List MemPlace} (h : DataW.Trod enc Try.prog W base spare held 27 v d p) :
  ∃ t : T, canT t ∧ RxV W.heap.size W v.cells.toList t ∧ t.nodes ≤ Rows.uptoBulk d := by
 obtain ⟨fuel, hf⟩ := h
 exact open_rxN _ d (Nat.le_refl _) _ _ _ hf
end Go.Proofs.Ytopnpdobcagcgaa
namespace Go.Proofs.Ytopnpdobcagcgaa
open Go.RowKit
set_option linter.unusedSimpArgs false
set_option linter.unusedVariables false
section
variable {w : World} {o : Oper} {a : Act} {K : Act → World → Prop} {Q : Exit → Act → World → Prop}
theorem wp_appT {D : Nat → Prop} {base : Nat} (s x : Operand)
  (ho : o.op = .call { callee := .builtin .append, args := #[s, x], argTypes := #[25, 25] })
  (i : TypeInfo) (hi : Try.prog.info? 27 = some i) (hz : i.zero = some (.agg (Value.int .i64 0 :: (wds (fun _ => false) ++ [.slice none 0 0])).toArray))
  (hsize : i.size = 6) (hby : i.bytes = 64)
  (v : Value) (l : List T) (hs : a.eval s = v) (hown : OwnT D base w v l)
  (g cap : Nat) (tg : TypeId) (c : List Value) (t : T) (hx : a.eval x = .slice (some ⟨g, 0, none⟩) 1 cap) (hr : Blk w g tg c) (hel : RxD (fun k => D k ∧ k < w.heap.size ∧ some k ≠ v.ownBlock) w c t)
  (hlen : l.length + 1 ≤ 1099511627776) (hb : base ≤ w.heap.size)
  (h : ∀ v' w', OwnT D base w' v' (l ++ [t]) → w.grownBy w' v.ownBlock → K (a.put o.dst v') w') : o.wp Try.prog a w K Q := by
 obtain ⟨cells, h1, h2, h3, h4⟩ := hown
 have hc6 : c.length = 6 := hel.length
 have hnews : ∀ j u, c[j]? = some u → w.cell? ((⟨g, 0, none⟩ : Addr).add j) = some u := fun j u hj => by
  rw [Addr.add_lit, Nat.zero_add, hr.cell j]
  exact hj
 obtain ⟨v', w', hrun, hown', hgr, _⟩ := run_append_own (P := Try.prog) w base 25 o.type 27 i _ 6 64 Try.underlying25 hi hz hsize hby (by simp [Value.cells, wds]) (by omega) v l.length cells.flatten h3 ⟨g, 0, none⟩ 1 cap c (by omega) hnews hel.one (by unfold maxLen; omega) (by omega) hb
 have hwh := append_where (P := Try.prog) (w := w) base 25 o.type 27 i _ 6 64 Try.underlying25 hi hz hsize hby (by omega) v l.length cells.flatten h3 ⟨g, 0, none⟩ 1 cap c (by omega) hnews hel.one (by unfold maxLen; omega) (by omega) hrun
 unfold Oper.wp execOp
 simp only [ho, resolve, invoke, builtin, Sem.run_bind, Sem.run_pure, Result.andThen_ok, List.map_toArray, List.map_cons, List.map_nil, hs, hx, hrun]
 refine h v' w' ⟨cells ++ [c], by simp [h1], fun d hd => ?_, ?_, fun j d u hd hu => ?_⟩ hgr
 ·rcases List.mem_append.1 hd with hd | hd
  ·exact h2 d hd
  ·obtain rfl := List.mem_singleton.1 hd
   exact hc6
 ·rw [List.flatten_append, List.length_append]
  simpa using hown'
 ·have key : RxD (fun k => D k ∧ k < w.heap.size ∧ some k ≠ v.ownBlock) w d u := by
   by_cases hj : j < l.length
   ·rw [List.getElem?_append_left (by omega)] at hd hu
    exact h4 j d u hd hu
   ·have hjl : j = l.length := by
     have := (List.getElem?_eq_some_iff.1 hu).1
     simp at this
     omega
    subst hjl
    rw [List.getElem?_append_right (by omega)] at hd hu
    simp [h1] at hd hu
    rw [← hd, ← hu]
    exact hel
  refine (key.stay fun k hk => hgr.block k hk.2.1 hk.2.2).mono fun k hk => ⟨hk.1, Nat.lt_of_lt_of_le hk.2.1 hgr.size, fun he => ?_⟩
  rcases hwh k he.symm with h | h
  ·exact hk.2.2 h.symm
  ·have := hk.2.1
   omega
set_option maxRecDepth 100000 in
theorem wp_appTs {D D' : Nat → Prop} {base : Nat} (s x : Operand)
  (ho : o.op = .call { callee := .builtin .append, args := #[s, x], argTypes := #[25, 25] })
  (i : TypeInfo) (hi : Try.prog.info? 27 = some i) (hz : i.zero = some (.agg (Value.int .i64 0 :: (wds (fun _ => false) ++ [.slice none 0 0])).toArray))
  (hsize : i.size = 6) (hby : i.bytes = 64)
  (v : Value) (l : List T) (hs : a.eval s = v) (hown : OwnT D base w v l)
  (u : Value) (m : List T) (hx : a.eval x = u) (hr : RowD D' w u m) (hD : ∀ k, D' k → D k ∧ k < w.heap.size ∧ some k ≠ v.ownBlock)
  (hlen : l.length + m.length ≤ 1099511627776) (hb : base ≤ w.heap.size)
  (h : ∀ v' w', OwnT D base w' v' (l ++ m) → w.grownBy w' v.ownBlock → K (a.put o.dst v') w') : o.wp Try.prog a w K Q := by
 obtain ⟨A, cap, f, rfl, r1, r2, r0, r3, r4⟩ := hr
 cases A with
 | none =>
  have hcap : cap = 0 := r0 rfl
  subst hcap
  have hn : m = [] := List.eq_nil_of_length_eq_zero (by omega)
  subst hn
  obtain ⟨cells, h1, h2, h3, h4⟩ := hown
  have hrun := run_append_owned_none (P := Try.prog) (w := w) base 25 o.type 27 i 6 Try.underlying25 hi v _ _ h3
  unfold Oper.wp
  simp at hx
  simp [execOp, ho, resolve, invoke, builtin, hs, hx, hrun, Result.andThen]
  exact h v w (by simpa using ⟨cells, h1, h2, h3, h4⟩) (World.grownBy.refl _ _)
 | some ad =>
  obtain ⟨cells, h1, h2, h3, h4⟩ := hown
  obtain ⟨ms, hms⟩ : ∃ ms, ms = (List.range m.length).map f := ⟨_, rfl⟩
  have hml : ms.length = m.length := by rw [hms]; simp
  have hmi : ∀ (j : Nat) (c : List Value), ms[j]? = some c → j < m.length ∧ c = f j := fun j c hc => by
   have hj : j < m.length := by have := (List.getElem?_eq_some_iff.1 hc).1; omega
   rw [hms, List.getElem?_map, List.getElem?_range hj] at hc
   exact ⟨hj, by simpa using hc.symm⟩
  have hel : ∀ (j : Nat) (c : List Value) (t : T), ms[j]? = some c → m[j]? = some t → RxD D' w c t := fun j c t hc ht => by
   obtain ⟨_, rfl⟩ := hmi j c hc
   exact r4 j t ht
  have hm6 : ∀ c ∈ ms, c.length = 6 := fun c hc => by
   obtain ⟨j, hj⟩ := List.getElem?_of_mem hc
   exact (hel j c (m[j]'((hmi j c hj).1)) hj (List.getElem?_eq_getElem _)).length
  have hone : ∀ x ∈ ms.flatten, x.oneCell' = true := fun x hx => by
   obtain ⟨c, hc, hxc⟩ := List.mem_flatten.1 hx
   obtain ⟨j, hj⟩ := List.getElem?_of_mem hc
   exact RxD.one (hel j c (m[j]'((hmi j c hj).1)) hj (List.getElem?_eq_getElem _)) x hxc
  have hfl := flat6_len hm6
  have hnews : ∀ j x, ms.flatten[j]? = some x → w.cell? (ad.add j) = some x := fun j x hj => by
   have hlt : j < ms.length * 6 := by rw [← hfl]; exact (List.getElem?_eq_some_iff.1 hj).1
   have hk : j / 6 < ms.length := by omega
   have hg := flat6_get hm6 (List.getElem?_eq_getElem hk) (j % 6) (Nat.mod_lt _ (by omega))
   rw [show j / 6 * 6 + j % 6 = j by omega, hj] at hg
   obtain ⟨b, off, hA, _, hcell⟩ := r3 (fun he => by rw [he] at hml; simp only [List.length_nil] at hml; omega)
   injection hA with hA
   subst hA
   have hf := (hmi (j / 6) ms[j / 6] (List.getElem?_eq_getElem hk)).2
   rw [hf] at hg
   have := hcell (j / 6) (by omega) (j % 6) x hg.symm
   rw [show off + j / 6 * 6 + j % 6 = off + j by omega] at this
   rw [Addr.add_lit]
   exact this
  obtain ⟨v', w', hrun, hown', hgr, _⟩ := run_append_own (P := Try.prog) w base 25 o.type 27 i _ 6 64 Try.underlying25 hi hz hsize hby (by simp [Value.cells, wds]) (by omega) v l.length cells.flatten h3 ad m.length cap ms.flatten (by rw [hfl, hml]) hnews hone (by unfold maxLen; omega) (by omega) hb
  have hwh := append_where (P := Try.prog) (w := w) base 25 o.type 27 i _ 6 64 Try.underlying25 hi hz hsize hby (by omega) v l.length cells.flatten h3 ad m.length cap ms.flatten (by rw [hfl, hml]) hnews hone (by unfold maxLen; omega) (by omega) hrun
  unfold Oper.wp execOp
  simp only [ho, resolve, invoke, builtin, Sem.run_bind, Sem.run_pure, Result.andThen_ok, List.map_toArray, List.map_cons, List.map_nil, hs, hx, hrun]
  refine h v' w' ⟨cells ++ ms, by simp [h1, hml], fun d hd => ?_, ?_, fun j d t hd ht => ?_⟩ hgr
  ·rcases List.mem_append.1 hd with hd | hd
   ·exact h2 d hd
   ·exact hm6 d hd
  ·rw [List.flatten_append, List.length_append]
   exact hown'
  ·have key : RxD (fun k => D k ∧ k < w.heap.size ∧ some k ≠ v.ownBlock) w d t := by
    by_cases hj : j < l.length
    ·rw [List.getElem?_append_left (by omega)] at hd ht
     exact h4 j d t hd ht
    ·rw [List.getElem?_append_right (by omega)] at hd ht
     rw [h1] at hd
     exact RxD.mono (hel _ d t hd ht) fun k hk => hD k hk
   refine (key.stay fun k hk => hgr.block k hk.2.1 hk.2.2).mono fun k hk => ⟨hk.1, Nat.lt_of_lt_of_le hk.2.1 hgr.size, fun he => ?_⟩
   rcases hwh k he.symm with h | h
   ·exact hk.2.2 h.symm
   ·have := hk.2.1
    omega
end
section
variable {P : Program} {w : World} {o : Oper} {a : Act} {K : Act → World → Prop} {Q : Exit → Act → World → Prop}
theorem wp_bldT1 (t e : TypeId) (x : Operand) (ho : o.op = .buildSlice t 1 #[(0, x)]) (i : TypeInfo) (ht : P.underlying t = some (.slice e)) (hi : P.info? e = some i) (hz : i.zero = some (.agg (Value.int .i64 0 :: (wds (fun _ => false) ++ [.slice none 0 0])).toArray)) (hs : i.size = 6) (ds : List Value) (hl : ds.length = 6)
  (hx : a.eval x = .agg ds.toArray)
  (h : ∀ w', Blk w' w.heap.size e ds → Below w.heap.size w w' → w'.heap.size = w.heap.size + 1 → K (a.put o.dst (.slice (some ⟨w.heap.size, 0, none⟩) 1 1)) w') : o.wp P a w K Q := by
 have hrun := run_bldT1 (P := P) (w := w) t e i ht hi hz hs ds hl
 unfold Oper.wp
 simp only [execOp, ho, List.map_toArray, List.map_cons, List.map_nil, hx, hrun, Sem.run_bind, Result.andThen_ok, Sem.run_pure]
 exact (h _ (Blk.new w e _) ((Below.refl _ _).alloc (Nat.le_refl _) _) (by simp))
end
section
variable {w : World} {o : Oper} {a : Act} {K : Act → World → Prop} {Q : Exit → Act → World → Prop}
theorem wp_bldT0 (ho : o.op = .buildSlice 25 0 #[])
  (h : ∀ v' w', (∀ D, OwnT D w.heap.size w' v' []) → Below w.heap.size w w' → K (a.put o.dst v') w') : o.wp Try.prog a w K Q := by
 obtain ⟨i, hi, hz, hsz, hby⟩ := inf_rx'
 have hrun : (Instr.buildSlice 25 0 #[]).run Try.prog w = .ok (.slice (some ⟨w.heap.size, 0, none⟩) 0 0) (w.alloc (.cells #[] 27)) := by
  simp [Instr.buildSlice, run_underlying Try.underlying25, sizeOf, typeInfo, hi, hsz, Instr.fill, newRow, Array.range_zero']
 unfold Oper.wp
 simp only [execOp, ho, List.map_toArray, List.map_nil, hrun, Sem.run_bind, Result.andThen_ok, Sem.run_pure]
 exact h _ _ (fun D => ⟨[], rfl, by simp, ⟨by simp, .inr ⟨w.heap.size, 0, #[], rfl, Nat.le_refl _, heap_alloc_new w _, Nat.le_refl _, Nat.zero_le _, rfl, rfl⟩⟩, fun i c t h => by simp at h⟩) ((Below.refl _ _).alloc (Nat.le_refl _) _)
end
theorem RowD.take {D : Nat → Prop} {w : World} {A : Option Addr} {n cap : Nat} {l : List T} (h : RowD D w (.slice A n cap) l) (k : Nat) (hk : k ≤ l.length) : RowD D w (.slice A k cap) (l.take k) := by
 obtain ⟨A', cap', f, he, h1, h2, h0, h3, h4⟩ := h
 injection he with hA hn hc
 subst hA
 subst hc
 have hl : (l.take k).length = k := by rw [List.length_take]; omega
 refine ⟨A, cap, f, by rw [hl], by omega, h2, h0, fun hne => ?_, fun i t ht => ?_⟩
 ·obtain ⟨b, off, hA, hb, hr⟩ := h3 (fun e => hne (by rw [e]; simp))
  exact ⟨b, off, hA, hb, fun i hi => hr i (by omega)⟩
 ·have hi : i < k := by have := (List.getElem?_eq_some_iff.1 ht).1; omega
  rw [List.getElem?_take, if_pos hi] at ht
  exact h4 i t ht
theorem RowD.drop {D : Nat → Prop} {w : World} {A : Option Addr} {n cap : Nat} {l : List T} (h : RowD D w (.slice A n cap) l) (k : Nat) (hk : k < l.length) :
  ∃ b off, A = some ⟨b, off, none⟩ ∧ RowD D w (.slice (some ⟨b, off + k * 6, none⟩) (n - k) (cap - k)) (l.drop k) := by
 obtain ⟨A', cap', f, he, h1, h2, h0, h3, h4⟩ := h
 injection he with hA hn hc
 subst hA
 subst hc
 subst hn
 obtain ⟨b, off, rfl, hb, hr⟩ := h3 (fun e => by rw [e] at hk; simp at hk)
 refine ⟨b, off, rfl, some ⟨b, off + k * 6, none⟩, cap - k, fun i => f (k + i), by rw [List.length_drop], by rw [List.length_drop]; omega, by omega, (fun h => by cases h), fun _ => ⟨b, off + k * 6, rfl, hb, fun i hi => ?_⟩, fun i t ht => ?_⟩
 ·rw [List.length_drop] at hi
  have := hr (k + i) (by omega)
  rw [show off + k * 6 + i * 6 = off + (k + i) * 6 by omega]
  exact this
 ·rw [List.getElem?_drop] at ht
  exact h4 (k + i) t ht
end Go.Proofs.Ytopnpdobcagcgaa
