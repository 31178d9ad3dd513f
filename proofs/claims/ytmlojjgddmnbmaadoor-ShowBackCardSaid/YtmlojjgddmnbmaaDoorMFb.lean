/-
  Texts of this proof, put together: (ShWa) What package show's writer holds, and what 'put' adds to it. No statement is proved here. (ShWb) What package show's writer adds: the sign of a byte; a run of bytes. No statement is proved here. (ShWc) What package show's writer adds: the runs of a set; a set. No statement is proved here. (ShWd) What package show's writer adds: a set. No statement is proved here. (ShWe) What package show's writer adds: whether one may follow another; a part of an expression. No statement is proved here. (ShWf) What package show's writer adds: the parts of a sequence. No statement is proved here. (ShWg) What package show's writer adds: alternatives. No statement is proved here. (ShWh) What package show's writer adds: an expression. What Show answers (the contract's form). No statement is proved here.
-/
import Derived.Test.YtmlojjgddmnbmaaDoorMDb
import Derived.Test.YtmlojjgddmnbmaaDoorMA
import Derived.Test.YtmlojjgddmnbmaaDoorMB
import Derived.Laws.Externs
namespace Go.Proofs.YtmlojjgddmnbmaaDoor
open Go.RowKit
set_option linter.unusedSimpArgs false
set_option linter.unusedVariables false

/-- The writer in block g, and its text. -/
structure Wt (w : World) (g : Nat) (v : Value) (l : List UInt8) : Prop where
  blk : Blk w g 50 [v]
  own : w.ownsRow (g + 1) 5 1 v l.length (bvs l)
  le : l.length ≤ 4000
/-- What a step of the writer leaves. -/
structure Wd (w w' : World) (g : Nat) (v v' : Value) : Prop where
  os : w'.os = w.os
  tape : w'.tape = w.tape
  output : w'.output = w.output
  size : w.heap.size ≤ w'.heap.size
  block : ∀ k, k < w.heap.size → k ≠ g → v.ownBlock ≠ some k → w'.heap[k]? = w.heap[k]?
  new : v'.ownBlock = v.ownBlock ∨ ∀ k, v'.ownBlock = some k → w.heap.size ≤ k
/-- Block k is neither the writer's nor its text's. -/
structure Far (w : World) (g : Nat) (v : Value) (k : Nat) : Prop where
  lt : k < w.heap.size
  ne : k ≠ g
  own : v.ownBlock ≠ some k
section
variable {w w' w'' : World} {g : Nat} {v v' v'' : Value} {l : List UInt8}
theorem Wd.of (h : Below w.heap.size w w') (g : Nat) (v : Value) : Wd w w' g v v := ⟨h.os, h.tape, h.output, h.size, fun k hk _ _ => h.block k hk, .inl rfl⟩
theorem Wd.trans (h : Wd w w' g v v') (k : Wd w' w'' g v' v'') : Wd w w'' g v v'' := by
  refine ⟨k.os.trans h.os, k.tape.trans h.tape, k.output.trans h.output, Nat.le_trans h.size k.size, fun i hi hg hv => ?_, ?_⟩
  · refine (k.block i (Nat.lt_of_lt_of_le hi h.size) hg fun he => ?_).trans (h.block i hi hg hv)
    rcases h.new with e | e
    · exact hv (e ▸ he)
    · exact absurd (e i he) (Nat.not_le.2 hi)
  · rcases k.new with e | e
    · rcases h.new with e2 | e2
      · exact .inl (e.trans e2)
      · exact .inr fun i hi => e2 i (e ▸ hi)
    · exact .inr fun i hi => Nat.le_trans h.size (e i hi)
theorem Wt.lt (h : Wt w g v l) : g < w.heap.size := h.blk.lt
theorem Wt.below (h : Wt w g v l) (hb : Below w.heap.size w w') : Wt w' g v l := ⟨h.blk.below hb h.lt, ownBelow h.own hb (Nat.le_refl _), h.le⟩
theorem Wt.far (h : Wt w g v l) (k : Nat) (hk : k < g) : Far w g v k := ⟨Nat.lt_trans hk h.lt, by omega, fun he => by have := own_above h.own k he; omega⟩
theorem Wt.made (h : Wt w g v l) (k : Nat) (hk : w.heap.size ≤ k) (hs : k < w'.heap.size) : Far w' g v k := ⟨hs, by have := h.lt; omega, fun he => by have := (own6_lt h.own k he).1; omega⟩
theorem Far.step {k : Nat} (h : Far w g v k) (d : Wd w w' g v v') : Far w' g v' k := by
  refine ⟨Nat.lt_of_lt_of_le h.lt d.size, h.ne, fun he => ?_⟩
  rcases d.new with e | e
  · exact h.own (e ▸ he)
  · exact absurd (e k he) (Nat.not_le.2 h.lt)
theorem Far.same {k : Nat} (h : Far w g v k) (d : Wd w w' g v v') : w'.heap[k]? = w.heap[k]? := d.block k h.lt h.ne h.own
theorem Far.grow {k : Nat} (h : Far w g v k) (hs : w.heap.size ≤ w'.heap.size) : Far w' g v k := ⟨Nat.lt_of_lt_of_le h.lt hs, h.ne, h.own⟩
theorem Far.blk {k : Nat} {t : TypeId} {cs : List Value} (h : Far w g v k) (d : Wd w w' g v v') (hb : Blk w k t cs) : Blk w' k t cs := (h.same d).trans hb
theorem Wd.below (d : Wd w w' g v v') (h : Wt w g v l) : Below g w w' := ⟨d.os, d.tape, d.output, d.size, fun k hk => (h.far k hk).same d⟩
end
/-- A writer's function, asked where the text is l: it adds m, or says no. -/
def Wrote (w : World) (g : Nat) (v : Value) (l : List UInt8) (ok : Prop) (m : List UInt8) (e : Ending) (w' : World) : Prop :=
  ∃ v', Wd w w' g v v' ∧ ((e = .returned (.bool true) ∧ ok ∧ Wt w' g v' (l ++ m)) ∨ (e = .returned (.bool false) ∧ ¬ (ok ∧ l.length + m.length ≤ 4000)))
theorem wrote_yes {w w' : World} {g : Nat} {v v' : Value} {l m n : List UInt8} {ok : Prop} (d : Wd w w' g v v') (hok : ok) (h : Wt w' g v' n) (hn : n = l ++ m) : Wrote w g v l ok m (.returned (.bool true)) w' :=
  ⟨v', d, .inl ⟨rfl, hok, hn ▸ h⟩⟩
theorem wrote_no {w w' : World} {g : Nat} {v v' : Value} {l m : List UInt8} {ok : Prop} (d : Wd w w' g v v') (h : ¬ (ok ∧ l.length + m.length ≤ 4000)) : Wrote w g v l ok m (.returned (.bool false)) w' :=
  ⟨v', d, .inr ⟨rfl, h⟩⟩
section
variable {P : Program} {w : World} {ops : Array Oper} {rest : List Oper} {o : Oper} {a : Act} {Q : Exit → Act → World → Prop}
/-- 'append(v, row...)': the new row lies where the old one lay, or in a new block. -/
theorem wpList_appW {base : Nat} (hgd : o.guard = none) (s x : Operand) (t : TypeId)
    (ho : o.op = .call { callee := .builtin .append, args := #[s, x], argTypes := #[t, t] })
    (e : TypeId) (i : TypeInfo) (z : Value) (bytes : Nat) (ht : P.underlying t = some (.slice e)) (hi : P.info? e = some i) (hz : i.zero = some z)
    (hsize : i.size = 1) (hby : i.bytes = bytes) (hzs : z.cells.size = 1)
    (v : Value) (n : Nat) (xs : List Value) (hs : a.eval s = v) (hown : w.ownsRow base e 1 v n xs)
    (u : Value) (news : List Value) (hx : a.eval x = u) (hr : Row w u news) (h1 : ∀ u ∈ news, u.oneCell' = true)
    (hlen : n + news.length ≤ 2097152) (hby2 : bytes ≤ 1000) (hb : base ≤ w.heap.size)
    (h : ∀ v' w', w'.ownsRow base e 1 v' (n + news.length) (xs ++ news) → w.grownBy w' v.ownBlock → (∀ k, v'.ownBlock = some k → v.ownBlock = some k ∨ w.heap.size ≤ k) → wpList P ops Q rest (a.put o.dst v') w') : wpList P ops Q (o :: rest) a w := by
  have hm : (n + news.length) * bytes ≤ 2097152 * 1000 := Nat.mul_le_mul hlen hby2
  obtain ⟨A, cap, rfl, hl, hmx, h0, hc⟩ := hr
  refine wpList_plain hgd fun K hK => ?_
  cases A with
  | none =>
    have hcap : cap = 0 := h0 rfl
    subst hcap
    have hn : news = [] := List.eq_nil_of_length_eq_zero (by omega)
    subst hn
    have hrun := run_append_owned_none (P := P) (w := w) base t o.type e i 1 ht hi v n xs hown
    unfold Oper.wp
    simp at hx
    simp [execOp, ho, resolve, invoke, builtin, hs, hx, hrun, Result.andThen]
    exact hK _ _ (h v w (by simpa using hown) (World.grownBy.refl _ _) fun k hk => .inl hk)
  | some ad =>
    have hnews : ∀ j u, news[j]? = some u → w.cell? (ad.add j) = some u := by
      intro j u hj
      obtain ⟨b, off, hA, _, hcell⟩ := hc (by intro e; rw [e] at hj; simp at hj)
      injection hA with hA
      subst hA
      rw [Addr.add_lit]
      exact hcell j u hj
    obtain ⟨v', w', hrun, hown', hgr, _⟩ := run_append_own (P := P) w base t o.type e i z 1 bytes ht hi hz hsize hby hzs (by omega) v n xs hown ad news.length cap news (by omega) hnews h1 (by unfold maxLen; omega) (by omega) hb
    have hwh := append_where (P := P) (w := w) base t o.type e i z 1 bytes ht hi hz hsize hby (by omega) v n xs hown ad news.length cap news (by omega) hnews h1 (by unfold maxLen; omega) (by omega) hrun
    unfold Oper.wp execOp
    simp only [ho, resolve, invoke, builtin, Sem.run_bind, Sem.run_pure, Result.andThen_ok, List.map_toArray, List.map_cons, List.map_nil, hs, hx, hrun]
    exact hK _ _ (h v' w' hown' hgr hwh)
end
theorem put_end {w w5 : World} {g : Nat} {v v5 : Value} {l m : List UInt8} (h : Wt w g v l) (ho : w5.ownsRow (g + 1) 5 1 v5 (l.length + (bvs m).length) (bvs l ++ bvs m)) (hg : w.grownBy w5 v.ownBlock)
    (hw : ∀ k, v5.ownBlock = some k → v.ownBlock = some k ∨ w.heap.size ≤ k) (hle : l.length + m.length ≤ 4000) :
    Wd w (w5.setCell ⟨g, 0, none⟩ v5) g v v5 ∧ Wt (w5.setCell ⟨g, 0, none⟩ v5) g v5 (l ++ m) := by
  have hne : some g ≠ v.ownBlock := fun he => by have := own_above h.own g he.symm; omega
  have hb5 : Blk w5 g 50 [v] := h.blk.grown hg hne
  refine ⟨⟨hg.os, hg.tape, hg.output, by simpa using hg.size, fun k hk hkg hv => ?_, ?_⟩, ⟨hb5.set 0 v5, ?_, by rw [List.length_append]; exact hle⟩⟩
  · rw [Below.heap_setCell w5 ⟨g, 0, none⟩ v5 k hkg]
    exact hg.block k hk fun he => hv he.symm
  · cases hv5 : v5.ownBlock with
    | none =>
      right
      intro k hk
      cases hk
    | some k =>
      rcases hw k hv5 with h1 | h1
      · exact .inl h1.symm
      · right
        intro k' hk'
        cases hk'
        exact h1
  · have h2 : w5.ownsRow (g + 1) 5 1 v5 (l ++ m).length (bvs (l ++ m)) := by
      rw [bvs_append, List.length_append]
      rw [bvs_length] at ho
      exact ho
    exact own6_stay h2 fun j hj => Below.heap_setCell w5 ⟨g, 0, none⟩ v5 j (by have := own_above h2 j hj; show j ≠ g; omega)
theorem no_of {ok ok' : Prop} {a b a' b' : Nat} (h : ¬ (ok ∧ a + b ≤ 4000)) (ho : ok' → ok) (hl : a + b ≤ a' + b') : ¬ (ok' ∧ a' + b' ≤ 4000) := fun hh => h ⟨ho hh.1, Nat.le_trans hl hh.2⟩
theorem sum_wrap {a b : Nat} (ha : a ≤ 4000) (hb : b ≤ 1048576) : wrap64 ((a : Int) + (b : Int)) = (a : Int) + (b : Int) := IntWalk.wrap64_in _ (by omega)
theorem sum_wrap' {a b : Nat} (ha : a ≤ 4000) (hb : b ≤ 1048576) : IntKind.i64.wrap ((a : Int) + (b : Int)) = (a : Int) + (b : Int) := IntWalk.i64_in _ (by omega)
set_option maxHeartbeats 4000000 in
set_option maxRecDepth 1000000 in
theorem put_any (g : Nat) (v : Value) (l : List UInt8) (u : Value) (m : List UInt8) (w : World) (h : Wt w g v l) (hr : Row w u (bvs m)) (hm : m.length ≤ 1048576) :
    Calls Tryd.prog 35 #[.pointer (some ⟨g, 0, none⟩), u] w fun e w' => Wrote w g v l True m e w' := by
  have H := Lib.hid h
  have R := Lib.hid hr
  have HL := Lib.hid h.le
  have HM := Lib.hid hm
  obtain ⟨i1, hi1, hy0, hy1, hy2⟩ := infoP inf_u8
  obtain ⟨A, cap, rfl, a1, a2, a0, a3⟩ := Row.of_own h.own
  obtain ⟨A', cap', rfl, b1, b2, b0, b3⟩ := hr
  have c0 : w.cell? ⟨g, 0, none⟩ = some (.slice A l.length cap) := by have := h.blk.cell 0; rw [bvs_length] at this; exact this
  have e1 := sum_wrap h.le hm
  have e2 := sum_wrap' h.le hm
  rw [bvs_length] at H R ⊢
  rw [bvs_length]
  clear a1 a2 a0 a3 b1 b2 b0 b3 h hm
  by_cases hl : 4000 < l.length + m.length
  · have d : (l.length : Int) + (m.length : Int) > 4000 := by omega
    have HN := Lib.hid (show ¬ (True ∧ l.length + m.length ≤ 4000) by omega)
    clear hl
    go_enter Tryd.func35, Tryd.ntmps35
    go_wp2_with fail
    go_ret
    exact wrote_no (Wd.of (Below.refl _ _) g _) HN.out
  · have d : ¬ ((l.length : Int) + (m.length : Int) > 4000) := by omega
    have HN := Lib.hid (show l.length + m.length ≤ 4000 by omega)
    clear hl
    go_enter Tryd.func35, Tryd.ntmps35
    go_wp2_with ((with_reducible refine atDst 20 ?_); refine wpList_appW (base := g + 1) rfl (.tmp 18) (.tmp 19) 34 rfl 5 i1 (.int .u8 0) 1 Tryd.underlying34 hi1 hy0 hy1 hy2 rfl _ _ _ rfl H.out.own _ (bvs m) rfl R.out (bvs_one _) (by have := HM.out; have := HL.out; rw [bvs_length]; omega) (by omega) H.out.lt ?_; intro v5 w5 ho5 hg5 hw5; have E5 := Lib.hid (put_end H.out ho5 hg5 hw5 HN.out); obtain ⟨A5, cp5, hv5, _, _, _, _⟩ := Row.of_own ho5; rw [List.length_append, bvs_length, bvs_length] at hv5; subst hv5; have k5 := H.out.blk.grown hg5 (fun he => by have := own_above H.out.own g he.symm; omega); have c5 := k5.cell 0; have f5 := k5.frozen 0; clear ho5 hg5 k5 hw5; (try simp only [Act.put, List.setIfInBounds_toArray, List.set_cons_zero, List.set_cons_succ]))
    go_ret
    exact wrote_yes E5.out.1 trivial E5.out.2 rfl
section
variable {P : Program} {w : World} {ops : Array Oper} {rest : List Oper} {o : Oper} {a : Act} {Q : Exit → Act → World → Prop}
theorem wpList_bldB1G (hgd : Region.wanted o (yielded ops a.tmps) = true) (t e : TypeId) (x : Operand) (ho : o.op = .buildSlice t 1 #[(0, x)]) (i : TypeInfo) (ht : P.underlying t = some (.slice e)) (hi : P.info? e = some i) (hz : i.zero = some (.int .u8 0)) (hs : i.size = 1) (c : UInt8) (hx : a.eval x = bv c)
    (h : ∀ w', Row w' (.slice (some ⟨w.heap.size, 0, none⟩) 1 1) (bvs [c]) → Below w.heap.size w w' → wpList P ops Q rest (a.put o.dst (.slice (some ⟨w.heap.size, 0, none⟩) 1 1)) w') : wpList P ops Q (o :: rest) a w :=
  BigFrame.wpList_want hgd fun _ hK => wp_bldB1 t e x ho i ht hi hz hs c hx fun w' _ h2 h3 _ => hK _ _ (h w' h2 h3)
theorem wpList_bldB2G (hgd : Region.wanted o (yielded ops a.tmps) = true) (t e : TypeId) (x y : Operand) (ho : o.op = .buildSlice t 2 #[(0, x), (1, y)]) (i : TypeInfo) (ht : P.underlying t = some (.slice e)) (hi : P.info? e = some i) (hz : i.zero = some (.int .u8 0)) (hs : i.size = 1) (c d : UInt8) (hx : a.eval x = bv c) (hy : a.eval y = bv d)
    (h : ∀ w', Row w' (.slice (some ⟨w.heap.size, 0, none⟩) 2 2) (bvs [c, d]) → Below w.heap.size w w' → wpList P ops Q rest (a.put o.dst (.slice (some ⟨w.heap.size, 0, none⟩) 2 2)) w') : wpList P ops Q (o :: rest) a w :=
  BigFrame.wpList_want hgd fun _ hK => wp_bldB2 t e x y ho i ht hi hz hs c d hx hy fun w' _ h2 h3 _ => hK _ _ (h w' h2 h3)
end
theorem wrote_bool {w w' : World} {g : Nat} {v : Value} {l m : List UInt8} {ok : Prop} {e : Ending} (h : Wrote w g v l ok m e w') : ∃ b, e = .returned (.bool b) := by
  obtain ⟨v', d, ⟨h1, _⟩ | ⟨h1, _⟩⟩ := h
  · exact ⟨true, h1⟩
  · exact ⟨false, h1⟩
theorem wrote_below {w w' : World} {g : Nat} {v : Value} {l l' m : List UInt8} {ok : Prop} {e : Ending} (ht : Wt w g v l') (h : Wrote w g v l ok m e w') : Below g w w' := by
  obtain ⟨v', d, _⟩ := h
  exact d.below ht
theorem wrote_from {w w2 w' : World} {g : Nat} {v : Value} {l m : List UInt8} {ok : Prop} {e : Ending} (hb : Below w.heap.size w w2) (h : Wrote w2 g v l ok m e w') : Wrote w g v l ok m e w' := by
  obtain ⟨v', d, hh⟩ := h
  exact ⟨v', (Wd.of hb g v).trans d, hh⟩
/-- .. of a row that was laid anew, seen from the world ahead of it. -/
theorem put_at {g : Nat} {v : Value} {l : List UInt8} {u : Value} {m : List UInt8} {w w2 : World} (h : Wt w g v l) (hb : Below w.heap.size w w2) (hr : Row w2 u (bvs m)) (hm : m.length ≤ 1048576) :
    Calls Tryd.prog 35 #[.pointer (some ⟨g, 0, none⟩), u] w2 fun e w' => Wrote w g v l True m e w' := by
  exact (put_any g v l u m w2 (h.below hb) hr hm).mono fun e w' h => wrote_from hb h
end Go.Proofs.YtmlojjgddmnbmaaDoor
namespace Go.Proofs.YtmlojjgddmnbmaaDoor
open Go.RowKit
set_option linter.unusedSimpArgs false
set_option linter.unusedVariables false

theorem idx_escs : ∀ c : Fin 256, decide (0 ≤ firstIdx ⟨escs.toArray⟩ ((c.val : Nat) : Int).toNat.toUInt8) = inB escs c.val := by decide +kernel
set_option maxHeartbeats 1000000 in
set_option maxRecDepth 100000 in
theorem sIndexByte_any (S : ByteArray) (c : Int) (w : World) : Calls Tryd.prog 65 #[.string S, .int .u8 c] w fun e w' => e = .returned (.int .i64 (firstIdx S c.toNat.toUInt8)) ∧ w' = w := by
  have hin : Calls Tryd.prog 75 #[.string S, .int .u8 c] w fun e w' => e = .returned (.int .i64 (firstIdx S c.toNat.toUInt8)) ∧ w' = w := by
    go_enter Tryd.func75, Tryd.ntmps75
    go_wp2
    rw [run_callFunc_extern Tryd.func80 (by kernel_rfl) (by kernel_rfl) (by kernel_rfl) (e := Extern.BytealgIndexByte.indexByte) (by kernel_rfl), run_indexByte_string]
    simp only [Result.andThen]
    rw [Oper.upon_value]
    go_wp2
    go_ret
    exact ⟨rfl, rfl⟩
  go_enter Tryd.func65, Tryd.ntmps65
  go_wp2_with fail
  refine hin.mono ?_
  rintro e w' ⟨rfl, h1⟩
  subst h1
  go_wp2_with fail
  go_ret
  exact ⟨rfl, rfl⟩
set_option maxHeartbeats 4000000 in
set_option maxRecDepth 1000000 in
theorem sign_any (g : Nat) (v : Value) (l : List UInt8) (c : Nat) (w : World) (hc : c < 256) (h : Wt w g v l) :
    Calls Tryd.prog 52 #[.pointer (some ⟨g, 0, none⟩), .int .u8 (c : Int)] w fun e w' => Wrote w g v l True (signB c) e w' := by
  have H := Lib.hid h
  obtain ⟨i0, hi0, hz0, hs0⟩ := info_u8
  have HZ0 := Lib.hid hz0
  obtain ⟨r, hr⟩ : ∃ r, r = signB c := ⟨_, rfl⟩
  have HBV := Lib.hid (bv_ofNat hc)
  obtain ⟨n, hn⟩ : ∃ n, n = firstIdx ⟨escs.toArray⟩ (c : Int).toNat.toUInt8 := ⟨_, rfl⟩
  have HNV := Lib.hid hn
  have hx := idx_escs ⟨c, hc⟩
  rw [show firstIdx ⟨escs.toArray⟩ ((((⟨c, hc⟩ : Fin 256).val : Nat) : Int)).toNat.toUInt8 = n from hn.symm] at hx
  rw [← hr]
  clear hz0 h hn
  cases hin : inB escs c with
  | true =>
    have HR := Lib.hid (show r = [92] ++ [UInt8.ofNat c] by rw [hr]; unfold signB; rw [hin]; rfl)
    have d0 : n ≥ 0 := of_decide_eq_true (hx.trans hin)
    clear hr hx hin
    go_enter Tryd.func52, Tryd.ntmps52
    go_wp2_with fail
    refine (sIndexByte_any ⟨escs.toArray⟩ (c : Int) w).mono ?_
    rintro e w1 ⟨rfl, h1⟩
    have h2 := h1.symm
    subst h2
    rw [← HNV.out]
    go_wp2_with ((with_reducible refine atDst 17 ?_); refine wpList_bldB1G rfl 34 5 _ rfl i0 Tryd.underlying34 hi0 HZ0.out hs0 (92) (rfl) ?_; intro wn hrn hbn; have RN := Lib.hid hrn; have BN := Lib.hid hbn; clear hrn hbn; (try simp only [Act.put, List.setIfInBounds_toArray, List.set_cons_zero, List.set_cons_succ]))
    refine (put_at H.out BN.out RN.out (by simp)).mono ?_
    clear RN BN
    rintro e w3 ⟨vw3, dw3, ⟨rfl, -, hw3⟩ | ⟨rfl, hw3⟩⟩
    all_goals
      have Dw3 := Lib.hid dw3
      have Hw3 := Lib.hid hw3
      clear dw3 hw3
    · go_wp2_with ((with_reducible refine atDst 22 ?_); refine wpList_bldB1G rfl 34 5 _ rfl i0 Tryd.underlying34 hi0 HZ0.out hs0 (UInt8.ofNat c) (HBV.out.symm) ?_; intro wn hrn hbn; have RN := Lib.hid hrn; have BN := Lib.hid hbn; clear hrn hbn; (try simp only [Act.put, List.setIfInBounds_toArray, List.set_cons_zero, List.set_cons_succ]))
      refine (put_at Hw3.out BN.out RN.out (by simp)).mono ?_
      clear RN BN
      rintro e w5 ⟨vw5, dw5, ⟨rfl, -, hw5⟩ | ⟨rfl, hw5⟩⟩
      all_goals
        have Dw5 := Lib.hid dw5
        have Hw5 := Lib.hid hw5
        clear dw5 hw5
      · go_wp2_with fail
        go_ret
        exact wrote_yes (Dw3.out.trans Dw5.out) trivial Hw5.out (by rw [HR.out, List.append_assoc])
      · go_wp2_with fail
        go_ret
        exact wrote_no (Dw3.out.trans Dw5.out) (no_of Hw5.out (fun _ => trivial) (by rw [HR.out]; simp only [List.length_append]; omega))
    · go_wp2_with fail
      go_ret
      exact wrote_no Dw3.out (no_of Hw3.out (fun _ => trivial) (by rw [HR.out]; simp only [List.length_append]; omega))
  | false =>
    have d0 : ¬ (n ≥ 0) := of_decide_eq_false (hx.trans hin)
    by_cases hm : 32 ≤ c ∧ c ≤ 126
    · have HR := Lib.hid (show r = [UInt8.ofNat c] by rw [hr]; unfold signB; rw [hin, if_pos hm]; rfl)
      have d1 : (32 : Int) ≤ (c : Int) := by omega
      have d2 : (c : Int) ≤ 126 := by omega
      clear hr hx hin hm
      go_enter Tryd.func52, Tryd.ntmps52
      go_wp2_with fail
      refine (sIndexByte_any ⟨escs.toArray⟩ (c : Int) w).mono ?_
      rintro e w1 ⟨rfl, h1⟩
      have h2 := h1.symm
      subst h2
      rw [← HNV.out]
      go_wp2_with ((with_reducible refine atDst 22 ?_); refine wpList_bldB1G rfl 34 5 _ rfl i0 Tryd.underlying34 hi0 HZ0.out hs0 (UInt8.ofNat c) (HBV.out.symm) ?_; intro wn hrn hbn; have RN := Lib.hid hrn; have BN := Lib.hid hbn; clear hrn hbn; (try simp only [Act.put, List.setIfInBounds_toArray, List.set_cons_zero, List.set_cons_succ]))
      refine (put_at H.out BN.out RN.out (by simp)).mono ?_
      clear RN BN
      rintro e w5 ⟨vw5, dw5, ⟨rfl, -, hw5⟩ | ⟨rfl, hw5⟩⟩
      all_goals
        have Dw5 := Lib.hid dw5
        have Hw5 := Lib.hid hw5
        clear dw5 hw5
      · go_wp2_with fail
        go_ret
        exact wrote_yes Dw5.out trivial Hw5.out (by rw [HR.out])
      · go_wp2_with fail
        go_ret
        exact wrote_no Dw5.out (by rw [HR.out]; exact Hw5.out)
    · have HR := Lib.hid (show r = [92, 120, hexB (c / 16), hexB (c % 16)] by rw [hr]; unfold signB; rw [hin, if_neg hm]; rfl)
      clear hr hx
      have q1 := ix_hex (c / 16) (by omega)
      have e1 : ((c / 16 : Nat) : Int) = (c : Int) / 16 := rfl
      simp only [e1] at q1
      have q2 := ix_hex (c % 16) (by omega)
      have e2 : ((c % 16 : Nat) : Int) = bits .and .u8 (c : Int) 15 := (u8_and15 (c : Int) (by omega) (by omega)).symm
      simp only [e2] at q2
      obtain ⟨x, hx⟩ : ∃ x, x = c / 16 := ⟨_, rfl⟩
      obtain ⟨y, hy⟩ : ∃ y, y = c % 16 := ⟨_, rfl⟩
      simp only [← hx] at q1
      rw [← hx] at HR
      simp only [← hy] at q2; rw [← hy] at HR
      clear hin e1 e2 hx hy
      by_cases h32 : (32 : Int) ≤ (c : Int)
      · have d3 : ¬ ((c : Int) ≤ 126) := by omega
        clear hm
        go_enter Tryd.func52, Tryd.ntmps52
        go_wp2_with fail
        refine (sIndexByte_any ⟨escs.toArray⟩ (c : Int) w).mono ?_
        rintro e w1 ⟨rfl, h1⟩
        have h2 := h1.symm
        subst h2
        rw [← HNV.out]
        go_wp2_with fail
        refine sx_startB (B := g) (w0 := w) (by kernel_rfl) (Below.refl _ _) (fun wd hwd hX => ?_)
        have hbd := (Below.refl w.heap.size w).drew
        rw [← hwd] at hbd
        have HD := Lib.hid (H.out.below hbd)
        have WD := Lib.hid hbd
        clear hwd hbd
        refine sx_take (i := 0) (oi := ⟨some 24, _, _, _, _, _⟩) (v := ?_) rfl (by kernel_rfl) (by kernel_rfl) (by kernel_rfl) (fun _ _ _ h => h) rfl hX ?_ ?_; rotate_left; (intro W hW; go_simp; try with_reducible rfl); simp only [Act.put, List.setIfInBounds_toArray, List.set_cons_zero, List.set_cons_succ]
        refine sx_take (i := 1) (oi := ⟨some 25, _, _, _, _, _⟩) (v := ?_) rfl (by kernel_rfl) (by kernel_rfl) (by kernel_rfl) (fun _ _ _ h => h) rfl hX ?_ ?_; rotate_left; (intro W hW; go_simp; try with_reducible rfl); simp only [Act.put, List.setIfInBounds_toArray, List.set_cons_zero, List.set_cons_succ]
        refine sx_take (i := 2) (oi := ⟨some 26, _, _, _, _, _⟩) (v := ?_) rfl (by kernel_rfl) (by kernel_rfl) (by kernel_rfl) (fun _ _ _ h => h) rfl hX ?_ ?_; rotate_left; (intro W hW; go_simp; try with_reducible rfl); simp only [Act.put, List.setIfInBounds_toArray, List.set_cons_zero, List.set_cons_succ]
        refine sx_take (i := 3) (oi := ⟨some 27, _, _, _, _, _⟩) (v := bv (hexB x)) rfl (by kernel_rfl) (by kernel_rfl) (by kernel_rfl) (fun _ _ _ h => h) rfl hX (fun W _ => ex_index rfl (q1 W)) ?_; simp only [Act.put, List.setIfInBounds_toArray, List.set_cons_zero, List.set_cons_succ]
        refine sx_take (i := 4) (oi := ⟨some 28, _, _, _, _, _⟩) (v := ?_) rfl (by kernel_rfl) (by kernel_rfl) (by kernel_rfl) (fun _ _ _ h => h) rfl hX ?_ ?_; rotate_left; (intro W hW; go_simp; try with_reducible rfl); simp only [Act.put, List.setIfInBounds_toArray, List.set_cons_zero, List.set_cons_succ]
        refine sx_take (i := 5) (oi := ⟨some 29, _, _, _, _, _⟩) (v := ?_) rfl (by kernel_rfl) (by kernel_rfl) (by kernel_rfl) (fun _ _ _ h => h) rfl hX ?_ ?_; rotate_left; (intro W hW; go_simp; try with_reducible rfl); simp only [Act.put, List.setIfInBounds_toArray, List.set_cons_zero, List.set_cons_succ]
        refine sx_take (i := 6) (oi := ⟨some 30, _, _, _, _, _⟩) (v := bv (hexB y)) rfl (by kernel_rfl) (by kernel_rfl) (by kernel_rfl) (fun _ _ _ h => h) rfl hX (fun W _ => ex_index rfl (q2 W)) ?_; simp only [Act.put, List.setIfInBounds_toArray, List.set_cons_zero, List.set_cons_succ]
        refine sx_actB (i := 7) (o := ⟨some 31, _, _, _, _, _⟩) rfl (by kernel_rfl) rfl hX (fun K hK => ?_)
        refine wp_bldB4 34 5 _ _ _ _ rfl i0 Tryd.underlying34 hi0 HZ0.out hs0 92 120 (hexB x) (hexB y) rfl rfl rfl rfl ?_
        intro w2 _ hr2 hb2 _
        rw [← HR.out] at hr2
        refine hK _ _ (hb2.mono (Nat.le_of_lt HD.out.lt)) ?_
        (try simp only [Act.put, List.setIfInBounds_toArray, List.set_cons_zero, List.set_cons_succ])
        clear hK K
        replace hX := hX.trans (hb2.mono (Nat.le_of_lt HD.out.lt))
        have R2 := Lib.hid hr2
        have B2 := Lib.hid hb2
        clear hr2 hb2
        refine sx_actB (i := 8) (o := ⟨some 32, _, _, _, _, _⟩) rfl (by kernel_rfl) rfl hX (fun K hK => ?_)
        go_wp2_with fail
        refine (put_any g v l _ r w2 (HD.out.below B2.out) R2.out (by rw [HR.out]; simp)).mono ?_
        intro e w3 hw
        obtain ⟨b, rfl⟩ := wrote_bool hw
        have HW := Lib.hid (wrote_from (WD.out.trans (B2.out.mono WD.out.size)) hw)
        have hbg := (wrote_below (HD.out.below B2.out) hw)
        clear hw
        go_wp2_with fail
        refine hK _ _ hbg ?_
        (try simp only [Act.put, List.setIfInBounds_toArray, List.set_cons_zero, List.set_cons_succ])
        clear hK K
        replace hX := hX.trans hbg
        clear hbg
        refine sx_take (i := 9) (oi := ⟨some 4, _, _, _, _, _⟩) (v := ?_) rfl (by kernel_rfl) (by kernel_rfl) (by kernel_rfl) (fun _ _ _ h => h) rfl hX ?_ ?_; rotate_left; (intro W hW; go_simp; try with_reducible rfl); simp only [Act.put, List.setIfInBounds_toArray, List.set_cons_zero, List.set_cons_succ]
        refine wpAnyH_done (by kernel_rfl) ?_ _
        clear hX
        go_wp2_with fail
        go_ret
        exact HW.out
      · clear hm
        go_enter Tryd.func52, Tryd.ntmps52
        go_wp2_with fail
        refine (sIndexByte_any ⟨escs.toArray⟩ (c : Int) w).mono ?_
        rintro e w1 ⟨rfl, h1⟩
        have h2 := h1.symm
        subst h2
        rw [← HNV.out]
        go_wp2_with fail
        refine sx_startB (B := g) (w0 := w) (by kernel_rfl) (Below.refl _ _) (fun wd hwd hX => ?_)
        have hbd := (Below.refl w.heap.size w).drew
        rw [← hwd] at hbd
        have HD := Lib.hid (H.out.below hbd)
        have WD := Lib.hid hbd
        clear hwd hbd
        refine sx_take (i := 0) (oi := ⟨some 24, _, _, _, _, _⟩) (v := ?_) rfl (by kernel_rfl) (by kernel_rfl) (by kernel_rfl) (fun _ _ _ h => h) rfl hX ?_ ?_; rotate_left; (intro W hW; go_simp; try with_reducible rfl); simp only [Act.put, List.setIfInBounds_toArray, List.set_cons_zero, List.set_cons_succ]
        refine sx_take (i := 1) (oi := ⟨some 25, _, _, _, _, _⟩) (v := ?_) rfl (by kernel_rfl) (by kernel_rfl) (by kernel_rfl) (fun _ _ _ h => h) rfl hX ?_ ?_; rotate_left; (intro W hW; go_simp; try with_reducible rfl); simp only [Act.put, List.setIfInBounds_toArray, List.set_cons_zero, List.set_cons_succ]
        refine sx_take (i := 2) (oi := ⟨some 26, _, _, _, _, _⟩) (v := ?_) rfl (by kernel_rfl) (by kernel_rfl) (by kernel_rfl) (fun _ _ _ h => h) rfl hX ?_ ?_; rotate_left; (intro W hW; go_simp; try with_reducible rfl); simp only [Act.put, List.setIfInBounds_toArray, List.set_cons_zero, List.set_cons_succ]
        refine sx_take (i := 3) (oi := ⟨some 27, _, _, _, _, _⟩) (v := bv (hexB x)) rfl (by kernel_rfl) (by kernel_rfl) (by kernel_rfl) (fun _ _ _ h => h) rfl hX (fun W _ => ex_index rfl (q1 W)) ?_; simp only [Act.put, List.setIfInBounds_toArray, List.set_cons_zero, List.set_cons_succ]
        refine sx_take (i := 4) (oi := ⟨some 28, _, _, _, _, _⟩) (v := ?_) rfl (by kernel_rfl) (by kernel_rfl) (by kernel_rfl) (fun _ _ _ h => h) rfl hX ?_ ?_; rotate_left; (intro W hW; go_simp; try with_reducible rfl); simp only [Act.put, List.setIfInBounds_toArray, List.set_cons_zero, List.set_cons_succ]
        refine sx_take (i := 5) (oi := ⟨some 29, _, _, _, _, _⟩) (v := ?_) rfl (by kernel_rfl) (by kernel_rfl) (by kernel_rfl) (fun _ _ _ h => h) rfl hX ?_ ?_; rotate_left; (intro W hW; go_simp; try with_reducible rfl); simp only [Act.put, List.setIfInBounds_toArray, List.set_cons_zero, List.set_cons_succ]
        refine sx_take (i := 6) (oi := ⟨some 30, _, _, _, _, _⟩) (v := bv (hexB y)) rfl (by kernel_rfl) (by kernel_rfl) (by kernel_rfl) (fun _ _ _ h => h) rfl hX (fun W _ => ex_index rfl (q2 W)) ?_; simp only [Act.put, List.setIfInBounds_toArray, List.set_cons_zero, List.set_cons_succ]
        refine sx_actB (i := 7) (o := ⟨some 31, _, _, _, _, _⟩) rfl (by kernel_rfl) rfl hX (fun K hK => ?_)
        refine wp_bldB4 34 5 _ _ _ _ rfl i0 Tryd.underlying34 hi0 HZ0.out hs0 92 120 (hexB x) (hexB y) rfl rfl rfl rfl ?_
        intro w2 _ hr2 hb2 _
        rw [← HR.out] at hr2
        refine hK _ _ (hb2.mono (Nat.le_of_lt HD.out.lt)) ?_
        (try simp only [Act.put, List.setIfInBounds_toArray, List.set_cons_zero, List.set_cons_succ])
        clear hK K
        replace hX := hX.trans (hb2.mono (Nat.le_of_lt HD.out.lt))
        have R2 := Lib.hid hr2
        have B2 := Lib.hid hb2
        clear hr2 hb2
        refine sx_actB (i := 8) (o := ⟨some 32, _, _, _, _, _⟩) rfl (by kernel_rfl) rfl hX (fun K hK => ?_)
        go_wp2_with fail
        refine (put_any g v l _ r w2 (HD.out.below B2.out) R2.out (by rw [HR.out]; simp)).mono ?_
        intro e w3 hw
        obtain ⟨b, rfl⟩ := wrote_bool hw
        have HW := Lib.hid (wrote_from (WD.out.trans (B2.out.mono WD.out.size)) hw)
        have hbg := (wrote_below (HD.out.below B2.out) hw)
        clear hw
        go_wp2_with fail
        refine hK _ _ hbg ?_
        (try simp only [Act.put, List.setIfInBounds_toArray, List.set_cons_zero, List.set_cons_succ])
        clear hK K
        replace hX := hX.trans hbg
        clear hbg
        refine sx_take (i := 9) (oi := ⟨some 4, _, _, _, _, _⟩) (v := ?_) rfl (by kernel_rfl) (by kernel_rfl) (by kernel_rfl) (fun _ _ _ h => h) rfl hX ?_ ?_; rotate_left; (intro W hW; go_simp; try with_reducible rfl); simp only [Act.put, List.setIfInBounds_toArray, List.set_cons_zero, List.set_cons_succ]
        refine wpAnyH_done (by kernel_rfl) ?_ _
        clear hX
        go_wp2_with fail
        go_ret
        exact HW.out
set_option maxHeartbeats 4000000 in
set_option maxRecDepth 1000000 in
theorem span_any (g : Nat) (v : Value) (l : List UInt8) (a b : Nat) (w : World) (hab : a ≤ b) (hb : b < 256) (h : Wt w g v l) :
    Calls Tryd.prog 67 #[.pointer (some ⟨g, 0, none⟩), .int .u8 (a : Int), .int .u8 (b : Int)] w fun e w' => Wrote w g v l True (runB a b) e w' := by
  have H := Lib.hid h
  obtain ⟨i0, hi0, hz0, hs0⟩ := info_u8
  have HZ0 := Lib.hid hz0
  obtain ⟨r, hr⟩ : ∃ r, r = runB a b := ⟨_, rfl⟩
  have HA := Lib.hid (show a < 256 by omega)
  have HB := Lib.hid hb
  obtain ⟨d, hd⟩ : ∃ d, d = b - a := ⟨_, rfl⟩
  have e1 : IntKind.u8.wrap ((b : Int) - (a : Int)) = (d : Int) := by
    rw [show (b : Int) - (a : Int) = (d : Int) by omega]
    exact wrap_u8 (by omega)
  rw [← hr]
  clear hz0 h
  by_cases d0 : d = 0
  · have q0 : ((d : Int) == 0) = true := by simpa using d0
    have HR := Lib.hid (show r = signB a by rw [hr]; unfold runB; rw [if_pos (by omega)])
    clear hr d0 hd hab hb
    go_enter Tryd.func67, Tryd.ntmps67
    go_wp2_with fail
    refine (sign_any _ _ _ a _ HA.out H.out).mono ?_
    rintro e w1 ⟨vw1, dw1, ⟨rfl, -, hw1⟩ | ⟨rfl, hw1⟩⟩
    all_goals
      have Dw1 := Lib.hid dw1
      have Hw1 := Lib.hid hw1
      clear dw1 hw1
    · go_wp2_with fail
      go_ret
      exact wrote_yes Dw1.out trivial Hw1.out (by rw [HR.out])
    · go_wp2_with fail
      go_ret
      exact wrote_no Dw1.out (by rw [HR.out]; exact Hw1.out)
  have q0 : ((d : Int) == 0) = false := by simpa using d0
  by_cases d1 : d = 1
  · have q1 : ((d : Int) == 1) = true := by rw [beq_iff_eq]; omega
    have HR := Lib.hid (show r = signB a ++ signB b by rw [hr]; unfold runB; rw [if_neg (by omega), if_pos (by omega)])
    clear hr d0 d1 hd hab hb
    go_enter Tryd.func67, Tryd.ntmps67
    go_wp2_with fail
    refine (sign_any _ _ _ a _ HA.out H.out).mono ?_
    rintro e w1 ⟨vw1, dw1, ⟨rfl, -, hw1⟩ | ⟨rfl, hw1⟩⟩
    all_goals
      have Dw1 := Lib.hid dw1
      have Hw1 := Lib.hid hw1
      clear dw1 hw1
    · go_wp2_with fail
      refine (sign_any _ _ _ b _ HB.out Hw1.out).mono ?_
      rintro e w2 ⟨vw2, dw2, ⟨rfl, -, hw2⟩ | ⟨rfl, hw2⟩⟩
      all_goals
        have Dw2 := Lib.hid dw2
        have Hw2 := Lib.hid hw2
        clear dw2 hw2
      · go_wp2_with fail
        go_ret
        exact wrote_yes (Dw1.out.trans Dw2.out) trivial Hw2.out (by rw [HR.out, List.append_assoc])
      · go_wp2_with fail
        go_ret
        exact wrote_no (Dw1.out.trans Dw2.out) (no_of Hw2.out (fun _ => trivial) (by rw [HR.out]; simp only [List.length_append]; omega))
    · go_wp2_with fail
      go_ret
      exact wrote_no Dw1.out (no_of Hw1.out (fun _ => trivial) (by rw [HR.out]; simp only [List.length_append]; omega))
  have q1 : ((d : Int) == 1) = false := by rw [beq_eq_false_iff_ne]; omega
  have HR := Lib.hid (show r = signB a ++ ([45] ++ signB b) by rw [hr]; unfold runB; rw [if_neg (by omega), if_neg (by omega)]; rfl)
  clear hr d0 d1 hd hab hb
  go_enter Tryd.func67, Tryd.ntmps67
  go_wp2_with fail
  refine (sign_any _ _ _ a _ HA.out H.out).mono ?_
  rintro e w1 ⟨vw1, dw1, ⟨rfl, -, hw1⟩ | ⟨rfl, hw1⟩⟩
  all_goals
    have Dw1 := Lib.hid dw1
    have Hw1 := Lib.hid hw1
    clear dw1 hw1
  · go_wp2_with ((with_reducible refine atDst 30 ?_); refine wpList_bldB1G rfl 34 5 _ rfl i0 Tryd.underlying34 hi0 HZ0.out hs0 (45) (rfl) ?_; intro wn hrn hbn; have RN := Lib.hid hrn; have BN := Lib.hid hbn; clear hrn hbn; (try simp only [Act.put, List.setIfInBounds_toArray, List.set_cons_zero, List.set_cons_succ]))
    refine (put_at Hw1.out BN.out RN.out (by simp)).mono ?_
    clear RN BN
    rintro e w2 ⟨vw2, dw2, ⟨rfl, -, hw2⟩ | ⟨rfl, hw2⟩⟩
    all_goals
      have Dw2 := Lib.hid dw2
      have Hw2 := Lib.hid hw2
      clear dw2 hw2
    · go_wp2_with fail
      refine (sign_any _ _ _ b _ HB.out Hw2.out).mono ?_
      rintro e w3 ⟨vw3, dw3, ⟨rfl, -, hw3⟩ | ⟨rfl, hw3⟩⟩
      all_goals
        have Dw3 := Lib.hid dw3
        have Hw3 := Lib.hid hw3
        clear dw3 hw3
      · go_wp2_with fail
        go_ret
        exact wrote_yes (Dw1.out.trans (Dw2.out.trans Dw3.out)) trivial Hw3.out (by rw [HR.out]; simp only [List.append_assoc])
      · go_wp2_with fail
        go_ret
        exact wrote_no (Dw1.out.trans (Dw2.out.trans Dw3.out)) (no_of Hw3.out (fun _ => trivial) (by rw [HR.out]; simp only [List.length_append]; omega))
    · go_wp2_with fail
      go_ret
      exact wrote_no (Dw1.out.trans Dw2.out) (no_of Hw2.out (fun _ => trivial) (by rw [HR.out]; simp only [List.length_append]; omega))
  · go_wp2_with fail
    go_ret
    exact wrote_no Dw1.out (no_of Hw1.out (fun _ => trivial) (by rw [HR.out]; simp only [List.length_append]; omega))
end Go.Proofs.YtmlojjgddmnbmaaDoor
namespace Go.Proofs.YtmlojjgddmnbmaaDoor
open Go.RowKit
set_option linter.unusedSimpArgs false
set_option linter.unusedVariables false

/-- What 'run' answers of a rising row: where its first run ends. -/
def runPost (ms : List Nat) (w : World) (e : Ending) (w' : World) : Prop :=
  ∃ n : Nat, e = .returned (.int .i64 (n : Int)) ∧ 1 ≤ n ∧ n ≤ ms.length ∧ runsB ms = runB (nthN ms 0) (nthN ms (n - 1)) ++ runsB (ms.drop n) ∧ Below w.heap.size w w'
theorem pred_wrapI (k : Nat) (h : k ≤ 4611686018427387904) : wrap64 (((k + 1 : Nat) : Int) - 1) = (k : Int) := by
  rw [show ((k + 1 : Nat) : Int) - 1 = (k : Int) by omega]
  exact IntWalk.wrap64_in _ (by omega)
theorem pred_wrapI' (k : Nat) (h : k ≤ 4611686018427387904) : IntKind.i64.wrap (((k + 1 : Nat) : Int) - 1) = (k : Int) := by
  rw [show ((k + 1 : Nat) : Int) - 1 = (k : Int) by omega]
  exact IntWalk.i64_in _ (by omega)
set_option maxHeartbeats 4000000 in
set_option maxRecDepth 1000000 in
theorem run_any (b off cap : Nat) (ms : List Nat) (w : World) (hb : b < w.heap.size) (hc : ∀ i, i < ms.length → w.cell? ⟨b, off + i, none⟩ = some (.int .u8 (nthN ms i : Int))) (h0 : 0 < ms.length) (hl : ms.length ≤ 256)
    (has : ms.Pairwise (· < ·)) (h256 : ∀ n ∈ ms, n < 256) :
    Calls Tryd.prog 66 #[.slice (some ⟨b, off, none⟩) ms.length cap] w fun e w' => runPost ms w e w' := by
  have HC := Lib.hid hc
  have HB := Lib.hid hb
  have HL := Lib.hid hl
  have HAS := Lib.hid has
  have H256 := Lib.hid h256
  have H0 := Lib.hid (show runsB ms = goR (nthN ms 0) (nthN ms 0) (ms.drop 1) from runsB_at (i := 0) h0)
  have HP := Lib.hid h0
  clear hc hb hl has h256 h0
  go_enter Tryd.func66, Tryd.ntmps66
  go_wp2_with fail
  go_loopw [3] (fun i wl => ∃ k : Nat, k + 1 ≤ ms.length ∧ i = .int .i64 ((k + 1 : Nat) : Int) ∧ Hid (runsB ms = goR (nthN ms 0) (nthN ms k) (ms.drop (k + 1))) ∧ Below w.heap.size w wl) (fun i _ => ms.length - (intOf i).toNat)
  case atStart => exact ⟨0, HP.out, by simp, H0, Below.refl _ _⟩
  case round =>
    obtain ⟨k, hk, rfl, HG, hbl⟩ := hrel
    have BL := Lib.hid hbl
    have hk62 : k + 1 ≤ 4611686018427387904 := by have := HL.out; omega
    have e1 := pred_wrapI k (by omega)
    have e2 := pred_wrapI' k (by omega)
    have e3 := wrapN64 (k + 1) hk62
    have e4 := wrapN64' (k + 1) hk62
    obtain ⟨j, hj⟩ : ∃ j, j = k + 1 := ⟨_, rfl⟩
    rw [← hj] at e1 e2 e3 e4 ⊢
    have HJ := Lib.hid hj
    clear hbl hk62 hj
    by_cases hjl : j < ms.length
    · have j1 : (j : Int) < (ms.length : Int) := by omega
      have j2 : (k : Int) < (ms.length : Int) := by have := HJ.out; omega
      have hcj := (BL.out.cell (p := ⟨b, off + j, none⟩) HB.out).trans (HC.out j hjl)
      have hck := (BL.out.cell (p := ⟨b, off + k, none⟩) HB.out).trans (HC.out k (by omega))
      have hx := nthN_asc HAS.out hjl (show k < j by have := HJ.out; omega)
      have hy := H256.out _ (nthN_mem hjl)
      have hon := fun h => goR_on (ns := ms) (a := nthN ms 0) (b := nthN ms k) (k := k) (by have := HJ.out; omega) h
      have hoff := fun h => goR_off (ns := ms) (a := nthN ms 0) (b := nthN ms k) (k := k) (fun _ => h)
      rw [show k + 1 = j from HJ.out.symm] at hon hoff
      obtain ⟨x, hxe⟩ : ∃ x, x = nthN ms k := ⟨_, rfl⟩
      obtain ⟨y, hye⟩ : ∃ y, y = nthN ms j := ⟨_, rfl⟩
      have hg := HG.out
      rw [show k + 1 = j from HJ.out.symm] at hg
      rw [← hxe] at hck hx hon hoff hg
      rw [← hye] at hcj hx hy hon hoff
      have e5 : IntKind.u8.wrap ((x : Int) + 1) = ((x + 1 : Nat) : Int) := by
        rw [show (x : Int) + 1 = ((x + 1 : Nat) : Int) from rfl]
        exact wrap_u8 (by omega)
      have HON := Lib.hid hon
      have HOFF := Lib.hid hoff
      have HGG := Lib.hid hg
      have HYE := Lib.hid hye
      have HXE := Lib.hid hxe
      clear hx hy hon hoff hg hye hxe
      by_cases hyx : y = x + 1
      · have q1 : ((y : Int) == ((x + 1 : Nat) : Int)) = true := by rw [beq_iff_eq]; omega
        have HN := Lib.hid (HGG.out.trans (HON.out hyx))
        clear hyx
        go_wp2_with fail
        go_quiet (fail)
        go_wp2_with fail
        exact ⟨⟨j, hjl, rfl, Lib.hid (by rw [← HYE.out]; exact HN.out), BL.out.trans ((below_drewN (Below.refl _ _) nq).mono BL.out.size)⟩, by simp [intOf] <;> omega⟩
      · have q1 : ((y : Int) == ((x + 1 : Nat) : Int)) = false := by rw [beq_eq_false_iff_ne]; omega
        have HN := Lib.hid (HGG.out.trans (HOFF.out hyx))
        clear hyx
        go_wp2_with fail
        go_quiet (fail)
        go_wp2_with fail
        go_ret
        exact ⟨j, rfl, by have := HJ.out; omega, Nat.le_of_lt hjl, by rw [show j - 1 = k by have := HJ.out; omega, ← HXE.out]; exact HN.out, BL.out.trans ((below_drewN (Below.refl _ _) nq).mono BL.out.size)⟩
    · have j1 : ¬ ((j : Int) < (ms.length : Int)) := by omega
      have HN := Lib.hid (HG.out.trans (goR_off (k := k) (fun h => absurd h (by have := HJ.out; omega))))
      go_wp2_with fail
      go_quiet (fail)
      go_wp2_with fail
      go_ret
      exact ⟨j, rfl, by have := HJ.out; omega, by have := HJ.out; omega, by rw [show j - 1 = k by have := HJ.out; omega, HJ.out]; exact HN.out, BL.out.trans ((below_drewN (Below.refl _ _) nq).mono BL.out.size)⟩
/-- What a writer's step keeps: what lies below the writer, and block k. -/
def Kp (g k : Nat) (w0 W : World) : Prop := Below g w0 W ∧ W.heap[k]? = w0.heap[k]?
theorem Kp.refl (g k : Nat) (w : World) : Kp g k w w := ⟨Below.refl _ _, rfl⟩
theorem Kp.trans {g k : Nat} {w w' w'' : World} (h : Kp g k w w') (h2 : Kp g k w' w'') : Kp g k w w'' := ⟨h.1.trans h2.1, h2.2.trans h.2⟩
theorem Kp.cell {g k : Nat} {w W : World} (h : Kp g k w W) (o : Nat) : W.cell? ⟨k, o, none⟩ = w.cell? ⟨k, o, none⟩ := World.cell?_of_block (a := ⟨k, o, none⟩) h.2
theorem Kp.of {g k : Nat} {w w' : World} {v v' : Value} {l : List UInt8} (d : Wd w w' g v v') (h : Wt w g v l) (hf : Far w g v k) : Kp g k w w' := ⟨d.below h, hf.same d⟩
theorem Kp.grow {g k : Nat} {w w' : World} (h : Below w.heap.size w w') (hg : g ≤ w.heap.size) (hk : k < w.heap.size) : Kp g k w w' := ⟨h.mono hg, h.block k hk⟩
theorem wrote_wd {w w' : World} {g : Nat} {v : Value} {l m : List UInt8} {ok : Prop} {e : Ending} (h : Wrote w g v l ok m e w') : ∃ v', Wd w w' g v v' := by
  obtain ⟨v', d, _⟩ := h
  exact ⟨v', d⟩
theorem wrote_kp {w w' : World} {g k : Nat} {v : Value} {l l' m : List UInt8} {ok : Prop} {e : Ending} (ht : Wt w g v l') (hf : Far w g v k) (h : Wrote w g v l ok m e w') : Kp g k w w' := by
  obtain ⟨v', d⟩ := wrote_wd h
  exact Kp.of d ht hf
def sLen : Value → Nat
  | .slice _ n _ => n
  | _ => 0
theorem nthN_drop (ms : List Nat) (n j : Nat) : nthN (ms.drop n) j = nthN ms (n + j) := by
  unfold nthN
  rw [List.getD_eq_getElem?_getD, List.getD_eq_getElem?_getD, List.getElem?_drop]
set_option maxHeartbeats 4000000 in
set_option maxRecDepth 1000000 in
theorem runs_any (g : Nat) (v : Value) (l : List UInt8) (b off cap : Nat) (ns : List Nat) (w : World) (h : Wt w g v l) (hf : Far w g v b) (hc : ∀ i, i < ns.length → w.cell? ⟨b, off + i, none⟩ = some (.int .u8 (nthN ns i : Int)))
    (hl : ns.length ≤ 256) (hcap : ns.length ≤ cap) (has : ns.Pairwise (· < ·)) (h256 : ∀ n ∈ ns, n < 256) :
    Calls Tryd.prog 53 #[.pointer (some ⟨g, 0, none⟩), .slice (some ⟨b, off, none⟩) ns.length cap] w fun e w' => Wrote w g v l True (runsB ns) e w' := by
  have H := Lib.hid h
  have HF := Lib.hid hf
  have HC := Lib.hid hc
  have HL := Lib.hid hl
  have HCP := Lib.hid hcap
  have HAS := Lib.hid has
  have H256 := Lib.hid h256
  obtain ⟨r, hr⟩ : ∃ r, r = runsB ns := ⟨_, rfl⟩
  have HR := Lib.hid hr
  rw [← hr]
  clear h hf hc hl has h256 hr hcap
  go_enter Tryd.func53, Tryd.ntmps53
  go_wp2_with fail
  go_loopw [1, 5] (fun s x wl => ∃ (ms : List Nat) (off' cap' : Nat) (v' : Value) (D : List UInt8), s = .slice (some ⟨b, off', none⟩) ms.length cap' ∧ Hid (∀ i, i < ms.length → w.cell? ⟨b, off' + i, none⟩ = some (.int .u8 (nthN ms i : Int))) ∧
    Hid (ms.length ≤ 256 ∧ ms.length ≤ cap' ∧ ms.Pairwise (· < ·) ∧ ∀ n ∈ ms, n < 256) ∧ Hid (Wt wl g v' (l ++ D)) ∧ Hid (Wd w wl g v v') ∧ Hid (D ++ runsB ms = r)) (fun s _ _ => sLen s)
  case atStart => exact ⟨ns, off, cap, v, [], rfl, HC, Lib.hid ⟨HL.out, HCP.out, HAS.out, H256.out⟩, Lib.hid (by rw [List.append_nil]; exact H.out), Lib.hid (Wd.of (Below.refl _ _) g v), Lib.hid HR.out.symm⟩
  case round =>
    obtain ⟨ms, off', cap', v', D, rfl, MC, MS, MT, MD, MR⟩ := hrel
    have MF := Lib.hid (HF.out.step MD.out)
    have MB := Lib.hid (HF.out.same MD.out)
    by_cases h0 : 0 < ms.length
    · have j0 : (ms.length : Int) > 0 := by omega
      have mcell : ∀ i, i < ms.length → wr.cell? ⟨b, off' + i, none⟩ = some (.int .u8 (nthN ms i : Int)) := fun i hi => (World.cell?_of_block (a := ⟨b, off' + i, none⟩) MB.out).trans (MC.out i hi)
      have MW := Lib.hid mcell
      have HPOS := Lib.hid h0
      clear mcell h0
      go_wp2_with fail
      refine (run_any b off' cap' ms wr MF.out.lt MW.out HPOS.out MS.out.1 MS.out.2.2.1 MS.out.2.2.2).mono ?_
      rintro e w2 ⟨n, rfl, hn1, hn2, hrn, hb2⟩
      obtain ⟨k, rfl⟩ : ∃ k, n = k + 1 := ⟨n - 1, by omega⟩
      rw [show k + 1 - 1 = k by omega] at hrn
      have W2 := Lib.hid (MW.out k (by omega))
      have e1 := pred_wrapI k (by have := MS.out.1; omega)
      have e2 := pred_wrapI' k (by have := MS.out.1; omega)
      have e6 : IntKind.i64.wrap (k : Int) = (k : Int) := IntWalk.i64_in _ (by have := MS.out.1; omega)
      have i1 : (k : Int) < (ms.length : Int) := by omega
      have i2 : ((k + 1 : Nat) : Int) ≤ (ms.length : Int) := by omega
      have HN2 := Lib.hid hn2
      have HRN := Lib.hid hrn
      have HB2 := Lib.hid hb2
      have HXY := Lib.hid (show nthN ms 0 ≤ nthN ms k by
        by_cases hk : k = 0
        · rw [hk]; exact Nat.le_refl _
        · exact Nat.le_of_lt (nthN_asc MS.out.2.2.1 (by omega) (by omega)))
      have HY := Lib.hid (MS.out.2.2.2 _ (nthN_mem (show k < ms.length by omega)))
      obtain ⟨x, hx⟩ : ∃ x, x = nthN ms 0 := ⟨_, rfl⟩
      obtain ⟨y, hy⟩ : ∃ y, y = nthN ms k := ⟨_, rfl⟩
      have C0 := MW.out 0 HPOS.out
      have CK := MW.out k (by omega)
      rw [← hx] at HXY HRN C0
      rw [← hy] at HXY HRN CK HY
      have HC0 := Lib.hid C0
      have HCK := Lib.hid CK
      clear hn1 hn2 hrn hb2 hx hy C0 CK
      go_wp2_with fail
      refine sg_start (Kp g b w2) (by kernel_rfl) ⟨(Below.refl g w2).drew, rfl⟩ (fun wd hwd => ?_)
      have hbd : Below wr.heap.size wr wd := by rw [hwd]; exact HB2.out.drew
      have hX : Kp g b w2 wd := by rw [hwd]; exact ⟨(Below.refl g w2).drew, rfl⟩
      have BD := Lib.hid hbd
      have T2 := Lib.hid (MT.out.below hbd)
      have F2 := Lib.hid (MF.out.grow hbd.size)
      clear hbd hwd
      refine sg_take (i := 0) (oi := ⟨some 11, _, _, _, _, _⟩) (v := ?_) rfl (by kernel_rfl) (by kernel_rfl) (by kernel_rfl) (fun _ _ _ h => h) rfl hX ?_ ?_; rotate_left; (intro W hW; go_simp; try with_reducible rfl); simp only [Act.put, List.setIfInBounds_toArray, List.set_cons_zero, List.set_cons_succ]
      refine sg_take (i := 1) (oi := ⟨some 12, _, _, _, _, _⟩) (v := ?_) rfl (by kernel_rfl) (by kernel_rfl) (by kernel_rfl) (fun _ _ _ h => h) rfl hX ?_ ?_; rotate_left; (intro W hW; go_simp; try with_reducible rfl); simp only [Act.put, List.setIfInBounds_toArray, List.set_cons_zero, List.set_cons_succ]
      refine sg_take (i := 2) (oi := ⟨some 13, _, _, _, _, _⟩) (v := ?_) rfl (by kernel_rfl) (by kernel_rfl) (by kernel_rfl) (fun _ _ _ h => h) rfl hX ?_ ?_; rotate_left; (intro W hW; go_simp; try with_reducible rfl); simp only [Act.put, List.setIfInBounds_toArray, List.set_cons_zero, List.set_cons_succ]
      refine sg_take (i := 3) (oi := ⟨some 14, _, _, _, _, _⟩) (v := .int .u8 (x : Int)) rfl (by kernel_rfl) (by kernel_rfl) (by kernel_rfl) (fun _ _ _ h => h) rfl hX (fun W hW => ld_u8 (.tmp 13) rfl rfl ((Kp.cell hW _).trans ((HB2.out.cell (p := ⟨b, _, none⟩) MF.out.lt).trans HC0.out))) ?_; simp only [Act.put, List.setIfInBounds_toArray, List.set_cons_zero, List.set_cons_succ]
      refine sg_take (i := 4) (oi := ⟨some 15, _, _, _, _, _⟩) (v := ?_) rfl (by kernel_rfl) (by kernel_rfl) (by kernel_rfl) (fun _ _ _ h => h) rfl hX ?_ ?_; rotate_left; (intro W hW; go_simp; try with_reducible rfl); simp only [Act.put, List.setIfInBounds_toArray, List.set_cons_zero, List.set_cons_succ]
      refine sg_take (i := 5) (oi := ⟨some 16, _, _, _, _, _⟩) (v := ?_) rfl (by kernel_rfl) (by kernel_rfl) (by kernel_rfl) (fun _ _ _ h => h) rfl hX ?_ ?_; rotate_left; (intro W hW; go_simp; try with_reducible rfl); simp only [Act.put, List.setIfInBounds_toArray, List.set_cons_zero, List.set_cons_succ]
      refine sg_take (i := 6) (oi := ⟨some 17, _, _, _, _, _⟩) (v := .int .i64 (k : Int)) rfl (by kernel_rfl) (by kernel_rfl) (by kernel_rfl) (fun _ _ _ h => h) rfl hX (fun W hW => (by go_simp)) ?_; simp only [Act.put, List.setIfInBounds_toArray, List.set_cons_zero, List.set_cons_succ]
      refine sg_take (i := 7) (oi := ⟨some 18, _, _, _, _, _⟩) (v := ?_) rfl (by kernel_rfl) (by kernel_rfl) (by kernel_rfl) (fun _ _ _ h => h) rfl hX ?_ ?_; rotate_left; (intro W hW; go_simp; try with_reducible rfl); simp only [Act.put, List.setIfInBounds_toArray, List.set_cons_zero, List.set_cons_succ]
      refine sg_take (i := 8) (oi := ⟨some 19, _, _, _, _, _⟩) (v := .int .u8 (y : Int)) rfl (by kernel_rfl) (by kernel_rfl) (by kernel_rfl) (fun _ _ _ h => h) rfl hX (fun W hW => ld_u8 (.tmp 18) rfl rfl ((Kp.cell hW _).trans ((HB2.out.cell (p := ⟨b, _, none⟩) MF.out.lt).trans HCK.out))) ?_; simp only [Act.put, List.setIfInBounds_toArray, List.set_cons_zero, List.set_cons_succ]
      refine sg_actB (i := 9) (o := ⟨some 20, _, _, _, _, _⟩) rfl (by kernel_rfl) rfl hX (fun K hK => ?_)
      go_wp2_with fail
      refine (span_any g v' (l ++ D) x y wd HXY.out HY.out T2.out).mono ?_
      intro e w3 hw
      obtain ⟨c, rfl⟩ := wrote_bool hw
      have HW := Lib.hid (wrote_from BD.out hw)
      have hk := wrote_kp T2.out F2.out hw
      go_wp2_with fail
      refine hK _ _ (hX.trans hk) ?_
      (try simp only [Act.put, List.setIfInBounds_toArray, List.set_cons_zero, List.set_cons_succ])
      clear hK K hw
      replace hX := hX.trans hk
      clear hk
      refine sg_take (i := 10) (oi := ⟨some 21, _, _, _, _, _⟩) (v := ?_) rfl (by kernel_rfl) (by kernel_rfl) (by kernel_rfl) (fun _ _ _ h => h) rfl hX ?_ ?_; rotate_left; (intro W hW; go_simp; try with_reducible rfl); simp only [Act.put, List.setIfInBounds_toArray, List.set_cons_zero, List.set_cons_succ]
      refine wpAnyH_done (by kernel_rfl) ?_ _
      clear hX
      obtain ⟨v3, d3, hcase⟩ := HW.out
      have D3 := Lib.hid (MD.out.trans d3)
      rcases hcase with ⟨hc, -, h3⟩ | ⟨hc, h3⟩
      · obtain rfl : c = true := by injection hc with hc; injection hc
        have H3 := Lib.hid h3
        clear hc h3 d3 HW
        go_wp2_with fail
        refine ⟨⟨ms.drop (k + 1), if cap' = k + 1 then off' else off' + (k + 1), cap' - (k + 1), v3, D ++ runB x y, ?_, Lib.hid fun i hi => ?_, Lib.hid ⟨?_, ?_, MS.out.2.2.1.drop, fun n hn => MS.out.2.2.2 n (List.mem_of_mem_drop hn)⟩,
          Lib.hid (by rw [← List.append_assoc]; exact H3.out), D3, Lib.hid (by rw [List.append_assoc, ← HRN.out]; exact MR.out)⟩, ?_⟩
        · rw [List.length_drop]
          congr 1
          split <;> rfl
        · rw [List.length_drop] at hi
          have hcp := MS.out.2.1
          rw [if_neg (by omega), nthN_drop, Nat.add_assoc]
          exact MC.out (k + 1 + i) (by omega)
        · rw [List.length_drop]; have := MS.out.1; omega
        · rw [List.length_drop]; have := MS.out.2.1; omega
        · simp only [sLen]
          have := HPOS.out
          omega
      · obtain rfl : c = false := by injection hc with hc; injection hc
        have H3 := Lib.hid h3
        clear hc h3 d3 HW
        go_wp2_with fail
        go_ret
        exact wrote_no D3.out (no_of H3.out (fun _ => trivial) (by rw [← MR.out, HRN.out]; simp only [List.length_append]; omega))
    · have j0 : ¬ ((ms.length : Int) > 0) := by omega
      obtain rfl : ms = [] := List.eq_nil_of_length_eq_zero (by omega)
      go_wp2_with fail
      go_ret
      exact wrote_yes MD.out trivial MT.out (by rw [← MR.out]; simp [runsB])
end Go.Proofs.YtmlojjgddmnbmaaDoor
namespace Go.Proofs.YtmlojjgddmnbmaaDoor
open Go.RowKit
set_option linter.unusedSimpArgs false
set_option linter.unusedVariables false

theorem head_nth (ns : List Nat) : ns.headD 0 = nthN ns 0 := by cases ns <;> rfl
set_option maxHeartbeats 4000000 in
set_option maxRecDepth 1000000 in
theorem wset_any (g : Nat) (v : Value) (l : List UInt8) (s : Nat → Bool) (w : World) (h : Wt w g v l) (hT : Tb w) :
    Calls Tryd.prog 36 #[.pointer (some ⟨g, 0, none⟩), .agg (wds s).toArray] w fun e w' => Wrote w g v l (memN s ≠ []) (setB s) e w' := by
  have H := Lib.hid h
  have HT := Lib.hid hT
  obtain ⟨i0, hi0, hz0, hs0⟩ := info_u8
  have HZ0 := Lib.hid hz0
  obtain ⟨ns, hns⟩ : ∃ ns, ns = memN s := ⟨_, rfl⟩
  obtain ⟨r, hr⟩ : ∃ r, r = setB s := ⟨_, rfl⟩
  have HNS := Lib.hid hns
  have HAS := Lib.hid (show ns.Pairwise (· < ·) by rw [hns]; exact memN_asc s)
  have HM := Lib.hid (show ∀ n ∈ ns, n < 256 by rw [hns]; exact fun n h => memN_lt h)
  have HLE := Lib.hid (show ns.length ≤ 256 by rw [hns]; exact memN_len s)
  rw [← hr]
  unfold setB at hr
  rw [← hns] at hr ⊢
  clear h hT hz0 hns
  by_cases n0 : ns.length = 0
  · have q0 : ((ns.length : Int) == 0) = true := by rw [n0]; rfl
    have HE := Lib.hid (List.eq_nil_of_length_eq_zero n0)
    clear n0 hr
    go_enter Tryd.func36, Tryd.ntmps36
    go_wp2_with (first
      | ((with_reducible refine atDst 3 ?_); refine wpList_box rfl 24 _ rfl (wds s) rfl (Below.refl w.heap.size w) (Nat.le_refl _) ?_; intro w1 hk1 hb1 hs1 _; have K1 := Lib.hid hk1; have B1 := Lib.hid hb1; clear hk1 hb1 hs1; (try simp only [Act.put, List.setIfInBounds_toArray, List.set_cons_zero, List.set_cons_succ]))
      | ((with_reducible refine atDst 6 ?_); refine wpList_ldArr rfl 24 _ rfl w.heap.size rfl 24 _ _ K1.out Tryd.underlying24 rfl (size_set s) ?_; (try simp only [Act.put, List.setIfInBounds_toArray, List.set_cons_zero, List.set_cons_succ])))
    refine (bsList_own s w1 (HT.out.below B1.out (Nat.le_refl _))).mono ?_
    rintro e w2 ⟨u, rfl, ho, hb2⟩
    rw [memJ_memN, ← HNS.out] at ho
    have B2 := Lib.hid (B1.out.trans (hb2.mono B1.out.size))
    have HO := Lib.hid ho
    obtain ⟨A, cap, rfl, p1, p2, p0, p3⟩ := Row.of_own ho
    have hml : (ns.map UInt8.ofNat).length = ns.length := by simp
    rw [bvs_length, hml] at p1 HO ⊢
    have T2 := Lib.hid (H.out.below B2.out)
    clear p1 p2 p0 p3
    go_wp2_with fail
    go_ret
    exact wrote_no (Wd.of B2.out g v) (fun hh => hh.1 HE.out)
  have q0 : ((ns.length : Int) == 0) = false := by rw [beq_eq_false_iff_ne]; omega
  have HNE := Lib.hid (show ns ≠ [] by intro he; exact n0 (by rw [he]; rfl))
  by_cases n1 : ns.length = 1
  · have q1 : ((ns.length : Int) == 1) = true := by rw [n1]; rfl
    have i1 : (0 : Int) < (ns.length : Int) := by omega
    rw [if_neg (by omega), if_pos n1, head_nth] at hr
    have HR := Lib.hid hr
    have HX := Lib.hid (HM.out _ (nthN_mem (show 0 < ns.length by omega)))
    have HLT := Lib.hid (show 0 < ns.length by omega)
    clear hr n1
    go_enter Tryd.func36, Tryd.ntmps36
    go_wp2_with (first
      | ((with_reducible refine atDst 3 ?_); refine wpList_box rfl 24 _ rfl (wds s) rfl (Below.refl w.heap.size w) (Nat.le_refl _) ?_; intro w1 hk1 hb1 hs1 _; have K1 := Lib.hid hk1; have B1 := Lib.hid hb1; clear hk1 hb1 hs1; (try simp only [Act.put, List.setIfInBounds_toArray, List.set_cons_zero, List.set_cons_succ]))
      | ((with_reducible refine atDst 6 ?_); refine wpList_ldArr rfl 24 _ rfl w.heap.size rfl 24 _ _ K1.out Tryd.underlying24 rfl (size_set s) ?_; (try simp only [Act.put, List.setIfInBounds_toArray, List.set_cons_zero, List.set_cons_succ])))
    refine (bsList_own s w1 (HT.out.below B1.out (Nat.le_refl _))).mono ?_
    rintro e w2 ⟨u, rfl, ho, hb2⟩
    rw [memJ_memN, ← HNS.out] at ho
    have B2 := Lib.hid (B1.out.trans (hb2.mono B1.out.size))
    have HO := Lib.hid ho
    obtain ⟨A, cap, rfl, p1, p2, p0, p3⟩ := Row.of_own ho
    have hml : (ns.map UInt8.ofNat).length = ns.length := by simp
    rw [bvs_length, hml] at p1 HO ⊢
    have T2 := Lib.hid (H.out.below B2.out)
    obtain ⟨b, off, rfl, hbw, hcell⟩ := p3 (by intro he; have h1 := congrArg List.length he; rw [bvs_length, hml] at h1; exact HNE.out (List.eq_nil_of_length_eq_zero h1))
    have FB := Lib.hid (H.out.made b (Nat.le_trans B1.out.size (own6_lt HO.out b rfl).2) hbw)
    have HC := Lib.hid (fun i (hi : i < ns.length) => cell_of_mem hcell HM.out hi)
    clear hcell hbw
    clear n0 p1 p2 p0 p3
    have c0 : w2.cell? ⟨b, off, none⟩ = some (.int .u8 (nthN ns 0 : Int)) := HC.out 0 HLT.out
    obtain ⟨x, hx⟩ : ∃ x, x = nthN ns 0 := ⟨_, rfl⟩
    rw [← hx] at c0 HR HX
    clear hx
    go_wp2_with fail
    refine (sign_any _ _ _ x _ HX.out T2.out).mono ?_
    rintro e w3 ⟨vw3, dw3, ⟨rfl, -, hw3⟩ | ⟨rfl, hw3⟩⟩
    all_goals
      have Dw3 := Lib.hid dw3
      have Hw3 := Lib.hid hw3
      clear dw3 hw3
    · go_wp2_with fail
      go_ret
      exact wrote_yes ((Wd.of B2.out g v).trans Dw3.out) HNE.out Hw3.out (by rw [HR.out])
    · go_wp2_with fail
      go_ret
      exact wrote_no ((Wd.of B2.out g v).trans Dw3.out) (no_of Hw3.out (fun _ => trivial) (by rw [HR.out]; exact Nat.le_refl _))
  have q1 : ((ns.length : Int) == 1) = false := by rw [beq_eq_false_iff_ne]; omega
  by_cases n2 : ns.length = 256
  · have q2 : ((ns.length : Int) == 256) = true := by rw [n2]; rfl
    rw [if_pos n2] at hr
    have HR := Lib.hid hr
    clear hr n2
    go_enter Tryd.func36, Tryd.ntmps36
    go_wp2_with (first
      | ((with_reducible refine atDst 3 ?_); refine wpList_box rfl 24 _ rfl (wds s) rfl (Below.refl w.heap.size w) (Nat.le_refl _) ?_; intro w1 hk1 hb1 hs1 _; have K1 := Lib.hid hk1; have B1 := Lib.hid hb1; clear hk1 hb1 hs1; (try simp only [Act.put, List.setIfInBounds_toArray, List.set_cons_zero, List.set_cons_succ]))
      | ((with_reducible refine atDst 6 ?_); refine wpList_ldArr rfl 24 _ rfl w.heap.size rfl 24 _ _ K1.out Tryd.underlying24 rfl (size_set s) ?_; (try simp only [Act.put, List.setIfInBounds_toArray, List.set_cons_zero, List.set_cons_succ])))
    refine (bsList_own s w1 (HT.out.below B1.out (Nat.le_refl _))).mono ?_
    rintro e w2 ⟨u, rfl, ho, hb2⟩
    rw [memJ_memN, ← HNS.out] at ho
    have B2 := Lib.hid (B1.out.trans (hb2.mono B1.out.size))
    have HO := Lib.hid ho
    obtain ⟨A, cap, rfl, p1, p2, p0, p3⟩ := Row.of_own ho
    have hml : (ns.map UInt8.ofNat).length = ns.length := by simp
    rw [bvs_length, hml] at p1 HO ⊢
    have T2 := Lib.hid (H.out.below B2.out)
    clear n0 n1 p1 p2 p0 p3
    go_wp2_with ((with_reducible refine atDst 22 ?_); refine wpList_bldB1G rfl 34 5 _ rfl i0 Tryd.underlying34 hi0 HZ0.out hs0 (46) (rfl) ?_; intro wn hrn hbn; have RN := Lib.hid hrn; have BN := Lib.hid hbn; clear hrn hbn; (try simp only [Act.put, List.setIfInBounds_toArray, List.set_cons_zero, List.set_cons_succ]))
    refine (put_at T2.out BN.out RN.out (by simp)).mono ?_
    clear RN BN
    rintro e w3 ⟨vw3, dw3, ⟨rfl, -, hw3⟩ | ⟨rfl, hw3⟩⟩
    all_goals
      have Dw3 := Lib.hid dw3
      have Hw3 := Lib.hid hw3
      clear dw3 hw3
    · go_wp2_with fail
      go_ret
      exact wrote_yes ((Wd.of B2.out g v).trans Dw3.out) HNE.out Hw3.out (by rw [HR.out])
    · go_wp2_with fail
      go_ret
      exact wrote_no ((Wd.of B2.out g v).trans Dw3.out) (no_of Hw3.out (fun _ => trivial) (by rw [HR.out]; exact Nat.le_refl _))
  have q2 : ((ns.length : Int) == 256) = false := by rw [beq_eq_false_iff_ne]; omega
  rw [if_neg n2, if_neg n1] at hr
  have HR := Lib.hid (show r = [91] ++ (runsB ns ++ [93]) from hr)
  clear hr n1 n2
  go_enter Tryd.func36, Tryd.ntmps36
  go_wp2_with (first
    | ((with_reducible refine atDst 3 ?_); refine wpList_box rfl 24 _ rfl (wds s) rfl (Below.refl w.heap.size w) (Nat.le_refl _) ?_; intro w1 hk1 hb1 hs1 _; have K1 := Lib.hid hk1; have B1 := Lib.hid hb1; clear hk1 hb1 hs1; (try simp only [Act.put, List.setIfInBounds_toArray, List.set_cons_zero, List.set_cons_succ]))
    | ((with_reducible refine atDst 6 ?_); refine wpList_ldArr rfl 24 _ rfl w.heap.size rfl 24 _ _ K1.out Tryd.underlying24 rfl (size_set s) ?_; (try simp only [Act.put, List.setIfInBounds_toArray, List.set_cons_zero, List.set_cons_succ])))
  refine (bsList_own s w1 (HT.out.below B1.out (Nat.le_refl _))).mono ?_
  rintro e w2 ⟨u, rfl, ho, hb2⟩
  rw [memJ_memN, ← HNS.out] at ho
  have B2 := Lib.hid (B1.out.trans (hb2.mono B1.out.size))
  have HO := Lib.hid ho
  obtain ⟨A, cap, rfl, p1, p2, p0, p3⟩ := Row.of_own ho
  have hml : (ns.map UInt8.ofNat).length = ns.length := by simp
  rw [bvs_length, hml] at p1 HO ⊢
  have T2 := Lib.hid (H.out.below B2.out)
  obtain ⟨b, off, rfl, hbw, hcell⟩ := p3 (by intro he; have h1 := congrArg List.length he; rw [bvs_length, hml] at h1; exact HNE.out (List.eq_nil_of_length_eq_zero h1))
  have FB := Lib.hid (H.out.made b (Nat.le_trans B1.out.size (own6_lt HO.out b rfl).2) hbw)
  have HC := Lib.hid (fun i (hi : i < ns.length) => cell_of_mem hcell HM.out hi)
  clear hcell hbw
  have HCP := Lib.hid p1
  clear n0 p1 p2 p0 p3
  go_wp2_with ((with_reducible refine atDst 25 ?_); refine wpList_bldB1G rfl 34 5 _ rfl i0 Tryd.underlying34 hi0 HZ0.out hs0 (91) (rfl) ?_; intro wn hrn hbn; have RN := Lib.hid hrn; have BN := Lib.hid hbn; clear hrn hbn; (try simp only [Act.put, List.setIfInBounds_toArray, List.set_cons_zero, List.set_cons_succ]))
  refine (put_at T2.out BN.out RN.out (by simp)).mono ?_
  clear RN BN
  rintro e w3 ⟨vw3, dw3, ⟨rfl, -, hw3⟩ | ⟨rfl, hw3⟩⟩
  all_goals
    have Dw3 := Lib.hid dw3
    have Hw3 := Lib.hid hw3
    clear dw3 hw3
  · go_wp2_with fail
    refine (runs_any g vw3 _ b off cap ns w3 Hw3.out (FB.out.step Dw3.out) (fun i hi => (World.cell?_of_block (a := ⟨b, off + i, none⟩) (FB.out.same Dw3.out)).trans (HC.out i hi)) HLE.out HCP.out HAS.out HM.out).mono ?_
    rintro e w4 ⟨vw4, dw4, ⟨rfl, -, hw4⟩ | ⟨rfl, hw4⟩⟩
    all_goals
      have Dw4 := Lib.hid dw4
      have Hw4 := Lib.hid hw4
      clear dw4 hw4
    · go_wp2_with ((with_reducible refine atDst 34 ?_); refine wpList_bldB1G rfl 34 5 _ rfl i0 Tryd.underlying34 hi0 HZ0.out hs0 (93) (rfl) ?_; intro wn hrn hbn; have RN := Lib.hid hrn; have BN := Lib.hid hbn; clear hrn hbn; (try simp only [Act.put, List.setIfInBounds_toArray, List.set_cons_zero, List.set_cons_succ]))
      refine (put_at Hw4.out BN.out RN.out (by simp)).mono ?_
      clear RN BN
      rintro e w5 ⟨vw5, dw5, ⟨rfl, -, hw5⟩ | ⟨rfl, hw5⟩⟩
      all_goals
        have Dw5 := Lib.hid dw5
        have Hw5 := Lib.hid hw5
        clear dw5 hw5
      · go_wp2_with fail
        go_ret
        exact wrote_yes ((Wd.of B2.out g v).trans (Dw3.out.trans (Dw4.out.trans Dw5.out))) HNE.out Hw5.out (by rw [HR.out]; simp only [List.append_assoc])
      · go_wp2_with fail
        go_ret
        exact wrote_no ((Wd.of B2.out g v).trans (Dw3.out.trans (Dw4.out.trans Dw5.out))) (no_of Hw5.out (fun _ => trivial) (by rw [HR.out]; simp only [List.length_append]; omega))
    · go_wp2_with fail
      go_ret
      exact wrote_no ((Wd.of B2.out g v).trans (Dw3.out.trans Dw4.out)) (no_of Hw4.out (fun _ => trivial) (by rw [HR.out]; simp only [List.length_append]; omega))
  · go_wp2_with fail
    go_ret
    exact wrote_no ((Wd.of B2.out g v).trans Dw3.out) (no_of Hw3.out (fun _ => trivial) (by rw [HR.out]; simp only [List.length_append]; omega))
end Go.Proofs.YtmlojjgddmnbmaaDoor
namespace Go.Proofs.YtmlojjgddmnbmaaDoor
open Go.RowKit
set_option linter.unusedSimpArgs false
set_option linter.unusedVariables false

set_option maxHeartbeats 4000000 in
set_option maxRecDepth 1000000 in
theorem follows_any (t u : T) (hu : u.nodes ≤ 1048576) (cs ds : List Value) (w : World) (hv : RxV w.heap.size w cs t) (hv' : RxV w.heap.size w ds u) :
    Calls Tryd.prog 54 #[.agg cs.toArray, .agg ds.toArray] w fun e w' => e = .returned (.bool (folT t u)) ∧ Below w.heap.size w w' := by
  have HT := Lib.hid hv
  have HU := Lib.hid hv'
  have HUN := Lib.hid hu
  obtain ⟨A, c1, hcs, _⟩ := RxD.split hv
  obtain ⟨B, c2, hds, _⟩ := RxD.split hv'
  have HT0 := Lib.hid (show cs[0]? = some (.int .i64 t.kind) by rw [hcs]; rfl)
  have HU0 := Lib.hid (show ds[0]? = some (.int .i64 u.kind) by rw [hds]; rfl)
  obtain ⟨f, hf⟩ : ∃ f, f = folT t u := ⟨_, rfl⟩
  rw [← hf]
  unfold folT at hf
  obtain ⟨c, hc⟩ : ∃ c, c = cmpT u t := ⟨_, rfl⟩
  have HCM := Lib.hid hc.symm
  rw [← hc] at hf
  obtain ⟨k, hk⟩ : ∃ k, k = t.kind := ⟨_, rfl⟩
  obtain ⟨k', hk'⟩ : ∃ k, k = u.kind := ⟨_, rfl⟩
  rw [← hk] at HT0 hf
  rw [← hk'] at HU0 hf
  clear hv hv' hcs hds hu hc hk hk'
  by_cases hc0 : c < 0
  · by_cases k3 : k = 3
    · have q1 : (k == 3) = true := by simpa using k3
      by_cases j3 : k' = 3
      · have q2 : (k' == 3) = true := by simpa using j3
        have HF := Lib.hid (show f = false by rw [hf, decide_eq_true hc0, decide_eq_true k3, decide_eq_true j3]; rfl)
        clear hf k3 j3
        go_enter Tryd.func54, Tryd.ntmps54
        go_wp2_with (first
          | ((with_reducible refine atDst 2 ?_); refine wpList_box rfl 27 _ rfl cs rfl (Below.refl w.heap.size w) (Nat.le_refl _) ?_; intro w1 hk1 hb1 hs1 _; have K1 := Lib.hid hk1; have B1 := Lib.hid hb1; clear hk1 hb1 hs1; (try simp only [Act.put, List.setIfInBounds_toArray, List.set_cons_zero, List.set_cons_succ]))
          | ((with_reducible refine atDst 3 ?_); refine wpList_box rfl 27 _ rfl ds rfl (Below.refl w1.heap.size w1) (Nat.le_refl _) ?_; intro w2 hk2 hb2 hs2 _; have L2 := Lib.hid hk2; have B2 := Lib.hid (B1.out.trans (hb2.mono B1.out.size)); have K2 := Lib.hid (K1.out.below hb2 K1.out.lt); clear hk2 hb2 hs2; (try simp only [Act.put, List.setIfInBounds_toArray, List.set_cons_zero, List.set_cons_succ]))
          | ((with_reducible refine atDst 5 ?_); refine wpList_ldArr rfl 27 _ rfl w1.heap.size rfl 27 _ _ L2.out Tryd.underlying27 rfl (size_rx HU.out.length) ?_; (try simp only [Act.put, List.setIfInBounds_toArray, List.set_cons_zero, List.set_cons_succ]))
          | ((with_reducible refine atDst 6 ?_); refine wpList_ldArr rfl 27 _ rfl w.heap.size rfl 27 _ _ K2.out Tryd.underlying27 rfl (size_rx HT.out.length) ?_; (try simp only [Act.put, List.setIfInBounds_toArray, List.set_cons_zero, List.set_cons_succ])))
        refine (rxCompare_gr u.nodes u t (Nat.le_refl _) (by have := HUN.out; omega) ds cs w2 ((HU.out.stay B2.out).mono B2.out.size) ((HT.out.stay B2.out).mono B2.out.size)).mono ?_
        rintro e w3 ⟨rfl, hg3⟩
        have hb3 := hg3.below
        have a0 := (K2.out.below hb3 K2.out.lt).cell 0
        rw [HT0.out] at a0
        have b0 := (L2.out.below hb3 L2.out.lt).cell 0
        rw [HU0.out] at b0
        have B3 := Lib.hid (B2.out.trans (hb3.mono B2.out.size))
        rw [HCM.out]
        clear hg3 hb3
        go_wp2_with fail
        go_ret
        rw [HF.out]
        exact ⟨rfl, B3.out⟩
      · have q2 : (k' == 3) = false := by simpa using j3
        have HF := Lib.hid (show f = true by rw [hf, decide_eq_true hc0, decide_eq_true k3, decide_eq_false j3]; rfl)
        clear hf k3 j3
        go_enter Tryd.func54, Tryd.ntmps54
        go_wp2_with (first
          | ((with_reducible refine atDst 2 ?_); refine wpList_box rfl 27 _ rfl cs rfl (Below.refl w.heap.size w) (Nat.le_refl _) ?_; intro w1 hk1 hb1 hs1 _; have K1 := Lib.hid hk1; have B1 := Lib.hid hb1; clear hk1 hb1 hs1; (try simp only [Act.put, List.setIfInBounds_toArray, List.set_cons_zero, List.set_cons_succ]))
          | ((with_reducible refine atDst 3 ?_); refine wpList_box rfl 27 _ rfl ds rfl (Below.refl w1.heap.size w1) (Nat.le_refl _) ?_; intro w2 hk2 hb2 hs2 _; have L2 := Lib.hid hk2; have B2 := Lib.hid (B1.out.trans (hb2.mono B1.out.size)); have K2 := Lib.hid (K1.out.below hb2 K1.out.lt); clear hk2 hb2 hs2; (try simp only [Act.put, List.setIfInBounds_toArray, List.set_cons_zero, List.set_cons_succ]))
          | ((with_reducible refine atDst 5 ?_); refine wpList_ldArr rfl 27 _ rfl w1.heap.size rfl 27 _ _ L2.out Tryd.underlying27 rfl (size_rx HU.out.length) ?_; (try simp only [Act.put, List.setIfInBounds_toArray, List.set_cons_zero, List.set_cons_succ]))
          | ((with_reducible refine atDst 6 ?_); refine wpList_ldArr rfl 27 _ rfl w.heap.size rfl 27 _ _ K2.out Tryd.underlying27 rfl (size_rx HT.out.length) ?_; (try simp only [Act.put, List.setIfInBounds_toArray, List.set_cons_zero, List.set_cons_succ])))
        refine (rxCompare_gr u.nodes u t (Nat.le_refl _) (by have := HUN.out; omega) ds cs w2 ((HU.out.stay B2.out).mono B2.out.size) ((HT.out.stay B2.out).mono B2.out.size)).mono ?_
        rintro e w3 ⟨rfl, hg3⟩
        have hb3 := hg3.below
        have a0 := (K2.out.below hb3 K2.out.lt).cell 0
        rw [HT0.out] at a0
        have b0 := (L2.out.below hb3 L2.out.lt).cell 0
        rw [HU0.out] at b0
        have B3 := Lib.hid (B2.out.trans (hb3.mono B2.out.size))
        rw [HCM.out]
        clear hg3 hb3
        go_wp2_with fail
        go_ret
        rw [HF.out]
        exact ⟨rfl, B3.out⟩
    · have q1 : (k == 3) = false := by simpa using k3
      have HF := Lib.hid (show f = true by rw [hf, decide_eq_true hc0, decide_eq_false k3]; rfl)
      clear hf k3
      go_enter Tryd.func54, Tryd.ntmps54
      go_wp2_with (first
        | ((with_reducible refine atDst 2 ?_); refine wpList_box rfl 27 _ rfl cs rfl (Below.refl w.heap.size w) (Nat.le_refl _) ?_; intro w1 hk1 hb1 hs1 _; have K1 := Lib.hid hk1; have B1 := Lib.hid hb1; clear hk1 hb1 hs1; (try simp only [Act.put, List.setIfInBounds_toArray, List.set_cons_zero, List.set_cons_succ]))
        | ((with_reducible refine atDst 3 ?_); refine wpList_box rfl 27 _ rfl ds rfl (Below.refl w1.heap.size w1) (Nat.le_refl _) ?_; intro w2 hk2 hb2 hs2 _; have L2 := Lib.hid hk2; have B2 := Lib.hid (B1.out.trans (hb2.mono B1.out.size)); have K2 := Lib.hid (K1.out.below hb2 K1.out.lt); clear hk2 hb2 hs2; (try simp only [Act.put, List.setIfInBounds_toArray, List.set_cons_zero, List.set_cons_succ]))
        | ((with_reducible refine atDst 5 ?_); refine wpList_ldArr rfl 27 _ rfl w1.heap.size rfl 27 _ _ L2.out Tryd.underlying27 rfl (size_rx HU.out.length) ?_; (try simp only [Act.put, List.setIfInBounds_toArray, List.set_cons_zero, List.set_cons_succ]))
        | ((with_reducible refine atDst 6 ?_); refine wpList_ldArr rfl 27 _ rfl w.heap.size rfl 27 _ _ K2.out Tryd.underlying27 rfl (size_rx HT.out.length) ?_; (try simp only [Act.put, List.setIfInBounds_toArray, List.set_cons_zero, List.set_cons_succ])))
      refine (rxCompare_gr u.nodes u t (Nat.le_refl _) (by have := HUN.out; omega) ds cs w2 ((HU.out.stay B2.out).mono B2.out.size) ((HT.out.stay B2.out).mono B2.out.size)).mono ?_
      rintro e w3 ⟨rfl, hg3⟩
      have hb3 := hg3.below
      have a0 := (K2.out.below hb3 K2.out.lt).cell 0
      rw [HT0.out] at a0
      have b0 := (L2.out.below hb3 L2.out.lt).cell 0
      rw [HU0.out] at b0
      have B3 := Lib.hid (B2.out.trans (hb3.mono B2.out.size))
      rw [HCM.out]
      clear hg3 hb3
      go_wp2_with fail
      go_ret
      rw [HF.out]
      exact ⟨rfl, B3.out⟩
  · have HF := Lib.hid (show f = false by rw [hf, decide_eq_false hc0]; rfl)
    clear hf
    go_enter Tryd.func54, Tryd.ntmps54
    go_wp2_with (first
      | ((with_reducible refine atDst 2 ?_); refine wpList_box rfl 27 _ rfl cs rfl (Below.refl w.heap.size w) (Nat.le_refl _) ?_; intro w1 hk1 hb1 hs1 _; have K1 := Lib.hid hk1; have B1 := Lib.hid hb1; clear hk1 hb1 hs1; (try simp only [Act.put, List.setIfInBounds_toArray, List.set_cons_zero, List.set_cons_succ]))
      | ((with_reducible refine atDst 3 ?_); refine wpList_box rfl 27 _ rfl ds rfl (Below.refl w1.heap.size w1) (Nat.le_refl _) ?_; intro w2 hk2 hb2 hs2 _; have L2 := Lib.hid hk2; have B2 := Lib.hid (B1.out.trans (hb2.mono B1.out.size)); have K2 := Lib.hid (K1.out.below hb2 K1.out.lt); clear hk2 hb2 hs2; (try simp only [Act.put, List.setIfInBounds_toArray, List.set_cons_zero, List.set_cons_succ]))
      | ((with_reducible refine atDst 5 ?_); refine wpList_ldArr rfl 27 _ rfl w1.heap.size rfl 27 _ _ L2.out Tryd.underlying27 rfl (size_rx HU.out.length) ?_; (try simp only [Act.put, List.setIfInBounds_toArray, List.set_cons_zero, List.set_cons_succ]))
      | ((with_reducible refine atDst 6 ?_); refine wpList_ldArr rfl 27 _ rfl w.heap.size rfl 27 _ _ K2.out Tryd.underlying27 rfl (size_rx HT.out.length) ?_; (try simp only [Act.put, List.setIfInBounds_toArray, List.set_cons_zero, List.set_cons_succ])))
    refine (rxCompare_gr u.nodes u t (Nat.le_refl _) (by have := HUN.out; omega) ds cs w2 ((HU.out.stay B2.out).mono B2.out.size) ((HT.out.stay B2.out).mono B2.out.size)).mono ?_
    rintro e w3 ⟨rfl, hg3⟩
    have hb3 := hg3.below
    have a0 := (K2.out.below hb3 K2.out.lt).cell 0
    rw [HT0.out] at a0
    have b0 := (L2.out.below hb3 L2.out.lt).cell 0
    rw [HU0.out] at b0
    have B3 := Lib.hid (B2.out.trans (hb3.mono B2.out.size))
    rw [HCM.out]
    clear hg3 hb3
    go_wp2_with fail
    go_ret
    rw [HF.out]
    exact ⟨rfl, B3.out⟩
/-- What the writer's 'expression' does to t. -/
def ExprC (t : T) : Prop := ∀ (g : Nat) (v : Value) (l : List UInt8) (cs : List Value) (w : World), Wt w g v l → Tb w → 0 < g → RxV g w cs t →
    Calls Tryd.prog 25 #[.pointer (some ⟨g, 0, none⟩), .agg cs.toArray] w fun e w' => Wrote w g v l (plainT t = true) (textT t) e w'
/-- The text of a part of an expression of kind k. -/
def pieceT (k : Int) (t : T) : List UInt8 := if t.kind = 2 then [] else if t.kind = 5 ∨ (t.kind = 4 ∧ k ≠ 5) then 40 :: (textT t ++ [41]) else textT t
theorem plain2 {t : T} (h : t.kind = 2) : plainT t = true ↔ eqS t.set zeroS = true ∧ t.args.length = 0 := by
  cases t with
  | node k s l =>
    have hk : k = 2 := h
    subst hk
    show plainT (.node 2 s l) = true ↔ eqS s zeroS = true ∧ l.length = 0
    simp only [plainT, count12 (.inr rfl)]
    constructor
    · intro h
      simp only [Bool.and_eq_true, Bool.or_eq_true, decide_eq_true_eq] at h
      exact ⟨h.1.1.1.resolve_left (by omega), h.1.1.2⟩
    · rintro ⟨h1, h2⟩
      obtain rfl := List.eq_nil_of_length_eq_zero h2
      rw [h1]
      simp [plainL]
theorem fits_one (W : Int) : fitsT 1 W = false := by unfold fitsT; simp
theorem fits_self {k : Int} (h : k ≠ 2) : fitsT k k = false := by unfold fitsT; rw [if_neg h]; simp
theorem fits_two (W : Int) : fitsT 2 W = decide (W = 5) := by unfold fitsT; rw [if_pos rfl]
theorem fits_yes {k W : Int} (h1 : k ≠ 1) (h2 : k ≠ 2) (hw : k ≠ W) : fitsT k W = true := by unfold fitsT; rw [if_neg h2]; simp [h1, hw]
set_option maxHeartbeats 8000000 in
set_option maxRecDepth 1000000 in
theorem part_any (W : Int) (hW : W = 4 ∨ W = 5 ∨ W = 6) (t : T) (ih : ExprC t) (g : Nat) (v : Value) (l : List UInt8) (cs : List Value) (w : World) (h : Wt w g v l) (hT : Tb w) (hg : 0 < g) (hv : RxV g w cs t) :
    Calls Tryd.prog 39 #[.pointer (some ⟨g, 0, none⟩), .agg cs.toArray, .int .i64 W] w fun e w' => Wrote w g v l (fitsT t.kind W = true ∧ plainT t = true) (pieceT W t) e w' := by
  have H := Lib.hid h
  have HT := Lib.hid hT
  have HG := Lib.hid hg
  have HV := Lib.hid hv
  have IH := Lib.hid ih
  obtain ⟨i0, hi0, hz0, hs0⟩ := info_u8
  have HZ0 := Lib.hid hz0
  obtain ⟨A, c1, hcs, _⟩ := RxD.split hv
  have HCS := Lib.hid hcs
  have HC6 := Lib.hid hv.length
  have HC0 := Lib.hid (show cs[0]? = some (.int .i64 t.kind) by rw [hcs]; rfl)
  have HC5 := Lib.hid (show cs[5]? = some (.slice A t.args.length c1) by rw [hcs]; rfl)
  obtain ⟨ok, hok⟩ : ∃ ok : Prop, ok = (fitsT t.kind W = true ∧ plainT t = true) := ⟨_, rfl⟩
  obtain ⟨r, hr⟩ : ∃ r, r = pieceT W t := ⟨_, rfl⟩
  rw [← hok, ← hr]
  unfold pieceT at hr
  have h2 := fun h => plain2 (t := t) h
  obtain ⟨k, hk⟩ : ∃ k, k = t.kind := ⟨_, rfl⟩
  obtain ⟨n, hn⟩ : ∃ n, n = t.args.length := ⟨_, rfl⟩
  obtain ⟨s, hs⟩ : ∃ s, s = t.set := ⟨_, rfl⟩
  obtain ⟨zs, hzs⟩ : ∃ zs : Nat → Bool, zs = zeroS := ⟨_, rfl⟩
  have HBS := Lib.hid (show Tryd.prog.built 24 [] = some (wds zs).toArray by rw [hzs]; kernel_rfl)
  rw [← hk] at HC0 hr hok h2
  rw [← hk] at HCS
  rw [← hn] at HC5 HCS h2
  rw [← hs] at HCS h2
  rw [← hzs] at h2
  clear h hT hg hv ih hz0 hcs hk hn hs hzs
  by_cases k1 : k = 1
  · have q1 : (k == 1) = true := by simpa using k1
    have HN := Lib.hid (show ¬ ok by rw [hok, k1, fits_one]; simp)
    clear hok hr h2 k1
    go_enter Tryd.func39, Tryd.ntmps39
    go_wp2_with (first
      | ((with_reducible refine atDst 4 ?_); refine wpList_box rfl 27 _ rfl cs rfl (Below.refl w.heap.size w) (Nat.le_refl _) ?_; intro w1 hk1 hb1 hs1 _; have K1 := Lib.hid hk1; have B1 := Lib.hid hb1; have a0 := K1.out.cell 0; rw [HC0.out] at a0; have a5 := K1.out.cell 5; rw [HC5.out] at a5; have RS := Lib.hid (set_range' HCS.out K1.out); have T1 := Lib.hid (H.out.below B1.out); have F1 := Lib.hid (H.out.made w.heap.size (Nat.le_refl _) K1.out.lt); have TB1 := Lib.hid (HT.out.below B1.out (Nat.le_refl _)); have V1 := Lib.hid (HV.out.stay (B1.out.mono (Nat.le_of_lt H.out.lt))); clear hk1 hb1 hs1; (try simp only [Act.put, List.setIfInBounds_toArray, List.set_cons_zero, List.set_cons_succ])))
    go_ret
    exact wrote_no (Wd.of B1.out g v) (fun hh => HN.out hh.1)
  have q1 : (k == 1) = false := by simpa using k1
  by_cases kW : k = W
  · have qW : (k == W) = true := by simpa using kW
    have HN := Lib.hid (show ¬ ok by rw [hok, ← kW, fits_self (by omega)]; simp)
    clear hok hr h2 k1 kW hW
    go_enter Tryd.func39, Tryd.ntmps39
    go_wp2_with (first
      | ((with_reducible refine atDst 4 ?_); refine wpList_box rfl 27 _ rfl cs rfl (Below.refl w.heap.size w) (Nat.le_refl _) ?_; intro w1 hk1 hb1 hs1 _; have K1 := Lib.hid hk1; have B1 := Lib.hid hb1; have a0 := K1.out.cell 0; rw [HC0.out] at a0; have a5 := K1.out.cell 5; rw [HC5.out] at a5; have RS := Lib.hid (set_range' HCS.out K1.out); have T1 := Lib.hid (H.out.below B1.out); have F1 := Lib.hid (H.out.made w.heap.size (Nat.le_refl _) K1.out.lt); have TB1 := Lib.hid (HT.out.below B1.out (Nat.le_refl _)); have V1 := Lib.hid (HV.out.stay (B1.out.mono (Nat.le_of_lt H.out.lt))); clear hk1 hb1 hs1; (try simp only [Act.put, List.setIfInBounds_toArray, List.set_cons_zero, List.set_cons_succ])))
    go_ret
    exact wrote_no (Wd.of B1.out g v) (fun hh => HN.out hh.1)
  have qW : (k == W) = false := by simpa using kW
  by_cases k2 : k = 2
  · have q2 : (k == 2) = true := by simpa using k2
    rw [k2, fits_two] at hok
    by_cases w5 : W = 5
    · have qw : (W == 5) = true := by simpa using w5
      rw [w5, h2 k2] at hok
      rw [if_pos k2] at hr
      have HR := Lib.hid hr
      by_cases n0 : n = 0
      · have qn : ((n : Int) == 0) = true := by rw [n0]; rfl
        cases hb : eqS s zs with
        | true =>
          have HEQ := Lib.hid hb
          have HY := Lib.hid (show ok by rw [hok]; exact ⟨by decide, hb, n0⟩)
          clear hok hr h2 k1 kW hW k2 w5 n0 hb
          go_enter Tryd.func39, Tryd.ntmps39
          go_wp2_with (first
            | ((with_reducible refine atDst 4 ?_); refine wpList_box rfl 27 _ rfl cs rfl (Below.refl w.heap.size w) (Nat.le_refl _) ?_; intro w1 hk1 hb1 hs1 _; have K1 := Lib.hid hk1; have B1 := Lib.hid hb1; have a0 := K1.out.cell 0; rw [HC0.out] at a0; have a5 := K1.out.cell 5; rw [HC5.out] at a5; have RS := Lib.hid (set_range' HCS.out K1.out); have T1 := Lib.hid (H.out.below B1.out); have F1 := Lib.hid (H.out.made w.heap.size (Nat.le_refl _) K1.out.lt); have TB1 := Lib.hid (HT.out.below B1.out (Nat.le_refl _)); have V1 := Lib.hid (HV.out.stay (B1.out.mono (Nat.le_of_lt H.out.lt))); clear hk1 hb1 hs1; (try simp only [Act.put, List.setIfInBounds_toArray, List.set_cons_zero, List.set_cons_succ]))
            | ((with_reducible refine atDst 29 ?_); refine wpList_ldMidG rfl 24 _ rfl w.heap.size 1 rfl (wds s) _ RS.out Tryd.underlying24 rfl (size_set s) ?_; (try simp only [Act.put, List.setIfInBounds_toArray, List.set_cons_zero, List.set_cons_succ]))
            | ((with_reducible refine atDst 30 ?_); refine wpList_bld rfl 24 _ rfl (wds zs) HBS.out ?_; (try simp only [Act.put, List.setIfInBounds_toArray, List.set_cons_zero, List.set_cons_succ]))
            | ((with_reducible refine atDst 31 ?_); refine wpList_eqSet_is rfl HEQ.out 24 22 (.tmp 29) (.tmp 30) 24 rfl guardSet Tryd.underlying24 Tryd.underlying22 sizeU64 rfl rfl ?_; (try simp only [Act.put, List.setIfInBounds_toArray, List.set_cons_zero, List.set_cons_succ])))
          go_ret
          exact wrote_yes (Wd.of B1.out g v) HY.out T1.out (by rw [HR.out]; simp)
        | false =>
          have HEQ := Lib.hid hb
          have HN := Lib.hid (show ¬ ok by rw [hok, hb]; simp)
          clear hok hr h2 k1 kW hW k2 w5 n0 hb
          go_enter Tryd.func39, Tryd.ntmps39
          go_wp2_with (first
            | ((with_reducible refine atDst 4 ?_); refine wpList_box rfl 27 _ rfl cs rfl (Below.refl w.heap.size w) (Nat.le_refl _) ?_; intro w1 hk1 hb1 hs1 _; have K1 := Lib.hid hk1; have B1 := Lib.hid hb1; have a0 := K1.out.cell 0; rw [HC0.out] at a0; have a5 := K1.out.cell 5; rw [HC5.out] at a5; have RS := Lib.hid (set_range' HCS.out K1.out); have T1 := Lib.hid (H.out.below B1.out); have F1 := Lib.hid (H.out.made w.heap.size (Nat.le_refl _) K1.out.lt); have TB1 := Lib.hid (HT.out.below B1.out (Nat.le_refl _)); have V1 := Lib.hid (HV.out.stay (B1.out.mono (Nat.le_of_lt H.out.lt))); clear hk1 hb1 hs1; (try simp only [Act.put, List.setIfInBounds_toArray, List.set_cons_zero, List.set_cons_succ]))
            | ((with_reducible refine atDst 29 ?_); refine wpList_ldMidG rfl 24 _ rfl w.heap.size 1 rfl (wds s) _ RS.out Tryd.underlying24 rfl (size_set s) ?_; (try simp only [Act.put, List.setIfInBounds_toArray, List.set_cons_zero, List.set_cons_succ]))
            | ((with_reducible refine atDst 30 ?_); refine wpList_bld rfl 24 _ rfl (wds zs) HBS.out ?_; (try simp only [Act.put, List.setIfInBounds_toArray, List.set_cons_zero, List.set_cons_succ]))
            | ((with_reducible refine atDst 31 ?_); refine wpList_eqSet_is rfl HEQ.out 24 22 (.tmp 29) (.tmp 30) 24 rfl guardSet Tryd.underlying24 Tryd.underlying22 sizeU64 rfl rfl ?_; (try simp only [Act.put, List.setIfInBounds_toArray, List.set_cons_zero, List.set_cons_succ])))
          go_ret
          exact wrote_no (Wd.of B1.out g v) (fun hh => HN.out hh.1)
      · have qn : ((n : Int) == 0) = false := by rw [beq_eq_false_iff_ne]; omega
        have HN := Lib.hid (show ¬ ok by rw [hok]; exact fun hh => n0 hh.2.2)
        clear hok hr h2 k1 kW hW k2 w5 n0
        go_enter Tryd.func39, Tryd.ntmps39
        go_wp2_with (first
          | ((with_reducible refine atDst 4 ?_); refine wpList_box rfl 27 _ rfl cs rfl (Below.refl w.heap.size w) (Nat.le_refl _) ?_; intro w1 hk1 hb1 hs1 _; have K1 := Lib.hid hk1; have B1 := Lib.hid hb1; have a0 := K1.out.cell 0; rw [HC0.out] at a0; have a5 := K1.out.cell 5; rw [HC5.out] at a5; have RS := Lib.hid (set_range' HCS.out K1.out); have T1 := Lib.hid (H.out.below B1.out); have F1 := Lib.hid (H.out.made w.heap.size (Nat.le_refl _) K1.out.lt); have TB1 := Lib.hid (HT.out.below B1.out (Nat.le_refl _)); have V1 := Lib.hid (HV.out.stay (B1.out.mono (Nat.le_of_lt H.out.lt))); clear hk1 hb1 hs1; (try simp only [Act.put, List.setIfInBounds_toArray, List.set_cons_zero, List.set_cons_succ])))
        go_ret
        exact wrote_no (Wd.of B1.out g v) (fun hh => HN.out hh.1)
    · have qw : (W == 5) = false := by simpa using w5
      have HN := Lib.hid (show ¬ ok by rw [hok, decide_eq_false w5]; simp)
      clear hok hr h2 k1 kW hW k2 w5
      go_enter Tryd.func39, Tryd.ntmps39
      go_wp2_with (first
        | ((with_reducible refine atDst 4 ?_); refine wpList_box rfl 27 _ rfl cs rfl (Below.refl w.heap.size w) (Nat.le_refl _) ?_; intro w1 hk1 hb1 hs1 _; have K1 := Lib.hid hk1; have B1 := Lib.hid hb1; have a0 := K1.out.cell 0; rw [HC0.out] at a0; have a5 := K1.out.cell 5; rw [HC5.out] at a5; have RS := Lib.hid (set_range' HCS.out K1.out); have T1 := Lib.hid (H.out.below B1.out); have F1 := Lib.hid (H.out.made w.heap.size (Nat.le_refl _) K1.out.lt); have TB1 := Lib.hid (HT.out.below B1.out (Nat.le_refl _)); have V1 := Lib.hid (HV.out.stay (B1.out.mono (Nat.le_of_lt H.out.lt))); clear hk1 hb1 hs1; (try simp only [Act.put, List.setIfInBounds_toArray, List.set_cons_zero, List.set_cons_succ])))
      go_ret
      exact wrote_no (Wd.of B1.out g v) (fun hh => HN.out hh.1)
  have q2 : (k == 2) = false := by simpa using k2
  have HOK := Lib.hid (show ok ↔ plainT t = true by rw [hok, fits_yes k1 k2 kW]; simp)
  rw [if_neg k2] at hr
  clear hok h2
  by_cases k4 : k = 4
  · have q4 : (k == 4) = true := by simpa using k4
    by_cases w5 : W = 5
    · have qw : (W == 5) = true := by simpa using w5
      have HR := Lib.hid (show r = textT t by rw [hr, if_neg (by omega)])
      clear hr k1 kW hW k2 k4 w5
      go_enter Tryd.func39, Tryd.ntmps39
      go_wp2_with (first
        | ((with_reducible refine atDst 4 ?_); refine wpList_box rfl 27 _ rfl cs rfl (Below.refl w.heap.size w) (Nat.le_refl _) ?_; intro w1 hk1 hb1 hs1 _; have K1 := Lib.hid hk1; have B1 := Lib.hid hb1; have a0 := K1.out.cell 0; rw [HC0.out] at a0; have a5 := K1.out.cell 5; rw [HC5.out] at a5; have RS := Lib.hid (set_range' HCS.out K1.out); have T1 := Lib.hid (H.out.below B1.out); have F1 := Lib.hid (H.out.made w.heap.size (Nat.le_refl _) K1.out.lt); have TB1 := Lib.hid (HT.out.below B1.out (Nat.le_refl _)); have V1 := Lib.hid (HV.out.stay (B1.out.mono (Nat.le_of_lt H.out.lt))); clear hk1 hb1 hs1; (try simp only [Act.put, List.setIfInBounds_toArray, List.set_cons_zero, List.set_cons_succ]))
        | ((with_reducible refine atDst 36 ?_); refine wpList_ldArr rfl 27 _ rfl w.heap.size rfl 27 _ _ K1.out Tryd.underlying27 rfl (size_rx HC6.out) ?_; (try simp only [Act.put, List.setIfInBounds_toArray, List.set_cons_zero, List.set_cons_succ])))
      refine (IH.out g v l cs w1 T1.out TB1.out HG.out V1.out).mono ?_
      intro e w2 hw
      obtain ⟨c, rfl⟩ := wrote_bool hw
      have HW := Lib.hid (wrote_from B1.out hw)
      clear hw
      go_wp2_with fail
      go_ret
      obtain ⟨v2, d2, ⟨h2, hp, ht⟩ | ⟨h2, hn⟩⟩ := HW.out
      · exact ⟨v2, d2, .inl ⟨h2, HOK.out.2 hp, by rw [HR.out]; exact ht⟩⟩
      · exact ⟨v2, d2, .inr ⟨h2, fun hh => hn ⟨HOK.out.1 hh.1, by rw [← HR.out]; exact hh.2⟩⟩⟩
    · have qw : (W == 5) = false := by simpa using w5
      have HR := Lib.hid (show r = [40] ++ (textT t ++ [41]) by rw [hr, if_pos (.inr ⟨k4, w5⟩)]; rfl)
      clear hr k1 kW hW k2 k4 w5
      go_enter Tryd.func39, Tryd.ntmps39
      go_wp2_with (first
        | ((with_reducible refine atDst 4 ?_); refine wpList_box rfl 27 _ rfl cs rfl (Below.refl w.heap.size w) (Nat.le_refl _) ?_; intro w1 hk1 hb1 hs1 _; have K1 := Lib.hid hk1; have B1 := Lib.hid hb1; have a0 := K1.out.cell 0; rw [HC0.out] at a0; have a5 := K1.out.cell 5; rw [HC5.out] at a5; have RS := Lib.hid (set_range' HCS.out K1.out); have T1 := Lib.hid (H.out.below B1.out); have F1 := Lib.hid (H.out.made w.heap.size (Nat.le_refl _) K1.out.lt); have TB1 := Lib.hid (HT.out.below B1.out (Nat.le_refl _)); have V1 := Lib.hid (HV.out.stay (B1.out.mono (Nat.le_of_lt H.out.lt))); clear hk1 hb1 hs1; (try simp only [Act.put, List.setIfInBounds_toArray, List.set_cons_zero, List.set_cons_succ]))
        | ((with_reducible refine atDst 39 ?_); refine wpList_bldB1G rfl 34 5 _ rfl i0 Tryd.underlying34 hi0 HZ0.out hs0 (40) (rfl) ?_; intro wn hrn hbn; have RN := Lib.hid hrn; have BN := Lib.hid hbn; clear hrn hbn; (try simp only [Act.put, List.setIfInBounds_toArray, List.set_cons_zero, List.set_cons_succ])))
      refine (put_at T1.out BN.out RN.out (by simp)).mono ?_
      clear RN BN
      rintro e w2 ⟨vw2, dw2, ⟨rfl, -, hw2⟩ | ⟨rfl, hw2⟩⟩
      all_goals
        have Dw2 := Lib.hid dw2
        have Hw2 := Lib.hid hw2
        clear dw2 hw2
      · have K2 := Lib.hid (F1.out.blk Dw2.out K1.out)
        have HB2 := Lib.hid (Dw2.out.below T1.out)
        have V2 := Lib.hid (V1.out.stay HB2.out)
        have TB2 := Lib.hid (TB1.out.belowG HB2.out HG.out)
        go_wp2_with ((with_reducible refine atDst 43 ?_); refine wpList_ldArr rfl 27 _ rfl w.heap.size rfl 27 _ _ K2.out Tryd.underlying27 rfl (size_rx HC6.out) ?_; (try simp only [Act.put, List.setIfInBounds_toArray, List.set_cons_zero, List.set_cons_succ]))
        refine (IH.out g vw2 (l ++ [40]) cs w2 Hw2.out TB2.out HG.out V2.out).mono ?_
        rintro e w3 ⟨vw3, dw3, ⟨rfl, hp3, hw3⟩ | ⟨rfl, hw3⟩⟩
        · have Dw3 := Lib.hid ((Wd.of B1.out g v).trans (Dw2.out.trans dw3))
          have Hw3 := Lib.hid hw3
          have HP3 := Lib.hid hp3
          clear dw3 hw3 hp3
          go_wp2_with ((with_reducible refine atDst 48 ?_); refine wpList_bldB1G rfl 34 5 _ rfl i0 Tryd.underlying34 hi0 HZ0.out hs0 (41) (rfl) ?_; intro wn hrn hbn; have RN := Lib.hid hrn; have BN := Lib.hid hbn; clear hrn hbn; (try simp only [Act.put, List.setIfInBounds_toArray, List.set_cons_zero, List.set_cons_succ]))
          refine (put_at Hw3.out BN.out RN.out (by simp)).mono ?_
          clear RN BN
          rintro e w4 ⟨vw4, dw4, ⟨rfl, -, hw4⟩ | ⟨rfl, hw4⟩⟩
          all_goals
            have Dw4 := Lib.hid dw4
            have Hw4 := Lib.hid hw4
            clear dw4 hw4
          · go_wp2_with fail
            go_ret
            exact wrote_yes (Dw3.out.trans Dw4.out) (HOK.out.2 HP3.out) Hw4.out (by rw [HR.out]; simp only [List.append_assoc])
          · go_wp2_with fail
            go_ret
            exact wrote_no (Dw3.out.trans Dw4.out) (no_of Hw4.out (fun _ => trivial) (by rw [HR.out]; simp only [List.length_append]; omega))
        · have Dw3 := Lib.hid ((Wd.of B1.out g v).trans (Dw2.out.trans dw3))
          have Hw3 := Lib.hid hw3
          clear dw3 hw3
          go_wp2_with fail
          go_ret
          exact wrote_no Dw3.out (no_of Hw3.out HOK.out.1 (by rw [HR.out]; simp only [List.length_append]; omega))
      · go_wp2_with fail
        go_ret
        exact wrote_no ((Wd.of B1.out g v).trans Dw2.out) (no_of Hw2.out (fun _ => trivial) (by rw [HR.out]; simp only [List.length_append]; omega))
  have q4 : (k == 4) = false := by simpa using k4
  by_cases k5 : k = 5
  · have q5 : (k == 5) = true := by simpa using k5
    have HR := Lib.hid (show r = [40] ++ (textT t ++ [41]) by rw [hr, if_pos (.inl k5)]; rfl)
    clear hr k1 kW hW k2 k4 k5
    go_enter Tryd.func39, Tryd.ntmps39
    go_wp2_with (first
      | ((with_reducible refine atDst 4 ?_); refine wpList_box rfl 27 _ rfl cs rfl (Below.refl w.heap.size w) (Nat.le_refl _) ?_; intro w1 hk1 hb1 hs1 _; have K1 := Lib.hid hk1; have B1 := Lib.hid hb1; have a0 := K1.out.cell 0; rw [HC0.out] at a0; have a5 := K1.out.cell 5; rw [HC5.out] at a5; have RS := Lib.hid (set_range' HCS.out K1.out); have T1 := Lib.hid (H.out.below B1.out); have F1 := Lib.hid (H.out.made w.heap.size (Nat.le_refl _) K1.out.lt); have TB1 := Lib.hid (HT.out.below B1.out (Nat.le_refl _)); have V1 := Lib.hid (HV.out.stay (B1.out.mono (Nat.le_of_lt H.out.lt))); clear hk1 hb1 hs1; (try simp only [Act.put, List.setIfInBounds_toArray, List.set_cons_zero, List.set_cons_succ]))
      | ((with_reducible refine atDst 39 ?_); refine wpList_bldB1G rfl 34 5 _ rfl i0 Tryd.underlying34 hi0 HZ0.out hs0 (40) (rfl) ?_; intro wn hrn hbn; have RN := Lib.hid hrn; have BN := Lib.hid hbn; clear hrn hbn; (try simp only [Act.put, List.setIfInBounds_toArray, List.set_cons_zero, List.set_cons_succ])))
    refine (put_at T1.out BN.out RN.out (by simp)).mono ?_
    clear RN BN
    rintro e w2 ⟨vw2, dw2, ⟨rfl, -, hw2⟩ | ⟨rfl, hw2⟩⟩
    all_goals
      have Dw2 := Lib.hid dw2
      have Hw2 := Lib.hid hw2
      clear dw2 hw2
    · have K2 := Lib.hid (F1.out.blk Dw2.out K1.out)
      have HB2 := Lib.hid (Dw2.out.below T1.out)
      have V2 := Lib.hid (V1.out.stay HB2.out)
      have TB2 := Lib.hid (TB1.out.belowG HB2.out HG.out)
      go_wp2_with ((with_reducible refine atDst 43 ?_); refine wpList_ldArr rfl 27 _ rfl w.heap.size rfl 27 _ _ K2.out Tryd.underlying27 rfl (size_rx HC6.out) ?_; (try simp only [Act.put, List.setIfInBounds_toArray, List.set_cons_zero, List.set_cons_succ]))
      refine (IH.out g vw2 (l ++ [40]) cs w2 Hw2.out TB2.out HG.out V2.out).mono ?_
      rintro e w3 ⟨vw3, dw3, ⟨rfl, hp3, hw3⟩ | ⟨rfl, hw3⟩⟩
      · have Dw3 := Lib.hid ((Wd.of B1.out g v).trans (Dw2.out.trans dw3))
        have Hw3 := Lib.hid hw3
        have HP3 := Lib.hid hp3
        clear dw3 hw3 hp3
        go_wp2_with ((with_reducible refine atDst 48 ?_); refine wpList_bldB1G rfl 34 5 _ rfl i0 Tryd.underlying34 hi0 HZ0.out hs0 (41) (rfl) ?_; intro wn hrn hbn; have RN := Lib.hid hrn; have BN := Lib.hid hbn; clear hrn hbn; (try simp only [Act.put, List.setIfInBounds_toArray, List.set_cons_zero, List.set_cons_succ]))
        refine (put_at Hw3.out BN.out RN.out (by simp)).mono ?_
        clear RN BN
        rintro e w4 ⟨vw4, dw4, ⟨rfl, -, hw4⟩ | ⟨rfl, hw4⟩⟩
        all_goals
          have Dw4 := Lib.hid dw4
          have Hw4 := Lib.hid hw4
          clear dw4 hw4
        · go_wp2_with fail
          go_ret
          exact wrote_yes (Dw3.out.trans Dw4.out) (HOK.out.2 HP3.out) Hw4.out (by rw [HR.out]; simp only [List.append_assoc])
        · go_wp2_with fail
          go_ret
          exact wrote_no (Dw3.out.trans Dw4.out) (no_of Hw4.out (fun _ => trivial) (by rw [HR.out]; simp only [List.length_append]; omega))
      · have Dw3 := Lib.hid ((Wd.of B1.out g v).trans (Dw2.out.trans dw3))
        have Hw3 := Lib.hid hw3
        clear dw3 hw3
        go_wp2_with fail
        go_ret
        exact wrote_no Dw3.out (no_of Hw3.out HOK.out.1 (by rw [HR.out]; simp only [List.length_append]; omega))
    · go_wp2_with fail
      go_ret
      exact wrote_no ((Wd.of B1.out g v).trans Dw2.out) (no_of Hw2.out (fun _ => trivial) (by rw [HR.out]; simp only [List.length_append]; omega))
  · have q5 : (k == 5) = false := by simpa using k5
    have HR := Lib.hid (show r = textT t by rw [hr, if_neg (by omega)])
    clear hr k1 kW hW k2 k4 k5
    go_enter Tryd.func39, Tryd.ntmps39
    go_wp2_with (first
      | ((with_reducible refine atDst 4 ?_); refine wpList_box rfl 27 _ rfl cs rfl (Below.refl w.heap.size w) (Nat.le_refl _) ?_; intro w1 hk1 hb1 hs1 _; have K1 := Lib.hid hk1; have B1 := Lib.hid hb1; have a0 := K1.out.cell 0; rw [HC0.out] at a0; have a5 := K1.out.cell 5; rw [HC5.out] at a5; have RS := Lib.hid (set_range' HCS.out K1.out); have T1 := Lib.hid (H.out.below B1.out); have F1 := Lib.hid (H.out.made w.heap.size (Nat.le_refl _) K1.out.lt); have TB1 := Lib.hid (HT.out.below B1.out (Nat.le_refl _)); have V1 := Lib.hid (HV.out.stay (B1.out.mono (Nat.le_of_lt H.out.lt))); clear hk1 hb1 hs1; (try simp only [Act.put, List.setIfInBounds_toArray, List.set_cons_zero, List.set_cons_succ]))
      | ((with_reducible refine atDst 52 ?_); refine wpList_ldArr rfl 27 _ rfl w.heap.size rfl 27 _ _ K1.out Tryd.underlying27 rfl (size_rx HC6.out) ?_; (try simp only [Act.put, List.setIfInBounds_toArray, List.set_cons_zero, List.set_cons_succ])))
    refine (IH.out g v l cs w1 T1.out TB1.out HG.out V1.out).mono ?_
    intro e w2 hw
    obtain ⟨c, rfl⟩ := wrote_bool hw
    have HW := Lib.hid (wrote_from B1.out hw)
    clear hw
    go_wp2_with fail
    go_ret
    obtain ⟨v2, d2, ⟨h2, hp, ht⟩ | ⟨h2, hn⟩⟩ := HW.out
    · exact ⟨v2, d2, .inl ⟨h2, HOK.out.2 hp, by rw [HR.out]; exact ht⟩⟩
    · exact ⟨v2, d2, .inr ⟨h2, fun hh => hn ⟨HOK.out.1 hh.1, by rw [← HR.out]; exact hh.2⟩⟩⟩
end Go.Proofs.YtmlojjgddmnbmaaDoor
namespace Go.Proofs.YtmlojjgddmnbmaaDoor
open Go.RowKit
set_option linter.unusedSimpArgs false
set_option linter.unusedVariables false

theorem catL_app : ∀ (l m : List T), catL (l ++ m) = catL l ++ catL m
  | [], m => rfl
  | x :: r, m => by rw [List.cons_append]; simp only [catL]; rw [catL_app r m, List.append_assoc]
theorem catL_mono (l : List T) (j : Nat) : (catL (l.take j)).length ≤ (catL l).length := by
  conv => rhs; rw [← List.take_append_drop j l, catL_app]
  rw [List.length_append]
  omega
theorem piece_cat {x : T} (h : fitsT x.kind 4 = true) : pieceT 4 x = if x.kind = 5 then 40 :: (textT x ++ [41]) else textT x := by
  unfold fitsT at h
  unfold pieceT
  by_cases k2 : x.kind = 2
  · rw [if_pos k2] at h
    simp at h
  · rw [if_neg k2] at h ⊢
    simp at h
    by_cases k5 : x.kind = 5
    · rw [if_pos (.inl k5), if_pos k5]
    · rw [if_neg (by omega), if_neg k5]
theorem at_plain {k : Int} {l : List T} {j : Nat} {x : T} (h : plainL k l = true) (hx : l[j]? = some x) : fitsT x.kind k = true ∧ plainT x = true := plainL_iff.1 h x (List.mem_of_getElem? hx)
theorem all_plain {k : Int} {l : List T} (h : ∀ (i : Nat) (x : T), i < l.length → l[i]? = some x → fitsT x.kind k = true ∧ plainT x = true) : plainL k l = true := plainL_iff.2 fun t ht => by
  obtain ⟨i, hi⟩ := List.getElem?_of_mem ht
  exact h i t (List.getElem?_eq_some_iff.1 hi).1 hi
set_option maxHeartbeats 8000000 in
set_option maxRecDepth 1000000 in
theorem cat_any (l : List T) (ih : ∀ x ∈ l, ExprC x) (g : Nat) (v : Value) (L : List UInt8) (u : Value) (w : World) (h : Wt w g v L) (hT : Tb w) (hg : 0 < g) (hr : RowT g w u l) (hlen : l.length ≤ 1048576) :
    Calls Tryd.prog 37 #[.pointer (some ⟨g, 0, none⟩), u] w fun e w' => Wrote w g v L (plainL 4 l = true) (catL l) e w' := by
  have H := Lib.hid h
  have HT := Lib.hid hT
  have HG := Lib.hid hg
  have IH := Lib.hid ih
  have HL := Lib.hid hlen
  obtain ⟨A, cap, f, rfl, h1, h2, h0, h3, h4⟩ := hr
  have H3 := Lib.hid h3
  have H4 := Lib.hid h4
  obtain ⟨i0, hi0, hz0, hz1, hz2⟩ := inf_rx'
  obtain ⟨z, hz⟩ : ∃ z, z = rxc 0 zeroS (.slice none 0 0) := ⟨_, rfl⟩
  have HZL := Lib.hid (show z.length = 6 by rw [hz]; rfl)
  have HZ0 := Lib.hid (show i0.zero = some (.agg z.toArray) by rw [hz]; exact hz0)
  obtain ⟨ok, hok⟩ : ∃ ok : Prop, ok = (plainL 4 l = true) := ⟨_, rfl⟩
  obtain ⟨r, hr⟩ : ∃ r, r = catL l := ⟨_, rfl⟩
  rw [← hok, ← hr]
  have HOK := Lib.hid hok
  have HR := Lib.hid hr
  clear h hT hg ih hlen h1 h2 h0 h3 h4 hz hz0 hok hr
  go_enter Tryd.func37, Tryd.ntmps37
  go_wp2_with fail
  go_loopw [9] (fun i wl => ∃ (j : Nat) (v' : Value), j ≤ l.length ∧ i = .int .i64 (j : Int) ∧ Hid (Wt wl g v' (L ++ catL (l.take j))) ∧ Hid (Wd w wl g v v') ∧ Hid (∀ (i : Nat) (x : T), i < j → l[i]? = some x → fitsT x.kind 4 = true ∧ plainT x = true)) (fun i _ => l.length - (intOf i).toNat)
  case atStart => exact ⟨0, v, by omega, by simp, Lib.hid (by simpa [catL] using H.out), Lib.hid (Wd.of (Below.refl _ _) g v), Lib.hid fun i x hi => by omega⟩
  case round =>
    obtain ⟨j, v', hj, rfl, MT, MD, MP⟩ := hrel
    have MB := Lib.hid (MD.out.below H.out)
    by_cases hjl : j < l.length
    · have j1 : (j : Int) < (l.length : Int) := Int.ofNat_lt.2 hjl
      obtain ⟨b, off, rfl, hb, hrng⟩ := H3.out (by rintro rfl; simp at hjl)
      obtain ⟨x, hx⟩ : ∃ x, l[j]? = some x := ⟨_, List.getElem?_eq_getElem hjl⟩
      have HRG := Lib.hid (range_below (hrng j hjl) MB.out hb)
      have HVX := Lib.hid (H4.out j x hx)
      have HV6 := Lib.hid HVX.out.length
      have HV1 := Lib.hid (show (f j).all (·.oneCell') = true from List.all_eq_true.2 (RxD.one HVX.out))
      have HXI := Lib.hid (IH.out x (List.mem_of_getElem? hx))
      have hj62 : j ≤ 4611686018427387904 := by have := HL.out; omega
      have e3 := wrapN64 j hj62
      have e4 := wrapN64' j hj62
      have HNX := Lib.hid (catL_next l j x hx)
      have HX := Lib.hid hx
      have HMN := Lib.hid (catL_mono l (j + 1))
      clear hrng hx hj62 hb
      go_wp2_with (first
        | ((with_reducible refine atDst 12 ?_); refine wpList_load_mid rfl 27 _ rfl b (off + j * 6) rfl (f j) _ HRG.out Tryd.underlying27 rfl (size_rx HV6.out) ?_; (try simp only [Act.put, List.setIfInBounds_toArray, List.set_cons_zero, List.set_cons_succ]))
        | ((with_reducible refine atDst 6 ?_); refine wpList_new rfl 27 rfl i0 _ z hi0 HZ0.out rfl (Below.refl wr.heap.size wr) (Nat.le_refl _) ?_; intro w2 hk2 hb2 hs2 ho2; have L2 := Lib.hid hk2; have B2 := Lib.hid hb2; clear hk2 hb2 hs2 ho2; (try simp only [Act.put, List.setIfInBounds_toArray, List.set_cons_zero, List.set_cons_succ]))
        | ((with_reducible refine atStore 27 6 12 ?_); refine wpList_stBlk rfl 27 _ _ rfl wr.heap.size (f j) rfl rfl 27 _ L2.out (size_rx HV6.out) (by rw [HZL.out, HV6.out]) HV1.out B2.out (Nat.le_refl _) ?_; intro w3 hk3 hb3 hs3 ho3; have K3 := Lib.hid hk3; have B3 := Lib.hid hb3; clear hk3 hb3 hs3 ho3; (try simp only [Act.put, List.setIfInBounds_toArray, List.set_cons_zero, List.set_cons_succ]))
        | ((with_reducible refine atDst 14 ?_); refine wpList_ldArr rfl 27 _ rfl wr.heap.size rfl 27 _ _ K3.out Tryd.underlying27 rfl (size_rx HV6.out) ?_; (try simp only [Act.put, List.setIfInBounds_toArray, List.set_cons_zero, List.set_cons_succ])))
      have T3 := Lib.hid (MT.out.below B3.out)
      have G3 := Lib.hid (MB.out.trans (B3.out.mono (Nat.le_of_lt MT.out.lt)))
      have D3 := Lib.hid (MD.out.trans (Wd.of B3.out g v'))
      refine (part_any 4 (.inl rfl) x HXI.out g v' _ (f j) w3 T3.out (HT.out.belowG G3.out HG.out) HG.out (HVX.out.stay G3.out)).mono ?_
      rintro e w4 ⟨v4, d4, ⟨rfl, hp4, h4⟩ | ⟨rfl, h4⟩⟩
      · have D4 := Lib.hid (D3.out.trans d4)
        have H4 := Lib.hid h4
        have HP := Lib.hid hp4
        clear d4 h4 hp4
        go_wp2_with fail
        refine ⟨⟨j + 1, v4, hjl, by congr 1, Lib.hid ?_, D4, Lib.hid fun i y hi hy => ?_⟩, by simp [intOf] <;> omega⟩
        · rw [HNX.out, ← piece_cat HP.out.1, ← List.append_assoc]
          exact H4.out
        · by_cases hij : i = j
          · rw [hij, HX.out] at hy
            obtain rfl := Option.some.inj hy
            exact HP.out
          · exact MP.out i y (by omega) hy
      · have D4 := Lib.hid (D3.out.trans d4)
        have H4 := Lib.hid h4
        clear d4 h4
        go_wp2_with fail
        go_ret
        refine wrote_no D4.out (fun hh => H4.out ?_)
        have hp := at_plain (HOK.out ▸ hh.1) HX.out
        refine ⟨hp, ?_⟩
        have h5 := HMN.out
        rw [HNX.out, ← piece_cat hp.1, List.length_append, ← HR.out] at h5
        have := hh.2
        rw [List.length_append]
        omega
    · obtain rfl : j = l.length := by omega
      have j1 : ¬ ((l.length : Int) < (l.length : Int)) := by omega
      go_wp2_with fail
      go_ret
      refine wrote_yes MD.out (HOK.out ▸ all_plain MP.out) MT.out ?_
      rw [List.take_length, HR.out]
end Go.Proofs.YtmlojjgddmnbmaaDoor
namespace Go.Proofs.YtmlojjgddmnbmaaDoor
open Go.RowKit
set_option linter.unusedSimpArgs false
set_option linter.unusedVariables false

theorem altL_app : ∀ (b : Bool) (l m : List T), (altL b l).length ≤ (altL b (l ++ m)).length
  | b, [], m => by simp [altL]
  | b, x :: r, m => by
    rw [List.cons_append]
    simp only [altL, List.length_append]
    have := altL_app false r m
    omega
theorem altL_mono (l : List T) (j : Nat) : (altL true (l.take j)).length ≤ (altL true l).length := by
  have := altL_app true (l.take j) (l.drop j)
  rwa [List.take_append_drop] at this
theorem piece_alt {x : T} (h : fitsT x.kind 5 = true) : pieceT 5 x = if x.kind = 2 then [] else textT x := by
  unfold fitsT at h
  unfold pieceT
  by_cases k2 : x.kind = 2
  · rw [if_pos k2, if_pos k2]
  · rw [if_neg k2] at h ⊢
    simp at h
    rw [if_neg (by omega), if_neg k2]
theorem ascF_next : ∀ {l : List T}, ascF l = true ↔ ∀ (i : Nat) (a b : T), l[i]? = some a → l[i + 1]? = some b → folT b a = true
  | [] => by simp [ascF]
  | [a] => by simp [ascF]
  | a :: b :: r => by
    simp only [ascF, Bool.and_eq_true, @ascF_next (b :: r)]
    constructor
    · rintro ⟨h1, h2⟩ i x y hx hy
      cases i with
      | zero =>
        simp at hx hy
        rw [← hx, ← hy]
        exact h1
      | succ i => exact h2 i x y (by simpa using hx) (by simpa using hy)
    · intro h
      exact ⟨h 0 a b rfl rfl, fun i x y hx hy => h (i + 1) x y (by simpa using hx) (by simpa using hy)⟩
set_option maxHeartbeats 16000000 in
set_option maxRecDepth 1000000 in
theorem alt_any (l : List T) (ih : ∀ x ∈ l, ExprC x) (g : Nat) (v : Value) (L : List UInt8) (u : Value) (w : World) (h : Wt w g v L) (hT : Tb w) (hg : 0 < g) (hr : RowT g w u l) (hn : nodesL l ≤ 1048576) :
    Calls Tryd.prog 38 #[.pointer (some ⟨g, 0, none⟩), u] w fun e w' => Wrote w g v L (plainL 5 l = true ∧ ascF l = true) (altL true l) e w' := by
  have H := Lib.hid h
  have HT := Lib.hid hT
  have HG := Lib.hid hg
  have IH := Lib.hid ih
  have HN := Lib.hid hn
  have HL := Lib.hid (show l.length ≤ 1048576 by have := len_nodes l; omega)
  obtain ⟨A, cap, f, rfl, h1, h2, h0, h3, h4⟩ := hr
  have H3 := Lib.hid h3
  have H4 := Lib.hid h4
  obtain ⟨i1, hi1, hy0, hy1⟩ := info_u8
  have HY0 := Lib.hid hy0
  obtain ⟨i0, hi0, hz0, hz1, hz2⟩ := inf_rx'
  obtain ⟨z, hz⟩ : ∃ z, z = rxc 0 zeroS (.slice none 0 0) := ⟨_, rfl⟩
  have HZL := Lib.hid (show z.length = 6 by rw [hz]; rfl)
  have HZ0 := Lib.hid (show i0.zero = some (.agg z.toArray) by rw [hz]; exact hz0)
  obtain ⟨ok, hok⟩ : ∃ ok : Prop, ok = (plainL 5 l = true ∧ ascF l = true) := ⟨_, rfl⟩
  obtain ⟨r, hr⟩ : ∃ r, r = altL true l := ⟨_, rfl⟩
  rw [← hok, ← hr]
  have HOK := Lib.hid hok
  have HR := Lib.hid hr
  clear h hT hg ih h1 h2 h0 h3 h4 hz hz0 hok hr hn hy0
  go_enter Tryd.func38, Tryd.ntmps38
  go_wp2_with fail
  go_loopw [9] (fun i wl => ∃ (j : Nat) (v' : Value), j ≤ l.length ∧ i = .int .i64 (j : Int) ∧ Hid (Wt wl g v' (L ++ altL true (l.take j))) ∧ Hid (Wd w wl g v v') ∧ Hid (∀ (i : Nat) (x : T), i < j → l[i]? = some x → fitsT x.kind 5 = true ∧ plainT x = true) ∧
    Hid (∀ (i : Nat) (a b : T), i + 1 < j → l[i]? = some a → l[i + 1]? = some b → folT b a = true)) (fun i _ => l.length - (intOf i).toNat)
  case atStart => exact ⟨0, v, by omega, by simp, Lib.hid (by simpa [altL] using H.out), Lib.hid (Wd.of (Below.refl _ _) g v), Lib.hid fun i x hi => by omega, Lib.hid fun i a b hi => by omega⟩
  case round =>
    obtain ⟨j, v', hj, rfl, MT, MD, MP, MA⟩ := hrel
    have MB := Lib.hid (MD.out.below H.out)
    by_cases hjl : j < l.length
    · have j1 : (j : Int) < (l.length : Int) := Int.ofNat_lt.2 hjl
      obtain ⟨b, off, rfl, hb, hrng⟩ := H3.out (by rintro rfl; simp at hjl)
      obtain ⟨x, hx⟩ : ∃ x, l[j]? = some x := ⟨_, List.getElem?_eq_getElem hjl⟩
      have HRG := Lib.hid (range_below (hrng j hjl) MB.out hb)
      have HVX := Lib.hid (H4.out j x hx)
      have HV6 := Lib.hid HVX.out.length
      have HV1 := Lib.hid (show (f j).all (·.oneCell') = true from List.all_eq_true.2 (RxD.one HVX.out))
      have HXI := Lib.hid (IH.out x (List.mem_of_getElem? hx))
      have hj62 : j ≤ 4611686018427387904 := by have := HL.out; omega
      have e3 := wrapN64 j hj62
      have e4 := wrapN64' j hj62
      have HNX := Lib.hid (altL_next l j x hx)
      have HX := Lib.hid hx
      have HMN := Lib.hid (altL_mono l (j + 1))
      have HBG := Lib.hid hb
      by_cases j0 : j = 0
      · have g0 : ¬ ((0 : Int) < (j : Int)) := by omega
        have g1 := Lib.hid j0
        have HTX := Lib.hid (show fitsT x.kind 5 = true → L ++ altL true (l.take (j + 1)) = L ++ altL true (l.take j) ++ pieceT 5 x from fun hf => by rw [HNX.out, piece_alt hf, if_pos j0, List.append_assoc]; rfl)
        have HFN := Lib.hid (show ∀ (i : Nat) (a b : T), i + 1 < j + 1 → l[i]? = some a → l[i + 1]? = some b → folT b a = true from fun i a b hi => by omega)
        clear hrng hx hj62 hb j0
        go_wp2_with (first
          | ((with_reducible refine atDst 13 ?_); refine wpList_load_mid rfl 27 _ rfl b (off + j * 6) rfl (f j) _ HRG.out Tryd.underlying27 rfl (size_rx HV6.out) ?_; (try simp only [Act.put, List.setIfInBounds_toArray, List.set_cons_zero, List.set_cons_succ]))
          | ((with_reducible refine atDst 6 ?_); refine wpList_new rfl 27 rfl i0 _ z hi0 HZ0.out rfl (Below.refl wr.heap.size wr) (Nat.le_refl _) ?_; intro w2 hk2 hb2 hs2 ho2; have L2 := Lib.hid hk2; have B2 := Lib.hid hb2; clear hk2 hb2 hs2 ho2; (try simp only [Act.put, List.setIfInBounds_toArray, List.set_cons_zero, List.set_cons_succ]))
          | ((with_reducible refine atStore 27 6 13 ?_); refine wpList_stBlk rfl 27 _ _ rfl wr.heap.size (f j) rfl rfl 27 _ L2.out (size_rx HV6.out) (by rw [HZL.out, HV6.out]) HV1.out B2.out (Nat.le_refl _) ?_; intro w3 hk3 hb3 hs3 ho3; have K3 := Lib.hid hk3; have B3 := Lib.hid hb3; clear hk3 hb3 hs3 ho3; (try simp only [Act.put, List.setIfInBounds_toArray, List.set_cons_zero, List.set_cons_succ])))
        refine sg_start (Kp g wr.heap.size w3) (by kernel_rfl) ⟨(Below.refl g w3).drew, rfl⟩ (fun wd hwd => ?_)
        have hX : Kp g wr.heap.size w3 wd := by rw [hwd]; exact ⟨(Below.refl g w3).drew, rfl⟩
        have hbd : Below wr.heap.size wr wd := by rw [hwd]; exact B3.out.drew
        have hlt : wr.heap.size < wd.heap.size := by rw [hwd]; exact K3.out.lt
        have T4 := Lib.hid (MT.out.below hbd)
        have F4 := Lib.hid (MT.out.made (w' := wd) wr.heap.size (Nat.le_refl _) hlt)
        have D4 := Lib.hid (MD.out.trans (Wd.of hbd g v'))
        have G4 := Lib.hid (D4.out.below H.out)
        have GW := Lib.hid (MB.out.trans (B3.out.mono (Nat.le_of_lt MT.out.lt)))
        clear hwd hbd hlt
        refine sg_take (i := 0) (oi := ⟨some 14, _, _, _, _, _⟩) (v := ?_) rfl (by kernel_rfl) (by kernel_rfl) (by kernel_rfl) (fun _ _ _ h => h) rfl hX ?_ ?_; rotate_left; (intro W hW; go_simp; try with_reducible rfl); simp only [Act.put, List.setIfInBounds_toArray, List.set_cons_zero, List.set_cons_succ]
        refine sg_take (i := 1) (oi := ⟨some 15, _, _, _, _, _⟩) (v := .bool false) rfl (by kernel_rfl) (by kernel_rfl) (by kernel_rfl) (fun _ _ _ h => h) rfl hX (fun W _ => (by go_simp; exact g1.out)) ?_; simp only [Act.put, List.setIfInBounds_toArray, List.set_cons_zero, List.set_cons_succ]
        refine sg_take (i := 2) (oi := ⟨some 16, _, _, _, _, _⟩) (v := ?_) rfl (by kernel_rfl) (by kernel_rfl) (by kernel_rfl) (fun _ _ _ h => h) rfl hX ?_ ?_; rotate_left; (intro W hW; go_simp; try with_reducible rfl); simp only [Act.put, List.setIfInBounds_toArray, List.set_cons_zero, List.set_cons_succ]
        refine sg_skip (i := 3) (oi := ⟨some 17, _, _, _, _, _⟩) rfl (by kernel_rfl) (by kernel_rfl) (by kernel_rfl) (fun _ _ _ h => h) rfl hX ?_; simp only [Act.put, List.setIfInBounds_toArray, List.set_cons_zero, List.set_cons_succ]
        refine sg_skip (i := 4) (oi := ⟨some 18, _, _, _, _, _⟩) rfl (by kernel_rfl) (by kernel_rfl) (by kernel_rfl) (fun _ _ _ h => h) rfl hX ?_; simp only [Act.put, List.setIfInBounds_toArray, List.set_cons_zero, List.set_cons_succ]
        refine sg_skip (i := 5) (oi := ⟨some 19, _, _, _, _, _⟩) rfl (by kernel_rfl) (by kernel_rfl) (by kernel_rfl) (fun _ _ _ h => h) rfl hX ?_; simp only [Act.put, List.setIfInBounds_toArray, List.set_cons_zero, List.set_cons_succ]
        refine sg_skip (i := 6) (oi := ⟨some 20, _, _, _, _, _⟩) rfl (by kernel_rfl) (by kernel_rfl) (by kernel_rfl) (fun _ _ _ h => h) rfl hX ?_; simp only [Act.put, List.setIfInBounds_toArray, List.set_cons_zero, List.set_cons_succ]
        refine sg_skip (i := 7) (oi := ⟨some 21, _, _, _, _, _⟩) rfl (by kernel_rfl) (by kernel_rfl) (by kernel_rfl) (fun _ _ _ h => h) rfl hX ?_; simp only [Act.put, List.setIfInBounds_toArray, List.set_cons_zero, List.set_cons_succ]
        refine sg_skip (i := 8) (oi := ⟨some 22, _, _, _, _, _⟩) rfl (by kernel_rfl) (by kernel_rfl) (by kernel_rfl) (fun _ _ _ h => h) rfl hX ?_; simp only [Act.put, List.setIfInBounds_toArray, List.set_cons_zero, List.set_cons_succ]
        refine sg_skip (i := 9) (oi := ⟨some 23, _, _, _, _, _⟩) rfl (by kernel_rfl) (by kernel_rfl) (by kernel_rfl) (fun _ _ _ h => h) rfl hX ?_; simp only [Act.put, List.setIfInBounds_toArray, List.set_cons_zero, List.set_cons_succ]
        refine sg_skip (i := 10) (oi := ⟨some 24, _, _, _, _, _⟩) rfl (by kernel_rfl) (by kernel_rfl) (by kernel_rfl) (fun _ _ _ h => h) rfl hX ?_; simp only [Act.put, List.setIfInBounds_toArray, List.set_cons_zero, List.set_cons_succ]
        refine sg_skip (i := 11) (oi := ⟨some 25, _, _, _, _, _⟩) rfl (by kernel_rfl) (by kernel_rfl) (by kernel_rfl) (fun _ _ _ h => h) rfl hX ?_; simp only [Act.put, List.setIfInBounds_toArray, List.set_cons_zero, List.set_cons_succ]
        refine sg_skip (i := 12) (oi := ⟨some 26, _, _, _, _, _⟩) rfl (by kernel_rfl) (by kernel_rfl) (by kernel_rfl) (fun _ _ _ h => h) rfl hX ?_; simp only [Act.put, List.setIfInBounds_toArray, List.set_cons_zero, List.set_cons_succ]
        refine sg_skip (i := 13) (oi := ⟨some 27, _, _, _, _, _⟩) rfl (by kernel_rfl) (by kernel_rfl) (by kernel_rfl) (fun _ _ _ h => h) rfl hX ?_; simp only [Act.put, List.setIfInBounds_toArray, List.set_cons_zero, List.set_cons_succ]
        refine sg_skip (i := 14) (oi := ⟨some 28, _, _, _, _, _⟩) rfl (by kernel_rfl) (by kernel_rfl) (by kernel_rfl) (fun _ _ _ h => h) rfl hX ?_; simp only [Act.put, List.setIfInBounds_toArray, List.set_cons_zero, List.set_cons_succ]
        refine sg_skip (i := 15) (oi := ⟨some 29, _, _, _, _, _⟩) rfl (by kernel_rfl) (by kernel_rfl) (by kernel_rfl) (fun _ _ _ h => h) rfl hX ?_; simp only [Act.put, List.setIfInBounds_toArray, List.set_cons_zero, List.set_cons_succ]
        refine sg_take (i := 16) (oi := ⟨some 30, _, _, _, _, _⟩) (v := ?_) rfl (by kernel_rfl) (by kernel_rfl) (by kernel_rfl) (fun _ _ _ h => h) rfl hX ?_ ?_; rotate_left; (intro W hW; go_simp; try with_reducible rfl); simp only [Act.put, List.setIfInBounds_toArray, List.set_cons_zero, List.set_cons_succ]
        refine sg_take (i := 17) (oi := ⟨some 31, _, _, _, _, _⟩) (v := ?_) rfl (by kernel_rfl) (by kernel_rfl) (by kernel_rfl) (fun _ _ _ h => h) rfl hX ?_ ?_; rotate_left; (intro W hW; go_simp; try with_reducible rfl); simp only [Act.put, List.setIfInBounds_toArray, List.set_cons_zero, List.set_cons_succ]
        refine sg_take (i := 18) (oi := ⟨some 32, _, _, _, _, _⟩) (v := ?_) rfl (by kernel_rfl) (by kernel_rfl) (by kernel_rfl) (fun _ _ _ h => h) rfl hX ?_ ?_; rotate_left; (intro W hW; go_simp; try with_reducible rfl); simp only [Act.put, List.setIfInBounds_toArray, List.set_cons_zero, List.set_cons_succ]
        refine sg_take (i := 19) (oi := ⟨some 33, _, _, _, _, _⟩) (v := .agg (f j).toArray) rfl (by kernel_rfl) (by kernel_rfl) (by kernel_rfl) (fun _ _ _ h => h) rfl hX (fun W hW => ld_blk 27 _ rfl wr.heap.size rfl 27 _ _ (hW.2.trans K3.out) (show wr.heap.size < W.heap.size from Blk.lt (hW.2.trans K3.out)) Tryd.underlying27 rfl (size_rx HV6.out) W (Below.refl _ _)) ?_; simp only [Act.put, List.setIfInBounds_toArray, List.set_cons_zero, List.set_cons_succ]
        refine sg_actB (i := 20) (o := ⟨some 34, _, _, _, _, _⟩) rfl (by kernel_rfl) rfl hX (fun K hK => ?_)
        go_wp2_with fail
        have G6 := Lib.hid (D4.out.below H.out)
        refine (part_any 5 (.inr (.inl rfl)) x HXI.out g v' _ (f j) wd T4.out (HT.out.belowG G6.out HG.out) HG.out (HVX.out.stay G6.out)).mono ?_
        intro e w9 hw
        obtain ⟨c2, rfl⟩ := wrote_bool hw
        have HW := Lib.hid hw
        have hk := wrote_kp T4.out F4.out hw
        go_wp2_with fail
        refine hK _ _ (hX.trans hk) ?_
        (try simp only [Act.put, List.setIfInBounds_toArray, List.set_cons_zero, List.set_cons_succ])
        clear hK K hw
        replace hX := hX.trans hk
        clear hk
        refine sg_take (i := 21) (oi := ⟨some 35, _, _, _, _, _⟩) (v := ?_) rfl (by kernel_rfl) (by kernel_rfl) (by kernel_rfl) (fun _ _ _ h => h) rfl hX ?_ ?_; rotate_left; (intro W hW; go_simp; try with_reducible rfl); simp only [Act.put, List.setIfInBounds_toArray, List.set_cons_zero, List.set_cons_succ]
        refine sg_take (i := 22) (oi := ⟨some 36, _, _, _, _, _⟩) (v := ?_) rfl (by kernel_rfl) (by kernel_rfl) (by kernel_rfl) (fun _ _ _ h => h) rfl hX ?_ ?_; rotate_left; (intro W hW; go_simp; try with_reducible rfl); simp only [Act.put, List.setIfInBounds_toArray, List.set_cons_zero, List.set_cons_succ]
        refine wpAnyH_done (by kernel_rfl) ?_ _
        clear hX
        obtain ⟨v9, d9, hcase⟩ := HW.out
        have D9 := Lib.hid (D4.out.trans d9)
        rcases hcase with ⟨hc, hp9, h9⟩ | ⟨hc, h9⟩
        · obtain rfl : c2 = true := by injection hc with hc; injection hc
          have H9 := Lib.hid h9
          have HP := Lib.hid hp9
          clear hc h9 hp9 d9 HW
          go_wp2_with fail
          refine ⟨⟨j + 1, v9, hjl, by congr 1, Lib.hid ?_, D9, Lib.hid fun i y hi hy => ?_, HFN⟩, by simp [intOf] <;> omega⟩
          · rw [HTX.out HP.out.1]
            exact H9.out
          · by_cases hij : i = j
            · rw [hij, HX.out] at hy
              obtain rfl := Option.some.inj hy
              exact HP.out
            · exact MP.out i y (by omega) hy
        · obtain rfl : c2 = false := by injection hc with hc; injection hc
          have H9 := Lib.hid h9
          clear hc h9 d9 HW
          go_wp2_with fail
          go_ret
          refine wrote_no D9.out (fun hh => H9.out ?_)
          have hp := at_plain (HOK.out ▸ hh.1).1 HX.out
          refine ⟨hp, ?_⟩
          have h5 := HMN.out
          have h6 := congrArg List.length (HTX.out hp.1)
          have h7 := hh.2
          rw [HR.out] at h7
          rw [List.length_append, List.length_append] at h6
          omega
      · obtain ⟨p, hp⟩ : ∃ p, j = p + 1 := ⟨j - 1, by omega⟩
        have g0 : (0 : Int) < (j : Int) := by omega
        have g1 := Lib.hid (show 0 < j by omega)
        obtain ⟨y, hy⟩ : ∃ y, l[p]? = some y := ⟨_, List.getElem?_eq_getElem (by omega)⟩
        have HRP := Lib.hid (hrng p (by omega))
        have HVY := Lib.hid (H4.out p y hy)
        have HY6 := Lib.hid HVY.out.length
        have p1 : (p : Int) < (l.length : Int) := by omega
        have e5 : wrap64 ((j : Int) - 1) = (p : Int) := by rw [show (j : Int) - 1 = (p : Int) by omega]; exact IntWalk.wrap64_in _ (by omega)
        have e6 : IntKind.i64.wrap ((j : Int) - 1) = (p : Int) := by rw [show (j : Int) - 1 = (p : Int) by omega]; exact IntWalk.i64_in _ (by omega)
        have HYN := Lib.hid (show y.nodes ≤ 1048576 from Nat.le_trans (nodes_mem (List.mem_of_getElem? hy)) HN.out)
        have HTX := Lib.hid (show fitsT x.kind 5 = true → L ++ altL true (l.take (j + 1)) = L ++ altL true (l.take j) ++ [124] ++ pieceT 5 x from fun hf => by rw [HNX.out, piece_alt hf, if_neg j0]; simp only [List.append_assoc])
        have HPY := Lib.hid hy
        have HPJ := Lib.hid hp
        obtain ⟨c, hc⟩ : ∃ c, c = folT x y := ⟨_, rfl⟩
        cases c with
        | false =>
          have HFO := Lib.hid hc
          clear hrng hx hj62 hb j0 hy hp hc
          go_wp2_with (first
            | ((with_reducible refine atDst 13 ?_); refine wpList_load_mid rfl 27 _ rfl b (off + j * 6) rfl (f j) _ HRG.out Tryd.underlying27 rfl (size_rx HV6.out) ?_; (try simp only [Act.put, List.setIfInBounds_toArray, List.set_cons_zero, List.set_cons_succ]))
            | ((with_reducible refine atDst 6 ?_); refine wpList_new rfl 27 rfl i0 _ z hi0 HZ0.out rfl (Below.refl wr.heap.size wr) (Nat.le_refl _) ?_; intro w2 hk2 hb2 hs2 ho2; have L2 := Lib.hid hk2; have B2 := Lib.hid hb2; clear hk2 hb2 hs2 ho2; (try simp only [Act.put, List.setIfInBounds_toArray, List.set_cons_zero, List.set_cons_succ]))
            | ((with_reducible refine atStore 27 6 13 ?_); refine wpList_stBlk rfl 27 _ _ rfl wr.heap.size (f j) rfl rfl 27 _ L2.out (size_rx HV6.out) (by rw [HZL.out, HV6.out]) HV1.out B2.out (Nat.le_refl _) ?_; intro w3 hk3 hb3 hs3 ho3; have K3 := Lib.hid hk3; have B3 := Lib.hid hb3; clear hk3 hb3 hs3 ho3; (try simp only [Act.put, List.setIfInBounds_toArray, List.set_cons_zero, List.set_cons_succ])))
          refine sg_start (Kp g wr.heap.size w3) (by kernel_rfl) ⟨(Below.refl g w3).drew, rfl⟩ (fun wd hwd => ?_)
          have hX : Kp g wr.heap.size w3 wd := by rw [hwd]; exact ⟨(Below.refl g w3).drew, rfl⟩
          have hbd : Below wr.heap.size wr wd := by rw [hwd]; exact B3.out.drew
          have hlt : wr.heap.size < wd.heap.size := by rw [hwd]; exact K3.out.lt
          have T4 := Lib.hid (MT.out.below hbd)
          have F4 := Lib.hid (MT.out.made (w' := wd) wr.heap.size (Nat.le_refl _) hlt)
          have D4 := Lib.hid (MD.out.trans (Wd.of hbd g v'))
          have G4 := Lib.hid (D4.out.below H.out)
          have GW := Lib.hid (MB.out.trans (B3.out.mono (Nat.le_of_lt MT.out.lt)))
          clear hwd hbd hlt
          refine sg_take (i := 0) (oi := ⟨some 14, _, _, _, _, _⟩) (v := ?_) rfl (by kernel_rfl) (by kernel_rfl) (by kernel_rfl) (fun _ _ _ h => h) rfl hX ?_ ?_; rotate_left; (intro W hW; go_simp; try with_reducible rfl); simp only [Act.put, List.setIfInBounds_toArray, List.set_cons_zero, List.set_cons_succ]
          refine sg_take (i := 1) (oi := ⟨some 15, _, _, _, _, _⟩) (v := .bool true) rfl (by kernel_rfl) (by kernel_rfl) (by kernel_rfl) (fun _ _ _ h => h) rfl hX (fun W _ => (by go_simp; exact g1.out)) ?_; simp only [Act.put, List.setIfInBounds_toArray, List.set_cons_zero, List.set_cons_succ]
          refine sg_take (i := 2) (oi := ⟨some 16, _, _, _, _, _⟩) (v := ?_) rfl (by kernel_rfl) (by kernel_rfl) (by kernel_rfl) (fun _ _ _ h => h) rfl hX ?_ ?_; rotate_left; (intro W hW; go_simp; try with_reducible rfl); simp only [Act.put, List.setIfInBounds_toArray, List.set_cons_zero, List.set_cons_succ]
          refine sg_take (i := 3) (oi := ⟨some 17, _, _, _, _, _⟩) (v := .agg (f j).toArray) rfl (by kernel_rfl) (by kernel_rfl) (by kernel_rfl) (fun _ _ _ h => h) rfl hX (fun W hW => ld_blk 27 _ rfl wr.heap.size rfl 27 _ _ (hW.2.trans K3.out) (show wr.heap.size < W.heap.size from Blk.lt (hW.2.trans K3.out)) Tryd.underlying27 rfl (size_rx HV6.out) W (Below.refl _ _)) ?_; simp only [Act.put, List.setIfInBounds_toArray, List.set_cons_zero, List.set_cons_succ]
          refine sg_take (i := 4) (oi := ⟨some 18, _, _, _, _, _⟩) (v := ?_) rfl (by kernel_rfl) (by kernel_rfl) (by kernel_rfl) (fun _ _ _ h => h) rfl hX ?_ ?_; rotate_left; (intro W hW; go_simp; try with_reducible rfl); simp only [Act.put, List.setIfInBounds_toArray, List.set_cons_zero, List.set_cons_succ]
          refine sg_take (i := 5) (oi := ⟨some 19, _, _, _, _, _⟩) (v := ?_) rfl (by kernel_rfl) (by kernel_rfl) (by kernel_rfl) (fun _ _ _ h => h) rfl hX ?_ ?_; rotate_left; (intro W hW; go_simp; try with_reducible rfl); simp only [Act.put, List.setIfInBounds_toArray, List.set_cons_zero, List.set_cons_succ]
          refine sg_take (i := 6) (oi := ⟨some 20, _, _, _, _, _⟩) (v := .int .i64 (p : Int)) rfl (by kernel_rfl) (by kernel_rfl) (by kernel_rfl) (fun _ _ _ h => h) rfl hX (fun W _ => (by go_simp)) ?_; simp only [Act.put, List.setIfInBounds_toArray, List.set_cons_zero, List.set_cons_succ]
          refine sg_take (i := 7) (oi := ⟨some 21, _, _, _, _, _⟩) (v := ?_) rfl (by kernel_rfl) (by kernel_rfl) (by kernel_rfl) (fun _ _ _ h => h) rfl hX ?_ ?_; rotate_left; (intro W hW; go_simp; try with_reducible rfl); simp only [Act.put, List.setIfInBounds_toArray, List.set_cons_zero, List.set_cons_succ]
          refine sg_take (i := 8) (oi := ⟨some 22, _, _, _, _, _⟩) (v := .agg (f p).toArray) rfl (by kernel_rfl) (by kernel_rfl) (by kernel_rfl) (fun _ _ _ h => h) rfl hX (fun W hW => ld_mid (w0 := w) (B := g) 27 _ rfl b (off + p * 6) rfl _ _ HRP.out HBG.out Tryd.underlying27 rfl (size_rx HY6.out) W (GW.out.trans hW.1)) ?_; simp only [Act.put, List.setIfInBounds_toArray, List.set_cons_zero, List.set_cons_succ]
          refine sg_actB (i := 9) (o := ⟨some 23, _, _, _, _, _⟩) rfl (by kernel_rfl) rfl hX (fun K hK => ?_)
          go_wp2_with fail
          have GD := Lib.hid (D4.out.below H.out)
          refine (follows_any x y HYN.out (f j) (f p) wd ((HVX.out.stay GD.out).mono (Nat.le_of_lt T4.out.lt)) ((HVY.out.stay GD.out).mono (Nat.le_of_lt T4.out.lt))).mono ?_
          rintro e w5 ⟨rfl, hb5⟩
          rw [← HFO.out]
          have hg5 := Kp.grow hb5 (Nat.le_of_lt T4.out.lt) F4.out.lt
          go_wp2_with fail
          refine hK _ _ (hX.trans hg5) ?_
          (try simp only [Act.put, List.setIfInBounds_toArray, List.set_cons_zero, List.set_cons_succ])
          clear hK K
          replace hX := hX.trans hg5
          have T5 := Lib.hid (T4.out.below hb5)
          have F5 := Lib.hid (F4.out.grow hb5.size)
          have D5 := Lib.hid (D4.out.trans (Wd.of hb5 g v'))
          clear hb5 hg5
          refine sg_take (i := 10) (oi := ⟨some 24, _, _, _, _, _⟩) (v := ?_) rfl (by kernel_rfl) (by kernel_rfl) (by kernel_rfl) (fun _ _ _ h => h) rfl hX ?_ ?_; rotate_left; (intro W hW; go_simp; try with_reducible rfl); simp only [Act.put, List.setIfInBounds_toArray, List.set_cons_zero, List.set_cons_succ]
          refine sg_skip (i := 11) (oi := ⟨some 25, _, _, _, _, _⟩) rfl (by kernel_rfl) (by kernel_rfl) (by kernel_rfl) (fun _ _ _ h => h) rfl hX ?_; simp only [Act.put, List.setIfInBounds_toArray, List.set_cons_zero, List.set_cons_succ]
          refine sg_skip (i := 12) (oi := ⟨some 26, _, _, _, _, _⟩) rfl (by kernel_rfl) (by kernel_rfl) (by kernel_rfl) (fun _ _ _ h => h) rfl hX ?_; simp only [Act.put, List.setIfInBounds_toArray, List.set_cons_zero, List.set_cons_succ]
          refine sg_skip (i := 13) (oi := ⟨some 27, _, _, _, _, _⟩) rfl (by kernel_rfl) (by kernel_rfl) (by kernel_rfl) (fun _ _ _ h => h) rfl hX ?_; simp only [Act.put, List.setIfInBounds_toArray, List.set_cons_zero, List.set_cons_succ]
          refine sg_take (i := 14) (oi := ⟨some 28, _, _, _, _, _⟩) (v := ?_) rfl (by kernel_rfl) (by kernel_rfl) (by kernel_rfl) (fun _ _ _ h => h) rfl hX ?_ ?_; rotate_left; (intro W hW; go_simp; try with_reducible rfl); simp only [Act.put, List.setIfInBounds_toArray, List.set_cons_zero, List.set_cons_succ]
          refine sg_take (i := 15) (oi := ⟨some 29, _, _, _, _, _⟩) (v := ?_) rfl (by kernel_rfl) (by kernel_rfl) (by kernel_rfl) (fun _ _ _ h => h) rfl hX ?_ ?_; rotate_left; (intro W hW; go_simp; try with_reducible rfl); simp only [Act.put, List.setIfInBounds_toArray, List.set_cons_zero, List.set_cons_succ]
          refine sg_take (i := 16) (oi := ⟨some 30, _, _, _, _, _⟩) (v := ?_) rfl (by kernel_rfl) (by kernel_rfl) (by kernel_rfl) (fun _ _ _ h => h) rfl hX ?_ ?_; rotate_left; (intro W hW; go_simp; try with_reducible rfl); simp only [Act.put, List.setIfInBounds_toArray, List.set_cons_zero, List.set_cons_succ]
          refine sg_take (i := 17) (oi := ⟨some 31, _, _, _, _, _⟩) (v := ?_) rfl (by kernel_rfl) (by kernel_rfl) (by kernel_rfl) (fun _ _ _ h => h) rfl hX ?_ ?_; rotate_left; (intro W hW; go_simp; try with_reducible rfl); simp only [Act.put, List.setIfInBounds_toArray, List.set_cons_zero, List.set_cons_succ]
          refine sg_skip (i := 18) (oi := ⟨some 32, _, _, _, _, _⟩) rfl (by kernel_rfl) (by kernel_rfl) (by kernel_rfl) (fun _ _ _ h => h) rfl hX ?_; simp only [Act.put, List.setIfInBounds_toArray, List.set_cons_zero, List.set_cons_succ]
          refine sg_skip (i := 19) (oi := ⟨some 33, _, _, _, _, _⟩) rfl (by kernel_rfl) (by kernel_rfl) (by kernel_rfl) (fun _ _ _ h => h) rfl hX ?_; simp only [Act.put, List.setIfInBounds_toArray, List.set_cons_zero, List.set_cons_succ]
          refine sg_skip (i := 20) (oi := ⟨some 34, _, _, _, _, _⟩) rfl (by kernel_rfl) (by kernel_rfl) (by kernel_rfl) (fun _ _ _ h => h) rfl hX ?_; simp only [Act.put, List.setIfInBounds_toArray, List.set_cons_zero, List.set_cons_succ]
          refine sg_skip (i := 21) (oi := ⟨some 35, _, _, _, _, _⟩) rfl (by kernel_rfl) (by kernel_rfl) (by kernel_rfl) (fun _ _ _ h => h) rfl hX ?_; simp only [Act.put, List.setIfInBounds_toArray, List.set_cons_zero, List.set_cons_succ]
          refine sg_take (i := 22) (oi := ⟨some 36, _, _, _, _, _⟩) (v := ?_) rfl (by kernel_rfl) (by kernel_rfl) (by kernel_rfl) (fun _ _ _ h => h) rfl hX ?_ ?_; rotate_left; (intro W hW; go_simp; try with_reducible rfl); simp only [Act.put, List.setIfInBounds_toArray, List.set_cons_zero, List.set_cons_succ]
          refine wpAnyH_done (by kernel_rfl) ?_ _
          clear hX
          go_wp2_with fail
          go_ret
          refine wrote_no D5.out (fun hh => ?_)
          have h1 := ascF_next.1 (HOK.out ▸ hh.1).2 p y x HPY.out (by rw [← HPJ.out]; exact HX.out)
          rw [← HFO.out] at h1
          cases h1
        | true =>
          have HFN := Lib.hid (show ∀ (i : Nat) (a b : T), i + 1 < j + 1 → l[i]? = some a → l[i + 1]? = some b → folT b a = true from fun i a b hi ha hb => by
            by_cases hij : i + 1 < j
            · exact MA.out i a b hij ha hb
            · obtain rfl : i = p := by omega
              rw [hy] at ha
              rw [← hp, hx] at hb
              obtain rfl := Option.some.inj ha
              obtain rfl := Option.some.inj hb
              exact hc.symm)
          have HFO := Lib.hid hc
          clear hrng hx hj62 hb j0 hy hp hc
          go_wp2_with (first
            | ((with_reducible refine atDst 13 ?_); refine wpList_load_mid rfl 27 _ rfl b (off + j * 6) rfl (f j) _ HRG.out Tryd.underlying27 rfl (size_rx HV6.out) ?_; (try simp only [Act.put, List.setIfInBounds_toArray, List.set_cons_zero, List.set_cons_succ]))
            | ((with_reducible refine atDst 6 ?_); refine wpList_new rfl 27 rfl i0 _ z hi0 HZ0.out rfl (Below.refl wr.heap.size wr) (Nat.le_refl _) ?_; intro w2 hk2 hb2 hs2 ho2; have L2 := Lib.hid hk2; have B2 := Lib.hid hb2; clear hk2 hb2 hs2 ho2; (try simp only [Act.put, List.setIfInBounds_toArray, List.set_cons_zero, List.set_cons_succ]))
            | ((with_reducible refine atStore 27 6 13 ?_); refine wpList_stBlk rfl 27 _ _ rfl wr.heap.size (f j) rfl rfl 27 _ L2.out (size_rx HV6.out) (by rw [HZL.out, HV6.out]) HV1.out B2.out (Nat.le_refl _) ?_; intro w3 hk3 hb3 hs3 ho3; have K3 := Lib.hid hk3; have B3 := Lib.hid hb3; clear hk3 hb3 hs3 ho3; (try simp only [Act.put, List.setIfInBounds_toArray, List.set_cons_zero, List.set_cons_succ])))
          refine sg_start (Kp g wr.heap.size w3) (by kernel_rfl) ⟨(Below.refl g w3).drew, rfl⟩ (fun wd hwd => ?_)
          have hX : Kp g wr.heap.size w3 wd := by rw [hwd]; exact ⟨(Below.refl g w3).drew, rfl⟩
          have hbd : Below wr.heap.size wr wd := by rw [hwd]; exact B3.out.drew
          have hlt : wr.heap.size < wd.heap.size := by rw [hwd]; exact K3.out.lt
          have T4 := Lib.hid (MT.out.below hbd)
          have F4 := Lib.hid (MT.out.made (w' := wd) wr.heap.size (Nat.le_refl _) hlt)
          have D4 := Lib.hid (MD.out.trans (Wd.of hbd g v'))
          have G4 := Lib.hid (D4.out.below H.out)
          have GW := Lib.hid (MB.out.trans (B3.out.mono (Nat.le_of_lt MT.out.lt)))
          clear hwd hbd hlt
          refine sg_take (i := 0) (oi := ⟨some 14, _, _, _, _, _⟩) (v := ?_) rfl (by kernel_rfl) (by kernel_rfl) (by kernel_rfl) (fun _ _ _ h => h) rfl hX ?_ ?_; rotate_left; (intro W hW; go_simp; try with_reducible rfl); simp only [Act.put, List.setIfInBounds_toArray, List.set_cons_zero, List.set_cons_succ]
          refine sg_take (i := 1) (oi := ⟨some 15, _, _, _, _, _⟩) (v := .bool true) rfl (by kernel_rfl) (by kernel_rfl) (by kernel_rfl) (fun _ _ _ h => h) rfl hX (fun W _ => (by go_simp; exact g1.out)) ?_; simp only [Act.put, List.setIfInBounds_toArray, List.set_cons_zero, List.set_cons_succ]
          refine sg_take (i := 2) (oi := ⟨some 16, _, _, _, _, _⟩) (v := ?_) rfl (by kernel_rfl) (by kernel_rfl) (by kernel_rfl) (fun _ _ _ h => h) rfl hX ?_ ?_; rotate_left; (intro W hW; go_simp; try with_reducible rfl); simp only [Act.put, List.setIfInBounds_toArray, List.set_cons_zero, List.set_cons_succ]
          refine sg_take (i := 3) (oi := ⟨some 17, _, _, _, _, _⟩) (v := .agg (f j).toArray) rfl (by kernel_rfl) (by kernel_rfl) (by kernel_rfl) (fun _ _ _ h => h) rfl hX (fun W hW => ld_blk 27 _ rfl wr.heap.size rfl 27 _ _ (hW.2.trans K3.out) (show wr.heap.size < W.heap.size from Blk.lt (hW.2.trans K3.out)) Tryd.underlying27 rfl (size_rx HV6.out) W (Below.refl _ _)) ?_; simp only [Act.put, List.setIfInBounds_toArray, List.set_cons_zero, List.set_cons_succ]
          refine sg_take (i := 4) (oi := ⟨some 18, _, _, _, _, _⟩) (v := ?_) rfl (by kernel_rfl) (by kernel_rfl) (by kernel_rfl) (fun _ _ _ h => h) rfl hX ?_ ?_; rotate_left; (intro W hW; go_simp; try with_reducible rfl); simp only [Act.put, List.setIfInBounds_toArray, List.set_cons_zero, List.set_cons_succ]
          refine sg_take (i := 5) (oi := ⟨some 19, _, _, _, _, _⟩) (v := ?_) rfl (by kernel_rfl) (by kernel_rfl) (by kernel_rfl) (fun _ _ _ h => h) rfl hX ?_ ?_; rotate_left; (intro W hW; go_simp; try with_reducible rfl); simp only [Act.put, List.setIfInBounds_toArray, List.set_cons_zero, List.set_cons_succ]
          refine sg_take (i := 6) (oi := ⟨some 20, _, _, _, _, _⟩) (v := .int .i64 (p : Int)) rfl (by kernel_rfl) (by kernel_rfl) (by kernel_rfl) (fun _ _ _ h => h) rfl hX (fun W _ => (by go_simp)) ?_; simp only [Act.put, List.setIfInBounds_toArray, List.set_cons_zero, List.set_cons_succ]
          refine sg_take (i := 7) (oi := ⟨some 21, _, _, _, _, _⟩) (v := ?_) rfl (by kernel_rfl) (by kernel_rfl) (by kernel_rfl) (fun _ _ _ h => h) rfl hX ?_ ?_; rotate_left; (intro W hW; go_simp; try with_reducible rfl); simp only [Act.put, List.setIfInBounds_toArray, List.set_cons_zero, List.set_cons_succ]
          refine sg_take (i := 8) (oi := ⟨some 22, _, _, _, _, _⟩) (v := .agg (f p).toArray) rfl (by kernel_rfl) (by kernel_rfl) (by kernel_rfl) (fun _ _ _ h => h) rfl hX (fun W hW => ld_mid (w0 := w) (B := g) 27 _ rfl b (off + p * 6) rfl _ _ HRP.out HBG.out Tryd.underlying27 rfl (size_rx HY6.out) W (GW.out.trans hW.1)) ?_; simp only [Act.put, List.setIfInBounds_toArray, List.set_cons_zero, List.set_cons_succ]
          refine sg_actB (i := 9) (o := ⟨some 23, _, _, _, _, _⟩) rfl (by kernel_rfl) rfl hX (fun K hK => ?_)
          go_wp2_with fail
          have GD := Lib.hid (D4.out.below H.out)
          refine (follows_any x y HYN.out (f j) (f p) wd ((HVX.out.stay GD.out).mono (Nat.le_of_lt T4.out.lt)) ((HVY.out.stay GD.out).mono (Nat.le_of_lt T4.out.lt))).mono ?_
          rintro e w5 ⟨rfl, hb5⟩
          rw [← HFO.out]
          have hg5 := Kp.grow hb5 (Nat.le_of_lt T4.out.lt) F4.out.lt
          go_wp2_with fail
          refine hK _ _ (hX.trans hg5) ?_
          (try simp only [Act.put, List.setIfInBounds_toArray, List.set_cons_zero, List.set_cons_succ])
          clear hK K
          replace hX := hX.trans hg5
          have T5 := Lib.hid (T4.out.below hb5)
          have F5 := Lib.hid (F4.out.grow hb5.size)
          have D5 := Lib.hid (D4.out.trans (Wd.of hb5 g v'))
          clear hb5 hg5
          refine sg_take (i := 10) (oi := ⟨some 24, _, _, _, _, _⟩) (v := ?_) rfl (by kernel_rfl) (by kernel_rfl) (by kernel_rfl) (fun _ _ _ h => h) rfl hX ?_ ?_; rotate_left; (intro W hW; go_simp; try with_reducible rfl); simp only [Act.put, List.setIfInBounds_toArray, List.set_cons_zero, List.set_cons_succ]
          refine sg_take (i := 11) (oi := ⟨some 25, _, _, _, _, _⟩) (v := ?_) rfl (by kernel_rfl) (by kernel_rfl) (by kernel_rfl) (fun _ _ _ h => h) rfl hX ?_ ?_; rotate_left; (intro W hW; go_simp; try with_reducible rfl); simp only [Act.put, List.setIfInBounds_toArray, List.set_cons_zero, List.set_cons_succ]
          refine sg_actB (i := 12) (o := ⟨some 26, _, _, _, _, _⟩) rfl (by kernel_rfl) rfl hX (fun K hK => ?_)
          refine wp_bldB1 34 5 _ rfl i1 Tryd.underlying34 hi1 HY0.out hy1 124 rfl ?_
          intro w6 _ hr6 hb6 _
          have hg6 := Kp.grow hb6 (Nat.le_of_lt T5.out.lt) F5.out.lt
          refine hK _ _ (hX.trans hg6) ?_
          (try simp only [Act.put, List.setIfInBounds_toArray, List.set_cons_zero, List.set_cons_succ])
          clear hK K
          replace hX := hX.trans hg6
          have R6 := Lib.hid hr6
          have T6 := Lib.hid (T5.out.below hb6)
          have F6 := Lib.hid (F5.out.grow hb6.size)
          have D6 := Lib.hid (D5.out.trans (Wd.of hb6 g v'))
          clear hr6 hb6 hg6
          refine sg_actB (i := 13) (o := ⟨some 27, _, _, _, _, _⟩) rfl (by kernel_rfl) rfl hX (fun K hK => ?_)
          go_wp2_with fail
          refine (put_any g v' _ _ [124] w6 T6.out R6.out (by simp)).mono ?_
          intro e w7 hw
          have hk := wrote_kp T6.out F6.out hw
          obtain ⟨v7, d7, ⟨rfl, -, h7⟩ | ⟨rfl, h7⟩⟩ := hw
          · go_wp2_with fail
            refine hK _ _ (hX.trans hk) ?_
            (try simp only [Act.put, List.setIfInBounds_toArray, List.set_cons_zero, List.set_cons_succ])
            clear hK K
            replace hX := hX.trans hk
            have T7 := Lib.hid h7
            have D7 := Lib.hid (D6.out.trans d7)
            have F7 := Lib.hid (F6.out.step d7)
            clear h7 d7 hk
            refine sg_take (i := 14) (oi := ⟨some 28, _, _, _, _, _⟩) (v := ?_) rfl (by kernel_rfl) (by kernel_rfl) (by kernel_rfl) (fun _ _ _ h => h) rfl hX ?_ ?_; rotate_left; (intro W hW; go_simp; try with_reducible rfl); simp only [Act.put, List.setIfInBounds_toArray, List.set_cons_zero, List.set_cons_succ]
            refine sg_take (i := 15) (oi := ⟨some 29, _, _, _, _, _⟩) (v := ?_) rfl (by kernel_rfl) (by kernel_rfl) (by kernel_rfl) (fun _ _ _ h => h) rfl hX ?_ ?_; rotate_left; (intro W hW; go_simp; try with_reducible rfl); simp only [Act.put, List.setIfInBounds_toArray, List.set_cons_zero, List.set_cons_succ]
            refine sg_take (i := 16) (oi := ⟨some 30, _, _, _, _, _⟩) (v := ?_) rfl (by kernel_rfl) (by kernel_rfl) (by kernel_rfl) (fun _ _ _ h => h) rfl hX ?_ ?_; rotate_left; (intro W hW; go_simp; try with_reducible rfl); simp only [Act.put, List.setIfInBounds_toArray, List.set_cons_zero, List.set_cons_succ]
            refine sg_take (i := 17) (oi := ⟨some 31, _, _, _, _, _⟩) (v := ?_) rfl (by kernel_rfl) (by kernel_rfl) (by kernel_rfl) (fun _ _ _ h => h) rfl hX ?_ ?_; rotate_left; (intro W hW; go_simp; try with_reducible rfl); simp only [Act.put, List.setIfInBounds_toArray, List.set_cons_zero, List.set_cons_succ]
            refine sg_take (i := 18) (oi := ⟨some 32, _, _, _, _, _⟩) (v := ?_) rfl (by kernel_rfl) (by kernel_rfl) (by kernel_rfl) (fun _ _ _ h => h) rfl hX ?_ ?_; rotate_left; (intro W hW; go_simp; try with_reducible rfl); simp only [Act.put, List.setIfInBounds_toArray, List.set_cons_zero, List.set_cons_succ]
            refine sg_take (i := 19) (oi := ⟨some 33, _, _, _, _, _⟩) (v := .agg (f j).toArray) rfl (by kernel_rfl) (by kernel_rfl) (by kernel_rfl) (fun _ _ _ h => h) rfl hX (fun W hW => ld_blk 27 _ rfl wr.heap.size rfl 27 _ _ (hW.2.trans K3.out) (show wr.heap.size < W.heap.size from Blk.lt (hW.2.trans K3.out)) Tryd.underlying27 rfl (size_rx HV6.out) W (Below.refl _ _)) ?_; simp only [Act.put, List.setIfInBounds_toArray, List.set_cons_zero, List.set_cons_succ]
            refine sg_actB (i := 20) (o := ⟨some 34, _, _, _, _, _⟩) rfl (by kernel_rfl) rfl hX (fun K hK => ?_)
            go_wp2_with fail
            have G6 := Lib.hid (D7.out.below H.out)
            refine (part_any 5 (.inr (.inl rfl)) x HXI.out g v7 _ (f j) w7 T7.out (HT.out.belowG G6.out HG.out) HG.out (HVX.out.stay G6.out)).mono ?_
            intro e w9 hw
            obtain ⟨c2, rfl⟩ := wrote_bool hw
            have HW := Lib.hid hw
            have hk := wrote_kp T7.out F7.out hw
            go_wp2_with fail
            refine hK _ _ (hX.trans hk) ?_
            (try simp only [Act.put, List.setIfInBounds_toArray, List.set_cons_zero, List.set_cons_succ])
            clear hK K hw
            replace hX := hX.trans hk
            clear hk
            refine sg_take (i := 21) (oi := ⟨some 35, _, _, _, _, _⟩) (v := ?_) rfl (by kernel_rfl) (by kernel_rfl) (by kernel_rfl) (fun _ _ _ h => h) rfl hX ?_ ?_; rotate_left; (intro W hW; go_simp; try with_reducible rfl); simp only [Act.put, List.setIfInBounds_toArray, List.set_cons_zero, List.set_cons_succ]
            refine sg_take (i := 22) (oi := ⟨some 36, _, _, _, _, _⟩) (v := ?_) rfl (by kernel_rfl) (by kernel_rfl) (by kernel_rfl) (fun _ _ _ h => h) rfl hX ?_ ?_; rotate_left; (intro W hW; go_simp; try with_reducible rfl); simp only [Act.put, List.setIfInBounds_toArray, List.set_cons_zero, List.set_cons_succ]
            refine wpAnyH_done (by kernel_rfl) ?_ _
            clear hX
            obtain ⟨v9, d9, hcase⟩ := HW.out
            have D9 := Lib.hid (D7.out.trans d9)
            rcases hcase with ⟨hc, hp9, h9⟩ | ⟨hc, h9⟩
            · obtain rfl : c2 = true := by injection hc with hc; injection hc
              have H9 := Lib.hid h9
              have HP := Lib.hid hp9
              clear hc h9 hp9 d9 HW
              go_wp2_with fail
              refine ⟨⟨j + 1, v9, hjl, by congr 1, Lib.hid ?_, D9, Lib.hid fun i y hi hy => ?_, HFN⟩, by simp [intOf] <;> omega⟩
              · rw [HTX.out HP.out.1]
                exact H9.out
              · by_cases hij : i = j
                · rw [hij, HX.out] at hy
                  obtain rfl := Option.some.inj hy
                  exact HP.out
                · exact MP.out i y (by omega) hy
            · obtain rfl : c2 = false := by injection hc with hc; injection hc
              have H9 := Lib.hid h9
              clear hc h9 d9 HW
              go_wp2_with fail
              go_ret
              refine wrote_no D9.out (fun hh => H9.out ?_)
              have hp := at_plain (HOK.out ▸ hh.1).1 HX.out
              refine ⟨hp, ?_⟩
              have h5 := HMN.out
              have h6 := congrArg List.length (HTX.out hp.1)
              have h7 := hh.2
              rw [HR.out] at h7
              rw [List.length_append, List.length_append] at h6
              omega
          · go_wp2_with fail
            refine hK _ _ (hX.trans hk) ?_
            (try simp only [Act.put, List.setIfInBounds_toArray, List.set_cons_zero, List.set_cons_succ])
            clear hK K
            replace hX := hX.trans hk
            have H7 := Lib.hid h7
            have D7 := Lib.hid (D6.out.trans d7)
            clear h7 d7 hk
            refine sg_take (i := 14) (oi := ⟨some 28, _, _, _, _, _⟩) (v := ?_) rfl (by kernel_rfl) (by kernel_rfl) (by kernel_rfl) (fun _ _ _ h => h) rfl hX ?_ ?_; rotate_left; (intro W hW; go_simp; try with_reducible rfl); simp only [Act.put, List.setIfInBounds_toArray, List.set_cons_zero, List.set_cons_succ]
            refine sg_take (i := 15) (oi := ⟨some 29, _, _, _, _, _⟩) (v := ?_) rfl (by kernel_rfl) (by kernel_rfl) (by kernel_rfl) (fun _ _ _ h => h) rfl hX ?_ ?_; rotate_left; (intro W hW; go_simp; try with_reducible rfl); simp only [Act.put, List.setIfInBounds_toArray, List.set_cons_zero, List.set_cons_succ]
            refine sg_take (i := 16) (oi := ⟨some 30, _, _, _, _, _⟩) (v := ?_) rfl (by kernel_rfl) (by kernel_rfl) (by kernel_rfl) (fun _ _ _ h => h) rfl hX ?_ ?_; rotate_left; (intro W hW; go_simp; try with_reducible rfl); simp only [Act.put, List.setIfInBounds_toArray, List.set_cons_zero, List.set_cons_succ]
            refine sg_take (i := 17) (oi := ⟨some 31, _, _, _, _, _⟩) (v := ?_) rfl (by kernel_rfl) (by kernel_rfl) (by kernel_rfl) (fun _ _ _ h => h) rfl hX ?_ ?_; rotate_left; (intro W hW; go_simp; try with_reducible rfl); simp only [Act.put, List.setIfInBounds_toArray, List.set_cons_zero, List.set_cons_succ]
            refine sg_skip (i := 18) (oi := ⟨some 32, _, _, _, _, _⟩) rfl (by kernel_rfl) (by kernel_rfl) (by kernel_rfl) (fun _ _ _ h => h) rfl hX ?_; simp only [Act.put, List.setIfInBounds_toArray, List.set_cons_zero, List.set_cons_succ]
            refine sg_skip (i := 19) (oi := ⟨some 33, _, _, _, _, _⟩) rfl (by kernel_rfl) (by kernel_rfl) (by kernel_rfl) (fun _ _ _ h => h) rfl hX ?_; simp only [Act.put, List.setIfInBounds_toArray, List.set_cons_zero, List.set_cons_succ]
            refine sg_skip (i := 20) (oi := ⟨some 34, _, _, _, _, _⟩) rfl (by kernel_rfl) (by kernel_rfl) (by kernel_rfl) (fun _ _ _ h => h) rfl hX ?_; simp only [Act.put, List.setIfInBounds_toArray, List.set_cons_zero, List.set_cons_succ]
            refine sg_skip (i := 21) (oi := ⟨some 35, _, _, _, _, _⟩) rfl (by kernel_rfl) (by kernel_rfl) (by kernel_rfl) (fun _ _ _ h => h) rfl hX ?_; simp only [Act.put, List.setIfInBounds_toArray, List.set_cons_zero, List.set_cons_succ]
            refine sg_take (i := 22) (oi := ⟨some 36, _, _, _, _, _⟩) (v := ?_) rfl (by kernel_rfl) (by kernel_rfl) (by kernel_rfl) (fun _ _ _ h => h) rfl hX ?_ ?_; rotate_left; (intro W hW; go_simp; try with_reducible rfl); simp only [Act.put, List.setIfInBounds_toArray, List.set_cons_zero, List.set_cons_succ]
            refine wpAnyH_done (by kernel_rfl) ?_ _
            clear hX
            go_wp2_with fail
            go_ret
            refine wrote_no D7.out (fun hh => H7.out ⟨trivial, ?_⟩)
            have hp := at_plain (HOK.out ▸ hh.1).1 HX.out
            have h5 := HMN.out
            have h6 := congrArg List.length (HTX.out hp.1)
            have h8 := hh.2
            rw [HR.out] at h8
            simp only [List.length_append] at h6 ⊢
            omega
    · obtain rfl : j = l.length := by omega
      have j1 : ¬ ((l.length : Int) < (l.length : Int)) := by omega
      go_wp2_with fail
      go_ret
      refine wrote_yes MD.out (HOK.out ▸ ⟨all_plain MP.out, ascF_next.2 fun i a b ha hb => MA.out i a b (List.getElem?_eq_some_iff.1 hb).1 ha hb⟩) MT.out ?_
      rw [List.take_length, HR.out]
end Go.Proofs.YtmlojjgddmnbmaaDoor
namespace Go.Proofs.YtmlojjgddmnbmaaDoor
open Go.RowKit
set_option linter.unusedSimpArgs false
set_option linter.unusedVariables false

theorem memN_ne {s : Nat → Bool} : memN s ≠ [] ↔ eqS s zeroS = false := by
  refine ⟨fun h => ?_, setN_ne⟩
  cases he : eqS s zeroS with
  | false => rfl
  | true =>
    refine absurd (List.eq_nil_iff_forall_not_mem.2 fun n hn => ?_) h
    obtain ⟨h1, h2⟩ := memN_mem.1 hn
    rw [(eqS_iff _ _).1 he n h1] at h2
    cases h2
set_option maxHeartbeats 16000000 in
set_option maxRecDepth 1000000 in
theorem expr_any : ∀ (N : Nat) (t : T), t.nodes ≤ N → t.nodes ≤ 1048576 → ExprC t := by
  intro N
  induction N with
  | zero => intro t h; have := nodes_pos t; omega
  | succ N ih =>
    rintro ⟨k, s, l⟩ hN hM g v L cs w h hT hg hv
    have H := Lib.hid h
    have HT := Lib.hid hT
    have HG := Lib.hid hg
    have HNN := Lib.hid (show T.nodes (.node k s l) = 1 + nodesL l by simp only [T.nodes])
    rw [HNN.out] at hN hM
    have IH := Lib.hid (show ∀ x ∈ l, ExprC x from fun x hx => ih x (by have := nodes_mem hx; omega) (by have := nodes_mem hx; omega))
    have HNL := Lib.hid (show nodesL l ≤ 1048576 by omega)
    have HLL := Lib.hid (show l.length ≤ 1048576 by have := len_nodes l; omega)
    obtain ⟨uv, huv, hrow⟩ := hv.row
    have HRW := Lib.hid hrow
    obtain ⟨A, cap, f, rfl, _, _, _, h3, h4⟩ := hrow
    have H3 := Lib.hid h3
    have H4 := Lib.hid h4
    have HCS := Lib.hid huv
    have HC0 := Lib.hid (show cs[0]? = some (.int .i64 k) by rw [huv]; rfl)
    have HC5 := Lib.hid (show cs[5]? = some (.slice A l.length cap) by rw [huv]; rfl)
    obtain ⟨i1, hi1, hy0, hy1⟩ := info_u8
    have HY0 := Lib.hid hy0
    obtain ⟨zs, hzs⟩ : ∃ zs : Nat → Bool, zs = zeroS := ⟨_, rfl⟩
    have HBS := Lib.hid (show Tryd.prog.built 24 [] = some (wds zs).toArray by rw [hzs]; kernel_rfl)
    obtain ⟨ok, hok⟩ : ∃ ok : Prop, ok = (plainT (.node k s l) = true) := ⟨_, rfl⟩
    obtain ⟨r, hr⟩ : ∃ r, r = textT (.node k s l) := ⟨_, rfl⟩
    rw [← hok, ← hr]
    simp only [textT] at hr
    simp only [plainT, Bool.and_eq_true, Bool.or_eq_true, decide_eq_true_eq] at hok
    clear h hT hg hN hM hv huv ih h3 h4 hy0
    by_cases k3 : k = 3
    · have q3 : (k == 3) = true := by simpa using k3
      have q3' : (k != 3) = false := by simpa using k3
      have q1 : (k == 1) = false := by rw [beq_eq_false_iff_ne]; omega
      have q2 : (k == 2) = false := by rw [beq_eq_false_iff_ne]; omega
      rw [if_neg (by omega), if_neg (by omega), if_pos k3] at hr
      have HR := Lib.hid hr
      by_cases n0 : l.length = 0
      · have qn : ((l.length : Int) == 0) = true := by rw [n0]; rfl
        have HY := Lib.hid (show ok ↔ memN s ≠ [] by
          obtain rfl := List.eq_nil_of_length_eq_zero n0
          rw [hok, memN_ne, k3, count3]
          simp [plainL, ascF])
        clear hok hr k3 n0
        go_enter Tryd.func25, Tryd.ntmps25
        go_wp2_with (first
          | ((with_reducible refine atDst 3 ?_); refine wpList_box rfl 27 _ rfl cs rfl (Below.refl w.heap.size w) (Nat.le_refl _) ?_; intro w1 hk1 hb1 hs1 _; have K1 := Lib.hid hk1; have B1 := Lib.hid hb1; have a0 := K1.out.cell 0; rw [HC0.out] at a0; have a5 := K1.out.cell 5; rw [HC5.out] at a5; have RS := Lib.hid (set_range' HCS.out K1.out); have T1 := Lib.hid (H.out.below B1.out); have TB1 := Lib.hid (HT.out.below B1.out (Nat.le_refl _)); have G1 := Lib.hid (B1.out.mono (Nat.le_of_lt H.out.lt)); have D1 := Lib.hid (Wd.of B1.out g v); clear hk1 hb1 hs1; (try simp only [Act.put, List.setIfInBounds_toArray, List.set_cons_zero, List.set_cons_succ]))
          | ((with_reducible refine atDst 10 ?_); refine wpList_ldMidG rfl 24 _ rfl w.heap.size 1 rfl (wds s) _ RS.out Tryd.underlying24 rfl (size_set s) ?_; (try simp only [Act.put, List.setIfInBounds_toArray, List.set_cons_zero, List.set_cons_succ]))
          | ((with_reducible refine atDst 11 ?_); refine wpList_bld rfl 24 _ rfl (wds zs) HBS.out ?_; (try simp only [Act.put, List.setIfInBounds_toArray, List.set_cons_zero, List.set_cons_succ]))
          | ((with_reducible refine atDst 12 ?_); refine wpList_neSetG rfl HNE.out 24 22 (.tmp 10) (.tmp 11) 24 rfl guardSet Tryd.underlying24 Tryd.underlying22 sizeU64 rfl rfl ?_; (try simp only [Act.put, List.setIfInBounds_toArray, List.set_cons_zero, List.set_cons_succ]))
          | ((with_reducible refine atDst 47 ?_); refine wpList_ldMidG rfl 24 _ rfl w.heap.size 1 rfl (wds s) _ RS.out Tryd.underlying24 rfl (size_set s) ?_; (try simp only [Act.put, List.setIfInBounds_toArray, List.set_cons_zero, List.set_cons_succ]))
          | ((with_reducible refine atDst 24 ?_); refine wpList_bldB2G rfl 34 5 _ _ rfl i1 Tryd.underlying34 hi1 HY0.out hy1 91 93 rfl rfl ?_; intro wn hrn hbn; have RN := Lib.hid hrn; have BN := Lib.hid hbn; clear hrn hbn; (try simp only [Act.put, List.setIfInBounds_toArray, List.set_cons_zero, List.set_cons_succ]))
          | ((with_reducible refine atDst 35 ?_); refine wpList_bldB2G rfl 34 5 _ _ rfl i1 Tryd.underlying34 hi1 HY0.out hy1 40 41 rfl rfl ?_; intro wn hrn hbn; have RN := Lib.hid hrn; have BN := Lib.hid hbn; clear hrn hbn; (try simp only [Act.put, List.setIfInBounds_toArray, List.set_cons_zero, List.set_cons_succ]))
          | ((with_reducible refine atDst 85 ?_); refine wpList_ldMidG rfl 27 _ rfl b off rfl (f 0) _ (range_below HRG.out G1.out HBG.out) Tryd.underlying27 rfl (size_rx HV6.out) ?_; (try simp only [Act.put, List.setIfInBounds_toArray, List.set_cons_zero, List.set_cons_succ])))
        refine (wset_any g v L s w1 T1.out TB1.out).mono ?_
        intro e w2 hw
        obtain ⟨c, rfl⟩ := wrote_bool hw
        have HW := Lib.hid (wrote_from B1.out hw)
        clear hw
        go_wp2_with fail
        go_ret
        obtain ⟨v2, d2, ⟨h2, hp, ht⟩ | ⟨h2, hn⟩⟩ := HW.out
        · exact ⟨v2, d2, .inl ⟨h2, HY.out.2 hp, by rw [HR.out]; exact ht⟩⟩
        · exact ⟨v2, d2, .inr ⟨h2, fun hh => hn ⟨HY.out.1 hh.1, by rw [← HR.out]; exact hh.2⟩⟩⟩
      · have qn : ((l.length : Int) == 0) = false := by rw [beq_eq_false_iff_ne]; omega
        have HN := Lib.hid (show ¬ ok by rw [hok, k3, count3]; simp [n0])
        clear hok hr k3 n0
        go_enter Tryd.func25, Tryd.ntmps25
        go_wp2_with (first
          | ((with_reducible refine atDst 3 ?_); refine wpList_box rfl 27 _ rfl cs rfl (Below.refl w.heap.size w) (Nat.le_refl _) ?_; intro w1 hk1 hb1 hs1 _; have K1 := Lib.hid hk1; have B1 := Lib.hid hb1; have a0 := K1.out.cell 0; rw [HC0.out] at a0; have a5 := K1.out.cell 5; rw [HC5.out] at a5; have RS := Lib.hid (set_range' HCS.out K1.out); have T1 := Lib.hid (H.out.below B1.out); have TB1 := Lib.hid (HT.out.below B1.out (Nat.le_refl _)); have G1 := Lib.hid (B1.out.mono (Nat.le_of_lt H.out.lt)); have D1 := Lib.hid (Wd.of B1.out g v); clear hk1 hb1 hs1; (try simp only [Act.put, List.setIfInBounds_toArray, List.set_cons_zero, List.set_cons_succ]))
          | ((with_reducible refine atDst 10 ?_); refine wpList_ldMidG rfl 24 _ rfl w.heap.size 1 rfl (wds s) _ RS.out Tryd.underlying24 rfl (size_set s) ?_; (try simp only [Act.put, List.setIfInBounds_toArray, List.set_cons_zero, List.set_cons_succ]))
          | ((with_reducible refine atDst 11 ?_); refine wpList_bld rfl 24 _ rfl (wds zs) HBS.out ?_; (try simp only [Act.put, List.setIfInBounds_toArray, List.set_cons_zero, List.set_cons_succ]))
          | ((with_reducible refine atDst 12 ?_); refine wpList_neSetG rfl HNE.out 24 22 (.tmp 10) (.tmp 11) 24 rfl guardSet Tryd.underlying24 Tryd.underlying22 sizeU64 rfl rfl ?_; (try simp only [Act.put, List.setIfInBounds_toArray, List.set_cons_zero, List.set_cons_succ]))
          | ((with_reducible refine atDst 47 ?_); refine wpList_ldMidG rfl 24 _ rfl w.heap.size 1 rfl (wds s) _ RS.out Tryd.underlying24 rfl (size_set s) ?_; (try simp only [Act.put, List.setIfInBounds_toArray, List.set_cons_zero, List.set_cons_succ]))
          | ((with_reducible refine atDst 24 ?_); refine wpList_bldB2G rfl 34 5 _ _ rfl i1 Tryd.underlying34 hi1 HY0.out hy1 91 93 rfl rfl ?_; intro wn hrn hbn; have RN := Lib.hid hrn; have BN := Lib.hid hbn; clear hrn hbn; (try simp only [Act.put, List.setIfInBounds_toArray, List.set_cons_zero, List.set_cons_succ]))
          | ((with_reducible refine atDst 35 ?_); refine wpList_bldB2G rfl 34 5 _ _ rfl i1 Tryd.underlying34 hi1 HY0.out hy1 40 41 rfl rfl ?_; intro wn hrn hbn; have RN := Lib.hid hrn; have BN := Lib.hid hbn; clear hrn hbn; (try simp only [Act.put, List.setIfInBounds_toArray, List.set_cons_zero, List.set_cons_succ]))
          | ((with_reducible refine atDst 85 ?_); refine wpList_ldMidG rfl 27 _ rfl b off rfl (f 0) _ (range_below HRG.out G1.out HBG.out) Tryd.underlying27 rfl (size_rx HV6.out) ?_; (try simp only [Act.put, List.setIfInBounds_toArray, List.set_cons_zero, List.set_cons_succ])))
        go_ret
        exact wrote_no D1.out (fun hh => HN.out hh.1)
    have q3 : (k == 3) = false := by simpa using k3
    have q3' : (k != 3) = true := by simpa using k3
    cases hb : eqS s zs with
    | false =>
      have HNE := Lib.hid (show (!eqS s zs) = true by rw [hb]; rfl)
      have HN := Lib.hid (show ¬ ok by rw [hok, ← hzs, hb]; simp [k3])
      clear hok hr k3 hb hzs
      go_enter Tryd.func25, Tryd.ntmps25
      go_wp2_with (first
        | ((with_reducible refine atDst 3 ?_); refine wpList_box rfl 27 _ rfl cs rfl (Below.refl w.heap.size w) (Nat.le_refl _) ?_; intro w1 hk1 hb1 hs1 _; have K1 := Lib.hid hk1; have B1 := Lib.hid hb1; have a0 := K1.out.cell 0; rw [HC0.out] at a0; have a5 := K1.out.cell 5; rw [HC5.out] at a5; have RS := Lib.hid (set_range' HCS.out K1.out); have T1 := Lib.hid (H.out.below B1.out); have TB1 := Lib.hid (HT.out.below B1.out (Nat.le_refl _)); have G1 := Lib.hid (B1.out.mono (Nat.le_of_lt H.out.lt)); have D1 := Lib.hid (Wd.of B1.out g v); clear hk1 hb1 hs1; (try simp only [Act.put, List.setIfInBounds_toArray, List.set_cons_zero, List.set_cons_succ]))
        | ((with_reducible refine atDst 10 ?_); refine wpList_ldMidG rfl 24 _ rfl w.heap.size 1 rfl (wds s) _ RS.out Tryd.underlying24 rfl (size_set s) ?_; (try simp only [Act.put, List.setIfInBounds_toArray, List.set_cons_zero, List.set_cons_succ]))
        | ((with_reducible refine atDst 11 ?_); refine wpList_bld rfl 24 _ rfl (wds zs) HBS.out ?_; (try simp only [Act.put, List.setIfInBounds_toArray, List.set_cons_zero, List.set_cons_succ]))
        | ((with_reducible refine atDst 12 ?_); refine wpList_neSetG rfl HNE.out 24 22 (.tmp 10) (.tmp 11) 24 rfl guardSet Tryd.underlying24 Tryd.underlying22 sizeU64 rfl rfl ?_; (try simp only [Act.put, List.setIfInBounds_toArray, List.set_cons_zero, List.set_cons_succ]))
        | ((with_reducible refine atDst 47 ?_); refine wpList_ldMidG rfl 24 _ rfl w.heap.size 1 rfl (wds s) _ RS.out Tryd.underlying24 rfl (size_set s) ?_; (try simp only [Act.put, List.setIfInBounds_toArray, List.set_cons_zero, List.set_cons_succ]))
        | ((with_reducible refine atDst 24 ?_); refine wpList_bldB2G rfl 34 5 _ _ rfl i1 Tryd.underlying34 hi1 HY0.out hy1 91 93 rfl rfl ?_; intro wn hrn hbn; have RN := Lib.hid hrn; have BN := Lib.hid hbn; clear hrn hbn; (try simp only [Act.put, List.setIfInBounds_toArray, List.set_cons_zero, List.set_cons_succ]))
        | ((with_reducible refine atDst 35 ?_); refine wpList_bldB2G rfl 34 5 _ _ rfl i1 Tryd.underlying34 hi1 HY0.out hy1 40 41 rfl rfl ?_; intro wn hrn hbn; have RN := Lib.hid hrn; have BN := Lib.hid hbn; clear hrn hbn; (try simp only [Act.put, List.setIfInBounds_toArray, List.set_cons_zero, List.set_cons_succ]))
        | ((with_reducible refine atDst 85 ?_); refine wpList_ldMidG rfl 27 _ rfl b off rfl (f 0) _ (range_below HRG.out G1.out HBG.out) Tryd.underlying27 rfl (size_rx HV6.out) ?_; (try simp only [Act.put, List.setIfInBounds_toArray, List.set_cons_zero, List.set_cons_succ])))
      go_ret
      exact wrote_no D1.out (fun hh => HN.out hh.1)
    | true =>
    have HNE := Lib.hid (show (!eqS s zs) = false by rw [hb]; rfl)
    have hz2 : k = 3 ∨ eqS s zeroS = true := .inr (by rw [← hzs]; exact hb)
    by_cases k1 : k = 1
    · have q1 : (k == 1) = true := by simpa using k1
      rw [if_pos k1] at hr
      have HR := Lib.hid hr
      by_cases n0 : l.length = 0
      · have qn : ((l.length : Int) == 0) = true := by rw [n0]; rfl
        have HY := Lib.hid (show ok ↔ True by
          obtain rfl := List.eq_nil_of_length_eq_zero n0
          rw [hok, count12 (.inl k1)]
          simp [plainL, ascF, hz2])
        clear hok hr k3 n0 k1 hz2 hb hzs
        go_enter Tryd.func25, Tryd.ntmps25
        go_wp2_with (first
          | ((with_reducible refine atDst 3 ?_); refine wpList_box rfl 27 _ rfl cs rfl (Below.refl w.heap.size w) (Nat.le_refl _) ?_; intro w1 hk1 hb1 hs1 _; have K1 := Lib.hid hk1; have B1 := Lib.hid hb1; have a0 := K1.out.cell 0; rw [HC0.out] at a0; have a5 := K1.out.cell 5; rw [HC5.out] at a5; have RS := Lib.hid (set_range' HCS.out K1.out); have T1 := Lib.hid (H.out.below B1.out); have TB1 := Lib.hid (HT.out.below B1.out (Nat.le_refl _)); have G1 := Lib.hid (B1.out.mono (Nat.le_of_lt H.out.lt)); have D1 := Lib.hid (Wd.of B1.out g v); clear hk1 hb1 hs1; (try simp only [Act.put, List.setIfInBounds_toArray, List.set_cons_zero, List.set_cons_succ]))
          | ((with_reducible refine atDst 10 ?_); refine wpList_ldMidG rfl 24 _ rfl w.heap.size 1 rfl (wds s) _ RS.out Tryd.underlying24 rfl (size_set s) ?_; (try simp only [Act.put, List.setIfInBounds_toArray, List.set_cons_zero, List.set_cons_succ]))
          | ((with_reducible refine atDst 11 ?_); refine wpList_bld rfl 24 _ rfl (wds zs) HBS.out ?_; (try simp only [Act.put, List.setIfInBounds_toArray, List.set_cons_zero, List.set_cons_succ]))
          | ((with_reducible refine atDst 12 ?_); refine wpList_neSetG rfl HNE.out 24 22 (.tmp 10) (.tmp 11) 24 rfl guardSet Tryd.underlying24 Tryd.underlying22 sizeU64 rfl rfl ?_; (try simp only [Act.put, List.setIfInBounds_toArray, List.set_cons_zero, List.set_cons_succ]))
          | ((with_reducible refine atDst 47 ?_); refine wpList_ldMidG rfl 24 _ rfl w.heap.size 1 rfl (wds s) _ RS.out Tryd.underlying24 rfl (size_set s) ?_; (try simp only [Act.put, List.setIfInBounds_toArray, List.set_cons_zero, List.set_cons_succ]))
          | ((with_reducible refine atDst 24 ?_); refine wpList_bldB2G rfl 34 5 _ _ rfl i1 Tryd.underlying34 hi1 HY0.out hy1 91 93 rfl rfl ?_; intro wn hrn hbn; have RN := Lib.hid hrn; have BN := Lib.hid hbn; clear hrn hbn; (try simp only [Act.put, List.setIfInBounds_toArray, List.set_cons_zero, List.set_cons_succ]))
          | ((with_reducible refine atDst 35 ?_); refine wpList_bldB2G rfl 34 5 _ _ rfl i1 Tryd.underlying34 hi1 HY0.out hy1 40 41 rfl rfl ?_; intro wn hrn hbn; have RN := Lib.hid hrn; have BN := Lib.hid hbn; clear hrn hbn; (try simp only [Act.put, List.setIfInBounds_toArray, List.set_cons_zero, List.set_cons_succ]))
          | ((with_reducible refine atDst 85 ?_); refine wpList_ldMidG rfl 27 _ rfl b off rfl (f 0) _ (range_below HRG.out G1.out HBG.out) Tryd.underlying27 rfl (size_rx HV6.out) ?_; (try simp only [Act.put, List.setIfInBounds_toArray, List.set_cons_zero, List.set_cons_succ])))
        refine (put_at T1.out BN.out RN.out (by simp)).mono ?_
        intro e w2 hw
        obtain ⟨c, rfl⟩ := wrote_bool hw
        have HW := Lib.hid (wrote_from B1.out hw)
        clear hw
        go_wp2_with fail
        go_ret
        obtain ⟨v2, d2, ⟨h2, hp, ht⟩ | ⟨h2, hn⟩⟩ := HW.out
        · exact ⟨v2, d2, .inl ⟨h2, HY.out.2 hp, by rw [HR.out]; exact ht⟩⟩
        · exact ⟨v2, d2, .inr ⟨h2, fun hh => hn ⟨HY.out.1 hh.1, by rw [← HR.out]; exact hh.2⟩⟩⟩
      · have qn : ((l.length : Int) == 0) = false := by rw [beq_eq_false_iff_ne]; omega
        have HN := Lib.hid (show ¬ ok by rw [hok, count12 (.inl k1)]; simp [n0])
        clear hok hr k3 n0 k1 hz2 hb hzs
        go_enter Tryd.func25, Tryd.ntmps25
        go_wp2_with (first
          | ((with_reducible refine atDst 3 ?_); refine wpList_box rfl 27 _ rfl cs rfl (Below.refl w.heap.size w) (Nat.le_refl _) ?_; intro w1 hk1 hb1 hs1 _; have K1 := Lib.hid hk1; have B1 := Lib.hid hb1; have a0 := K1.out.cell 0; rw [HC0.out] at a0; have a5 := K1.out.cell 5; rw [HC5.out] at a5; have RS := Lib.hid (set_range' HCS.out K1.out); have T1 := Lib.hid (H.out.below B1.out); have TB1 := Lib.hid (HT.out.below B1.out (Nat.le_refl _)); have G1 := Lib.hid (B1.out.mono (Nat.le_of_lt H.out.lt)); have D1 := Lib.hid (Wd.of B1.out g v); clear hk1 hb1 hs1; (try simp only [Act.put, List.setIfInBounds_toArray, List.set_cons_zero, List.set_cons_succ]))
          | ((with_reducible refine atDst 10 ?_); refine wpList_ldMidG rfl 24 _ rfl w.heap.size 1 rfl (wds s) _ RS.out Tryd.underlying24 rfl (size_set s) ?_; (try simp only [Act.put, List.setIfInBounds_toArray, List.set_cons_zero, List.set_cons_succ]))
          | ((with_reducible refine atDst 11 ?_); refine wpList_bld rfl 24 _ rfl (wds zs) HBS.out ?_; (try simp only [Act.put, List.setIfInBounds_toArray, List.set_cons_zero, List.set_cons_succ]))
          | ((with_reducible refine atDst 12 ?_); refine wpList_neSetG rfl HNE.out 24 22 (.tmp 10) (.tmp 11) 24 rfl guardSet Tryd.underlying24 Tryd.underlying22 sizeU64 rfl rfl ?_; (try simp only [Act.put, List.setIfInBounds_toArray, List.set_cons_zero, List.set_cons_succ]))
          | ((with_reducible refine atDst 47 ?_); refine wpList_ldMidG rfl 24 _ rfl w.heap.size 1 rfl (wds s) _ RS.out Tryd.underlying24 rfl (size_set s) ?_; (try simp only [Act.put, List.setIfInBounds_toArray, List.set_cons_zero, List.set_cons_succ]))
          | ((with_reducible refine atDst 24 ?_); refine wpList_bldB2G rfl 34 5 _ _ rfl i1 Tryd.underlying34 hi1 HY0.out hy1 91 93 rfl rfl ?_; intro wn hrn hbn; have RN := Lib.hid hrn; have BN := Lib.hid hbn; clear hrn hbn; (try simp only [Act.put, List.setIfInBounds_toArray, List.set_cons_zero, List.set_cons_succ]))
          | ((with_reducible refine atDst 35 ?_); refine wpList_bldB2G rfl 34 5 _ _ rfl i1 Tryd.underlying34 hi1 HY0.out hy1 40 41 rfl rfl ?_; intro wn hrn hbn; have RN := Lib.hid hrn; have BN := Lib.hid hbn; clear hrn hbn; (try simp only [Act.put, List.setIfInBounds_toArray, List.set_cons_zero, List.set_cons_succ]))
          | ((with_reducible refine atDst 85 ?_); refine wpList_ldMidG rfl 27 _ rfl b off rfl (f 0) _ (range_below HRG.out G1.out HBG.out) Tryd.underlying27 rfl (size_rx HV6.out) ?_; (try simp only [Act.put, List.setIfInBounds_toArray, List.set_cons_zero, List.set_cons_succ])))
        go_ret
        exact wrote_no D1.out (fun hh => HN.out hh.1)
    have q1 : (k == 1) = false := by simpa using k1
    rw [if_neg k1] at hr
    by_cases k2 : k = 2
    · have q2 : (k == 2) = true := by simpa using k2
      rw [if_pos k2] at hr
      have HR := Lib.hid hr
      by_cases n0 : l.length = 0
      · have qn : ((l.length : Int) == 0) = true := by rw [n0]; rfl
        have HY := Lib.hid (show ok ↔ True by
          obtain rfl := List.eq_nil_of_length_eq_zero n0
          rw [hok, count12 (.inr k2)]
          simp [plainL, ascF, hz2])
        clear hok hr k3 n0 k1 k2 hz2 hb hzs
        go_enter Tryd.func25, Tryd.ntmps25
        go_wp2_with (first
          | ((with_reducible refine atDst 3 ?_); refine wpList_box rfl 27 _ rfl cs rfl (Below.refl w.heap.size w) (Nat.le_refl _) ?_; intro w1 hk1 hb1 hs1 _; have K1 := Lib.hid hk1; have B1 := Lib.hid hb1; have a0 := K1.out.cell 0; rw [HC0.out] at a0; have a5 := K1.out.cell 5; rw [HC5.out] at a5; have RS := Lib.hid (set_range' HCS.out K1.out); have T1 := Lib.hid (H.out.below B1.out); have TB1 := Lib.hid (HT.out.below B1.out (Nat.le_refl _)); have G1 := Lib.hid (B1.out.mono (Nat.le_of_lt H.out.lt)); have D1 := Lib.hid (Wd.of B1.out g v); clear hk1 hb1 hs1; (try simp only [Act.put, List.setIfInBounds_toArray, List.set_cons_zero, List.set_cons_succ]))
          | ((with_reducible refine atDst 10 ?_); refine wpList_ldMidG rfl 24 _ rfl w.heap.size 1 rfl (wds s) _ RS.out Tryd.underlying24 rfl (size_set s) ?_; (try simp only [Act.put, List.setIfInBounds_toArray, List.set_cons_zero, List.set_cons_succ]))
          | ((with_reducible refine atDst 11 ?_); refine wpList_bld rfl 24 _ rfl (wds zs) HBS.out ?_; (try simp only [Act.put, List.setIfInBounds_toArray, List.set_cons_zero, List.set_cons_succ]))
          | ((with_reducible refine atDst 12 ?_); refine wpList_neSetG rfl HNE.out 24 22 (.tmp 10) (.tmp 11) 24 rfl guardSet Tryd.underlying24 Tryd.underlying22 sizeU64 rfl rfl ?_; (try simp only [Act.put, List.setIfInBounds_toArray, List.set_cons_zero, List.set_cons_succ]))
          | ((with_reducible refine atDst 47 ?_); refine wpList_ldMidG rfl 24 _ rfl w.heap.size 1 rfl (wds s) _ RS.out Tryd.underlying24 rfl (size_set s) ?_; (try simp only [Act.put, List.setIfInBounds_toArray, List.set_cons_zero, List.set_cons_succ]))
          | ((with_reducible refine atDst 24 ?_); refine wpList_bldB2G rfl 34 5 _ _ rfl i1 Tryd.underlying34 hi1 HY0.out hy1 91 93 rfl rfl ?_; intro wn hrn hbn; have RN := Lib.hid hrn; have BN := Lib.hid hbn; clear hrn hbn; (try simp only [Act.put, List.setIfInBounds_toArray, List.set_cons_zero, List.set_cons_succ]))
          | ((with_reducible refine atDst 35 ?_); refine wpList_bldB2G rfl 34 5 _ _ rfl i1 Tryd.underlying34 hi1 HY0.out hy1 40 41 rfl rfl ?_; intro wn hrn hbn; have RN := Lib.hid hrn; have BN := Lib.hid hbn; clear hrn hbn; (try simp only [Act.put, List.setIfInBounds_toArray, List.set_cons_zero, List.set_cons_succ]))
          | ((with_reducible refine atDst 85 ?_); refine wpList_ldMidG rfl 27 _ rfl b off rfl (f 0) _ (range_below HRG.out G1.out HBG.out) Tryd.underlying27 rfl (size_rx HV6.out) ?_; (try simp only [Act.put, List.setIfInBounds_toArray, List.set_cons_zero, List.set_cons_succ])))
        refine (put_at T1.out BN.out RN.out (by simp)).mono ?_
        intro e w2 hw
        obtain ⟨c, rfl⟩ := wrote_bool hw
        have HW := Lib.hid (wrote_from B1.out hw)
        clear hw
        go_wp2_with fail
        go_ret
        obtain ⟨v2, d2, ⟨h2, hp, ht⟩ | ⟨h2, hn⟩⟩ := HW.out
        · exact ⟨v2, d2, .inl ⟨h2, HY.out.2 hp, by rw [HR.out]; exact ht⟩⟩
        · exact ⟨v2, d2, .inr ⟨h2, fun hh => hn ⟨HY.out.1 hh.1, by rw [← HR.out]; exact hh.2⟩⟩⟩
      · have qn : ((l.length : Int) == 0) = false := by rw [beq_eq_false_iff_ne]; omega
        have HN := Lib.hid (show ¬ ok by rw [hok, count12 (.inr k2)]; simp [n0])
        clear hok hr k3 n0 k1 k2 hz2 hb hzs
        go_enter Tryd.func25, Tryd.ntmps25
        go_wp2_with (first
          | ((with_reducible refine atDst 3 ?_); refine wpList_box rfl 27 _ rfl cs rfl (Below.refl w.heap.size w) (Nat.le_refl _) ?_; intro w1 hk1 hb1 hs1 _; have K1 := Lib.hid hk1; have B1 := Lib.hid hb1; have a0 := K1.out.cell 0; rw [HC0.out] at a0; have a5 := K1.out.cell 5; rw [HC5.out] at a5; have RS := Lib.hid (set_range' HCS.out K1.out); have T1 := Lib.hid (H.out.below B1.out); have TB1 := Lib.hid (HT.out.below B1.out (Nat.le_refl _)); have G1 := Lib.hid (B1.out.mono (Nat.le_of_lt H.out.lt)); have D1 := Lib.hid (Wd.of B1.out g v); clear hk1 hb1 hs1; (try simp only [Act.put, List.setIfInBounds_toArray, List.set_cons_zero, List.set_cons_succ]))
          | ((with_reducible refine atDst 10 ?_); refine wpList_ldMidG rfl 24 _ rfl w.heap.size 1 rfl (wds s) _ RS.out Tryd.underlying24 rfl (size_set s) ?_; (try simp only [Act.put, List.setIfInBounds_toArray, List.set_cons_zero, List.set_cons_succ]))
          | ((with_reducible refine atDst 11 ?_); refine wpList_bld rfl 24 _ rfl (wds zs) HBS.out ?_; (try simp only [Act.put, List.setIfInBounds_toArray, List.set_cons_zero, List.set_cons_succ]))
          | ((with_reducible refine atDst 12 ?_); refine wpList_neSetG rfl HNE.out 24 22 (.tmp 10) (.tmp 11) 24 rfl guardSet Tryd.underlying24 Tryd.underlying22 sizeU64 rfl rfl ?_; (try simp only [Act.put, List.setIfInBounds_toArray, List.set_cons_zero, List.set_cons_succ]))
          | ((with_reducible refine atDst 47 ?_); refine wpList_ldMidG rfl 24 _ rfl w.heap.size 1 rfl (wds s) _ RS.out Tryd.underlying24 rfl (size_set s) ?_; (try simp only [Act.put, List.setIfInBounds_toArray, List.set_cons_zero, List.set_cons_succ]))
          | ((with_reducible refine atDst 24 ?_); refine wpList_bldB2G rfl 34 5 _ _ rfl i1 Tryd.underlying34 hi1 HY0.out hy1 91 93 rfl rfl ?_; intro wn hrn hbn; have RN := Lib.hid hrn; have BN := Lib.hid hbn; clear hrn hbn; (try simp only [Act.put, List.setIfInBounds_toArray, List.set_cons_zero, List.set_cons_succ]))
          | ((with_reducible refine atDst 35 ?_); refine wpList_bldB2G rfl 34 5 _ _ rfl i1 Tryd.underlying34 hi1 HY0.out hy1 40 41 rfl rfl ?_; intro wn hrn hbn; have RN := Lib.hid hrn; have BN := Lib.hid hbn; clear hrn hbn; (try simp only [Act.put, List.setIfInBounds_toArray, List.set_cons_zero, List.set_cons_succ]))
          | ((with_reducible refine atDst 85 ?_); refine wpList_ldMidG rfl 27 _ rfl b off rfl (f 0) _ (range_below HRG.out G1.out HBG.out) Tryd.underlying27 rfl (size_rx HV6.out) ?_; (try simp only [Act.put, List.setIfInBounds_toArray, List.set_cons_zero, List.set_cons_succ])))
        go_ret
        exact wrote_no D1.out (fun hh => HN.out hh.1)
    have q2 : (k == 2) = false := by simpa using k2
    rw [if_neg k2, if_neg k3] at hr
    by_cases k4 : k = 4
    · have q4 : (k == 4) = true := by simpa using k4
      rw [if_neg (by omega), if_pos k4] at hr
      have HR := Lib.hid hr
      by_cases n2 : 2 ≤ l.length
      · have qn : (l.length : Int) ≥ 2 := by omega
        have HY := Lib.hid (show ok ↔ plainL 4 l = true by
          rw [hok, count45 (.inl k4), k4]
          simp [n2, hz2.resolve_left k3])
        clear hok hr k3 n2 k1 k2 k4 hz2 hb hzs
        go_enter Tryd.func25, Tryd.ntmps25
        go_wp2_with (first
          | ((with_reducible refine atDst 3 ?_); refine wpList_box rfl 27 _ rfl cs rfl (Below.refl w.heap.size w) (Nat.le_refl _) ?_; intro w1 hk1 hb1 hs1 _; have K1 := Lib.hid hk1; have B1 := Lib.hid hb1; have a0 := K1.out.cell 0; rw [HC0.out] at a0; have a5 := K1.out.cell 5; rw [HC5.out] at a5; have RS := Lib.hid (set_range' HCS.out K1.out); have T1 := Lib.hid (H.out.below B1.out); have TB1 := Lib.hid (HT.out.below B1.out (Nat.le_refl _)); have G1 := Lib.hid (B1.out.mono (Nat.le_of_lt H.out.lt)); have D1 := Lib.hid (Wd.of B1.out g v); clear hk1 hb1 hs1; (try simp only [Act.put, List.setIfInBounds_toArray, List.set_cons_zero, List.set_cons_succ]))
          | ((with_reducible refine atDst 10 ?_); refine wpList_ldMidG rfl 24 _ rfl w.heap.size 1 rfl (wds s) _ RS.out Tryd.underlying24 rfl (size_set s) ?_; (try simp only [Act.put, List.setIfInBounds_toArray, List.set_cons_zero, List.set_cons_succ]))
          | ((with_reducible refine atDst 11 ?_); refine wpList_bld rfl 24 _ rfl (wds zs) HBS.out ?_; (try simp only [Act.put, List.setIfInBounds_toArray, List.set_cons_zero, List.set_cons_succ]))
          | ((with_reducible refine atDst 12 ?_); refine wpList_neSetG rfl HNE.out 24 22 (.tmp 10) (.tmp 11) 24 rfl guardSet Tryd.underlying24 Tryd.underlying22 sizeU64 rfl rfl ?_; (try simp only [Act.put, List.setIfInBounds_toArray, List.set_cons_zero, List.set_cons_succ]))
          | ((with_reducible refine atDst 47 ?_); refine wpList_ldMidG rfl 24 _ rfl w.heap.size 1 rfl (wds s) _ RS.out Tryd.underlying24 rfl (size_set s) ?_; (try simp only [Act.put, List.setIfInBounds_toArray, List.set_cons_zero, List.set_cons_succ]))
          | ((with_reducible refine atDst 24 ?_); refine wpList_bldB2G rfl 34 5 _ _ rfl i1 Tryd.underlying34 hi1 HY0.out hy1 91 93 rfl rfl ?_; intro wn hrn hbn; have RN := Lib.hid hrn; have BN := Lib.hid hbn; clear hrn hbn; (try simp only [Act.put, List.setIfInBounds_toArray, List.set_cons_zero, List.set_cons_succ]))
          | ((with_reducible refine atDst 35 ?_); refine wpList_bldB2G rfl 34 5 _ _ rfl i1 Tryd.underlying34 hi1 HY0.out hy1 40 41 rfl rfl ?_; intro wn hrn hbn; have RN := Lib.hid hrn; have BN := Lib.hid hbn; clear hrn hbn; (try simp only [Act.put, List.setIfInBounds_toArray, List.set_cons_zero, List.set_cons_succ]))
          | ((with_reducible refine atDst 85 ?_); refine wpList_ldMidG rfl 27 _ rfl b off rfl (f 0) _ (range_below HRG.out G1.out HBG.out) Tryd.underlying27 rfl (size_rx HV6.out) ?_; (try simp only [Act.put, List.setIfInBounds_toArray, List.set_cons_zero, List.set_cons_succ])))
        refine (cat_any l IH.out g v L _ w1 T1.out TB1.out HG.out (HRW.out.below G1.out) HLL.out).mono ?_
        intro e w2 hw
        obtain ⟨c, rfl⟩ := wrote_bool hw
        have HW := Lib.hid (wrote_from B1.out hw)
        clear hw
        go_wp2_with fail
        go_ret
        obtain ⟨v2, d2, ⟨h2, hp, ht⟩ | ⟨h2, hn⟩⟩ := HW.out
        · exact ⟨v2, d2, .inl ⟨h2, HY.out.2 hp, by rw [HR.out]; exact ht⟩⟩
        · exact ⟨v2, d2, .inr ⟨h2, fun hh => hn ⟨HY.out.1 hh.1, by rw [← HR.out]; exact hh.2⟩⟩⟩
      · have qn : ¬ ((l.length : Int) ≥ 2) := by omega
        have HN := Lib.hid (show ¬ ok by rw [hok, count45 (.inl k4)]; simp [n2])
        clear hok hr k3 n2 k1 k2 k4 hz2 hb hzs
        go_enter Tryd.func25, Tryd.ntmps25
        go_wp2_with (first
          | ((with_reducible refine atDst 3 ?_); refine wpList_box rfl 27 _ rfl cs rfl (Below.refl w.heap.size w) (Nat.le_refl _) ?_; intro w1 hk1 hb1 hs1 _; have K1 := Lib.hid hk1; have B1 := Lib.hid hb1; have a0 := K1.out.cell 0; rw [HC0.out] at a0; have a5 := K1.out.cell 5; rw [HC5.out] at a5; have RS := Lib.hid (set_range' HCS.out K1.out); have T1 := Lib.hid (H.out.below B1.out); have TB1 := Lib.hid (HT.out.below B1.out (Nat.le_refl _)); have G1 := Lib.hid (B1.out.mono (Nat.le_of_lt H.out.lt)); have D1 := Lib.hid (Wd.of B1.out g v); clear hk1 hb1 hs1; (try simp only [Act.put, List.setIfInBounds_toArray, List.set_cons_zero, List.set_cons_succ]))
          | ((with_reducible refine atDst 10 ?_); refine wpList_ldMidG rfl 24 _ rfl w.heap.size 1 rfl (wds s) _ RS.out Tryd.underlying24 rfl (size_set s) ?_; (try simp only [Act.put, List.setIfInBounds_toArray, List.set_cons_zero, List.set_cons_succ]))
          | ((with_reducible refine atDst 11 ?_); refine wpList_bld rfl 24 _ rfl (wds zs) HBS.out ?_; (try simp only [Act.put, List.setIfInBounds_toArray, List.set_cons_zero, List.set_cons_succ]))
          | ((with_reducible refine atDst 12 ?_); refine wpList_neSetG rfl HNE.out 24 22 (.tmp 10) (.tmp 11) 24 rfl guardSet Tryd.underlying24 Tryd.underlying22 sizeU64 rfl rfl ?_; (try simp only [Act.put, List.setIfInBounds_toArray, List.set_cons_zero, List.set_cons_succ]))
          | ((with_reducible refine atDst 47 ?_); refine wpList_ldMidG rfl 24 _ rfl w.heap.size 1 rfl (wds s) _ RS.out Tryd.underlying24 rfl (size_set s) ?_; (try simp only [Act.put, List.setIfInBounds_toArray, List.set_cons_zero, List.set_cons_succ]))
          | ((with_reducible refine atDst 24 ?_); refine wpList_bldB2G rfl 34 5 _ _ rfl i1 Tryd.underlying34 hi1 HY0.out hy1 91 93 rfl rfl ?_; intro wn hrn hbn; have RN := Lib.hid hrn; have BN := Lib.hid hbn; clear hrn hbn; (try simp only [Act.put, List.setIfInBounds_toArray, List.set_cons_zero, List.set_cons_succ]))
          | ((with_reducible refine atDst 35 ?_); refine wpList_bldB2G rfl 34 5 _ _ rfl i1 Tryd.underlying34 hi1 HY0.out hy1 40 41 rfl rfl ?_; intro wn hrn hbn; have RN := Lib.hid hrn; have BN := Lib.hid hbn; clear hrn hbn; (try simp only [Act.put, List.setIfInBounds_toArray, List.set_cons_zero, List.set_cons_succ]))
          | ((with_reducible refine atDst 85 ?_); refine wpList_ldMidG rfl 27 _ rfl b off rfl (f 0) _ (range_below HRG.out G1.out HBG.out) Tryd.underlying27 rfl (size_rx HV6.out) ?_; (try simp only [Act.put, List.setIfInBounds_toArray, List.set_cons_zero, List.set_cons_succ])))
        go_ret
        exact wrote_no D1.out (fun hh => HN.out hh.1)
    have q4 : (k == 4) = false := by simpa using k4
    by_cases k5 : k = 5
    · have q5 : (k == 5) = true := by simpa using k5
      rw [if_neg (by omega), if_neg k4] at hr
      have HR := Lib.hid hr
      by_cases n2 : 2 ≤ l.length
      · have qn : (l.length : Int) ≥ 2 := by omega
        have HY := Lib.hid (show ok ↔ (plainL 5 l = true ∧ ascF l = true) by
          rw [hok, count45 (.inr k5), k5]
          simp [n2, hz2.resolve_left k3])
        clear hok hr k3 n2 k1 k2 k4 k5 hz2 hb hzs
        go_enter Tryd.func25, Tryd.ntmps25
        go_wp2_with (first
          | ((with_reducible refine atDst 3 ?_); refine wpList_box rfl 27 _ rfl cs rfl (Below.refl w.heap.size w) (Nat.le_refl _) ?_; intro w1 hk1 hb1 hs1 _; have K1 := Lib.hid hk1; have B1 := Lib.hid hb1; have a0 := K1.out.cell 0; rw [HC0.out] at a0; have a5 := K1.out.cell 5; rw [HC5.out] at a5; have RS := Lib.hid (set_range' HCS.out K1.out); have T1 := Lib.hid (H.out.below B1.out); have TB1 := Lib.hid (HT.out.below B1.out (Nat.le_refl _)); have G1 := Lib.hid (B1.out.mono (Nat.le_of_lt H.out.lt)); have D1 := Lib.hid (Wd.of B1.out g v); clear hk1 hb1 hs1; (try simp only [Act.put, List.setIfInBounds_toArray, List.set_cons_zero, List.set_cons_succ]))
          | ((with_reducible refine atDst 10 ?_); refine wpList_ldMidG rfl 24 _ rfl w.heap.size 1 rfl (wds s) _ RS.out Tryd.underlying24 rfl (size_set s) ?_; (try simp only [Act.put, List.setIfInBounds_toArray, List.set_cons_zero, List.set_cons_succ]))
          | ((with_reducible refine atDst 11 ?_); refine wpList_bld rfl 24 _ rfl (wds zs) HBS.out ?_; (try simp only [Act.put, List.setIfInBounds_toArray, List.set_cons_zero, List.set_cons_succ]))
          | ((with_reducible refine atDst 12 ?_); refine wpList_neSetG rfl HNE.out 24 22 (.tmp 10) (.tmp 11) 24 rfl guardSet Tryd.underlying24 Tryd.underlying22 sizeU64 rfl rfl ?_; (try simp only [Act.put, List.setIfInBounds_toArray, List.set_cons_zero, List.set_cons_succ]))
          | ((with_reducible refine atDst 47 ?_); refine wpList_ldMidG rfl 24 _ rfl w.heap.size 1 rfl (wds s) _ RS.out Tryd.underlying24 rfl (size_set s) ?_; (try simp only [Act.put, List.setIfInBounds_toArray, List.set_cons_zero, List.set_cons_succ]))
          | ((with_reducible refine atDst 24 ?_); refine wpList_bldB2G rfl 34 5 _ _ rfl i1 Tryd.underlying34 hi1 HY0.out hy1 91 93 rfl rfl ?_; intro wn hrn hbn; have RN := Lib.hid hrn; have BN := Lib.hid hbn; clear hrn hbn; (try simp only [Act.put, List.setIfInBounds_toArray, List.set_cons_zero, List.set_cons_succ]))
          | ((with_reducible refine atDst 35 ?_); refine wpList_bldB2G rfl 34 5 _ _ rfl i1 Tryd.underlying34 hi1 HY0.out hy1 40 41 rfl rfl ?_; intro wn hrn hbn; have RN := Lib.hid hrn; have BN := Lib.hid hbn; clear hrn hbn; (try simp only [Act.put, List.setIfInBounds_toArray, List.set_cons_zero, List.set_cons_succ]))
          | ((with_reducible refine atDst 85 ?_); refine wpList_ldMidG rfl 27 _ rfl b off rfl (f 0) _ (range_below HRG.out G1.out HBG.out) Tryd.underlying27 rfl (size_rx HV6.out) ?_; (try simp only [Act.put, List.setIfInBounds_toArray, List.set_cons_zero, List.set_cons_succ])))
        refine (alt_any l IH.out g v L _ w1 T1.out TB1.out HG.out (HRW.out.below G1.out) HNL.out).mono ?_
        intro e w2 hw
        obtain ⟨c, rfl⟩ := wrote_bool hw
        have HW := Lib.hid (wrote_from B1.out hw)
        clear hw
        go_wp2_with fail
        go_ret
        obtain ⟨v2, d2, ⟨h2, hp, ht⟩ | ⟨h2, hn⟩⟩ := HW.out
        · exact ⟨v2, d2, .inl ⟨h2, HY.out.2 hp, by rw [HR.out]; exact ht⟩⟩
        · exact ⟨v2, d2, .inr ⟨h2, fun hh => hn ⟨HY.out.1 hh.1, by rw [← HR.out]; exact hh.2⟩⟩⟩
      · have qn : ¬ ((l.length : Int) ≥ 2) := by omega
        have HN := Lib.hid (show ¬ ok by rw [hok, count45 (.inr k5)]; simp [n2])
        clear hok hr k3 n2 k1 k2 k4 k5 hz2 hb hzs
        go_enter Tryd.func25, Tryd.ntmps25
        go_wp2_with (first
          | ((with_reducible refine atDst 3 ?_); refine wpList_box rfl 27 _ rfl cs rfl (Below.refl w.heap.size w) (Nat.le_refl _) ?_; intro w1 hk1 hb1 hs1 _; have K1 := Lib.hid hk1; have B1 := Lib.hid hb1; have a0 := K1.out.cell 0; rw [HC0.out] at a0; have a5 := K1.out.cell 5; rw [HC5.out] at a5; have RS := Lib.hid (set_range' HCS.out K1.out); have T1 := Lib.hid (H.out.below B1.out); have TB1 := Lib.hid (HT.out.below B1.out (Nat.le_refl _)); have G1 := Lib.hid (B1.out.mono (Nat.le_of_lt H.out.lt)); have D1 := Lib.hid (Wd.of B1.out g v); clear hk1 hb1 hs1; (try simp only [Act.put, List.setIfInBounds_toArray, List.set_cons_zero, List.set_cons_succ]))
          | ((with_reducible refine atDst 10 ?_); refine wpList_ldMidG rfl 24 _ rfl w.heap.size 1 rfl (wds s) _ RS.out Tryd.underlying24 rfl (size_set s) ?_; (try simp only [Act.put, List.setIfInBounds_toArray, List.set_cons_zero, List.set_cons_succ]))
          | ((with_reducible refine atDst 11 ?_); refine wpList_bld rfl 24 _ rfl (wds zs) HBS.out ?_; (try simp only [Act.put, List.setIfInBounds_toArray, List.set_cons_zero, List.set_cons_succ]))
          | ((with_reducible refine atDst 12 ?_); refine wpList_neSetG rfl HNE.out 24 22 (.tmp 10) (.tmp 11) 24 rfl guardSet Tryd.underlying24 Tryd.underlying22 sizeU64 rfl rfl ?_; (try simp only [Act.put, List.setIfInBounds_toArray, List.set_cons_zero, List.set_cons_succ]))
          | ((with_reducible refine atDst 47 ?_); refine wpList_ldMidG rfl 24 _ rfl w.heap.size 1 rfl (wds s) _ RS.out Tryd.underlying24 rfl (size_set s) ?_; (try simp only [Act.put, List.setIfInBounds_toArray, List.set_cons_zero, List.set_cons_succ]))
          | ((with_reducible refine atDst 24 ?_); refine wpList_bldB2G rfl 34 5 _ _ rfl i1 Tryd.underlying34 hi1 HY0.out hy1 91 93 rfl rfl ?_; intro wn hrn hbn; have RN := Lib.hid hrn; have BN := Lib.hid hbn; clear hrn hbn; (try simp only [Act.put, List.setIfInBounds_toArray, List.set_cons_zero, List.set_cons_succ]))
          | ((with_reducible refine atDst 35 ?_); refine wpList_bldB2G rfl 34 5 _ _ rfl i1 Tryd.underlying34 hi1 HY0.out hy1 40 41 rfl rfl ?_; intro wn hrn hbn; have RN := Lib.hid hrn; have BN := Lib.hid hbn; clear hrn hbn; (try simp only [Act.put, List.setIfInBounds_toArray, List.set_cons_zero, List.set_cons_succ]))
          | ((with_reducible refine atDst 85 ?_); refine wpList_ldMidG rfl 27 _ rfl b off rfl (f 0) _ (range_below HRG.out G1.out HBG.out) Tryd.underlying27 rfl (size_rx HV6.out) ?_; (try simp only [Act.put, List.setIfInBounds_toArray, List.set_cons_zero, List.set_cons_succ])))
        go_ret
        exact wrote_no D1.out (fun hh => HN.out hh.1)
    have q5 : (k == 5) = false := by simpa using k5
    by_cases k6 : k = 6
    · have q6 : (k == 6) = true := by simpa using k6
      rw [if_pos k6] at hr
      by_cases n1 : l.length = 1
      · have qn : ((l.length : Int) == 1) = true := by rw [n1]; rfl
        have i0' : (0 : Int) < (l.length : Int) := by omega
        obtain ⟨x, hlx⟩ : ∃ x, l = [x] := by
          match l, n1 with
          | [x], _ => exact ⟨x, rfl⟩
        have HY := Lib.hid (show ok ↔ (fitsT x.kind 6 = true ∧ plainT x = true) by
          rw [hok, k6, count6, hlx]
          simp [plainL, hz2.resolve_left k3])
        have HR := Lib.hid (show fitsT x.kind 6 = true → r = pieceT 6 x ++ [42] from fun hf => by
          rw [hr, hlx]
          unfold fitsT at hf
          unfold pieceT
          simp only [starL]
          by_cases x2 : x.kind = 2
          · rw [if_pos x2] at hf; simp at hf
          · rw [if_neg x2]
            by_cases x4 : x.kind = 4
            · rw [if_pos (.inl x4), if_pos (.inr ⟨x4, by omega⟩)]; simp
            · by_cases x5 : x.kind = 5
              · rw [if_pos (.inr x5), if_pos (.inl x5)]; simp
              · rw [if_neg (by omega), if_neg (by omega)])
        obtain ⟨b, off, rfl, hbb, hrng⟩ := H3.out (by rw [hlx]; simp)
        have HBG := Lib.hid hbb
        have hx0 : l[0]? = some x := by rw [hlx]; rfl
        have HRG := Lib.hid (show w.rangeAt b off (f 0) by have := hrng 0 (by omega); simpa using this)
        have HVX := Lib.hid (H4.out 0 x hx0)
        have HV6 := Lib.hid HVX.out.length
        have HXI := Lib.hid (IH.out x (List.mem_of_getElem? hx0))
        clear hok hr k3 n1 k1 k2 k4 k5 k6 hz2 hb hzs hlx hx0 hbb hrng
        go_enter Tryd.func25, Tryd.ntmps25
        go_wp2_with (first
          | ((with_reducible refine atDst 3 ?_); refine wpList_box rfl 27 _ rfl cs rfl (Below.refl w.heap.size w) (Nat.le_refl _) ?_; intro w1 hk1 hb1 hs1 _; have K1 := Lib.hid hk1; have B1 := Lib.hid hb1; have a0 := K1.out.cell 0; rw [HC0.out] at a0; have a5 := K1.out.cell 5; rw [HC5.out] at a5; have RS := Lib.hid (set_range' HCS.out K1.out); have T1 := Lib.hid (H.out.below B1.out); have TB1 := Lib.hid (HT.out.below B1.out (Nat.le_refl _)); have G1 := Lib.hid (B1.out.mono (Nat.le_of_lt H.out.lt)); have D1 := Lib.hid (Wd.of B1.out g v); clear hk1 hb1 hs1; (try simp only [Act.put, List.setIfInBounds_toArray, List.set_cons_zero, List.set_cons_succ]))
          | ((with_reducible refine atDst 10 ?_); refine wpList_ldMidG rfl 24 _ rfl w.heap.size 1 rfl (wds s) _ RS.out Tryd.underlying24 rfl (size_set s) ?_; (try simp only [Act.put, List.setIfInBounds_toArray, List.set_cons_zero, List.set_cons_succ]))
          | ((with_reducible refine atDst 11 ?_); refine wpList_bld rfl 24 _ rfl (wds zs) HBS.out ?_; (try simp only [Act.put, List.setIfInBounds_toArray, List.set_cons_zero, List.set_cons_succ]))
          | ((with_reducible refine atDst 12 ?_); refine wpList_neSetG rfl HNE.out 24 22 (.tmp 10) (.tmp 11) 24 rfl guardSet Tryd.underlying24 Tryd.underlying22 sizeU64 rfl rfl ?_; (try simp only [Act.put, List.setIfInBounds_toArray, List.set_cons_zero, List.set_cons_succ]))
          | ((with_reducible refine atDst 47 ?_); refine wpList_ldMidG rfl 24 _ rfl w.heap.size 1 rfl (wds s) _ RS.out Tryd.underlying24 rfl (size_set s) ?_; (try simp only [Act.put, List.setIfInBounds_toArray, List.set_cons_zero, List.set_cons_succ]))
          | ((with_reducible refine atDst 24 ?_); refine wpList_bldB2G rfl 34 5 _ _ rfl i1 Tryd.underlying34 hi1 HY0.out hy1 91 93 rfl rfl ?_; intro wn hrn hbn; have RN := Lib.hid hrn; have BN := Lib.hid hbn; clear hrn hbn; (try simp only [Act.put, List.setIfInBounds_toArray, List.set_cons_zero, List.set_cons_succ]))
          | ((with_reducible refine atDst 35 ?_); refine wpList_bldB2G rfl 34 5 _ _ rfl i1 Tryd.underlying34 hi1 HY0.out hy1 40 41 rfl rfl ?_; intro wn hrn hbn; have RN := Lib.hid hrn; have BN := Lib.hid hbn; clear hrn hbn; (try simp only [Act.put, List.setIfInBounds_toArray, List.set_cons_zero, List.set_cons_succ]))
          | ((with_reducible refine atDst 85 ?_); refine wpList_ldMidG rfl 27 _ rfl b off rfl (f 0) _ (range_below HRG.out G1.out HBG.out) Tryd.underlying27 rfl (size_rx HV6.out) ?_; (try simp only [Act.put, List.setIfInBounds_toArray, List.set_cons_zero, List.set_cons_succ])))
        refine (part_any 6 (.inr (.inr rfl)) x HXI.out g v L (f 0) w1 T1.out TB1.out HG.out (HVX.out.stay G1.out)).mono ?_
        rintro e w2 ⟨v2, d2, ⟨rfl, hp2, h2⟩ | ⟨rfl, h2⟩⟩
        · have D2 := Lib.hid (D1.out.trans d2)
          have H2 := Lib.hid h2
          have HP := Lib.hid hp2
          clear d2 h2 hp2
          go_wp2_with ((with_reducible refine atDst 90 ?_); refine wpList_bldB1G rfl 34 5 _ rfl i1 Tryd.underlying34 hi1 HY0.out hy1 42 rfl ?_; intro wn hrn hbn; have RN := Lib.hid hrn; have BN := Lib.hid hbn; clear hrn hbn; (try simp only [Act.put, List.setIfInBounds_toArray, List.set_cons_zero, List.set_cons_succ]))
          refine (put_at H2.out BN.out RN.out (by simp)).mono ?_
          rintro e w3 ⟨v3, d3, ⟨rfl, -, h3⟩ | ⟨rfl, h3⟩⟩
          · have H3' := Lib.hid h3
            have D3 := Lib.hid (D2.out.trans d3)
            clear h3 d3
            go_wp2_with fail
            go_ret
            exact wrote_yes D3.out (HY.out.2 HP.out) H3'.out (by rw [HR.out HP.out.1, List.append_assoc])
          · have H3' := Lib.hid h3
            have D3 := Lib.hid (D2.out.trans d3)
            clear h3 d3
            go_wp2_with fail
            go_ret
            exact wrote_no D3.out (no_of H3'.out (fun _ => trivial) (by rw [HR.out HP.out.1]; simp only [List.length_append]; omega))
        · have H2 := Lib.hid h2
          have D2 := Lib.hid (D1.out.trans d2)
          clear d2 h2
          go_wp2_with fail
          go_ret
          refine wrote_no D2.out (fun hh => H2.out ⟨HY.out.1 hh.1, ?_⟩)
          have h5 := hh.2
          rw [HR.out (HY.out.1 hh.1).1, List.length_append] at h5
          omega
      · have qn : ((l.length : Int) == 1) = false := by rw [beq_eq_false_iff_ne]; omega
        have HN := Lib.hid (show ¬ ok by rw [hok, k6, count6]; simp [n1])
        clear hok hr k3 n1 k1 k2 k4 k5 k6 hz2 hb hzs
        go_enter Tryd.func25, Tryd.ntmps25
        go_wp2_with (first
          | ((with_reducible refine atDst 3 ?_); refine wpList_box rfl 27 _ rfl cs rfl (Below.refl w.heap.size w) (Nat.le_refl _) ?_; intro w1 hk1 hb1 hs1 _; have K1 := Lib.hid hk1; have B1 := Lib.hid hb1; have a0 := K1.out.cell 0; rw [HC0.out] at a0; have a5 := K1.out.cell 5; rw [HC5.out] at a5; have RS := Lib.hid (set_range' HCS.out K1.out); have T1 := Lib.hid (H.out.below B1.out); have TB1 := Lib.hid (HT.out.below B1.out (Nat.le_refl _)); have G1 := Lib.hid (B1.out.mono (Nat.le_of_lt H.out.lt)); have D1 := Lib.hid (Wd.of B1.out g v); clear hk1 hb1 hs1; (try simp only [Act.put, List.setIfInBounds_toArray, List.set_cons_zero, List.set_cons_succ]))
          | ((with_reducible refine atDst 10 ?_); refine wpList_ldMidG rfl 24 _ rfl w.heap.size 1 rfl (wds s) _ RS.out Tryd.underlying24 rfl (size_set s) ?_; (try simp only [Act.put, List.setIfInBounds_toArray, List.set_cons_zero, List.set_cons_succ]))
          | ((with_reducible refine atDst 11 ?_); refine wpList_bld rfl 24 _ rfl (wds zs) HBS.out ?_; (try simp only [Act.put, List.setIfInBounds_toArray, List.set_cons_zero, List.set_cons_succ]))
          | ((with_reducible refine atDst 12 ?_); refine wpList_neSetG rfl HNE.out 24 22 (.tmp 10) (.tmp 11) 24 rfl guardSet Tryd.underlying24 Tryd.underlying22 sizeU64 rfl rfl ?_; (try simp only [Act.put, List.setIfInBounds_toArray, List.set_cons_zero, List.set_cons_succ]))
          | ((with_reducible refine atDst 47 ?_); refine wpList_ldMidG rfl 24 _ rfl w.heap.size 1 rfl (wds s) _ RS.out Tryd.underlying24 rfl (size_set s) ?_; (try simp only [Act.put, List.setIfInBounds_toArray, List.set_cons_zero, List.set_cons_succ]))
          | ((with_reducible refine atDst 24 ?_); refine wpList_bldB2G rfl 34 5 _ _ rfl i1 Tryd.underlying34 hi1 HY0.out hy1 91 93 rfl rfl ?_; intro wn hrn hbn; have RN := Lib.hid hrn; have BN := Lib.hid hbn; clear hrn hbn; (try simp only [Act.put, List.setIfInBounds_toArray, List.set_cons_zero, List.set_cons_succ]))
          | ((with_reducible refine atDst 35 ?_); refine wpList_bldB2G rfl 34 5 _ _ rfl i1 Tryd.underlying34 hi1 HY0.out hy1 40 41 rfl rfl ?_; intro wn hrn hbn; have RN := Lib.hid hrn; have BN := Lib.hid hbn; clear hrn hbn; (try simp only [Act.put, List.setIfInBounds_toArray, List.set_cons_zero, List.set_cons_succ]))
          | ((with_reducible refine atDst 85 ?_); refine wpList_ldMidG rfl 27 _ rfl b off rfl (f 0) _ (range_below HRG.out G1.out HBG.out) Tryd.underlying27 rfl (size_rx HV6.out) ?_; (try simp only [Act.put, List.setIfInBounds_toArray, List.set_cons_zero, List.set_cons_succ])))
        go_ret
        exact wrote_no D1.out (fun hh => HN.out hh.1)
    · have q6 : (k == 6) = false := by simpa using k6
      have HN := Lib.hid (show ¬ ok by rw [hok, count_no k1 k2 k3 k4 k5 k6]; simp)
      clear hok hr k3 k1 k2 k4 k5 k6 hz2 hb hzs
      go_enter Tryd.func25, Tryd.ntmps25
      go_wp2_with (first
        | ((with_reducible refine atDst 3 ?_); refine wpList_box rfl 27 _ rfl cs rfl (Below.refl w.heap.size w) (Nat.le_refl _) ?_; intro w1 hk1 hb1 hs1 _; have K1 := Lib.hid hk1; have B1 := Lib.hid hb1; have a0 := K1.out.cell 0; rw [HC0.out] at a0; have a5 := K1.out.cell 5; rw [HC5.out] at a5; have RS := Lib.hid (set_range' HCS.out K1.out); have T1 := Lib.hid (H.out.below B1.out); have TB1 := Lib.hid (HT.out.below B1.out (Nat.le_refl _)); have G1 := Lib.hid (B1.out.mono (Nat.le_of_lt H.out.lt)); have D1 := Lib.hid (Wd.of B1.out g v); clear hk1 hb1 hs1; (try simp only [Act.put, List.setIfInBounds_toArray, List.set_cons_zero, List.set_cons_succ]))
        | ((with_reducible refine atDst 10 ?_); refine wpList_ldMidG rfl 24 _ rfl w.heap.size 1 rfl (wds s) _ RS.out Tryd.underlying24 rfl (size_set s) ?_; (try simp only [Act.put, List.setIfInBounds_toArray, List.set_cons_zero, List.set_cons_succ]))
        | ((with_reducible refine atDst 11 ?_); refine wpList_bld rfl 24 _ rfl (wds zs) HBS.out ?_; (try simp only [Act.put, List.setIfInBounds_toArray, List.set_cons_zero, List.set_cons_succ]))
        | ((with_reducible refine atDst 12 ?_); refine wpList_neSetG rfl HNE.out 24 22 (.tmp 10) (.tmp 11) 24 rfl guardSet Tryd.underlying24 Tryd.underlying22 sizeU64 rfl rfl ?_; (try simp only [Act.put, List.setIfInBounds_toArray, List.set_cons_zero, List.set_cons_succ]))
        | ((with_reducible refine atDst 47 ?_); refine wpList_ldMidG rfl 24 _ rfl w.heap.size 1 rfl (wds s) _ RS.out Tryd.underlying24 rfl (size_set s) ?_; (try simp only [Act.put, List.setIfInBounds_toArray, List.set_cons_zero, List.set_cons_succ]))
        | ((with_reducible refine atDst 24 ?_); refine wpList_bldB2G rfl 34 5 _ _ rfl i1 Tryd.underlying34 hi1 HY0.out hy1 91 93 rfl rfl ?_; intro wn hrn hbn; have RN := Lib.hid hrn; have BN := Lib.hid hbn; clear hrn hbn; (try simp only [Act.put, List.setIfInBounds_toArray, List.set_cons_zero, List.set_cons_succ]))
        | ((with_reducible refine atDst 35 ?_); refine wpList_bldB2G rfl 34 5 _ _ rfl i1 Tryd.underlying34 hi1 HY0.out hy1 40 41 rfl rfl ?_; intro wn hrn hbn; have RN := Lib.hid hrn; have BN := Lib.hid hbn; clear hrn hbn; (try simp only [Act.put, List.setIfInBounds_toArray, List.set_cons_zero, List.set_cons_succ]))
        | ((with_reducible refine atDst 85 ?_); refine wpList_ldMidG rfl 27 _ rfl b off rfl (f 0) _ (range_below HRG.out G1.out HBG.out) Tryd.underlying27 rfl (size_rx HV6.out) ?_; (try simp only [Act.put, List.setIfInBounds_toArray, List.set_cons_zero, List.set_cons_succ])))
      go_ret
      exact wrote_no D1.out (fun hh => HN.out hh.1)
end Go.Proofs.YtmlojjgddmnbmaaDoor
