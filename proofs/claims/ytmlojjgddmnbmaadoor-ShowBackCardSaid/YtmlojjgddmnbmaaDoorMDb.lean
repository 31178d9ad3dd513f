/-
  Texts of this proof, put together: (ShA) The document's answer to show: which bytes are in a text, and what the sign of a byte is. No statement is proved here. (ShB) The document's answer to show: the text of a set of bytes. No statement is proved here. (ShC) The document's answer to show: the text of a plain expression. No statement is proved here. (ShD) The document's answer to show: what 'text' answers of a plain expression. No statement is proved here. (PlA) Plain facts of expressions as trees: one that is put together anew of its parts is the same just if it is plain. No statement is proved here. (PlB) What the document's answer to rx (Plain) answers and leaves. No statement is proved here. (ShE) The document's answer to show: Show, of any expression. No statement is proved here.
-/
import Derived.Test.YtmlojjgddmnbmaaDoorProg
import Derived.Test.YtmlojjgddmnbmaaDoorMA
import Derived.Test.YtmlojjgddmnbmaaDoorMB
import Derived.Test.YtmlojjgddmnbmaaDoorMC
namespace Go.Proofs.YtmlojjgddmnbmaaDoor
open Go.RowKit
set_option linter.unusedSimpArgs false
set_option linter.unusedVariables false

abbrev strOf (l : List UInt8) : Value := .string ⟨l.toArray⟩
theorem str_sizeOf (l : List UInt8) : (⟨l.toArray⟩ : ByteArray).size = l.length := by simp [ByteArray.size]
theorem ix_strOf {P : Program} (t : TypeId) (ht : P.underlying t = some .string) (l : List UInt8) (S : ByteArray) (hS : S = ⟨l.toArray⟩) (j : Nat) (hj : j < l.length) (W : World) :
    (Instr.index t (.string S) (.int .i64 (j : Int))).run P W = .ok (.int .u8 (l[j].toNat : Int)) W := by
  subst hS
  rw [run_index_string W t _ .i64 (j : Int) ht, dif_pos ⟨by omega, by rw [str_sizeOf]; omega⟩]
  rfl
/-- Does a byte stand in a text? -/
def inB (l : List UInt8) (c : Nat) : Bool := l.any fun x => x.toNat == c
theorem inB_next (l : List UInt8) (c j : Nat) (hj : j < l.length) : inB (l.take (j + 1)) c = (inB (l.take j) c || l[j].toNat == c) := by
  unfold inB
  rw [List.take_succ_eq_append_getElem hj, List.any_append]
  simp
theorem inB_at {l : List UInt8} {c j : Nat} (hj : j < l.length) (h : l[j].toNat = c) : inB l c = true :=
  List.any_eq_true.2 ⟨l[j], List.getElem_mem hj, by simpa using h⟩
set_option maxHeartbeats 4000000 in
set_option maxRecDepth 1000000 in
theorem refIn_any (l : List UInt8) (S : ByteArray) (hS : S = ⟨l.toArray⟩) (c : Nat) (w : World) (hl : l.length ≤ 1048576) :
    Calls Tryd.prog 70 #[.string S, .int .u8 (c : Int)] w fun e w' => e = .returned (.bool (inB l c)) ∧ w' = w := by
  have hsz : S.size = l.length := by rw [hS, str_sizeOf]
  have HS := Lib.hid hS
  have HZ := Lib.hid hsz
  clear hS hsz
  go_enter Tryd.func70, Tryd.ntmps70
  go_wp2_with fail
  go_loopw [5] (fun i wl => ∃ j : Nat, j ≤ l.length ∧ i = .int .i64 (j : Int) ∧ wl = w ∧ inB (l.take j) c = false) (fun i _ => l.length - (intOf i).toNat)
  case atStart => exact ⟨0, by omega, by simp, rfl, by simp [inB]⟩
  case round =>
    obtain ⟨j, hj, rfl, hwl, hrel⟩ := hrel
    subst hwl
    have HREL := Lib.hid hrel
    clear hrel
    by_cases hjl : j < l.length
    · have i1 : (j : Int) < (S.size : Int) := by have := HZ.out; omega
      have hix := ix_strOf (P := Tryd.prog) 9 Tryd.underlying9 l S HS.out j hjl
      have hnx := inB_next l c j hjl
      have hat := fun h => inB_at (c := c) hjl h
      obtain ⟨d, hd⟩ : ∃ d : Nat, d = l[j].toNat := ⟨_, rfl⟩
      rw [← hd] at hix hnx hat
      rw [HREL.out, Bool.false_or] at hnx
      have hj62 : j ≤ 4611686018427387904 := by omega
      have e3 := IntWalk.wrap64_in ((j + 1 : Nat) : Int) (by omega)
      have e4 := IntWalk.i64_in ((j + 1 : Nat) : Int) (by omega)
      rw [Int.natCast_add] at e3 e4
      have HN := Lib.hid hnx
      have HA := Lib.hid hat
      clear hd hnx hat hj62
      by_cases hdc : d = c
      · have q : ((d : Int) == (c : Int)) = true := by rw [beq_iff_eq]; omega
        have hr := Lib.hid (HA.out hdc)
        clear hdc
        go_wp2_with fail
        go_ret
        rw [hr.out]
        exact ⟨rfl, rfl⟩
      · have q : ((d : Int) == (c : Int)) = false := by rw [beq_eq_false_iff_ne]; omega
        have q2 : (d == c) = false := by simpa using hdc
        have HN2 := Lib.hid (HN.out.trans q2)
        clear hdc q2
        go_wp2_with fail
        exact ⟨⟨j + 1, by omega, by congr 1, trivial, HN2.out⟩, by simp [intOf] <;> omega⟩
    · obtain rfl : j = l.length := by omega
      have i1 : ¬ ((l.length : Int) < (S.size : Int)) := by have := HZ.out; omega
      have hr := HREL.out
      rw [List.take_length] at hr
      have HR := Lib.hid hr
      clear hr
      go_wp2_with fail
      go_ret
      rw [HR.out]
      exact ⟨rfl, rfl⟩

/-! ### bytes laid in a row, and a row of bytes as a text -/
section
variable {P : Program} {w : World} {ops : Array Oper} {rest : List Oper} {o : Oper} {a : Act} {Q : Exit → Act → World → Prop} {K : Act → World → Prop}
theorem run_bldB1 (t e : TypeId) (i : TypeInfo) (ht : P.underlying t = some (.slice e)) (hi : P.info? e = some i) (hz : i.zero = some (.int .u8 0)) (hs : i.size = 1) (c : UInt8) :
    (Instr.buildSlice t 1 #[(0, bv c)]).run P w = .ok (.slice (some ⟨w.heap.size, 0, none⟩) 1 1) (w.alloc (.cells (bvs [c]).toArray e)) := by
  have hzv : (zeroValue e).run P w = .ok (.int .u8 0) w := by simp [zeroValue, typeInfo, hi, hz]
  simp [Instr.buildSlice, run_underlying ht, sizeOf, typeInfo, hi, hs, hzv, Value.cells, Instr.fill, Array.range_succ, Array.range_zero', newRow, bvs]
theorem run_bldB2 (t e : TypeId) (i : TypeInfo) (ht : P.underlying t = some (.slice e)) (hi : P.info? e = some i) (hz : i.zero = some (.int .u8 0)) (hs : i.size = 1) (c d : UInt8) :
    (Instr.buildSlice t 2 #[(0, bv c), (1, bv d)]).run P w = .ok (.slice (some ⟨w.heap.size, 0, none⟩) 2 2) (w.alloc (.cells (bvs [c, d]).toArray e)) := by
  have hzv : (zeroValue e).run P w = .ok (.int .u8 0) w := by simp [zeroValue, typeInfo, hi, hz]
  simp [Instr.buildSlice, run_underlying ht, sizeOf, typeInfo, hi, hs, hzv, Value.cells, Instr.fill, Array.range_succ, Array.range_zero', newRow, bvs]
theorem run_bldB3 (t e : TypeId) (i : TypeInfo) (ht : P.underlying t = some (.slice e)) (hi : P.info? e = some i) (hz : i.zero = some (.int .u8 0)) (hs : i.size = 1) (c d f : UInt8) :
    (Instr.buildSlice t 3 #[(0, bv c), (1, bv d), (2, bv f)]).run P w = .ok (.slice (some ⟨w.heap.size, 0, none⟩) 3 3) (w.alloc (.cells (bvs [c, d, f]).toArray e)) := by
  have hzv : (zeroValue e).run P w = .ok (.int .u8 0) w := by simp [zeroValue, typeInfo, hi, hz]
  simp [Instr.buildSlice, run_underlying ht, sizeOf, typeInfo, hi, hs, hzv, Value.cells, Instr.fill, Array.range_succ, Array.range_zero', newRow, bvs]
theorem run_bldB4 (t e : TypeId) (i : TypeInfo) (ht : P.underlying t = some (.slice e)) (hi : P.info? e = some i) (hz : i.zero = some (.int .u8 0)) (hs : i.size = 1) (c d f g : UInt8) :
    (Instr.buildSlice t 4 #[(0, bv c), (1, bv d), (2, bv f), (3, bv g)]).run P w = .ok (.slice (some ⟨w.heap.size, 0, none⟩) 4 4) (w.alloc (.cells (bvs [c, d, f, g]).toArray e)) := by
  have hzv : (zeroValue e).run P w = .ok (.int .u8 0) w := by simp [zeroValue, typeInfo, hi, hz]
  simp [Instr.buildSlice, run_underlying ht, sizeOf, typeInfo, hi, hs, hzv, Value.cells, Instr.fill, Array.range_succ, Array.range_zero', newRow, bvs]
/-- A row of bytes that is laid anew: read as a list, and known as a block. -/
theorem wp_bldBs (t e : TypeId) (n : Nat) (xs : Array (Nat × Operand)) (ho : o.op = .buildSlice t n xs) (l : List UInt8)
    (hrun : (Instr.buildSlice t n (xs.map fun p => (p.1, a.eval p.2))).run P w = .ok (.slice (some ⟨w.heap.size, 0, none⟩) n n) (w.alloc (.cells (bvs l).toArray e)))
    (hn : l.length = n) (hn1 : 0 < n) (hn2 : n ≤ 1048576)
    (h : ∀ w', Blk w' w.heap.size e (bvs l) → Row w' (.slice (some ⟨w.heap.size, 0, none⟩) n n) (bvs l) → Below w.heap.size w w' → w'.heap.size = w.heap.size + 1 → K (a.put o.dst (.slice (some ⟨w.heap.size, 0, none⟩) n n)) w') : o.wp P a w K Q := by
  unfold Oper.wp
  simp only [execOp, ho]
  have hrun' : (Instr.buildSlice t n (Array.map (fun p => (p.1, a.eval p.2)) xs)).run P w = .ok (.slice (some ⟨w.heap.size, 0, none⟩) n n) (w.alloc (.cells (bvs l).toArray e)) := hrun
  simp only [hrun', Sem.run_bind, Result.andThen_ok, Sem.run_pure]
  have hb := Blk.new w e (bvs l)
  have hl : (bvs l).length = n := by rw [bvs_length, hn]
  have hr : Row (w.alloc (.cells (bvs l).toArray e)) (.slice (some ⟨w.heap.size, 0, none⟩) n n) (bvs l) := by
    have := Row.of_own (hb.own (Nat.zero_le _) (by rw [hl]; unfold maxLen; omega))
    rwa [hl] at this
  exact h _ hb hr ((Below.refl _ _).alloc (Nat.le_refl _) _) (by simp)
theorem wp_bldB1 (t e : TypeId) (x : Operand) (ho : o.op = .buildSlice t 1 #[(0, x)]) (i : TypeInfo) (ht : P.underlying t = some (.slice e)) (hi : P.info? e = some i) (hz : i.zero = some (.int .u8 0)) (hs : i.size = 1) (c : UInt8) (hx : a.eval x = bv c)
    (h : ∀ w', Blk w' w.heap.size e (bvs [c]) → Row w' (.slice (some ⟨w.heap.size, 0, none⟩) 1 1) (bvs [c]) → Below w.heap.size w w' → w'.heap.size = w.heap.size + 1 → K (a.put o.dst (.slice (some ⟨w.heap.size, 0, none⟩) 1 1)) w') : o.wp P a w K Q :=
  wp_bldBs t e 1 _ ho [c] (by simp only [List.map_toArray, List.map_cons, List.map_nil, hx]; exact run_bldB1 t e i ht hi hz hs c) rfl (by omega) (by omega) h
theorem wp_bldB2 (t e : TypeId) (x y : Operand) (ho : o.op = .buildSlice t 2 #[(0, x), (1, y)]) (i : TypeInfo) (ht : P.underlying t = some (.slice e)) (hi : P.info? e = some i) (hz : i.zero = some (.int .u8 0)) (hs : i.size = 1) (c d : UInt8) (hx : a.eval x = bv c) (hy : a.eval y = bv d)
    (h : ∀ w', Blk w' w.heap.size e (bvs [c, d]) → Row w' (.slice (some ⟨w.heap.size, 0, none⟩) 2 2) (bvs [c, d]) → Below w.heap.size w w' → w'.heap.size = w.heap.size + 1 → K (a.put o.dst (.slice (some ⟨w.heap.size, 0, none⟩) 2 2)) w') : o.wp P a w K Q :=
  wp_bldBs t e 2 _ ho [c, d] (by simp only [List.map_toArray, List.map_cons, List.map_nil, hx, hy]; exact run_bldB2 t e i ht hi hz hs c d) rfl (by omega) (by omega) h
theorem wp_bldB4 (t e : TypeId) (x y u v : Operand) (ho : o.op = .buildSlice t 4 #[(0, x), (1, y), (2, u), (3, v)]) (i : TypeInfo) (ht : P.underlying t = some (.slice e)) (hi : P.info? e = some i) (hz : i.zero = some (.int .u8 0)) (hs : i.size = 1) (c d f g : UInt8) (hx : a.eval x = bv c) (hy : a.eval y = bv d) (hu : a.eval u = bv f) (hv : a.eval v = bv g)
    (h : ∀ w', Blk w' w.heap.size e (bvs [c, d, f, g]) → Row w' (.slice (some ⟨w.heap.size, 0, none⟩) 4 4) (bvs [c, d, f, g]) → Below w.heap.size w w' → w'.heap.size = w.heap.size + 1 → K (a.put o.dst (.slice (some ⟨w.heap.size, 0, none⟩) 4 4)) w') : o.wp P a w K Q :=
  wp_bldBs t e 4 _ ho [c, d, f, g] (by simp only [List.map_toArray, List.map_cons, List.map_nil, hx, hy, hu, hv]; exact run_bldB4 t e i ht hi hz hs c d f g) rfl (by omega) (by omega) h
theorem wpList_bldB1 (hg : o.guard = none) (t e : TypeId) (x : Operand) (ho : o.op = .buildSlice t 1 #[(0, x)]) (i : TypeInfo) (ht : P.underlying t = some (.slice e)) (hi : P.info? e = some i) (hz : i.zero = some (.int .u8 0)) (hs : i.size = 1) (c : UInt8) (hx : a.eval x = bv c)
    (h : ∀ w', Blk w' w.heap.size e (bvs [c]) → Row w' (.slice (some ⟨w.heap.size, 0, none⟩) 1 1) (bvs [c]) → Below w.heap.size w w' → w'.heap.size = w.heap.size + 1 → wpList P ops Q rest (a.put o.dst (.slice (some ⟨w.heap.size, 0, none⟩) 1 1)) w') : wpList P ops Q (o :: rest) a w :=
  wpList_plain hg fun _ hK => wp_bldB1 t e x ho i ht hi hz hs c hx fun w' h1 h2 h3 h4 => hK _ _ (h w' h1 h2 h3 h4)
theorem wpList_bldB2 (hg : o.guard = none) (t e : TypeId) (x y : Operand) (ho : o.op = .buildSlice t 2 #[(0, x), (1, y)]) (i : TypeInfo) (ht : P.underlying t = some (.slice e)) (hi : P.info? e = some i) (hz : i.zero = some (.int .u8 0)) (hs : i.size = 1) (c d : UInt8) (hx : a.eval x = bv c) (hy : a.eval y = bv d)
    (h : ∀ w', Blk w' w.heap.size e (bvs [c, d]) → Row w' (.slice (some ⟨w.heap.size, 0, none⟩) 2 2) (bvs [c, d]) → Below w.heap.size w w' → w'.heap.size = w.heap.size + 1 → wpList P ops Q rest (a.put o.dst (.slice (some ⟨w.heap.size, 0, none⟩) 2 2)) w') : wpList P ops Q (o :: rest) a w :=
  wpList_plain hg fun _ hK => wp_bldB2 t e x y ho i ht hi hz hs c d hx hy fun w' h1 h2 h3 h4 => hK _ _ (h w' h1 h2 h3 h4)
theorem wpList_bldB4 (hg : o.guard = none) (t e : TypeId) (x y u v : Operand) (ho : o.op = .buildSlice t 4 #[(0, x), (1, y), (2, u), (3, v)]) (i : TypeInfo) (ht : P.underlying t = some (.slice e)) (hi : P.info? e = some i) (hz : i.zero = some (.int .u8 0)) (hs : i.size = 1) (c d f g : UInt8) (hx : a.eval x = bv c) (hy : a.eval y = bv d) (hu : a.eval u = bv f) (hv : a.eval v = bv g)
    (h : ∀ w', Blk w' w.heap.size e (bvs [c, d, f, g]) → Row w' (.slice (some ⟨w.heap.size, 0, none⟩) 4 4) (bvs [c, d, f, g]) → Below w.heap.size w w' → w'.heap.size = w.heap.size + 1 → wpList P ops Q rest (a.put o.dst (.slice (some ⟨w.heap.size, 0, none⟩) 4 4)) w') : wpList P ops Q (o :: rest) a w :=
  wpList_plain hg fun _ hK => wp_bldB4 t e x y u v ho i ht hi hz hs c d f g hx hy hu hv fun w' h1 h2 h3 h4 => hK _ _ (h w' h1 h2 h3 h4)
end
section
variable {P : Program} {w : World} {ops : Array Oper} {rest : List Oper} {o : Oper} {a : Act} {Q : Exit → Act → World → Prop} {K : Act → World → Prop}
theorem wp_bldB3 (t e : TypeId) (x y u : Operand) (ho : o.op = .buildSlice t 3 #[(0, x), (1, y), (2, u)]) (i : TypeInfo) (ht : P.underlying t = some (.slice e)) (hi : P.info? e = some i) (hz : i.zero = some (.int .u8 0)) (hs : i.size = 1) (c d f : UInt8) (hx : a.eval x = bv c) (hy : a.eval y = bv d) (hu : a.eval u = bv f)
    (h : ∀ w', Blk w' w.heap.size e (bvs [c, d, f]) → Row w' (.slice (some ⟨w.heap.size, 0, none⟩) 3 3) (bvs [c, d, f]) → Below w.heap.size w w' → w'.heap.size = w.heap.size + 1 → K (a.put o.dst (.slice (some ⟨w.heap.size, 0, none⟩) 3 3)) w') : o.wp P a w K Q :=
  wp_bldBs t e 3 _ ho [c, d, f] (by simp only [List.map_toArray, List.map_cons, List.map_nil, hx, hy, hu]; exact run_bldB3 t e i ht hi hz hs c d f) rfl (by omega) (by omega) h
theorem wpList_bldB3 (hg : o.guard = none) (t e : TypeId) (x y u : Operand) (ho : o.op = .buildSlice t 3 #[(0, x), (1, y), (2, u)]) (i : TypeInfo) (ht : P.underlying t = some (.slice e)) (hi : P.info? e = some i) (hz : i.zero = some (.int .u8 0)) (hs : i.size = 1) (c d f : UInt8) (hx : a.eval x = bv c) (hy : a.eval y = bv d) (hu : a.eval u = bv f)
    (h : ∀ w', Blk w' w.heap.size e (bvs [c, d, f]) → Row w' (.slice (some ⟨w.heap.size, 0, none⟩) 3 3) (bvs [c, d, f]) → Below w.heap.size w w' → w'.heap.size = w.heap.size + 1 → wpList P ops Q rest (a.put o.dst (.slice (some ⟨w.heap.size, 0, none⟩) 3 3)) w') : wpList P ops Q (o :: rest) a w :=
  wpList_plain hg fun _ hK => wp_bldB3 t e x y u ho i ht hi hz hs c d f hx hy hu fun w' h1 h2 h3 h4 => hK _ _ (h w' h1 h2 h3 h4)
end
theorem toStr {w : World} {v : Value} {l : List UInt8} (h : Row w v (bvs l)) : (convert 34 9 v).run Tryd.prog w = .ok (.string ⟨l.toArray⟩) w :=
  conv_row (P := Tryd.prog) h 34 5 9 Tryd.underlying34 Tryd.underlying5 Tryd.underlying9
section
variable {w : World} {ops : Array Oper} {rest : List Oper} {o : Oper} {a : Act} {Q : Exit → Act → World → Prop} {K : Act → World → Prop}
theorem wpList_toStr (hg : o.guard = none) (x : Operand) (ho : o.op = .convert 34 9 x) (v : Value) (l : List UInt8) (hx : a.eval x = v) (hr : Row w v (bvs l))
    (h : wpList Tryd.prog ops Q rest (a.put o.dst (.string ⟨l.toArray⟩)) w) : wpList Tryd.prog ops Q (o :: rest) a w := by
  refine wpList_plain hg fun K hK => ?_
  unfold Oper.wp
  simp only [execOp, ho, hx, toStr hr, Sem.run_bind, Result.andThen_ok, Sem.run_pure]
  exact hK _ _ h
end
theorem ex_toStr {ev : Operand → Value} {o : Oper} {x : Operand} (ho : o.op = .convert 34 9 x) {v : Value} {l : List UInt8} (hx : ev x = v) {W : World} (h : Row W v (bvs l)) : (execOp ev o).run Tryd.prog W = .ok (.value (.string ⟨l.toArray⟩)) W := by
  simp only [execOp, ho, hx, Sem.run_bind, toStr h, Result.andThen_ok, Sem.run_pure]
theorem info_u8 : ∃ i : TypeInfo, Tryd.prog.info? 5 = some i ∧ i.zero = some (.int .u8 0) ∧ i.size = 1 := by
  have h : (Tryd.prog.info? 5).map (fun i => (i.zero, i.size)) = some (some (.int .u8 0), 1) := by kernel_rfl
  cases hi : Tryd.prog.info? 5 with
  | none => rw [hi] at h; cases h
  | some i =>
    rw [hi] at h
    have h := Option.some.inj h
    exact ⟨i, rfl, congrArg Prod.fst h, congrArg Prod.snd h⟩

/-! ### texts put together -/
theorem cat_str (D E : List UInt8) : (⟨D.toArray⟩ ++ ⟨E.toArray⟩ : ByteArray) = ⟨(D ++ E).toArray⟩ := by
  apply ByteArray.ext
  rw [ByteArray.data_append]
  simp
theorem ex_addS {P : Program} {ev : Operand → Value} {o : Oper} (t : TypeId) (x y : Operand) (ht : P.underlying t = some .string) (ho : o.op = .binOp .add t x y t) {X Y Z : ByteArray} (hx : ev x = .string X) (hy : ev y = .string Y) {D E : List UInt8}
    (hX : X = ⟨D.toArray⟩) (hY : Y = ⟨E.toArray⟩) (hZ : Z = ⟨(D ++ E).toArray⟩) (hl : D.length + E.length ≤ 4611686018427387904) (W : World) : (execOp ev o).run P W = .ok (.value (.string Z)) W := by
  have h1 : X.size = D.length := by rw [hX, str_sizeOf]
  have h2 : Y.size = E.length := by rw [hY, str_sizeOf]
  have h3 : Z = X ++ Y := by rw [hX, hY, hZ, cat_str]
  subst h3
  simp only [execOp, ho, hx, hy]
  go_simp
  omega
theorem wpList_addS {P : Program} {w : World} {ops : Array Oper} {rest : List Oper} {o : Oper} {a : Act} {Q : Exit → Act → World → Prop} (hg : o.guard = none) (t : TypeId) (x y : Operand) (ht : P.underlying t = some .string) (ho : o.op = .binOp .add t x y t)
    {X Y : ByteArray} (hx : a.eval x = .string X) (hy : a.eval y = .string Y) {D E : List UInt8} (hX : X = ⟨D.toArray⟩) (hY : Y = ⟨E.toArray⟩) (hl : D.length + E.length ≤ 4611686018427387904)
    (h : ∀ Z : ByteArray, Z = ⟨(D ++ E).toArray⟩ → wpList P ops Q rest (a.put o.dst (.string Z)) w) : wpList P ops Q (o :: rest) a w := by
  refine wpList_plain hg fun K hK => ?_
  unfold Oper.wp
  rw [ex_addS t x y ht ho hx hy hX hY rfl hl w]
  exact hK _ _ (h _ rfl)

/-! ### signs -/
/-- The bytes that are escaped. -/
def escs : List UInt8 := [92, 124, 42, 43, 63, 40, 41, 91, 93, 94, 45, 46]
def hexs : List UInt8 := [48, 49, 50, 51, 52, 53, 54, 55, 56, 57, 97, 98, 99, 100, 101, 102]
def hexB (n : Nat) : UInt8 := hexs.getD n 0
/-- The sign of a byte. -/
def signB (c : Nat) : List UInt8 :=
  if inB escs c then [92, UInt8.ofNat c] else if 32 ≤ c ∧ c ≤ 126 then [UInt8.ofNat c] else [92, 120, hexB (c / 16), hexB (c % 16)]
theorem signB_len (c : Nat) : 1 ≤ (signB c).length ∧ (signB c).length ≤ 4 := by
  unfold signB
  split
  · simp
  · split <;> simp
theorem info_u8' : ∃ (i : TypeInfo), Tryd.prog.info? 5 = some i ∧ i.zero = some (.int .u8 0) ∧ i.size = 1 := info_u8
theorem hexs_len : hexs.length = 16 := rfl
theorem wrap_u8 {n : Nat} (h : n < 256) : IntKind.u8.wrap (n : Int) = (n : Int) := IntWalk.u8_in _ (by omega)
theorem ix_hex (k : Nat) (hk : k < 16) (W : World) : (Instr.index 9 (.string { data := #[48, 49, 50, 51, 52, 53, 54, 55, 56, 57, 97, 98, 99, 100, 101, 102] }) (.int .u8 (k : Int))).run Tryd.prog W = .ok (bv (hexB k)) W := by
  rw [run_index_string W 9 _ .u8 (k : Int) Tryd.underlying9, dif_pos ⟨by omega, by show (k : Int) < 16; omega⟩]
  have : ∀ k : Fin 16, (⟨#[48, 49, 50, 51, 52, 53, 54, 55, 56, 57, 97, 98, 99, 100, 101, 102]⟩ : ByteArray).data[k.val]? = some (hexB k.val) := by decide +kernel
  have h2 := this ⟨k, hk⟩
  have h3 := (Array.getElem?_eq_some_iff.1 h2).2
  show Result.ok (Value.int .u8 (((⟨#[48, 49, 50, 51, 52, 53, 54, 55, 56, 57, 97, 98, 99, 100, 101, 102]⟩ : ByteArray).data[k]'(by show k < 16; omega)).toNat : Int)) W = _
  rw [show (⟨#[48, 49, 50, 51, 52, 53, 54, 55, 56, 57, 97, 98, 99, 100, 101, 102]⟩ : ByteArray).data[k]'(by show k < 16; omega) = hexB k from h3]
theorem ex_index {P : Program} {ev : Operand → Value} {o : Oper} {t : TypeId} {x y : Operand} (ho : o.op = .index t x y) {v : Value} {W : World} (h : (Instr.index t (ev x) (ev y)).run P W = .ok v W) : (execOp ev o).run P W = .ok (.value v) W := by
  simp only [execOp, ho, Sem.run_bind, h, Result.andThen_ok, Sem.run_pure]
set_option maxHeartbeats 4000000 in
set_option maxRecDepth 1000000 in
theorem refSign_any (c : Nat) (hc : c < 256) (w : World) :
    Calls Tryd.prog 56 #[.int .u8 (c : Int)] w fun e w' => e = .returned (strOf (signB c)) ∧ Below w.heap.size w w' := by
  obtain ⟨i0, hi0, hz0, hs0⟩ := info_u8
  have HZ0 := Lib.hid hz0
  obtain ⟨T, hT⟩ : ∃ T : ByteArray, T = ⟨escs.toArray⟩ := ⟨_, rfl⟩
  obtain ⟨r, hr⟩ : ∃ r, r = signB c := ⟨_, rfl⟩
  have HIN := Lib.hid (refIn_any escs T hT c w (by decide))
  have HBV := Lib.hid (bv_ofNat hc)
  rw [← hr]
  clear hz0
  cases hin : inB escs c with
  | true =>
    have HR := Lib.hid (show r = [92, UInt8.ofNat c] by rw [hr]; unfold signB; rw [hin]; rfl)
    clear hr
    rw [hin] at HIN
    have HIN' := HIN
    go_enter Tryd.func56, Tryd.ntmps56
    go_wp2_with fail
    refine (show Calls Tryd.prog 70 #[.string ⟨escs.toArray⟩, .int .u8 (c : Int)] w _ from hT ▸ HIN.out).mono ?_
    rintro e w1 ⟨rfl, h1⟩
    subst h1
    go_wp2_with (first
      | ((with_reducible refine atDst 6 ?_); refine wpList_bldB2 rfl 34 5 _ _ rfl i0 Tryd.underlying34 hi0 HZ0.out hs0 92 (UInt8.ofNat c) rfl HBV.out.symm ?_; intro w2 _ hr2 hb2 _; rw [← HR.out] at hr2; have R2 := Lib.hid hr2; have B2 := Lib.hid hb2; clear hr2 hb2; (try simp only [Act.put, List.setIfInBounds_toArray, List.set_cons_zero, List.set_cons_succ]))
      | ((with_reducible refine atDst 7 ?_); refine wpList_toStr rfl (.tmp 6) rfl _ r rfl R2.out ?_; (try simp only [Act.put, List.setIfInBounds_toArray, List.set_cons_zero, List.set_cons_succ])))
    go_ret
    exact ⟨rfl, B2.out⟩
  | false =>
    rw [hin] at HIN
    by_cases hm : 32 ≤ c ∧ c ≤ 126
    · have HR := Lib.hid (show r = [UInt8.ofNat c] by rw [hr]; unfold signB; rw [hin, if_pos hm]; rfl)
      clear hr
      have d1 : (32 : Int) ≤ (c : Int) := by omega
      have d2 : (c : Int) ≤ 126 := by omega
      clear hm
      go_enter Tryd.func56, Tryd.ntmps56
      go_wp2_with fail
      refine (show Calls Tryd.prog 70 #[.string ⟨escs.toArray⟩, .int .u8 (c : Int)] w _ from hT ▸ HIN.out).mono ?_
      rintro e w1 ⟨rfl, h1⟩
      subst h1
      go_wp2_with (first
        | ((with_reducible refine atDst 15 ?_); refine wpList_bldB1 rfl 34 5 _ rfl i0 Tryd.underlying34 hi0 HZ0.out hs0 (UInt8.ofNat c) HBV.out.symm ?_; intro w2 _ hr2 hb2 _; rw [← HR.out] at hr2; have R2 := Lib.hid hr2; have B2 := Lib.hid hb2; clear hr2 hb2; (try simp only [Act.put, List.setIfInBounds_toArray, List.set_cons_zero, List.set_cons_succ]))
        | ((with_reducible refine atDst 16 ?_); refine wpList_toStr rfl (.tmp 15) rfl _ r rfl R2.out ?_; (try simp only [Act.put, List.setIfInBounds_toArray, List.set_cons_zero, List.set_cons_succ])))
      go_ret
      exact ⟨rfl, B2.out⟩
    · have HR := Lib.hid (show r = [92, 120, hexB (c / 16), hexB (c % 16)] by rw [hr]; unfold signB; rw [hin, if_neg hm]; rfl)
      clear hr
      have q1 := ix_hex (c / 16) (by omega)
      have q2 := ix_hex (c % 16) (by omega)
      have d1 : IntKind.u8.wrap ((c : Int) / 16) = ((c / 16 : Nat) : Int) := by
        rw [show (c : Int) / 16 = ((c / 16 : Nat) : Int) from rfl]
        exact wrap_u8 (by omega)
      have d2 : (c : Int).tmod 16 = ((c % 16 : Nat) : Int) := rfl
      obtain ⟨x, hx⟩ : ∃ x, x = c / 16 := ⟨_, rfl⟩
      obtain ⟨y, hy⟩ : ∃ y, y = c % 16 := ⟨_, rfl⟩
      rw [← hx] at d1 q1 HR
      rw [← hy] at d2 q2 HR
      clear hx hy
      by_cases h32 : (32 : Int) ≤ (c : Int)
      · have d3 : ¬ ((c : Int) ≤ 126) := by omega
        clear hm
        go_enter Tryd.func56, Tryd.ntmps56
        go_wp2_with fail
        refine (show Calls Tryd.prog 70 #[.string ⟨escs.toArray⟩, .int .u8 (c : Int)] w _ from hT ▸ HIN.out).mono ?_
        rintro e w1 ⟨rfl, h1⟩
        subst h1
        go_wp2_with fail
        refine sx_start (by kernel_rfl) (fun wS hS hSz => ?_)
        replace hS := Lib.hid hS
        have hX := Below.refl wS.heap.size wS
        clear hSz
        refine sx_take (i := 0) (oi := ⟨some 17, _, _, _, _, _⟩) (v := ?_) rfl (by kernel_rfl) (by kernel_rfl) (by kernel_rfl) (fun _ _ _ h => h) rfl hX ?_ ?_; rotate_left; (intro W hW; go_simp; try with_reducible rfl); simp only [Act.put, List.setIfInBounds_toArray, List.set_cons_zero, List.set_cons_succ]
        refine sx_take (i := 1) (oi := ⟨some 18, _, _, _, _, _⟩) (v := ?_) rfl (by kernel_rfl) (by kernel_rfl) (by kernel_rfl) (fun _ _ _ h => h) rfl hX ?_ ?_; rotate_left; (intro W hW; go_simp; try with_reducible rfl); simp only [Act.put, List.setIfInBounds_toArray, List.set_cons_zero, List.set_cons_succ]
        refine sx_take (i := 2) (oi := ⟨some 19, _, _, _, _, _⟩) (v := bv (hexB x)) rfl (by kernel_rfl) (by kernel_rfl) (by kernel_rfl) (fun _ _ _ h => h) rfl hX (fun W _ => ex_index rfl (q1 W)) ?_; simp only [Act.put, List.setIfInBounds_toArray, List.set_cons_zero, List.set_cons_succ]
        refine sx_take (i := 3) (oi := ⟨some 20, _, _, _, _, _⟩) (v := ?_) rfl (by kernel_rfl) (by kernel_rfl) (by kernel_rfl) (fun _ _ _ h => h) rfl hX ?_ ?_; rotate_left; (intro W hW; go_simp; try with_reducible rfl); simp only [Act.put, List.setIfInBounds_toArray, List.set_cons_zero, List.set_cons_succ]
        refine sx_take (i := 4) (oi := ⟨some 21, _, _, _, _, _⟩) (v := ?_) rfl (by kernel_rfl) (by kernel_rfl) (by kernel_rfl) (fun _ _ _ h => h) rfl hX ?_ ?_; rotate_left; (intro W hW; go_simp; try with_reducible rfl); simp only [Act.put, List.setIfInBounds_toArray, List.set_cons_zero, List.set_cons_succ]
        refine sx_take (i := 5) (oi := ⟨some 22, _, _, _, _, _⟩) (v := bv (hexB y)) rfl (by kernel_rfl) (by kernel_rfl) (by kernel_rfl) (fun _ _ _ h => h) rfl hX (fun W _ => ex_index rfl (q2 W)) ?_; simp only [Act.put, List.setIfInBounds_toArray, List.set_cons_zero, List.set_cons_succ]
        refine sx_act (i := 6) (o := ⟨some 23, _, _, _, _, _⟩) rfl (by kernel_rfl) rfl hX (Nat.le_refl _) (fun K hK => ?_)
        refine wp_bldB4 34 5 _ _ _ _ rfl i0 Tryd.underlying34 hi0 HZ0.out hs0 92 120 (hexB x) (hexB y) rfl rfl rfl rfl ?_
        intro w2 _ hr2 hb2 _
        rw [← HR.out] at hr2
        refine hK _ _ hb2 ?_
        (try simp only [Act.put, List.setIfInBounds_toArray, List.set_cons_zero, List.set_cons_succ])
        clear hK K hX
        have hX := Below.refl w2.heap.size w2
        have R2 := Lib.hid hr2
        have B2 := Lib.hid (hS.out.trans (hb2.mono hS.out.size))
        clear hr2 hb2
        refine sx_take (i := 7) (oi := ⟨some 24, _, _, _, _, _⟩) (v := strOf r) rfl (by kernel_rfl) (by kernel_rfl) (by kernel_rfl) (fun _ _ _ h => h) rfl hX (fun W hW => ex_toStr (x := .tmp 23) rfl rfl (R2.out.below hW)) ?_; simp only [Act.put, List.setIfInBounds_toArray, List.set_cons_zero, List.set_cons_succ]
        refine sx_take (i := 8) (oi := ⟨some 2, _, _, _, _, _⟩) (v := ?_) rfl (by kernel_rfl) (by kernel_rfl) (by kernel_rfl) (fun _ _ _ h => h) rfl hX ?_ ?_; rotate_left; (intro W hW; go_simp; try with_reducible rfl); simp only [Act.put, List.setIfInBounds_toArray, List.set_cons_zero, List.set_cons_succ]
        refine wpAnyH_done (by kernel_rfl) ?_ _
        go_wp2_with fail
        go_ret
        exact ⟨rfl, B2.out⟩
      · clear hm
        go_enter Tryd.func56, Tryd.ntmps56
        go_wp2_with fail
        refine (show Calls Tryd.prog 70 #[.string ⟨escs.toArray⟩, .int .u8 (c : Int)] w _ from hT ▸ HIN.out).mono ?_
        rintro e w1 ⟨rfl, h1⟩
        subst h1
        go_wp2_with fail
        refine sx_start (by kernel_rfl) (fun wS hS hSz => ?_)
        replace hS := Lib.hid hS
        have hX := Below.refl wS.heap.size wS
        clear hSz
        refine sx_take (i := 0) (oi := ⟨some 17, _, _, _, _, _⟩) (v := ?_) rfl (by kernel_rfl) (by kernel_rfl) (by kernel_rfl) (fun _ _ _ h => h) rfl hX ?_ ?_; rotate_left; (intro W hW; go_simp; try with_reducible rfl); simp only [Act.put, List.setIfInBounds_toArray, List.set_cons_zero, List.set_cons_succ]
        refine sx_take (i := 1) (oi := ⟨some 18, _, _, _, _, _⟩) (v := ?_) rfl (by kernel_rfl) (by kernel_rfl) (by kernel_rfl) (fun _ _ _ h => h) rfl hX ?_ ?_; rotate_left; (intro W hW; go_simp; try with_reducible rfl); simp only [Act.put, List.setIfInBounds_toArray, List.set_cons_zero, List.set_cons_succ]
        refine sx_take (i := 2) (oi := ⟨some 19, _, _, _, _, _⟩) (v := bv (hexB x)) rfl (by kernel_rfl) (by kernel_rfl) (by kernel_rfl) (fun _ _ _ h => h) rfl hX (fun W _ => ex_index rfl (q1 W)) ?_; simp only [Act.put, List.setIfInBounds_toArray, List.set_cons_zero, List.set_cons_succ]
        refine sx_take (i := 3) (oi := ⟨some 20, _, _, _, _, _⟩) (v := ?_) rfl (by kernel_rfl) (by kernel_rfl) (by kernel_rfl) (fun _ _ _ h => h) rfl hX ?_ ?_; rotate_left; (intro W hW; go_simp; try with_reducible rfl); simp only [Act.put, List.setIfInBounds_toArray, List.set_cons_zero, List.set_cons_succ]
        refine sx_take (i := 4) (oi := ⟨some 21, _, _, _, _, _⟩) (v := ?_) rfl (by kernel_rfl) (by kernel_rfl) (by kernel_rfl) (fun _ _ _ h => h) rfl hX ?_ ?_; rotate_left; (intro W hW; go_simp; try with_reducible rfl); simp only [Act.put, List.setIfInBounds_toArray, List.set_cons_zero, List.set_cons_succ]
        refine sx_take (i := 5) (oi := ⟨some 22, _, _, _, _, _⟩) (v := bv (hexB y)) rfl (by kernel_rfl) (by kernel_rfl) (by kernel_rfl) (fun _ _ _ h => h) rfl hX (fun W _ => ex_index rfl (q2 W)) ?_; simp only [Act.put, List.setIfInBounds_toArray, List.set_cons_zero, List.set_cons_succ]
        refine sx_act (i := 6) (o := ⟨some 23, _, _, _, _, _⟩) rfl (by kernel_rfl) rfl hX (Nat.le_refl _) (fun K hK => ?_)
        refine wp_bldB4 34 5 _ _ _ _ rfl i0 Tryd.underlying34 hi0 HZ0.out hs0 92 120 (hexB x) (hexB y) rfl rfl rfl rfl ?_
        intro w2 _ hr2 hb2 _
        rw [← HR.out] at hr2
        refine hK _ _ hb2 ?_
        (try simp only [Act.put, List.setIfInBounds_toArray, List.set_cons_zero, List.set_cons_succ])
        clear hK K hX
        have hX := Below.refl w2.heap.size w2
        have R2 := Lib.hid hr2
        have B2 := Lib.hid (hS.out.trans (hb2.mono hS.out.size))
        clear hr2 hb2
        refine sx_take (i := 7) (oi := ⟨some 24, _, _, _, _, _⟩) (v := strOf r) rfl (by kernel_rfl) (by kernel_rfl) (by kernel_rfl) (fun _ _ _ h => h) rfl hX (fun W hW => ex_toStr (x := .tmp 23) rfl rfl (R2.out.below hW)) ?_; simp only [Act.put, List.setIfInBounds_toArray, List.set_cons_zero, List.set_cons_succ]
        refine sx_take (i := 8) (oi := ⟨some 2, _, _, _, _, _⟩) (v := ?_) rfl (by kernel_rfl) (by kernel_rfl) (by kernel_rfl) (fun _ _ _ h => h) rfl hX ?_ ?_; rotate_left; (intro W hW; go_simp; try with_reducible rfl); simp only [Act.put, List.setIfInBounds_toArray, List.set_cons_zero, List.set_cons_succ]
        refine wpAnyH_done (by kernel_rfl) ?_ _
        go_wp2_with fail
        go_ret
        exact ⟨rfl, B2.out⟩
theorem refSignS (c : Nat) (hc : c < 256) (Z : ByteArray) (hZ : Z = ⟨(signB c).toArray⟩) (w : World) :
    Calls Tryd.prog 56 #[.int .u8 (c : Int)] w fun e w' => e = .returned (.string Z) ∧ Below w.heap.size w w' := by
  rw [hZ]
  exact refSign_any c hc w
/-- A byte loaded. -/
theorem ld_u8 {ev : Operand → Value} {o : Oper} (x : Operand) (ho : o.op = .load 5 x) {p : Addr} (hx : ev x = .pointer (some p)) {n : Int} {W : World} (hc : W.cell? p = some (.int .u8 n)) : (execOp ev o).run Tryd.prog W = .ok (.value (.int .u8 n)) W := by
  simp only [execOp, ho, hx]
  go_simp
end Go.Proofs.YtmlojjgddmnbmaaDoor
namespace Go.Proofs.YtmlojjgddmnbmaaDoor
open Go.RowKit
set_option linter.unusedSimpArgs false
set_option linter.unusedVariables false

/-- The bytes of a set, as numbers, rising. -/
def memN (s : Nat → Bool) : List Nat := (List.range 256).filter s
theorem memJ_memN (s : Nat → Bool) : memJ s 256 = (memN s).map UInt8.ofNat := rfl
theorem memN_lt {s : Nat → Bool} {n : Nat} (h : n ∈ memN s) : n < 256 := by simpa using (List.mem_filter.1 h).1
theorem memN_mem {s : Nat → Bool} {n : Nat} : n ∈ memN s ↔ n < 256 ∧ s n = true := by simp [memN]
theorem memN_asc (s : Nat → Bool) : (memN s).Pairwise (· < ·) := List.Pairwise.filter _ (List.pairwise_lt_range)
theorem memN_len (s : Nat → Bool) : (memN s).length ≤ 256 := by
  have := List.length_filter_le s (List.range 256)
  simpa [memN] using this
/-- A run from a to b. -/
def runB (a b : Nat) : List UInt8 := if a = b then signB a else if b = a + 1 then signB a ++ signB b else signB a ++ (45 :: signB b)
/-- What follows a run that has come from a to b so far. -/
def goR (a b : Nat) : List Nat → List UInt8
  | [] => runB a b
  | c :: r => if c = b + 1 then goR a c r else runB a b ++ goR c c r
/-- The runs of a rising list. -/
def runsB : List Nat → List UInt8
  | [] => []
  | c :: r => goR c c r
/-- The text of a set that is not empty. -/
def setB (s : Nat → Bool) : List UInt8 :=
  if (memN s).length = 256 then [46] else if (memN s).length = 1 then signB ((memN s).headD 0) else 91 :: (runsB (memN s) ++ [93])
/-- The i-th one. -/
def nthN (ns : List Nat) (i : Nat) : Nat := ns.getD i 0
theorem nthN_get {ns : List Nat} {i : Nat} (h : i < ns.length) : nthN ns i = ns[i] := by
  unfold nthN
  rw [List.getD_eq_getElem?_getD, List.getElem?_eq_getElem h]
  rfl
theorem drop_nth {ns : List Nat} {i : Nat} (h : i < ns.length) : ns.drop i = nthN ns i :: ns.drop (i + 1) := by
  rw [nthN_get h, List.drop_eq_getElem_cons h]
theorem goR_on {ns : List Nat} {a b k : Nat} (h : k + 1 < ns.length) (hn : nthN ns (k + 1) = b + 1) : goR a b (ns.drop (k + 1)) = goR a (nthN ns (k + 1)) (ns.drop (k + 1 + 1)) := by
  rw [drop_nth h]
  simp only [goR]
  rw [if_pos hn]
theorem goR_off {ns : List Nat} {a b k : Nat} (hn : k + 1 < ns.length → nthN ns (k + 1) ≠ b + 1) : goR a b (ns.drop (k + 1)) = runB a b ++ runsB (ns.drop (k + 1)) := by
  by_cases h : k + 1 < ns.length
  · rw [drop_nth h]
    simp only [goR, runsB]
    rw [if_neg (hn h)]
  · rw [List.drop_eq_nil_of_le (by omega)]
    simp [goR, runsB]
theorem runsB_at {ns : List Nat} {i : Nat} (h : i < ns.length) : runsB (ns.drop i) = goR (nthN ns i) (nthN ns i) (ns.drop (i + 1)) := by
  rw [drop_nth h]
  rfl
theorem nthN_mem {ns : List Nat} {i : Nat} (h : i < ns.length) : nthN ns i ∈ ns := by
  rw [nthN_get h]
  exact List.getElem_mem h
theorem nthN_asc {ns : List Nat} (h : ns.Pairwise (· < ·)) {i j : Nat} (hj : j < ns.length) (hij : i < j) : nthN ns i < nthN ns j := by
  rw [nthN_get hj, nthN_get (by omega)]
  exact List.pairwise_iff_getElem.1 h i j (by omega) hj hij
theorem wrapN64 (j : Nat) (h : j ≤ 4611686018427387904) : wrap64 ((j : Int) + 1) = ((j + 1 : Nat) : Int) := by
  rw [show (j : Int) + 1 = ((j + 1 : Nat) : Int) from rfl]
  exact IntWalk.wrap64_in _ (by omega)
theorem wrapN64' (j : Nat) (h : j ≤ 4611686018427387904) : IntKind.i64.wrap ((j : Int) + 1) = ((j + 1 : Nat) : Int) := by
  rw [show (j : Int) + 1 = ((j + 1 : Nat) : Int) from rfl]
  exact IntWalk.i64_in _ (by omega)
theorem cell_of_mem {w : World} {b off : Nat} {ns : List Nat} (h : ∀ i u, (bvs (ns.map UInt8.ofNat))[i]? = some u → w.cell? ⟨b, off + i, none⟩ = some u) (hl : ∀ n ∈ ns, n < 256) {i : Nat} (hi : i < ns.length) : w.cell? ⟨b, off + i, none⟩ = some (.int .u8 (nthN ns i : Int)) := by
  refine h i _ ?_
  rw [nthN_get hi]
  rw [← bv_ofNat (hl _ (List.getElem_mem hi))]
  simp [bvs, hi]
theorem below_drewN {B : Nat} {a w : World} (h : Below B a w) (n : Nat) : Below B a (w.drewN n) := ⟨h.os, h.tape, h.output, h.size, h.block⟩
end Go.Proofs.YtmlojjgddmnbmaaDoor
namespace Go.Proofs.YtmlojjgddmnbmaaDoor
open Go.RowKit
set_option linter.unusedSimpArgs false
set_option linter.unusedVariables false

mutual
/-- The text of a plain expression. -/
def textT : T → List UInt8
  | .node k s l => if k = 1 then [91, 93] else if k = 2 then [40, 41] else if k = 3 then setB s else if k = 6 then starL l else if k = 4 then catL l else altL true l
def starL : List T → List UInt8
  | [] => []
  | x :: _ => if x.kind = 4 ∨ x.kind = 5 then 40 :: (textT x ++ [41, 42]) else textT x ++ [42]
def catL : List T → List UInt8
  | [] => []
  | x :: r => (if x.kind = 5 then 40 :: (textT x ++ [41]) else textT x) ++ catL r
def altL (first : Bool) : List T → List UInt8
  | [] => []
  | x :: r => (if first then [] else [124]) ++ ((if x.kind = 2 then [] else textT x) ++ altL false r)
end
theorem catL_snoc : ∀ (l : List T) (x : T), catL (l ++ [x]) = catL l ++ (if x.kind = 5 then 40 :: (textT x ++ [41]) else textT x)
  | [], x => by simp [catL]
  | a :: r, x => by
    rw [List.cons_append]
    simp only [catL]
    rw [catL_snoc r x, List.append_assoc]
theorem altL_snoc : ∀ (l : List T) (b : Bool) (x : T), altL b (l ++ [x]) = altL b l ++ ((if b && l.isEmpty then [] else [124]) ++ (if x.kind = 2 then [] else textT x))
  | [], b, x => by cases b <;> simp [altL]
  | a :: r, b, x => by
    rw [List.cons_append]
    simp only [altL]
    rw [altL_snoc r false x]
    simp [List.append_assoc]
theorem catL_next (l : List T) (j : Nat) (t : T) (h : l[j]? = some t) : catL (l.take (j + 1)) = catL (l.take j) ++ (if t.kind = 5 then 40 :: (textT t ++ [41]) else textT t) := by
  obtain ⟨hi, rfl⟩ := List.getElem?_eq_some_iff.1 h
  rw [List.take_succ_eq_append_getElem hi, catL_snoc]
theorem altL_next (l : List T) (j : Nat) (t : T) (h : l[j]? = some t) : altL true (l.take (j + 1)) = altL true (l.take j) ++ ((if j = 0 then [] else [124]) ++ (if t.kind = 2 then [] else textT t)) := by
  obtain ⟨hi, rfl⟩ := List.getElem?_eq_some_iff.1 h
  rw [List.take_succ_eq_append_getElem hi, altL_snoc]
  congr 2
  have hne : l ≠ [] := by rintro rfl; simp at hi
  cases j with
  | zero => simp
  | succ j => simp [hne]
theorem runB_len (a b : Nat) : (runB a b).length ≤ 9 := by
  have h1 := signB_len a
  have h2 := signB_len b
  unfold runB
  split
  · omega
  · split
    · rw [List.length_append]; omega
    · rw [List.length_append, List.length_cons]; omega
theorem goR_len : ∀ (r : List Nat) (a b : Nat), (goR a b r).length ≤ 9 + 9 * r.length
  | [], a, b => by have := runB_len a b; simp only [goR, List.length_nil]; omega
  | c :: r, a, b => by
    simp only [goR, List.length_cons]
    split
    · have := goR_len r a c; omega
    · have h1 := goR_len r c c
      have h2 := runB_len a b
      rw [List.length_append]
      omega
theorem setB_len (s : Nat → Bool) : (setB s).length ≤ 2320 := by
  unfold setB
  split
  · simp
  · split
    · have := signB_len ((memN s).headD 0); omega
    · have h1 := memN_len s
      rw [List.length_cons, List.length_append]
      have h2 : (runsB (memN s)).length ≤ 9 * (memN s).length := by
        cases memN s with
        | nil => simp [runsB]
        | cons c r =>
          have := goR_len r c c
          simp only [runsB, List.length_cons]
          omega
      simp only [List.length_cons, List.length_nil]
      omega
mutual
theorem textT_len : ∀ t : T, (textT t).length + 3 ≤ 2400 * t.nodes
  | .node k s l => by
    have h1 := setB_len s
    have h2 := starL_len l
    have h3 := catL_len l
    have h4 := altL_len true l
    simp only [textT, T.nodes]
    split
    · simp; omega
    · split
      · simp; omega
      · split
        · omega
        · split
          · omega
          · split <;> omega
theorem starL_len : ∀ l : List T, (starL l).length ≤ 2400 * nodesL l
  | [] => by simp [starL]
  | x :: r => by
    have h := textT_len x
    simp only [starL, nodesL]
    split
    · rw [List.length_cons, List.length_append]
      simp only [List.length_cons, List.length_nil]
      omega
    · rw [List.length_append]
      simp only [List.length_cons, List.length_nil]
      omega
theorem catL_len : ∀ l : List T, (catL l).length ≤ 2400 * nodesL l
  | [] => by simp [catL]
  | x :: r => by
    have h := textT_len x
    have h2 := catL_len r
    simp only [catL, nodesL, List.length_cons]
    rw [List.length_append]
    split
    · rw [List.length_cons, List.length_append]
      simp only [List.length_cons, List.length_nil]
      omega
    · omega
theorem altL_len : ∀ (b : Bool) (l : List T), (altL b l).length ≤ 2400 * nodesL l
  | _, [] => by simp [altL]
  | b, x :: r => by
    have h := textT_len x
    have h2 := altL_len false r
    simp only [altL, nodesL, List.length_cons]
    rw [List.length_append, List.length_append]
    cases b <;> by_cases hk : x.kind = 2 <;> simp [hk] <;> omega
end
end Go.Proofs.YtmlojjgddmnbmaaDoor
namespace Go.Proofs.YtmlojjgddmnbmaaDoor
open Go.RowKit
set_option linter.unusedSimpArgs false
set_option linter.unusedVariables false

theorem setN_ne {s : Nat → Bool} (h : eqS s zeroS = false) : memN s ≠ [] := by
  intro he
  have : eqS s zeroS = true := (eqS_iff _ _).2 fun b hb => by
    cases hs : s b with
    | false => rfl
    | true =>
      have : b ∈ memN s := memN_mem.2 ⟨hb, hs⟩
      rw [he] at this
      cases this
  rw [h] at this
  cases this
theorem catL_take (l : List T) (j : Nat) : (catL (l.take j)).length ≤ 2400 * nodesL l := Nat.le_trans (catL_len _) (Nat.mul_le_mul_left _ (nodesL_take l j))
theorem altL_take (l : List T) (j : Nat) : (altL true (l.take j)).length ≤ 2400 * nodesL l := Nat.le_trans (altL_len _ _) (Nat.mul_le_mul_left _ (nodesL_take l j))
theorem sub_nextN {m q : Nat} (h : q < m) : m - (q + 1) < m - q := by omega
end Go.Proofs.YtmlojjgddmnbmaaDoor
namespace Go.Proofs.YtmlojjgddmnbmaaDoor
open Go.RowKit
set_option linter.unusedSimpArgs false
set_option linter.unusedVariables false

mutual
theorem sameT_eq : ∀ t u : T, canT t → canT u → sameT t u = true → t = u
  | .node k s l, .node k' s' l', h, h', hs => by
    simp only [sameT, Bool.and_eq_true, decide_eq_true_eq] at hs
    simp only [canT] at h h'
    rw [hs.1.1, can_eq h.1 h'.1 hs.1.2, sameL_eq l l' h.2 h'.2 hs.2]
theorem sameL_eq : ∀ l m : List T, canL l → canL m → sameL l m = true → l = m
  | [], [], _, _, _ => rfl
  | [], _ :: _, _, _, h => by simp [sameL] at h
  | _ :: _, [], _, _, h => by simp [sameL] at h
  | a :: r, b :: s, hl, hm, h => by
    simp only [sameL, Bool.and_eq_true] at h
    simp only [canL] at hl hm
    rw [sameT_eq a b hl.1 hm.1 h.1, sameL_eq r s hl.2 hm.2 h.2]
end
mutual
theorem sameT_self : ∀ t : T, sameT t t = true
  | .node k s l => by
    simp only [sameT, Bool.and_eq_true, decide_eq_true_eq]
    exact ⟨⟨trivial, eqS_self s⟩, sameL_self l⟩
theorem sameL_self : ∀ l : List T, sameL l l = true
  | [] => rfl
  | a :: r => by
    simp only [sameL, Bool.and_eq_true]
    exact ⟨sameT_self a, sameL_self r⟩
end
theorem flat_all {k : Int} {l : List T} (h : ∀ t ∈ l, t.kind ≠ k) : flatT k l = l := by
  induction l with
  | nil => rfl
  | cons a r ih =>
    have e : flatT k (a :: r) = (if a.kind = k then a.args else [a]) ++ flatT k r := by simp [flatT]
    rw [e, if_neg (h a (by simp)), ih fun t ht => h t (by simp [ht])]
    rfl
theorem without_allK {k : Int} {l : List T} (h : ∀ t ∈ l, t.kind ≠ k) : withoutT k l = l := by
  unfold withoutT
  rw [List.filter_eq_self]
  intro t ht
  simpa using h t ht
theorem any_none {k : Int} {l : List T} (h : ∀ t ∈ l, t.kind ≠ k) : anyK k l = false := by
  unfold anyK
  rw [List.any_eq_false]
  intro t ht
  simpa using h t ht
/-- What stands in a flat list has not the kind. -/
theorem flat_kind {k : Int} {l : List T} (hk : k = 4 ∨ k = 5) (h : ∀ t ∈ l, good t) : ∀ t ∈ flatT k l, t.kind ≠ k := fun t ht => by
  unfold flatT at ht
  obtain ⟨u, hu, hu2⟩ := List.mem_flatMap.1 ht
  by_cases hku : u.kind = k
  · rw [if_pos hku] at hu2
    cases u with
    | node k' s m =>
      have h1 := (good_node.1 (h _ hu)).2.2.2.2.1 t hu2
      have h2 : k' = k := hku
      intro h3
      rw [h3, h2] at h1
      unfold fitsT at h1
      rcases hk with rfl | rfl <;> simp at h1
  · rw [if_neg hku] at hu2
    obtain rfl := List.mem_singleton.1 hu2
    exact hku
theorem without_kind {k : Int} {l : List T} : ∀ t ∈ withoutT k l, t.kind ≠ k := fun t ht => by simpa using (List.mem_filter.1 ht).2
theorem can_wrap {k : Int} {n : T} {l : List T} (hn : canT n) (h : ∀ t ∈ l, canT t) : canT (wrapT k n l) := by
  match l, h with
  | [], _ => exact hn
  | [t], h => exact h t (by simp)
  | a :: b :: r, h =>
    show canT (.node k zeroS (a :: b :: r))
    simp only [canT]
    exact ⟨can_zero, canL_iff.2 h⟩
theorem can_none : canT noneT := ⟨can_zero, trivial⟩
theorem can_empty : canT emptyT := ⟨can_zero, trivial⟩
/-- What one expression of a list is, where it is one of its kind and none of the list is. -/
theorem wrap_inv {k : Int} {n : T} {l m : List T} (hn : n.kind ≠ k) (hm : ∀ t ∈ m, t.kind ≠ k) (h : wrapT k n m = .node k zeroS l) : m = l := by
  match m, hm with
  | [], _ =>
    have h : n = .node k zeroS l := h
    exact absurd (by rw [h]; rfl) hn
  | [t], hm =>
    have h : t = .node k zeroS l := h
    exact absurd (by rw [h]; rfl) (hm t (by simp))
  | a :: b :: r, _ =>
    have h : T.node k zeroS (a :: b :: r) = .node k zeroS l := h
    injection h
theorem cat_same {l : List T} (hl : ∀ t ∈ l, good t) (h2 : 2 ≤ l.length) {s : Nat → Bool} (hs : canS s) (hz : eqS s zeroS = true) :
    sameT (catT l) (.node 4 s l) = true ↔ ∀ x ∈ l, fitsT x.kind 4 = true := by
  obtain rfl := can_eq hs can_zero hz
  have hfg := good_flat (k := 4) hl
  have hfk := flat_kind (k := 4) (.inl rfl) hl
  constructor
  · intro h
    have hcl : canT (.node 4 zeroS l) := by
      simp only [canT]
      exact ⟨can_zero, canL_iff.2 fun t ht => (hl t ht).1⟩
    have hcc : canT (catT l) := by
      unfold catT
      split
      · exact can_none
      · exact can_wrap can_empty fun t ht => (hfg t (List.mem_filter.1 ht).1).1
    have he := sameT_eq _ _ hcc hcl h
    unfold catT at he
    cases ha : anyK 1 (flatT 4 l) with
    | true => rw [ha] at he; injection he with h1; omega
    | false =>
      rw [ha, if_neg (by simp)] at he
      have hm := wrap_inv (by show (2 : Int) ≠ 4; omega) (fun t ht => hfk t (List.mem_filter.1 ht).1) he
      intro x hx
      rw [← hm] at hx
      have k2 := without_kind x hx
      have k4 := hfk x (List.mem_filter.1 hx).1
      have k1 : x.kind ≠ 1 := fun h1 => by
        have : anyK 1 (flatT 4 l) = true := List.any_eq_true.2 ⟨x, (List.mem_filter.1 hx).1, by simpa using h1⟩
        rw [ha] at this
        cases this
      unfold fitsT
      rw [if_neg k2]
      simp [k1, k4]
  · intro h
    have hk : ∀ x ∈ l, x.kind ≠ 2 ∧ x.kind ≠ 1 ∧ x.kind ≠ 4 := fun x hx => by
      have h1 := h x hx
      unfold fitsT at h1
      by_cases h2 : x.kind = 2
      · rw [if_pos h2] at h1; simp at h1
      · rw [if_neg h2] at h1
        simp at h1
        exact ⟨h2, h1.1, h1.2⟩
    have e : catT l = .node 4 zeroS l := by
      unfold catT
      rw [flat_all fun x hx => (hk x hx).2.2, any_none fun x hx => (hk x hx).2.1, without_allK fun x hx => (hk x hx).1, if_neg (by simp), wrapT_many 4 _ _ h2]
    rw [e]
    exact sameT_self _

/-! ### alternatives -/
theorem cmp_kind {t u : T} (h : cmpT t u < 0) : t.kind ≤ u.kind := by
  cases t with
  | node k s l =>
    cases u with
    | node k' s' l' =>
      show k ≤ k'
      simp only [cmpT] at h
      split at h
      · omega
      · split at h
        · omega
        · omega
theorem folT_iff {a b : T} : folT b a = true ↔ cmpT a b < 0 ∧ ¬ (b.kind = 3 ∧ a.kind = 3) := by
  unfold folT
  simp only [Bool.and_eq_true, decide_eq_true_eq, Bool.not_eq_true', Bool.and_eq_false_iff, decide_eq_false_iff_not]
  constructor
  · rintro ⟨h1, h2⟩
    exact ⟨h1, fun h => h2.elim (fun h3 => h3 h.1) (fun h3 => h3 h.2)⟩
  · rintro ⟨h1, h2⟩
    refine ⟨h1, ?_⟩
    by_cases hb : b.kind = 3
    · exact .inr fun ha => h2 ⟨hb, ha⟩
    · exact .inl hb
theorem ascF_pairs : ∀ l : List T, ascF l = true → l.Pairwise fun a b => cmpT a b < 0 ∧ ¬ (b.kind = 3 ∧ a.kind = 3)
  | [], _ => List.Pairwise.nil
  | [a], _ => List.pairwise_singleton _ _
  | a :: b :: r, h => by
    simp only [ascF, Bool.and_eq_true] at h
    have h1 := folT_iff.1 h.1
    have ih := ascF_pairs (b :: r) h.2
    refine List.pairwise_cons.2 ⟨fun x hx => ?_, ih⟩
    rcases List.mem_cons.1 hx with rfl | hx
    · exact h1
    · have h3 := (List.pairwise_cons.1 ih).1 x hx
      refine ⟨cmpT_trans h1.1 (by have := h3.1; omega), fun hk => ?_⟩
      have k1 := cmp_kind h1.1
      have k2 := cmp_kind h3.1
      exact h1.2 ⟨by have h5 := hk.1; have h6 := hk.2; omega, hk.2⟩
theorem ascF_of : ∀ l : List T, (l.Pairwise fun a b => cmpT a b < 0 ∧ ¬ (b.kind = 3 ∧ a.kind = 3)) → ascF l = true
  | [], _ => rfl
  | [a], _ => rfl
  | a :: b :: r, h => by
    have h1 := List.pairwise_cons.1 h
    simp only [ascF, Bool.and_eq_true]
    exact ⟨folT_iff.2 (h1.1 b (by simp)), ascF_of (b :: r) h1.2⟩
/-- A plain set has no parts. -/
theorem good_three {x : T} (hx : good x) (h3 : x.kind = 3) : x = .node 3 x.set [] ∧ eqS x.set zeroS = false := by
  cases x with
  | node k s l =>
    obtain rfl : k = 3 := h3
    have h := (good_node.1 hx).2.2.2.1
    unfold countT at h
    simp at h
    refine ⟨?_, ?_⟩
    · show T.node 3 s l = .node 3 s []
      rw [h.2]
    · show eqS s zeroS = false
      simpa using h.1
theorem alt_same {l : List T} (hl : ∀ t ∈ l, good t) (h2 : 2 ≤ l.length) {s : Nat → Bool} (hs : canS s) (hz : eqS s zeroS = true) :
    sameT (altT l) (.node 5 s l) = true ↔ (∀ x ∈ l, fitsT x.kind 5 = true) ∧ ascF l = true := by
  obtain rfl := can_eq hs can_zero hz
  have hfg := good_flat (k := 5) hl
  have hfk := flat_kind (k := 5) (.inr rfl) hl
  have hwg := good_without (k := 1) hfg
  have hig := good_items hwg
  constructor
  · intro h
    have hcl : canT (.node 5 zeroS l) := by
      simp only [canT]
      exact ⟨can_zero, canL_iff.2 fun t ht => (hl t ht).1⟩
    have hcc : canT (altT l) := by
      unfold altT
      exact can_wrap can_none fun t ht => (hig t ((sortU_mem hig t).1 ht)).1
    have he := sameT_eq _ _ hcc hcl h
    unfold altT at he
    have hik : ∀ t ∈ itemsT (withoutT 1 (flatT 5 l)), t.kind ≠ 5 ∧ t.kind ≠ 1 ∧ (t.kind = 3 → t = .node 3 (orT (withoutT 1 (flatT 5 l))) []) := fun t ht => by
      unfold itemsT at ht
      rcases List.mem_append.1 ht with ht | ht
      · have h3 := without_kind t ht
        have ht2 := (List.mem_filter.1 ht).1
        exact ⟨hfk t (List.mem_filter.1 ht2).1, without_kind t ht2, fun h => absurd h h3⟩
      · split at ht
        · cases ht
        · obtain rfl := List.mem_singleton.1 ht
          exact ⟨by show (3 : Int) ≠ 5; omega, by show (3 : Int) ≠ 1; omega, fun _ => rfl⟩
    have hm := wrap_inv (by show (1 : Int) ≠ 5; omega) (fun t ht => (hik t ((sortU_mem hig t).1 ht)).1) he
    have hasc := sortU_asc (itemsT (withoutT 1 (flatT 5 l)))
    have hmem := fun t => sortU_mem hig t
    rw [hm] at hasc hmem
    refine ⟨fun x hx => ?_, ascF_of l (List.Pairwise.imp_of_mem (fun {a b} ha hb hab => ⟨hab, fun hk => ?_⟩) hasc)⟩
    · obtain ⟨k5, k1, _⟩ := hik x ((hmem x).1 hx)
      unfold fitsT
      split
      · rfl
      · simp [k1, k5]
    · have e1 := (hik a ((hmem a).1 ha)).2.2 hk.2
      have e2 := (hik b ((hmem b).1 hb)).2.2 hk.1
      rw [e1, e2, cmpT_self] at hab
      omega
  · rintro ⟨hf, ha⟩
    have hk : ∀ x ∈ l, x.kind ≠ 5 ∧ x.kind ≠ 1 := fun x hx => by
      have h1 := hf x hx
      unfold fitsT at h1
      by_cases h2 : x.kind = 2
      · rw [h2]; omega
      · rw [if_neg h2] at h1
        simp at h1
        exact ⟨h1.2, h1.1⟩
    have hp := ascF_pairs l ha
    have hasc : Asc l := hp.imp fun h => h.1
    have hitems : ∀ x, x ∈ itemsT l ↔ x ∈ l := fun x => by
      by_cases h3 : ∃ y ∈ l, y.kind = 3
      · obtain ⟨y, hy, hy3⟩ := h3
        have hone : ∀ z ∈ l, z.kind = 3 → z = y := fun z hz hz3 => by
          obtain ⟨i, hi, rfl⟩ := List.getElem_of_mem hy
          obtain ⟨j, hj, rfl⟩ := List.getElem_of_mem hz
          rcases Nat.lt_trichotomy i j with h | h | h
          · exact absurd ⟨hz3, hy3⟩ (List.pairwise_iff_getElem.1 hp i j hi hj h).2
          · subst h; rfl
          · exact absurd ⟨hy3, hz3⟩ (List.pairwise_iff_getElem.1 hp j i hj hi h).2
        obtain ⟨ye, yz⟩ := good_three (hl y hy) hy3
        have hor : orT l = y.set := by
          funext b
          unfold orT
          rw [Bool.eq_iff_iff, List.any_eq_true]
          constructor
          · rintro ⟨z, hz, hz2⟩
            simp only [Bool.and_eq_true, decide_eq_true_eq] at hz2
            rw [← hone z hz hz2.1]
            exact hz2.2
          · intro hb
            exact ⟨y, hy, by simp [hy3, hb]⟩
        unfold itemsT
        rw [hor, yz, if_neg (by simp), ← ye, List.mem_append, List.mem_singleton]
        constructor
        · rintro (h | h)
          · exact (List.mem_filter.1 h).1
          · rw [h]; exact hy
        · intro h
          by_cases hx3 : x.kind = 3
          · exact .inr (hone x h hx3)
          · exact .inl (List.mem_filter.2 ⟨h, by simpa using hx3⟩)
      · have h3 : ∀ y ∈ l, y.kind ≠ 3 := fun y hy h => h3 ⟨y, hy, h⟩
        have hor : eqS (orT l) zeroS = true := (eqS_iff _ _).2 fun b _ => by
          show orT l b = false
          unfold orT
          rw [List.any_eq_false]
          intro t ht
          simp [h3 t ht]
        unfold itemsT
        rw [hor, if_pos rfl, List.append_nil, without_allK h3]
    have hgi : ∀ t ∈ itemsT l, good t := fun t ht => hl t ((hitems t).1 ht)
    have e : altT l = .node 5 zeroS l := by
      unfold altT
      rw [flat_all fun x hx => (hk x hx).1, without_allK fun x hx => (hk x hx).2, asc_ext (sortU_asc (itemsT l)) hasc (fun x => by rw [sortU_mem hgi, hitems]), wrapT_many 5 _ _ h2]
    rw [e]
    exact sameT_self _
end Go.Proofs.YtmlojjgddmnbmaaDoor
namespace Go.Proofs.YtmlojjgddmnbmaaDoor
open Go.RowKit
set_option linter.unusedSimpArgs false
set_option linter.unusedVariables false

theorem RowT.monoX {B B' : Nat} {w : World} {v : Value} {l : List T} (h : RowT B w v l) (hB : B ≤ B') : RowT B' w v l := RowD.mono (D := fun k => k < B) (D' := fun k => k < B') h fun k hk => Nat.lt_of_lt_of_le hk hB
theorem ld_rxs {ev : Operand → Value} {o : Oper} (x : Operand) (ho : o.op = .load 25 x) {p : Addr} (hx : ev x = .pointer (some p)) {A : Option Addr} {n c : Nat} {W : World} (hc : W.cell? p = some (.slice A n c)) : (execOp ev o).run Tryd.prog W = .ok (.value (.slice A n c)) W := by
  simp only [execOp, ho, hx]
  go_simp
theorem ex_build0 {P : Program} {ev : Operand → Value} {o : Oper} (t : TypeId) (ho : o.op = .build t #[]) {c : Array Value} (hb : P.built t [] = some c) (W : World) : (execOp ev o).run P W = .ok (.value (.agg c)) W := by
  have h := run_build (P := P) W t #[] c (by simpa using hb)
  simp only [execOp, ho, Sem.run_bind, List.map_toArray, List.map_nil, h, Result.andThen_ok, Sem.run_pure]
theorem count12 {k : Int} (hk : k = 1 ∨ k = 2) (s : Nat → Bool) (n : Nat) : countT k s n = decide (n = 0) := by
  unfold countT
  rw [if_neg (by omega), if_pos hk]
theorem count3 (s : Nat → Bool) (n : Nat) : countT 3 s n = (!eqS s zeroS && decide (n = 0)) := by
  unfold countT
  rw [if_pos rfl]
theorem count45 {k : Int} (hk : k = 4 ∨ k = 5) (s : Nat → Bool) (n : Nat) : countT k s n = decide (2 ≤ n) := by
  unfold countT
  rw [if_neg (by omega), if_neg (by omega), if_pos hk]
theorem count6 (s : Nat → Bool) (n : Nat) : countT 6 s n = decide (n = 1) := by
  unfold countT
  simp
theorem count_no {k : Int} (h1 : k ≠ 1) (h2 : k ≠ 2) (h3 : k ≠ 3) (h4 : k ≠ 4) (h5 : k ≠ 5) (h6 : k ≠ 6) (s : Nat → Bool) (n : Nat) : countT k s n = false := by
  unfold countT
  rw [if_neg h3, if_neg (by omega), if_neg (by omega)]
  simp [h6]
set_option maxHeartbeats 8000000 in
set_option maxRecDepth 1000000 in
theorem refPlain_any : ∀ (N : Nat) (t : T), t.nodes ≤ N → t.nodes ≤ 274877906944 → canT t → ∀ (cs : List Value) (w : World), RxV w.heap.size w cs t →
    Calls Tryd.prog 26 #[.agg cs.toArray] w fun e w' => e = .returned (.bool (plainT t)) ∧ Below w.heap.size w w' := by
  intro N
  induction N with
  | zero => intro t h; have := nodes_pos t; omega
  | succ N ih =>
    rintro ⟨k, s, l⟩ hN hM hc cs w hv
    have IH := Lib.hid ih
    clear ih
    have HVR := Lib.hid hv
    obtain ⟨A, cap, f, rfl, h1, h2, h0, h3, h4⟩ := hv.opened
    have H3 := Lib.hid h3
    have H4 := Lib.hid h4
    have HROW := Lib.hid (show RowT w.heap.size w (.slice A l.length cap) l from ⟨A, cap, f, rfl, h1, h2, h0, h3, h4⟩)
    have HNN := Lib.hid (show T.nodes (.node k s l) = 1 + nodesL l by simp only [T.nodes])
    rw [HNN.out] at hN hM
    simp only [canT] at hc
    have HCS2 := Lib.hid hc.1
    have HCL2 := Lib.hid (canL_iff.1 hc.2)
    have HP := Lib.hid (show plainT (.node k s l) = ((decide (k = 3) || eqS s zeroS) && countT k s l.length && plainL k l && (decide (k ≠ 5) || ascF l)) by simp only [plainT])
    obtain ⟨r, hr⟩ : ∃ r, r = plainT (.node k s l) := ⟨_, rfl⟩
    rw [← hr] at HP ⊢
    have HN := Lib.hid hN
    have HM := Lib.hid hM
    obtain ⟨cs, hcs⟩ : ∃ cs, cs = Value.int .i64 k :: (wds s ++ [.slice A l.length cap]) := ⟨_, rfl⟩
    have HCS := Lib.hid hcs
    have HCL := Lib.hid (show cs.length = 6 by rw [hcs]; rfl)
    have HC0 := Lib.hid (show cs[0]? = some (.int .i64 k) by rw [hcs]; rfl)
    have HC5 := Lib.hid (show cs[5]? = some (.slice A l.length cap) by rw [hcs]; rfl)
    have HLL := Lib.hid (len_nodes l)
    rw [← hcs] at HVR ⊢
    have HBS := Lib.hid builtS
    obtain ⟨zs, hzs⟩ : ∃ zs, zs = zeroS := ⟨_, rfl⟩
    have HZS := Lib.hid hzs
    rw [← hzs] at HBS HP
    obtain ⟨b, hb⟩ : ∃ b, eqS s zs = b := ⟨_, rfl⟩
    have HEQ := Lib.hid hb
    rw [hb] at HP
    clear hv h1 h2 h0 h3 h4 hcs hN hM hr hc hzs hb
    go_enter Tryd.func26, Tryd.ntmps26
    go_wp2_with ((with_reducible refine atDst 1 ?_); refine wpList_box rfl 27 _ rfl cs rfl (Below.refl w.heap.size w) (Nat.le_refl _) ?_; intro w1 hk1 hb1 hs1 _; have K1 := Lib.hid hk1; have B1 := Lib.hid hb1; clear hk1 hb1 hs1; (try simp only [Act.put, List.setIfInBounds_toArray, List.set_cons_zero, List.set_cons_succ]))
    go_loopw [3] (fun i wl => ∃ j : Nat, j ≤ l.length ∧ i = .int .i64 (j : Int) ∧ Hid (∀ i t, i < j → l[i]? = some t → plainT t = true) ∧ Below w1.heap.size w1 wl) (fun i _ => l.length - (intOf i).toNat)
    case atStart => exact ⟨0, by omega, by simp, Lib.hid (fun i t h => by omega), Below.refl _ _⟩
    case round =>
      obtain ⟨j, hj, rfl, HPJ, hb⟩ := hrel
      have HB := Lib.hid (B1.out.trans (hb.mono B1.out.size))
      have HBw := Lib.hid hb
      have KR := Lib.hid (K1.out.below hb K1.out.lt)
      have c0 := KR.out.cell 0
      rw [HC0.out] at c0
      have c5 := KR.out.cell 5
      rw [HC5.out] at c5
      have RS := Lib.hid (set_range' HCS.out KR.out)
      clear hb
      by_cases hjl : j < l.length
      · have j1 : (j : Int) < (l.length : Int) := Int.ofNat_lt.2 hjl
        obtain ⟨b0, off, rfl, hb, hrng⟩ := H3.out (by rintro rfl; simp at hjl)
        obtain ⟨x, hx⟩ : ∃ x, l[j]? = some x := ⟨_, List.getElem?_eq_getElem hjl⟩
        have HRG := Lib.hid (range_below (hrng j hjl) HB.out hb)
        have HVX := Lib.hid (((H4.out j x hx).stay HB.out).mono HB.out.size)
        have HV6 := Lib.hid HVX.out.length
        have HXM0 := nodes_mem (List.mem_of_getElem? hx)
        have HXN := Lib.hid (show x.nodes ≤ N by have := HN.out; omega)
        have HXM := Lib.hid (show x.nodes ≤ 274877906944 by have := HM.out; omega)
        have HXC := Lib.hid (HCL2.out x (List.mem_of_getElem? hx))
        have HX := Lib.hid hx
        have hj62 : j ≤ 4611686018427387904 := by have := HM.out; have := HLL.out; omega
        have e3 := wrap_one j hj62
        have e4 := wrap_one' j hj62
        have HJ1 := Lib.hid (sub_next hjl)
        have HJ2 := Lib.hid (show j + 1 ≤ l.length from hjl)
        clear hrng hx hj62 hb HXM0
        go_wp2_with ((with_reducible refine atDst 15 ?_); refine wpList_load_mid rfl 27 _ rfl b0 (off + j * 6) rfl (f j) _ HRG.out Tryd.underlying27 rfl (size_rx HV6.out) ?_; (try simp only [Act.put, List.setIfInBounds_toArray, List.set_cons_zero, List.set_cons_succ]))
        refine (IH.out x HXN.out HXM.out HXC.out (f j) wr HVX.out).mono ?_
        rintro e w4 ⟨rfl, hb4⟩
        have B4 := Lib.hid (HB.out.trans (hb4.mono HB.out.size))
        have B4w := Lib.hid (HBw.out.trans (hb4.mono HBw.out.size))
        clear hb4
        cases hpx : plainT x with
        | true =>
          have HPJ2 := Lib.hid (show ∀ i t, i < j + 1 → l[i]? = some t → plainT t = true from fun i t hi ht => by
            by_cases hij : i = j
            · rw [hij, HX.out] at ht
              obtain rfl := Option.some.inj ht
              exact hpx
            · exact HPJ.out i t (lt_of_ne hi hij) ht)
          clear hpx
          go_wp2_with fail
          exact ⟨⟨j + 1, HJ2.out, by congr 1, HPJ2, B4w.out⟩, by simpa [intOf] using HJ1.out⟩
        | false =>
          have HRF := Lib.hid (show r = false by
            have : plainL k l = false := by
              cases h : plainL k l with
              | false => rfl
              | true =>
                have := (plainL_iff.1 h x (List.mem_of_getElem? HX.out)).2
                rw [hpx] at this
                cases this
            rw [HP.out, this]
            simp)
          clear hpx
          go_wp2_with fail
          go_ret
          rw [HRF.out]
          exact ⟨rfl, B4.out⟩
      · obtain rfl : j = l.length := by omega
        have j1 : ¬ ((l.length : Int) < (l.length : Int)) := by omega
        have HALL := Lib.hid (show ∀ t ∈ l, plainT t = true from fun t ht => by
          obtain ⟨i, hi⟩ := List.getElem?_of_mem ht
          exact HPJ.out i t (List.getElem?_eq_some_iff.1 hi).1 hi)
        have HPL := Lib.hid (show plainL k l = true ↔ ∀ t ∈ l, fitsT t.kind k = true from by
          rw [plainL_iff]
          exact ⟨fun h t ht => (h t ht).1, fun h t ht => ⟨h t ht, HALL.out t ht⟩⟩)
        clear HPJ
        by_cases k1 : k = 1
        · have q1 : (k == 1) = true := by simpa using k1
          have hk12 : k = 1 ∨ k = 2 := .inl k1
          by_cases hl0 : l.length = 0
          · have g0 : ((l.length : Int) == 0) = true := by rw [beq_iff_eq]; omega
            have HR := Lib.hid (show r = b by
              have hnil : l = [] := List.eq_nil_of_length_eq_zero hl0
              rw [HP.out, hnil]
              rw [count12 hk12, k1]; simp [plainL])
            clear hl0
            go_wp2_with (first
              | ((with_reducible refine atDst 29 ?_); refine wpList_ldMidG rfl 24 _ rfl w.heap.size 1 rfl (wds s) _ RS.out Tryd.underlying24 rfl (size_set s) ?_; (try simp only [Act.put, List.setIfInBounds_toArray, List.set_cons_zero, List.set_cons_succ]))
              | ((with_reducible refine atDst 30 ?_); refine wpList_bld rfl 24 _ rfl (wds zs) HBS.out ?_; (try simp only [Act.put, List.setIfInBounds_toArray, List.set_cons_zero, List.set_cons_succ]))
              | ((with_reducible refine atDst 31 ?_); refine wpList_eqSet_is rfl HEQ.out 24 22 (.tmp 29) (.tmp 30) 24 rfl guardSet Tryd.underlying24 Tryd.underlying22 sizeU64 rfl rfl ?_; (try simp only [Act.put, List.setIfInBounds_toArray, List.set_cons_zero, List.set_cons_succ])))
            go_ret
            rw [HR.out]
            exact ⟨rfl, HB.out⟩
          · have g0 : ((l.length : Int) == 0) = false := by rw [beq_eq_false_iff_ne]; omega
            have HR := Lib.hid (show r = false by rw [HP.out, count12 hk12, show decide (l.length = 0) = false by simpa using hl0]; simp)
            clear hl0
            go_wp2_with fail
            go_ret
            rw [HR.out]
            exact ⟨rfl, HB.out⟩
        have q1 : (k == 1) = false := by simpa using k1
        by_cases k2 : k = 2
        · have q2 : (k == 2) = true := by simpa using k2
          have hk12 : k = 1 ∨ k = 2 := .inr k2
          by_cases hl0 : l.length = 0
          · have g0 : ((l.length : Int) == 0) = true := by rw [beq_iff_eq]; omega
            have HR := Lib.hid (show r = b by
              have hnil : l = [] := List.eq_nil_of_length_eq_zero hl0
              rw [HP.out, hnil]
              rw [count12 hk12, k2]; simp [plainL])
            clear hl0
            go_wp2_with (first
              | ((with_reducible refine atDst 29 ?_); refine wpList_ldMidG rfl 24 _ rfl w.heap.size 1 rfl (wds s) _ RS.out Tryd.underlying24 rfl (size_set s) ?_; (try simp only [Act.put, List.setIfInBounds_toArray, List.set_cons_zero, List.set_cons_succ]))
              | ((with_reducible refine atDst 30 ?_); refine wpList_bld rfl 24 _ rfl (wds zs) HBS.out ?_; (try simp only [Act.put, List.setIfInBounds_toArray, List.set_cons_zero, List.set_cons_succ]))
              | ((with_reducible refine atDst 31 ?_); refine wpList_eqSet_is rfl HEQ.out 24 22 (.tmp 29) (.tmp 30) 24 rfl guardSet Tryd.underlying24 Tryd.underlying22 sizeU64 rfl rfl ?_; (try simp only [Act.put, List.setIfInBounds_toArray, List.set_cons_zero, List.set_cons_succ])))
            go_ret
            rw [HR.out]
            exact ⟨rfl, HB.out⟩
          · have g0 : ((l.length : Int) == 0) = false := by rw [beq_eq_false_iff_ne]; omega
            have HR := Lib.hid (show r = false by rw [HP.out, count12 hk12, show decide (l.length = 0) = false by simpa using hl0]; simp)
            clear hl0
            go_wp2_with fail
            go_ret
            rw [HR.out]
            exact ⟨rfl, HB.out⟩
        have q2 : (k == 2) = false := by simpa using k2
        by_cases k3 : k = 3
        · have q3 : (k == 3) = true := by simpa using k3
          have HNEQ := Lib.hid (show (!eqS s zs) = !b by rw [HEQ.out])
          have hc3 : countT k s l.length = (!eqS s zeroS && decide (l.length = 0)) := by rw [k3, count3]
          by_cases hl0 : l.length = 0
          · have g0 : ((l.length : Int) == 0) = true := by rw [beq_iff_eq]; omega
            have HR := Lib.hid (show r = !b by
              have hnil : l = [] := List.eq_nil_of_length_eq_zero hl0
              rw [HP.out, hnil]
              (rw [k3, count3, ← HZS.out, HEQ.out]; simp [plainL]))
            clear hl0
            go_wp2_with (first
              | ((with_reducible refine atDst 41 ?_); refine wpList_ldMidG rfl 24 _ rfl w.heap.size 1 rfl (wds s) _ RS.out Tryd.underlying24 rfl (size_set s) ?_; (try simp only [Act.put, List.setIfInBounds_toArray, List.set_cons_zero, List.set_cons_succ]))
              | ((with_reducible refine atDst 42 ?_); refine wpList_bld rfl 24 _ rfl (wds zs) HBS.out ?_; (try simp only [Act.put, List.setIfInBounds_toArray, List.set_cons_zero, List.set_cons_succ]))
              | ((with_reducible refine atDst 43 ?_); refine wpList_neSetG rfl HNEQ.out 24 22 (.tmp 41) (.tmp 42) 24 rfl guardSet Tryd.underlying24 Tryd.underlying22 sizeU64 rfl rfl ?_; (try simp only [Act.put, List.setIfInBounds_toArray, List.set_cons_zero, List.set_cons_succ])))
            go_ret
            rw [HR.out]
            exact ⟨rfl, HB.out⟩
          · have g0 : ((l.length : Int) == 0) = false := by rw [beq_eq_false_iff_ne]; omega
            have HR := Lib.hid (show r = false by rw [HP.out, hc3, show decide (l.length = 0) = false by simpa using hl0]; simp)
            clear hl0
            go_wp2_with fail
            go_ret
            rw [HR.out]
            exact ⟨rfl, HB.out⟩
        have q3 : (k == 3) = false := by simpa using k3
        by_cases k4 : k = 4
        · have q4 : (k == 4) = true := by simpa using k4
          have hc45 : countT k s l.length = decide (2 ≤ l.length) := count45 (.inl k4) s _
          cases b with
          | false =>
            have HR := Lib.hid (show r = false by rw [HP.out, show decide (k = 3) = false by simpa using k3]; simp)
            clear k1 k2 k3 k4 hc45
            go_wp2_with fail
            have HBx := Lib.hid (show w.heap.size < wr.heap.size from KR.out.lt)
            refine sx_startB (B := wr.heap.size) (w0 := wr) (by kernel_rfl) (Below.refl _ _) (fun wd hwd hX => ?_)
            clear hwd
            refine sx_take (i := 0) (oi := ⟨some 47, _, _, _, _, _⟩) (v := ?_) rfl (by kernel_rfl) (by kernel_rfl) (by kernel_rfl) (fun _ _ _ h => h) rfl hX ?_ ?_; rotate_left; (intro W hW; go_simp; try with_reducible rfl); simp only [Act.put, List.setIfInBounds_toArray, List.set_cons_zero, List.set_cons_succ]
            refine sx_take (i := 1) (oi := ⟨some 48, _, _, _, _, _⟩) (v := .agg (wds s).toArray) rfl (by kernel_rfl) (by kernel_rfl) (by kernel_rfl) (fun _ _ _ h => h) rfl hX (ld_mid 24 _ rfl w.heap.size 1 rfl _ _ RS.out HBx.out Tryd.underlying24 rfl (size_set s)) ?_; simp only [Act.put, List.setIfInBounds_toArray, List.set_cons_zero, List.set_cons_succ]
            refine sx_take (i := 2) (oi := ⟨some 49, _, _, _, _, _⟩) (v := .agg (wds zs).toArray) rfl (by kernel_rfl) (by kernel_rfl) (by kernel_rfl) (fun _ _ _ h => h) rfl hX (fun W _ => ex_build0 24 rfl HBS.out W) ?_; simp only [Act.put, List.setIfInBounds_toArray, List.set_cons_zero, List.set_cons_succ]
            refine sx_take (i := 3) (oi := ⟨some 50, _, _, _, _, _⟩) (v := .bool false) rfl (by kernel_rfl) (by kernel_rfl) (by kernel_rfl) (fun _ _ _ h => h) rfl hX (eq_is HEQ.out 24 22 (.tmp 48) (.tmp 49) 24 rfl guardSet Tryd.underlying24 Tryd.underlying22 sizeU64 rfl rfl) ?_; simp only [Act.put, List.setIfInBounds_toArray, List.set_cons_zero, List.set_cons_succ]
            refine sx_take (i := 4) (oi := ⟨some 51, _, _, _, _, _⟩) (v := ?_) rfl (by kernel_rfl) (by kernel_rfl) (by kernel_rfl) (fun _ _ _ h => h) rfl hX ?_ ?_; rotate_left; (intro W hW; go_simp; try with_reducible rfl); simp only [Act.put, List.setIfInBounds_toArray, List.set_cons_zero, List.set_cons_succ]
            refine sx_skip (i := 5) (oi := ⟨some 52, _, _, _, _, _⟩) rfl (by kernel_rfl) (by kernel_rfl) (by kernel_rfl) (fun _ _ _ h => h) rfl hX ?_; simp only [Act.put, List.setIfInBounds_toArray, List.set_cons_zero, List.set_cons_succ]
            refine sx_skip (i := 6) (oi := ⟨some 53, _, _, _, _, _⟩) rfl (by kernel_rfl) (by kernel_rfl) (by kernel_rfl) (fun _ _ _ h => h) rfl hX ?_; simp only [Act.put, List.setIfInBounds_toArray, List.set_cons_zero, List.set_cons_succ]
            refine sx_skip (i := 7) (oi := ⟨some 54, _, _, _, _, _⟩) rfl (by kernel_rfl) (by kernel_rfl) (by kernel_rfl) (fun _ _ _ h => h) rfl hX ?_; simp only [Act.put, List.setIfInBounds_toArray, List.set_cons_zero, List.set_cons_succ]
            refine sx_skip (i := 8) (oi := ⟨some 55, _, _, _, _, _⟩) rfl (by kernel_rfl) (by kernel_rfl) (by kernel_rfl) (fun _ _ _ h => h) rfl hX ?_; simp only [Act.put, List.setIfInBounds_toArray, List.set_cons_zero, List.set_cons_succ]
            refine sx_take (i := 9) (oi := ⟨some 56, _, _, _, _, _⟩) (v := ?_) rfl (by kernel_rfl) (by kernel_rfl) (by kernel_rfl) (fun _ _ _ h => h) rfl hX ?_ ?_; rotate_left; (intro W hW; go_simp; try with_reducible rfl); simp only [Act.put, List.setIfInBounds_toArray, List.set_cons_zero, List.set_cons_succ]
            refine sx_take (i := 10) (oi := ⟨some 57, _, _, _, _, _⟩) (v := ?_) rfl (by kernel_rfl) (by kernel_rfl) (by kernel_rfl) (fun _ _ _ h => h) rfl hX ?_ ?_; rotate_left; (intro W hW; go_simp; try with_reducible rfl); simp only [Act.put, List.setIfInBounds_toArray, List.set_cons_zero, List.set_cons_succ]
            refine sx_skip (i := 11) (oi := ⟨some 58, _, _, _, _, _⟩) rfl (by kernel_rfl) (by kernel_rfl) (by kernel_rfl) (fun _ _ _ h => h) rfl hX ?_; simp only [Act.put, List.setIfInBounds_toArray, List.set_cons_zero, List.set_cons_succ]
            refine sx_skip (i := 12) (oi := ⟨some 59, _, _, _, _, _⟩) rfl (by kernel_rfl) (by kernel_rfl) (by kernel_rfl) (fun _ _ _ h => h) rfl hX ?_; simp only [Act.put, List.setIfInBounds_toArray, List.set_cons_zero, List.set_cons_succ]
            refine sx_skip (i := 14) (oi := ⟨some 61, _, _, _, _, _⟩) rfl (by kernel_rfl) (by kernel_rfl) (by kernel_rfl) (fun _ _ _ h => h) rfl hX ?_; simp only [Act.put, List.setIfInBounds_toArray, List.set_cons_zero, List.set_cons_succ]
            refine sx_skip (i := 13) (oi := ⟨some 60, _, _, _, _, _⟩) rfl (by kernel_rfl) (by kernel_rfl) (by kernel_rfl) (fun _ _ _ h => h) rfl hX ?_; simp only [Act.put, List.setIfInBounds_toArray, List.set_cons_zero, List.set_cons_succ]
            refine sx_skip (i := 15) (oi := ⟨some 62, _, _, _, _, _⟩) rfl (by kernel_rfl) (by kernel_rfl) (by kernel_rfl) (fun _ _ _ h => h) rfl hX ?_; simp only [Act.put, List.setIfInBounds_toArray, List.set_cons_zero, List.set_cons_succ]
            refine sx_take (i := 16) (oi := ⟨some 63, _, _, _, _, _⟩) (v := ?_) rfl (by kernel_rfl) (by kernel_rfl) (by kernel_rfl) (fun _ _ _ h => h) rfl hX ?_ ?_; rotate_left; (intro W hW; go_simp; try with_reducible rfl); simp only [Act.put, List.setIfInBounds_toArray, List.set_cons_zero, List.set_cons_succ]
            refine sx_take (i := 17) (oi := ⟨some 2, _, _, _, _, _⟩) (v := ?_) rfl (by kernel_rfl) (by kernel_rfl) (by kernel_rfl) (fun _ _ _ h => h) rfl hX ?_ ?_; rotate_left; (intro W hW; go_simp; try with_reducible rfl); simp only [Act.put, List.setIfInBounds_toArray, List.set_cons_zero, List.set_cons_succ]
            refine wpAnyH_done (by kernel_rfl) ?_ _
            have HB9 := Lib.hid (HB.out.trans (hX.mono HB.out.size))
            clear hX
            go_wp2_with fail
            go_ret
            rw [HR.out]
            exact ⟨rfl, HB9.out⟩
          | true =>
            by_cases hl2 : 2 ≤ l.length
            · have d2 : decide ((1 : Int) < (l.length : Int)) = true := decide_eq_true (by omega)
              have d3 : (1 : Int) < (l.length : Int) := by omega
              obtain ⟨m, hm⟩ : ∃ m, sameT (catT l) (.node k s l) = m := ⟨_, rfl⟩
              have HSM := Lib.hid hm
              have HR := Lib.hid (show r = m by
                have hgl : ∀ t ∈ l, good t := fun t ht => ⟨HCL2.out t ht, HALL.out t ht⟩
                have h1 := cat_same hgl hl2 HCS2.out (by rw [← HZS.out]; exact HEQ.out)
                rw [← k4, hm] at h1
                rw [HP.out, hc45, Bool.eq_iff_iff, h1]
                simp only [Bool.or_true, Bool.true_and, Bool.and_eq_true, decide_eq_true_eq, HPL.out, Bool.or_eq_true]
                constructor
                · rintro ⟨⟨_, h⟩, _⟩; exact h
                · intro h; exact ⟨⟨hl2, h⟩, .inl (by omega)⟩)
              clear k1 k2 k3 k4 hc45 hl2 hm
              go_wp2_with fail
              have HBx := Lib.hid (show w.heap.size < wr.heap.size from KR.out.lt)
              refine sx_startB (B := wr.heap.size) (w0 := wr) (by kernel_rfl) (Below.refl _ _) (fun wd hwd hX => ?_)
              clear hwd
              refine sx_take (i := 0) (oi := ⟨some 47, _, _, _, _, _⟩) (v := ?_) rfl (by kernel_rfl) (by kernel_rfl) (by kernel_rfl) (fun _ _ _ h => h) rfl hX ?_ ?_; rotate_left; (intro W hW; go_simp; try with_reducible rfl); simp only [Act.put, List.setIfInBounds_toArray, List.set_cons_zero, List.set_cons_succ]
              refine sx_take (i := 1) (oi := ⟨some 48, _, _, _, _, _⟩) (v := .agg (wds s).toArray) rfl (by kernel_rfl) (by kernel_rfl) (by kernel_rfl) (fun _ _ _ h => h) rfl hX (ld_mid 24 _ rfl w.heap.size 1 rfl _ _ RS.out HBx.out Tryd.underlying24 rfl (size_set s)) ?_; simp only [Act.put, List.setIfInBounds_toArray, List.set_cons_zero, List.set_cons_succ]
              refine sx_take (i := 2) (oi := ⟨some 49, _, _, _, _, _⟩) (v := .agg (wds zs).toArray) rfl (by kernel_rfl) (by kernel_rfl) (by kernel_rfl) (fun _ _ _ h => h) rfl hX (fun W _ => ex_build0 24 rfl HBS.out W) ?_; simp only [Act.put, List.setIfInBounds_toArray, List.set_cons_zero, List.set_cons_succ]
              refine sx_take (i := 3) (oi := ⟨some 50, _, _, _, _, _⟩) (v := .bool true) rfl (by kernel_rfl) (by kernel_rfl) (by kernel_rfl) (fun _ _ _ h => h) rfl hX (eq_is HEQ.out 24 22 (.tmp 48) (.tmp 49) 24 rfl guardSet Tryd.underlying24 Tryd.underlying22 sizeU64 rfl rfl) ?_; simp only [Act.put, List.setIfInBounds_toArray, List.set_cons_zero, List.set_cons_succ]
              refine sx_take (i := 4) (oi := ⟨some 51, _, _, _, _, _⟩) (v := ?_) rfl (by kernel_rfl) (by kernel_rfl) (by kernel_rfl) (fun _ _ _ h => h) rfl hX ?_ ?_; rotate_left; (intro W hW; go_simp; try with_reducible rfl); simp only [Act.put, List.setIfInBounds_toArray, List.set_cons_zero, List.set_cons_succ]
              refine sx_take (i := 5) (oi := ⟨some 52, _, _, _, _, _⟩) (v := ?_) rfl (by kernel_rfl) (by kernel_rfl) (by kernel_rfl) (fun _ _ _ h => h) rfl hX ?_ ?_; rotate_left; (intro W hW; go_simp; try with_reducible rfl); simp only [Act.put, List.setIfInBounds_toArray, List.set_cons_zero, List.set_cons_succ]
              refine sx_take (i := 6) (oi := ⟨some 53, _, _, _, _, _⟩) (v := .slice A l.length cap) rfl (by kernel_rfl) (by kernel_rfl) (by kernel_rfl) (fun _ _ _ h => h) rfl hX (fun W hW => ld_rxs (.tmp 52) rfl rfl ((hW.cell (p := ⟨w.heap.size, 5, none⟩) HBx.out).trans c5)) ?_; simp only [Act.put, List.setIfInBounds_toArray, List.set_cons_zero, List.set_cons_succ]
              refine sx_take (i := 7) (oi := ⟨some 54, _, _, _, _, _⟩) (v := ?_) rfl (by kernel_rfl) (by kernel_rfl) (by kernel_rfl) (fun _ _ _ h => h) rfl hX ?_ ?_; rotate_left; (intro W hW; go_simp; try with_reducible rfl); simp only [Act.put, List.setIfInBounds_toArray, List.set_cons_zero, List.set_cons_succ]
              refine sx_take (i := 8) (oi := ⟨some 55, _, _, _, _, _⟩) (v := ?_) rfl (by kernel_rfl) (by kernel_rfl) (by kernel_rfl) (fun _ _ _ h => h) rfl hX ?_ ?_; rotate_left; (intro W hW; go_simp; try with_reducible rfl); simp only [Act.put, List.setIfInBounds_toArray, List.set_cons_zero, List.set_cons_succ]
              refine sx_take (i := 9) (oi := ⟨some 56, _, _, _, _, _⟩) (v := ?_) rfl (by kernel_rfl) (by kernel_rfl) (by kernel_rfl) (fun _ _ _ h => h) rfl hX ?_ ?_; rotate_left; (intro W hW; go_simp; try with_reducible rfl); simp only [Act.put, List.setIfInBounds_toArray, List.set_cons_zero, List.set_cons_succ]
              refine sx_take (i := 10) (oi := ⟨some 57, _, _, _, _, _⟩) (v := ?_) rfl (by kernel_rfl) (by kernel_rfl) (by kernel_rfl) (fun _ _ _ h => h) rfl hX ?_ ?_; rotate_left; (intro W hW; go_simp; try with_reducible rfl); simp only [Act.put, List.setIfInBounds_toArray, List.set_cons_zero, List.set_cons_succ]
              refine sx_take (i := 11) (oi := ⟨some 58, _, _, _, _, _⟩) (v := ?_) rfl (by kernel_rfl) (by kernel_rfl) (by kernel_rfl) (fun _ _ _ h => h) rfl hX ?_ ?_; rotate_left; (intro W hW; go_simp; try with_reducible rfl); simp only [Act.put, List.setIfInBounds_toArray, List.set_cons_zero, List.set_cons_succ]
              refine sx_take (i := 12) (oi := ⟨some 59, _, _, _, _, _⟩) (v := .slice A l.length cap) rfl (by kernel_rfl) (by kernel_rfl) (by kernel_rfl) (fun _ _ _ h => h) rfl hX (fun W hW => ld_rxs (.tmp 58) rfl rfl ((hW.cell (p := ⟨w.heap.size, 5, none⟩) HBx.out).trans c5)) ?_; simp only [Act.put, List.setIfInBounds_toArray, List.set_cons_zero, List.set_cons_succ]
              refine sx_take (i := 14) (oi := ⟨some 61, _, _, _, _, _⟩) (v := .agg cs.toArray) rfl (by kernel_rfl) (by kernel_rfl) (by kernel_rfl) (fun _ _ _ h => h) rfl hX (ld_blk 27 _ rfl w.heap.size rfl 27 _ _ KR.out HBx.out Tryd.underlying27 rfl (size_rx HCL.out)) ?_; simp only [Act.put, List.setIfInBounds_toArray, List.set_cons_zero, List.set_cons_succ]
              refine sx_actB (i := 13) (o := ⟨some 60, _, _, _, _, _⟩) rfl (by kernel_rfl) rfl hX (fun K hK => ?_)
              go_wp2_with fail
              refine (refCat_any l _ wd ((HROW.out.below (HB.out.trans (hX.mono HB.out.size))).monoX (HB.out.trans (hX.mono HB.out.size)).size) (by have := HM.out; omega)).mono ?_
              rintro e w4 ⟨ds, rfl, hds, hb4⟩
              go_wp2_with fail
              refine hK _ _ (hb4.mono hX.size) ?_
              clear hK K
              replace hX := hX.trans (hb4.mono hX.size)
              have HDS := Lib.hid (show RxV w4.heap.size w4 ds (catT l) from RxD.mono hds fun q hq => hq.2)
              have B4 := Lib.hid (HB.out.trans (hX.mono HB.out.size))
              clear hb4 hds
              refine sx_actB (i := 15) (o := ⟨some 62, _, _, _, _, _⟩) rfl (by kernel_rfl) rfl hX (fun K hK => ?_)
              go_wp2_with fail
              refine (refSame_any _ (catT l) (.node k s l) (Nat.le_refl _) (by have h1 := catT_nodes l; have := HM.out; omega) ds cs w4 HDS.out ((HVR.out.stay B4.out).mono B4.out.size)).mono ?_
              rintro e w5 ⟨rfl, hb5⟩
              rw [HSM.out]
              go_wp2_with fail
              refine hK _ _ (hb5.mono hX.size) ?_
              clear hK K
              replace hX := hX.trans (hb5.mono hX.size)
              clear hb5
              refine sx_take (i := 16) (oi := ⟨some 63, _, _, _, _, _⟩) (v := ?_) rfl (by kernel_rfl) (by kernel_rfl) (by kernel_rfl) (fun _ _ _ h => h) rfl hX ?_ ?_; rotate_left; (intro W hW; go_simp; try with_reducible rfl); simp only [Act.put, List.setIfInBounds_toArray, List.set_cons_zero, List.set_cons_succ]
              refine sx_take (i := 17) (oi := ⟨some 2, _, _, _, _, _⟩) (v := ?_) rfl (by kernel_rfl) (by kernel_rfl) (by kernel_rfl) (fun _ _ _ h => h) rfl hX ?_ ?_; rotate_left; (intro W hW; go_simp; try with_reducible rfl); simp only [Act.put, List.setIfInBounds_toArray, List.set_cons_zero, List.set_cons_succ]
              refine wpAnyH_done (by kernel_rfl) ?_ _
              have HB9 := Lib.hid (HB.out.trans (hX.mono HB.out.size))
              clear hX
              go_wp2_with fail
              go_ret
              rw [HR.out]
              exact ⟨rfl, HB9.out⟩
            · have d2 : decide ((1 : Int) < (l.length : Int)) = false := decide_eq_false (by omega)
              have HR := Lib.hid (show r = false by rw [HP.out, hc45, decide_eq_false hl2]; simp)
              clear k1 k2 k3 k4 hc45 hl2
              go_wp2_with fail
              have HBx := Lib.hid (show w.heap.size < wr.heap.size from KR.out.lt)
              refine sx_startB (B := wr.heap.size) (w0 := wr) (by kernel_rfl) (Below.refl _ _) (fun wd hwd hX => ?_)
              clear hwd
              refine sx_take (i := 0) (oi := ⟨some 47, _, _, _, _, _⟩) (v := ?_) rfl (by kernel_rfl) (by kernel_rfl) (by kernel_rfl) (fun _ _ _ h => h) rfl hX ?_ ?_; rotate_left; (intro W hW; go_simp; try with_reducible rfl); simp only [Act.put, List.setIfInBounds_toArray, List.set_cons_zero, List.set_cons_succ]
              refine sx_take (i := 1) (oi := ⟨some 48, _, _, _, _, _⟩) (v := .agg (wds s).toArray) rfl (by kernel_rfl) (by kernel_rfl) (by kernel_rfl) (fun _ _ _ h => h) rfl hX (ld_mid 24 _ rfl w.heap.size 1 rfl _ _ RS.out HBx.out Tryd.underlying24 rfl (size_set s)) ?_; simp only [Act.put, List.setIfInBounds_toArray, List.set_cons_zero, List.set_cons_succ]
              refine sx_take (i := 2) (oi := ⟨some 49, _, _, _, _, _⟩) (v := .agg (wds zs).toArray) rfl (by kernel_rfl) (by kernel_rfl) (by kernel_rfl) (fun _ _ _ h => h) rfl hX (fun W _ => ex_build0 24 rfl HBS.out W) ?_; simp only [Act.put, List.setIfInBounds_toArray, List.set_cons_zero, List.set_cons_succ]
              refine sx_take (i := 3) (oi := ⟨some 50, _, _, _, _, _⟩) (v := .bool true) rfl (by kernel_rfl) (by kernel_rfl) (by kernel_rfl) (fun _ _ _ h => h) rfl hX (eq_is HEQ.out 24 22 (.tmp 48) (.tmp 49) 24 rfl guardSet Tryd.underlying24 Tryd.underlying22 sizeU64 rfl rfl) ?_; simp only [Act.put, List.setIfInBounds_toArray, List.set_cons_zero, List.set_cons_succ]
              refine sx_take (i := 4) (oi := ⟨some 51, _, _, _, _, _⟩) (v := ?_) rfl (by kernel_rfl) (by kernel_rfl) (by kernel_rfl) (fun _ _ _ h => h) rfl hX ?_ ?_; rotate_left; (intro W hW; go_simp; try with_reducible rfl); simp only [Act.put, List.setIfInBounds_toArray, List.set_cons_zero, List.set_cons_succ]
              refine sx_take (i := 5) (oi := ⟨some 52, _, _, _, _, _⟩) (v := ?_) rfl (by kernel_rfl) (by kernel_rfl) (by kernel_rfl) (fun _ _ _ h => h) rfl hX ?_ ?_; rotate_left; (intro W hW; go_simp; try with_reducible rfl); simp only [Act.put, List.setIfInBounds_toArray, List.set_cons_zero, List.set_cons_succ]
              refine sx_take (i := 6) (oi := ⟨some 53, _, _, _, _, _⟩) (v := .slice A l.length cap) rfl (by kernel_rfl) (by kernel_rfl) (by kernel_rfl) (fun _ _ _ h => h) rfl hX (fun W hW => ld_rxs (.tmp 52) rfl rfl ((hW.cell (p := ⟨w.heap.size, 5, none⟩) HBx.out).trans c5)) ?_; simp only [Act.put, List.setIfInBounds_toArray, List.set_cons_zero, List.set_cons_succ]
              refine sx_take (i := 7) (oi := ⟨some 54, _, _, _, _, _⟩) (v := ?_) rfl (by kernel_rfl) (by kernel_rfl) (by kernel_rfl) (fun _ _ _ h => h) rfl hX ?_ ?_; rotate_left; (intro W hW; go_simp; try with_reducible rfl); simp only [Act.put, List.setIfInBounds_toArray, List.set_cons_zero, List.set_cons_succ]
              refine sx_take (i := 8) (oi := ⟨some 55, _, _, _, _, _⟩) (v := ?_) rfl (by kernel_rfl) (by kernel_rfl) (by kernel_rfl) (fun _ _ _ h => h) rfl hX ?_ ?_; rotate_left; (intro W hW; go_simp; try with_reducible rfl); simp only [Act.put, List.setIfInBounds_toArray, List.set_cons_zero, List.set_cons_succ]
              refine sx_take (i := 9) (oi := ⟨some 56, _, _, _, _, _⟩) (v := ?_) rfl (by kernel_rfl) (by kernel_rfl) (by kernel_rfl) (fun _ _ _ h => h) rfl hX ?_ ?_; rotate_left; (intro W hW; go_simp; try with_reducible rfl); simp only [Act.put, List.setIfInBounds_toArray, List.set_cons_zero, List.set_cons_succ]
              refine sx_take (i := 10) (oi := ⟨some 57, _, _, _, _, _⟩) (v := ?_) rfl (by kernel_rfl) (by kernel_rfl) (by kernel_rfl) (fun _ _ _ h => h) rfl hX ?_ ?_; rotate_left; (intro W hW; go_simp; try with_reducible rfl); simp only [Act.put, List.setIfInBounds_toArray, List.set_cons_zero, List.set_cons_succ]
              refine sx_skip (i := 11) (oi := ⟨some 58, _, _, _, _, _⟩) rfl (by kernel_rfl) (by kernel_rfl) (by kernel_rfl) (fun _ _ _ h => h) rfl hX ?_; simp only [Act.put, List.setIfInBounds_toArray, List.set_cons_zero, List.set_cons_succ]
              refine sx_skip (i := 12) (oi := ⟨some 59, _, _, _, _, _⟩) rfl (by kernel_rfl) (by kernel_rfl) (by kernel_rfl) (fun _ _ _ h => h) rfl hX ?_; simp only [Act.put, List.setIfInBounds_toArray, List.set_cons_zero, List.set_cons_succ]
              refine sx_skip (i := 14) (oi := ⟨some 61, _, _, _, _, _⟩) rfl (by kernel_rfl) (by kernel_rfl) (by kernel_rfl) (fun _ _ _ h => h) rfl hX ?_; simp only [Act.put, List.setIfInBounds_toArray, List.set_cons_zero, List.set_cons_succ]
              refine sx_skip (i := 13) (oi := ⟨some 60, _, _, _, _, _⟩) rfl (by kernel_rfl) (by kernel_rfl) (by kernel_rfl) (fun _ _ _ h => h) rfl hX ?_; simp only [Act.put, List.setIfInBounds_toArray, List.set_cons_zero, List.set_cons_succ]
              refine sx_skip (i := 15) (oi := ⟨some 62, _, _, _, _, _⟩) rfl (by kernel_rfl) (by kernel_rfl) (by kernel_rfl) (fun _ _ _ h => h) rfl hX ?_; simp only [Act.put, List.setIfInBounds_toArray, List.set_cons_zero, List.set_cons_succ]
              refine sx_take (i := 16) (oi := ⟨some 63, _, _, _, _, _⟩) (v := ?_) rfl (by kernel_rfl) (by kernel_rfl) (by kernel_rfl) (fun _ _ _ h => h) rfl hX ?_ ?_; rotate_left; (intro W hW; go_simp; try with_reducible rfl); simp only [Act.put, List.setIfInBounds_toArray, List.set_cons_zero, List.set_cons_succ]
              refine sx_take (i := 17) (oi := ⟨some 2, _, _, _, _, _⟩) (v := ?_) rfl (by kernel_rfl) (by kernel_rfl) (by kernel_rfl) (fun _ _ _ h => h) rfl hX ?_ ?_; rotate_left; (intro W hW; go_simp; try with_reducible rfl); simp only [Act.put, List.setIfInBounds_toArray, List.set_cons_zero, List.set_cons_succ]
              refine wpAnyH_done (by kernel_rfl) ?_ _
              have HB9 := Lib.hid (HB.out.trans (hX.mono HB.out.size))
              clear hX
              go_wp2_with fail
              go_ret
              rw [HR.out]
              exact ⟨rfl, HB9.out⟩
        have q4 : (k == 4) = false := by simpa using k4
        by_cases k5 : k = 5
        · have q5 : (k == 5) = true := by simpa using k5
          have hc45 : countT k s l.length = decide (2 ≤ l.length) := count45 (.inr k5) s _
          cases b with
          | false =>
            have HR := Lib.hid (show r = false by rw [HP.out, show decide (k = 3) = false by simpa using k3]; simp)
            clear k1 k2 k3 k5 hc45
            go_wp2_with fail
            have HBx := Lib.hid (show w.heap.size < wr.heap.size from KR.out.lt)
            refine sx_startB (B := wr.heap.size) (w0 := wr) (by kernel_rfl) (Below.refl _ _) (fun wd hwd hX => ?_)
            clear hwd
            refine sx_take (i := 0) (oi := ⟨some 66, _, _, _, _, _⟩) (v := ?_) rfl (by kernel_rfl) (by kernel_rfl) (by kernel_rfl) (fun _ _ _ h => h) rfl hX ?_ ?_; rotate_left; (intro W hW; go_simp; try with_reducible rfl); simp only [Act.put, List.setIfInBounds_toArray, List.set_cons_zero, List.set_cons_succ]
            refine sx_take (i := 1) (oi := ⟨some 67, _, _, _, _, _⟩) (v := .agg (wds s).toArray) rfl (by kernel_rfl) (by kernel_rfl) (by kernel_rfl) (fun _ _ _ h => h) rfl hX (ld_mid 24 _ rfl w.heap.size 1 rfl _ _ RS.out HBx.out Tryd.underlying24 rfl (size_set s)) ?_; simp only [Act.put, List.setIfInBounds_toArray, List.set_cons_zero, List.set_cons_succ]
            refine sx_take (i := 2) (oi := ⟨some 68, _, _, _, _, _⟩) (v := .agg (wds zs).toArray) rfl (by kernel_rfl) (by kernel_rfl) (by kernel_rfl) (fun _ _ _ h => h) rfl hX (fun W _ => ex_build0 24 rfl HBS.out W) ?_; simp only [Act.put, List.setIfInBounds_toArray, List.set_cons_zero, List.set_cons_succ]
            refine sx_take (i := 3) (oi := ⟨some 69, _, _, _, _, _⟩) (v := .bool false) rfl (by kernel_rfl) (by kernel_rfl) (by kernel_rfl) (fun _ _ _ h => h) rfl hX (eq_is HEQ.out 24 22 (.tmp 67) (.tmp 68) 24 rfl guardSet Tryd.underlying24 Tryd.underlying22 sizeU64 rfl rfl) ?_; simp only [Act.put, List.setIfInBounds_toArray, List.set_cons_zero, List.set_cons_succ]
            refine sx_take (i := 4) (oi := ⟨some 70, _, _, _, _, _⟩) (v := ?_) rfl (by kernel_rfl) (by kernel_rfl) (by kernel_rfl) (fun _ _ _ h => h) rfl hX ?_ ?_; rotate_left; (intro W hW; go_simp; try with_reducible rfl); simp only [Act.put, List.setIfInBounds_toArray, List.set_cons_zero, List.set_cons_succ]
            refine sx_skip (i := 5) (oi := ⟨some 71, _, _, _, _, _⟩) rfl (by kernel_rfl) (by kernel_rfl) (by kernel_rfl) (fun _ _ _ h => h) rfl hX ?_; simp only [Act.put, List.setIfInBounds_toArray, List.set_cons_zero, List.set_cons_succ]
            refine sx_skip (i := 6) (oi := ⟨some 72, _, _, _, _, _⟩) rfl (by kernel_rfl) (by kernel_rfl) (by kernel_rfl) (fun _ _ _ h => h) rfl hX ?_; simp only [Act.put, List.setIfInBounds_toArray, List.set_cons_zero, List.set_cons_succ]
            refine sx_skip (i := 7) (oi := ⟨some 73, _, _, _, _, _⟩) rfl (by kernel_rfl) (by kernel_rfl) (by kernel_rfl) (fun _ _ _ h => h) rfl hX ?_; simp only [Act.put, List.setIfInBounds_toArray, List.set_cons_zero, List.set_cons_succ]
            refine sx_skip (i := 8) (oi := ⟨some 74, _, _, _, _, _⟩) rfl (by kernel_rfl) (by kernel_rfl) (by kernel_rfl) (fun _ _ _ h => h) rfl hX ?_; simp only [Act.put, List.setIfInBounds_toArray, List.set_cons_zero, List.set_cons_succ]
            refine sx_take (i := 9) (oi := ⟨some 75, _, _, _, _, _⟩) (v := ?_) rfl (by kernel_rfl) (by kernel_rfl) (by kernel_rfl) (fun _ _ _ h => h) rfl hX ?_ ?_; rotate_left; (intro W hW; go_simp; try with_reducible rfl); simp only [Act.put, List.setIfInBounds_toArray, List.set_cons_zero, List.set_cons_succ]
            refine sx_take (i := 10) (oi := ⟨some 76, _, _, _, _, _⟩) (v := ?_) rfl (by kernel_rfl) (by kernel_rfl) (by kernel_rfl) (fun _ _ _ h => h) rfl hX ?_ ?_; rotate_left; (intro W hW; go_simp; try with_reducible rfl); simp only [Act.put, List.setIfInBounds_toArray, List.set_cons_zero, List.set_cons_succ]
            refine sx_skip (i := 11) (oi := ⟨some 77, _, _, _, _, _⟩) rfl (by kernel_rfl) (by kernel_rfl) (by kernel_rfl) (fun _ _ _ h => h) rfl hX ?_; simp only [Act.put, List.setIfInBounds_toArray, List.set_cons_zero, List.set_cons_succ]
            refine sx_skip (i := 12) (oi := ⟨some 78, _, _, _, _, _⟩) rfl (by kernel_rfl) (by kernel_rfl) (by kernel_rfl) (fun _ _ _ h => h) rfl hX ?_; simp only [Act.put, List.setIfInBounds_toArray, List.set_cons_zero, List.set_cons_succ]
            refine sx_skip (i := 14) (oi := ⟨some 80, _, _, _, _, _⟩) rfl (by kernel_rfl) (by kernel_rfl) (by kernel_rfl) (fun _ _ _ h => h) rfl hX ?_; simp only [Act.put, List.setIfInBounds_toArray, List.set_cons_zero, List.set_cons_succ]
            refine sx_skip (i := 13) (oi := ⟨some 79, _, _, _, _, _⟩) rfl (by kernel_rfl) (by kernel_rfl) (by kernel_rfl) (fun _ _ _ h => h) rfl hX ?_; simp only [Act.put, List.setIfInBounds_toArray, List.set_cons_zero, List.set_cons_succ]
            refine sx_skip (i := 15) (oi := ⟨some 81, _, _, _, _, _⟩) rfl (by kernel_rfl) (by kernel_rfl) (by kernel_rfl) (fun _ _ _ h => h) rfl hX ?_; simp only [Act.put, List.setIfInBounds_toArray, List.set_cons_zero, List.set_cons_succ]
            refine sx_take (i := 16) (oi := ⟨some 82, _, _, _, _, _⟩) (v := ?_) rfl (by kernel_rfl) (by kernel_rfl) (by kernel_rfl) (fun _ _ _ h => h) rfl hX ?_ ?_; rotate_left; (intro W hW; go_simp; try with_reducible rfl); simp only [Act.put, List.setIfInBounds_toArray, List.set_cons_zero, List.set_cons_succ]
            refine sx_take (i := 17) (oi := ⟨some 2, _, _, _, _, _⟩) (v := ?_) rfl (by kernel_rfl) (by kernel_rfl) (by kernel_rfl) (fun _ _ _ h => h) rfl hX ?_ ?_; rotate_left; (intro W hW; go_simp; try with_reducible rfl); simp only [Act.put, List.setIfInBounds_toArray, List.set_cons_zero, List.set_cons_succ]
            refine wpAnyH_done (by kernel_rfl) ?_ _
            have HB9 := Lib.hid (HB.out.trans (hX.mono HB.out.size))
            clear hX
            go_wp2_with fail
            go_ret
            rw [HR.out]
            exact ⟨rfl, HB9.out⟩
          | true =>
            by_cases hl2 : 2 ≤ l.length
            · have d2 : decide ((1 : Int) < (l.length : Int)) = true := decide_eq_true (by omega)
              have d3 : (1 : Int) < (l.length : Int) := by omega
              obtain ⟨m, hm⟩ : ∃ m, sameT (altT l) (.node k s l) = m := ⟨_, rfl⟩
              have HSM := Lib.hid hm
              have HR := Lib.hid (show r = m by
                have hgl : ∀ t ∈ l, good t := fun t ht => ⟨HCL2.out t ht, HALL.out t ht⟩
                have h1 := alt_same hgl hl2 HCS2.out (by rw [← HZS.out]; exact HEQ.out)
                rw [← k5, hm] at h1
                rw [HP.out, hc45, Bool.eq_iff_iff, h1]
                simp only [Bool.or_true, Bool.true_and, Bool.and_eq_true, decide_eq_true_eq, HPL.out, Bool.or_eq_true]
                constructor
                · rintro ⟨⟨_, h⟩, h5⟩; exact ⟨h, h5.resolve_left (by simpa using k5)⟩
                · rintro ⟨h, h5⟩; exact ⟨⟨hl2, h⟩, .inr h5⟩)
              clear k1 k2 k3 k5 hc45 hl2 hm
              go_wp2_with fail
              have HBx := Lib.hid (show w.heap.size < wr.heap.size from KR.out.lt)
              refine sx_startB (B := wr.heap.size) (w0 := wr) (by kernel_rfl) (Below.refl _ _) (fun wd hwd hX => ?_)
              clear hwd
              refine sx_take (i := 0) (oi := ⟨some 66, _, _, _, _, _⟩) (v := ?_) rfl (by kernel_rfl) (by kernel_rfl) (by kernel_rfl) (fun _ _ _ h => h) rfl hX ?_ ?_; rotate_left; (intro W hW; go_simp; try with_reducible rfl); simp only [Act.put, List.setIfInBounds_toArray, List.set_cons_zero, List.set_cons_succ]
              refine sx_take (i := 1) (oi := ⟨some 67, _, _, _, _, _⟩) (v := .agg (wds s).toArray) rfl (by kernel_rfl) (by kernel_rfl) (by kernel_rfl) (fun _ _ _ h => h) rfl hX (ld_mid 24 _ rfl w.heap.size 1 rfl _ _ RS.out HBx.out Tryd.underlying24 rfl (size_set s)) ?_; simp only [Act.put, List.setIfInBounds_toArray, List.set_cons_zero, List.set_cons_succ]
              refine sx_take (i := 2) (oi := ⟨some 68, _, _, _, _, _⟩) (v := .agg (wds zs).toArray) rfl (by kernel_rfl) (by kernel_rfl) (by kernel_rfl) (fun _ _ _ h => h) rfl hX (fun W _ => ex_build0 24 rfl HBS.out W) ?_; simp only [Act.put, List.setIfInBounds_toArray, List.set_cons_zero, List.set_cons_succ]
              refine sx_take (i := 3) (oi := ⟨some 69, _, _, _, _, _⟩) (v := .bool true) rfl (by kernel_rfl) (by kernel_rfl) (by kernel_rfl) (fun _ _ _ h => h) rfl hX (eq_is HEQ.out 24 22 (.tmp 67) (.tmp 68) 24 rfl guardSet Tryd.underlying24 Tryd.underlying22 sizeU64 rfl rfl) ?_; simp only [Act.put, List.setIfInBounds_toArray, List.set_cons_zero, List.set_cons_succ]
              refine sx_take (i := 4) (oi := ⟨some 70, _, _, _, _, _⟩) (v := ?_) rfl (by kernel_rfl) (by kernel_rfl) (by kernel_rfl) (fun _ _ _ h => h) rfl hX ?_ ?_; rotate_left; (intro W hW; go_simp; try with_reducible rfl); simp only [Act.put, List.setIfInBounds_toArray, List.set_cons_zero, List.set_cons_succ]
              refine sx_take (i := 5) (oi := ⟨some 71, _, _, _, _, _⟩) (v := ?_) rfl (by kernel_rfl) (by kernel_rfl) (by kernel_rfl) (fun _ _ _ h => h) rfl hX ?_ ?_; rotate_left; (intro W hW; go_simp; try with_reducible rfl); simp only [Act.put, List.setIfInBounds_toArray, List.set_cons_zero, List.set_cons_succ]
              refine sx_take (i := 6) (oi := ⟨some 72, _, _, _, _, _⟩) (v := .slice A l.length cap) rfl (by kernel_rfl) (by kernel_rfl) (by kernel_rfl) (fun _ _ _ h => h) rfl hX (fun W hW => ld_rxs (.tmp 71) rfl rfl ((hW.cell (p := ⟨w.heap.size, 5, none⟩) HBx.out).trans c5)) ?_; simp only [Act.put, List.setIfInBounds_toArray, List.set_cons_zero, List.set_cons_succ]
              refine sx_take (i := 7) (oi := ⟨some 73, _, _, _, _, _⟩) (v := ?_) rfl (by kernel_rfl) (by kernel_rfl) (by kernel_rfl) (fun _ _ _ h => h) rfl hX ?_ ?_; rotate_left; (intro W hW; go_simp; try with_reducible rfl); simp only [Act.put, List.setIfInBounds_toArray, List.set_cons_zero, List.set_cons_succ]
              refine sx_take (i := 8) (oi := ⟨some 74, _, _, _, _, _⟩) (v := ?_) rfl (by kernel_rfl) (by kernel_rfl) (by kernel_rfl) (fun _ _ _ h => h) rfl hX ?_ ?_; rotate_left; (intro W hW; go_simp; try with_reducible rfl); simp only [Act.put, List.setIfInBounds_toArray, List.set_cons_zero, List.set_cons_succ]
              refine sx_take (i := 9) (oi := ⟨some 75, _, _, _, _, _⟩) (v := ?_) rfl (by kernel_rfl) (by kernel_rfl) (by kernel_rfl) (fun _ _ _ h => h) rfl hX ?_ ?_; rotate_left; (intro W hW; go_simp; try with_reducible rfl); simp only [Act.put, List.setIfInBounds_toArray, List.set_cons_zero, List.set_cons_succ]
              refine sx_take (i := 10) (oi := ⟨some 76, _, _, _, _, _⟩) (v := ?_) rfl (by kernel_rfl) (by kernel_rfl) (by kernel_rfl) (fun _ _ _ h => h) rfl hX ?_ ?_; rotate_left; (intro W hW; go_simp; try with_reducible rfl); simp only [Act.put, List.setIfInBounds_toArray, List.set_cons_zero, List.set_cons_succ]
              refine sx_take (i := 11) (oi := ⟨some 77, _, _, _, _, _⟩) (v := ?_) rfl (by kernel_rfl) (by kernel_rfl) (by kernel_rfl) (fun _ _ _ h => h) rfl hX ?_ ?_; rotate_left; (intro W hW; go_simp; try with_reducible rfl); simp only [Act.put, List.setIfInBounds_toArray, List.set_cons_zero, List.set_cons_succ]
              refine sx_take (i := 12) (oi := ⟨some 78, _, _, _, _, _⟩) (v := .slice A l.length cap) rfl (by kernel_rfl) (by kernel_rfl) (by kernel_rfl) (fun _ _ _ h => h) rfl hX (fun W hW => ld_rxs (.tmp 77) rfl rfl ((hW.cell (p := ⟨w.heap.size, 5, none⟩) HBx.out).trans c5)) ?_; simp only [Act.put, List.setIfInBounds_toArray, List.set_cons_zero, List.set_cons_succ]
              refine sx_take (i := 14) (oi := ⟨some 80, _, _, _, _, _⟩) (v := .agg cs.toArray) rfl (by kernel_rfl) (by kernel_rfl) (by kernel_rfl) (fun _ _ _ h => h) rfl hX (ld_blk 27 _ rfl w.heap.size rfl 27 _ _ KR.out HBx.out Tryd.underlying27 rfl (size_rx HCL.out)) ?_; simp only [Act.put, List.setIfInBounds_toArray, List.set_cons_zero, List.set_cons_succ]
              refine sx_actB (i := 13) (o := ⟨some 79, _, _, _, _, _⟩) rfl (by kernel_rfl) rfl hX (fun K hK => ?_)
              go_wp2_with fail
              refine (refAlt_any l _ wd ((HROW.out.below (HB.out.trans (hX.mono HB.out.size))).monoX (HB.out.trans (hX.mono HB.out.size)).size) (by have := HM.out; omega)).mono ?_
              rintro e w4 ⟨ds, rfl, hds, hb4⟩
              go_wp2_with fail
              refine hK _ _ (hb4.mono hX.size) ?_
              clear hK K
              replace hX := hX.trans (hb4.mono hX.size)
              have HDS := Lib.hid (show RxV w4.heap.size w4 ds (altT l) from RxD.mono hds fun q hq => hq.2)
              have B4 := Lib.hid (HB.out.trans (hX.mono HB.out.size))
              clear hb4 hds
              refine sx_actB (i := 15) (o := ⟨some 81, _, _, _, _, _⟩) rfl (by kernel_rfl) rfl hX (fun K hK => ?_)
              go_wp2_with fail
              refine (refSame_any _ (altT l) (.node k s l) (Nat.le_refl _) (by have h1 := altT_nodes l; have := HM.out; omega) ds cs w4 HDS.out ((HVR.out.stay B4.out).mono B4.out.size)).mono ?_
              rintro e w5 ⟨rfl, hb5⟩
              rw [HSM.out]
              go_wp2_with fail
              refine hK _ _ (hb5.mono hX.size) ?_
              clear hK K
              replace hX := hX.trans (hb5.mono hX.size)
              clear hb5
              refine sx_take (i := 16) (oi := ⟨some 82, _, _, _, _, _⟩) (v := ?_) rfl (by kernel_rfl) (by kernel_rfl) (by kernel_rfl) (fun _ _ _ h => h) rfl hX ?_ ?_; rotate_left; (intro W hW; go_simp; try with_reducible rfl); simp only [Act.put, List.setIfInBounds_toArray, List.set_cons_zero, List.set_cons_succ]
              refine sx_take (i := 17) (oi := ⟨some 2, _, _, _, _, _⟩) (v := ?_) rfl (by kernel_rfl) (by kernel_rfl) (by kernel_rfl) (fun _ _ _ h => h) rfl hX ?_ ?_; rotate_left; (intro W hW; go_simp; try with_reducible rfl); simp only [Act.put, List.setIfInBounds_toArray, List.set_cons_zero, List.set_cons_succ]
              refine wpAnyH_done (by kernel_rfl) ?_ _
              have HB9 := Lib.hid (HB.out.trans (hX.mono HB.out.size))
              clear hX
              go_wp2_with fail
              go_ret
              rw [HR.out]
              exact ⟨rfl, HB9.out⟩
            · have d2 : decide ((1 : Int) < (l.length : Int)) = false := decide_eq_false (by omega)
              have HR := Lib.hid (show r = false by rw [HP.out, hc45, decide_eq_false hl2]; simp)
              clear k1 k2 k3 k5 hc45 hl2
              go_wp2_with fail
              have HBx := Lib.hid (show w.heap.size < wr.heap.size from KR.out.lt)
              refine sx_startB (B := wr.heap.size) (w0 := wr) (by kernel_rfl) (Below.refl _ _) (fun wd hwd hX => ?_)
              clear hwd
              refine sx_take (i := 0) (oi := ⟨some 66, _, _, _, _, _⟩) (v := ?_) rfl (by kernel_rfl) (by kernel_rfl) (by kernel_rfl) (fun _ _ _ h => h) rfl hX ?_ ?_; rotate_left; (intro W hW; go_simp; try with_reducible rfl); simp only [Act.put, List.setIfInBounds_toArray, List.set_cons_zero, List.set_cons_succ]
              refine sx_take (i := 1) (oi := ⟨some 67, _, _, _, _, _⟩) (v := .agg (wds s).toArray) rfl (by kernel_rfl) (by kernel_rfl) (by kernel_rfl) (fun _ _ _ h => h) rfl hX (ld_mid 24 _ rfl w.heap.size 1 rfl _ _ RS.out HBx.out Tryd.underlying24 rfl (size_set s)) ?_; simp only [Act.put, List.setIfInBounds_toArray, List.set_cons_zero, List.set_cons_succ]
              refine sx_take (i := 2) (oi := ⟨some 68, _, _, _, _, _⟩) (v := .agg (wds zs).toArray) rfl (by kernel_rfl) (by kernel_rfl) (by kernel_rfl) (fun _ _ _ h => h) rfl hX (fun W _ => ex_build0 24 rfl HBS.out W) ?_; simp only [Act.put, List.setIfInBounds_toArray, List.set_cons_zero, List.set_cons_succ]
              refine sx_take (i := 3) (oi := ⟨some 69, _, _, _, _, _⟩) (v := .bool true) rfl (by kernel_rfl) (by kernel_rfl) (by kernel_rfl) (fun _ _ _ h => h) rfl hX (eq_is HEQ.out 24 22 (.tmp 67) (.tmp 68) 24 rfl guardSet Tryd.underlying24 Tryd.underlying22 sizeU64 rfl rfl) ?_; simp only [Act.put, List.setIfInBounds_toArray, List.set_cons_zero, List.set_cons_succ]
              refine sx_take (i := 4) (oi := ⟨some 70, _, _, _, _, _⟩) (v := ?_) rfl (by kernel_rfl) (by kernel_rfl) (by kernel_rfl) (fun _ _ _ h => h) rfl hX ?_ ?_; rotate_left; (intro W hW; go_simp; try with_reducible rfl); simp only [Act.put, List.setIfInBounds_toArray, List.set_cons_zero, List.set_cons_succ]
              refine sx_take (i := 5) (oi := ⟨some 71, _, _, _, _, _⟩) (v := ?_) rfl (by kernel_rfl) (by kernel_rfl) (by kernel_rfl) (fun _ _ _ h => h) rfl hX ?_ ?_; rotate_left; (intro W hW; go_simp; try with_reducible rfl); simp only [Act.put, List.setIfInBounds_toArray, List.set_cons_zero, List.set_cons_succ]
              refine sx_take (i := 6) (oi := ⟨some 72, _, _, _, _, _⟩) (v := .slice A l.length cap) rfl (by kernel_rfl) (by kernel_rfl) (by kernel_rfl) (fun _ _ _ h => h) rfl hX (fun W hW => ld_rxs (.tmp 71) rfl rfl ((hW.cell (p := ⟨w.heap.size, 5, none⟩) HBx.out).trans c5)) ?_; simp only [Act.put, List.setIfInBounds_toArray, List.set_cons_zero, List.set_cons_succ]
              refine sx_take (i := 7) (oi := ⟨some 73, _, _, _, _, _⟩) (v := ?_) rfl (by kernel_rfl) (by kernel_rfl) (by kernel_rfl) (fun _ _ _ h => h) rfl hX ?_ ?_; rotate_left; (intro W hW; go_simp; try with_reducible rfl); simp only [Act.put, List.setIfInBounds_toArray, List.set_cons_zero, List.set_cons_succ]
              refine sx_take (i := 8) (oi := ⟨some 74, _, _, _, _, _⟩) (v := ?_) rfl (by kernel_rfl) (by kernel_rfl) (by kernel_rfl) (fun _ _ _ h => h) rfl hX ?_ ?_; rotate_left; (intro W hW; go_simp; try with_reducible rfl); simp only [Act.put, List.setIfInBounds_toArray, List.set_cons_zero, List.set_cons_succ]
              refine sx_take (i := 9) (oi := ⟨some 75, _, _, _, _, _⟩) (v := ?_) rfl (by kernel_rfl) (by kernel_rfl) (by kernel_rfl) (fun _ _ _ h => h) rfl hX ?_ ?_; rotate_left; (intro W hW; go_simp; try with_reducible rfl); simp only [Act.put, List.setIfInBounds_toArray, List.set_cons_zero, List.set_cons_succ]
              refine sx_take (i := 10) (oi := ⟨some 76, _, _, _, _, _⟩) (v := ?_) rfl (by kernel_rfl) (by kernel_rfl) (by kernel_rfl) (fun _ _ _ h => h) rfl hX ?_ ?_; rotate_left; (intro W hW; go_simp; try with_reducible rfl); simp only [Act.put, List.setIfInBounds_toArray, List.set_cons_zero, List.set_cons_succ]
              refine sx_skip (i := 11) (oi := ⟨some 77, _, _, _, _, _⟩) rfl (by kernel_rfl) (by kernel_rfl) (by kernel_rfl) (fun _ _ _ h => h) rfl hX ?_; simp only [Act.put, List.setIfInBounds_toArray, List.set_cons_zero, List.set_cons_succ]
              refine sx_skip (i := 12) (oi := ⟨some 78, _, _, _, _, _⟩) rfl (by kernel_rfl) (by kernel_rfl) (by kernel_rfl) (fun _ _ _ h => h) rfl hX ?_; simp only [Act.put, List.setIfInBounds_toArray, List.set_cons_zero, List.set_cons_succ]
              refine sx_skip (i := 14) (oi := ⟨some 80, _, _, _, _, _⟩) rfl (by kernel_rfl) (by kernel_rfl) (by kernel_rfl) (fun _ _ _ h => h) rfl hX ?_; simp only [Act.put, List.setIfInBounds_toArray, List.set_cons_zero, List.set_cons_succ]
              refine sx_skip (i := 13) (oi := ⟨some 79, _, _, _, _, _⟩) rfl (by kernel_rfl) (by kernel_rfl) (by kernel_rfl) (fun _ _ _ h => h) rfl hX ?_; simp only [Act.put, List.setIfInBounds_toArray, List.set_cons_zero, List.set_cons_succ]
              refine sx_skip (i := 15) (oi := ⟨some 81, _, _, _, _, _⟩) rfl (by kernel_rfl) (by kernel_rfl) (by kernel_rfl) (fun _ _ _ h => h) rfl hX ?_; simp only [Act.put, List.setIfInBounds_toArray, List.set_cons_zero, List.set_cons_succ]
              refine sx_take (i := 16) (oi := ⟨some 82, _, _, _, _, _⟩) (v := ?_) rfl (by kernel_rfl) (by kernel_rfl) (by kernel_rfl) (fun _ _ _ h => h) rfl hX ?_ ?_; rotate_left; (intro W hW; go_simp; try with_reducible rfl); simp only [Act.put, List.setIfInBounds_toArray, List.set_cons_zero, List.set_cons_succ]
              refine sx_take (i := 17) (oi := ⟨some 2, _, _, _, _, _⟩) (v := ?_) rfl (by kernel_rfl) (by kernel_rfl) (by kernel_rfl) (fun _ _ _ h => h) rfl hX ?_ ?_; rotate_left; (intro W hW; go_simp; try with_reducible rfl); simp only [Act.put, List.setIfInBounds_toArray, List.set_cons_zero, List.set_cons_succ]
              refine wpAnyH_done (by kernel_rfl) ?_ _
              have HB9 := Lib.hid (HB.out.trans (hX.mono HB.out.size))
              clear hX
              go_wp2_with fail
              go_ret
              rw [HR.out]
              exact ⟨rfl, HB9.out⟩
        have q5 : (k == 5) = false := by simpa using k5
        by_cases k6 : k = 6
        · have q6 : (k == 6) = true := by simpa using k6
          have hc6 : countT k s l.length = decide (l.length = 1) := by rw [k6, count6]
          have RSW := RS
          cases b with
          | false =>
            have HR := Lib.hid (show r = false by rw [HP.out, show decide (k = 3) = false by simpa using k3]; simp)
            clear k1 k2 k3 k4 k5 k6 hc6
            go_wp2_with (first
              | ((with_reducible refine atDst 86 ?_); refine wpList_ldMidG rfl 24 _ rfl w.heap.size 1 rfl (wds s) _ RS.out Tryd.underlying24 rfl (size_set s) ?_; (try simp only [Act.put, List.setIfInBounds_toArray, List.set_cons_zero, List.set_cons_succ]))
              | ((with_reducible refine atDst 87 ?_); refine wpList_bld rfl 24 _ rfl (wds zs) HBS.out ?_; (try simp only [Act.put, List.setIfInBounds_toArray, List.set_cons_zero, List.set_cons_succ]))
              | ((with_reducible refine atDst 88 ?_); refine wpList_eqSet_is rfl HEQ.out 24 22 (.tmp 86) (.tmp 87) 24 rfl guardSet Tryd.underlying24 Tryd.underlying22 sizeU64 rfl rfl ?_; (try simp only [Act.put, List.setIfInBounds_toArray, List.set_cons_zero, List.set_cons_succ])))
            go_ret
            rw [HR.out]
            exact ⟨rfl, HB.out⟩
          | true =>
            by_cases hl1 : l.length = 1
            · have g1 : ((l.length : Int) == 1) = true := by rw [beq_iff_eq]; omega
              have g2 : (0 : Int) < (l.length : Int) := by omega
              obtain ⟨x, hlx⟩ : ∃ x, l = [x] := by
                match l, hl1 with
                | [x], _ => exact ⟨x, rfl⟩
              obtain ⟨b0, off, rfl, hb, hrng⟩ := H3.out (by rw [hlx]; simp)
              have hx0 : l[0]? = some x := by rw [hlx]; rfl
              obtain ⟨Ax, cx, hsp, hrx⟩ := RxD.split (H4.out 0 x hx0)
              have hr0 : w.rangeAt b0 off (f 0) := by have := hrng 0 (by omega); simpa using this
              have x0 := range_cell0 (range_below hr0 HB.out hb) (show (f 0)[0]? = some (.int .i64 x.kind) by rw [hsp]; rfl)
              have HRX := Lib.hid (show r = fitsT x.kind 6 by
                rw [HP.out, hc6, decide_eq_true hl1, show decide (k ≠ 5) = true by simpa using k5, Bool.eq_iff_iff]
                simp only [Bool.or_true, Bool.true_and, Bool.and_true, Bool.true_or, HPL.out]
                rw [hlx, ← k6]
                simp)
              obtain ⟨y, hy⟩ : ∃ y, y = x.kind := ⟨_, rfl⟩
              rw [← hy] at x0 HRX
              clear k1 k2 k3 k4 k5 k6 hc6 hl1 hlx hb hrng hx0 hsp hrx hr0 hy
              by_cases y6 : y = 6
              · have z6 : (y != 6) = false := by simpa using y6
                have HR := Lib.hid (show r = false by rw [HRX.out, y6]; simp [fitsT])
                clear y6
                go_wp2_with (first
                  | ((with_reducible refine atDst 86 ?_); refine wpList_ldMidG rfl 24 _ rfl w.heap.size 1 rfl (wds s) _ RS.out Tryd.underlying24 rfl (size_set s) ?_; (try simp only [Act.put, List.setIfInBounds_toArray, List.set_cons_zero, List.set_cons_succ]))
                  | ((with_reducible refine atDst 87 ?_); refine wpList_bld rfl 24 _ rfl (wds zs) HBS.out ?_; (try simp only [Act.put, List.setIfInBounds_toArray, List.set_cons_zero, List.set_cons_succ]))
                  | ((with_reducible refine atDst 88 ?_); refine wpList_eqSet_is rfl HEQ.out 24 22 (.tmp 86) (.tmp 87) 24 rfl guardSet Tryd.underlying24 Tryd.underlying22 sizeU64 rfl rfl ?_; (try simp only [Act.put, List.setIfInBounds_toArray, List.set_cons_zero, List.set_cons_succ])))
                go_ret
                rw [HR.out]
                exact ⟨rfl, HB.out⟩
              · have z6 : (y != 6) = true := by simpa using y6
                by_cases y2 : y = 2
                · have z2 : (y != 2) = false := by simpa using y2
                  have HR := Lib.hid (show r = false by rw [HRX.out, y2]; simp [fitsT])
                  clear y2 y6
                  go_wp2_with (first
                    | ((with_reducible refine atDst 86 ?_); refine wpList_ldMidG rfl 24 _ rfl w.heap.size 1 rfl (wds s) _ RS.out Tryd.underlying24 rfl (size_set s) ?_; (try simp only [Act.put, List.setIfInBounds_toArray, List.set_cons_zero, List.set_cons_succ]))
                    | ((with_reducible refine atDst 87 ?_); refine wpList_bld rfl 24 _ rfl (wds zs) HBS.out ?_; (try simp only [Act.put, List.setIfInBounds_toArray, List.set_cons_zero, List.set_cons_succ]))
                    | ((with_reducible refine atDst 88 ?_); refine wpList_eqSet_is rfl HEQ.out 24 22 (.tmp 86) (.tmp 87) 24 rfl guardSet Tryd.underlying24 Tryd.underlying22 sizeU64 rfl rfl ?_; (try simp only [Act.put, List.setIfInBounds_toArray, List.set_cons_zero, List.set_cons_succ])))
                  go_ret
                  rw [HR.out]
                  exact ⟨rfl, HB.out⟩
                · have z2 : (y != 2) = true := by simpa using y2
                  have HR := Lib.hid (show r = (y != 1) by
                    rw [HRX.out]
                    unfold fitsT
                    rw [if_neg y2, decide_eq_true y6, Bool.and_true, Bool.eq_iff_iff]
                    simp)
                  obtain ⟨c, hc⟩ : ∃ c, (y != 1) = c := ⟨_, rfl⟩
                  rw [hc] at HR
                  clear y2 y6
                  go_wp2_with (first
                    | ((with_reducible refine atDst 86 ?_); refine wpList_ldMidG rfl 24 _ rfl w.heap.size 1 rfl (wds s) _ RS.out Tryd.underlying24 rfl (size_set s) ?_; (try simp only [Act.put, List.setIfInBounds_toArray, List.set_cons_zero, List.set_cons_succ]))
                    | ((with_reducible refine atDst 87 ?_); refine wpList_bld rfl 24 _ rfl (wds zs) HBS.out ?_; (try simp only [Act.put, List.setIfInBounds_toArray, List.set_cons_zero, List.set_cons_succ]))
                    | ((with_reducible refine atDst 88 ?_); refine wpList_eqSet_is rfl HEQ.out 24 22 (.tmp 86) (.tmp 87) 24 rfl guardSet Tryd.underlying24 Tryd.underlying22 sizeU64 rfl rfl ?_; (try simp only [Act.put, List.setIfInBounds_toArray, List.set_cons_zero, List.set_cons_succ])))
                  go_ret
                  rw [HR.out]
                  exact ⟨rfl, HB.out⟩
            · have g1 : ((l.length : Int) == 1) = false := by rw [beq_eq_false_iff_ne]; omega
              have HR := Lib.hid (show r = false by rw [HP.out, hc6, decide_eq_false hl1]; simp)
              clear k1 k2 k3 k4 k5 k6 hc6 hl1
              go_wp2_with (first
                | ((with_reducible refine atDst 86 ?_); refine wpList_ldMidG rfl 24 _ rfl w.heap.size 1 rfl (wds s) _ RS.out Tryd.underlying24 rfl (size_set s) ?_; (try simp only [Act.put, List.setIfInBounds_toArray, List.set_cons_zero, List.set_cons_succ]))
                | ((with_reducible refine atDst 87 ?_); refine wpList_bld rfl 24 _ rfl (wds zs) HBS.out ?_; (try simp only [Act.put, List.setIfInBounds_toArray, List.set_cons_zero, List.set_cons_succ]))
                | ((with_reducible refine atDst 88 ?_); refine wpList_eqSet_is rfl HEQ.out 24 22 (.tmp 86) (.tmp 87) 24 rfl guardSet Tryd.underlying24 Tryd.underlying22 sizeU64 rfl rfl ?_; (try simp only [Act.put, List.setIfInBounds_toArray, List.set_cons_zero, List.set_cons_succ])))
              go_ret
              rw [HR.out]
              exact ⟨rfl, HB.out⟩
        have q6 : (k == 6) = false := by simpa using k6
        have HR := Lib.hid (show r = false by rw [HP.out, count_no k1 k2 k3 k4 k5 k6]; simp)
        clear k1 k2 k3 k4 k5 k6
        go_wp2_with fail
        go_ret
        rw [HR.out]
        exact ⟨rfl, HB.out⟩
end Go.Proofs.YtmlojjgddmnbmaaDoor
namespace Go.Proofs.YtmlojjgddmnbmaaDoor
open Go.RowKit
set_option linter.unusedSimpArgs false
set_option linter.unusedVariables false

/-- What is shown of an expression. -/
def showT (t : T) : List UInt8 := if plainT t = true ∧ (textT t).length ≤ 4000 then textT t else []
end Go.Proofs.YtmlojjgddmnbmaaDoor
