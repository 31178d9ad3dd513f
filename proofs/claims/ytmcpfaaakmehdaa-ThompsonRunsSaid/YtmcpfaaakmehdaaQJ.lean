/-
  Texts of this proof, put together: GrA, BsLs, RxG. No statement is proved here.
-/
import Derived.Test.YtmcpfaaakmehdaaQA
import Derived.Sort.Grow
import Derived.Shelf.Spec.TrailingZeros
import Derived.Test.YtmcpfaaakmehdaaQB
import Derived.Test.YtmcpfaaakmehdaaQC
namespace Go.Proofs.Ytmcpfaaakmehdaa
open Go.RowKit
set_option linter.unusedSimpArgs false
set_option linter.unusedVariables false
def Gr (w w' : World) : Prop := ∃ q os, w' = Sort.grow (w.drewN q) os
theorem Gr.refl (w : World) : Gr w w := ⟨0, #[], by rw [Sort.grow_empty]; rfl⟩
theorem Gr.alloc {w w' : World} (h : Gr w w') (o : Obj) : Gr w (w'.alloc o) := by
 obtain ⟨q, os, rfl⟩ := h
 exact ⟨q, os ++ #[o], by rw [Sort.alloc_eq_grow, Sort.grow_grow]⟩
theorem grow_drewN (w : World) (os : Array Obj) (n : Nat) : (Sort.grow w os).drewN n = Sort.grow (w.drewN n) os := rfl
theorem Gr.drewN {w w' : World} (h : Gr w w') (n : Nat) : Gr w (w'.drewN n) := by
 obtain ⟨q, os, rfl⟩ := h
 exact ⟨q + n, os, by rw [grow_drewN, World.drewN_drewN]⟩
theorem Gr.trans {w w' w'' : World} (h : Gr w w') (k : Gr w' w'') : Gr w w'' := by
 obtain ⟨q, os, rfl⟩ := h
 obtain ⟨r, os', rfl⟩ := k
 exact ⟨q + r, os ++ os', by rw [grow_drewN, World.drewN_drewN, Sort.grow_grow]⟩
theorem Gr.below {w w' : World} (h : Gr w w') : Below w.heap.size w w' := by
 obtain ⟨q, os, rfl⟩ := h
 refine ⟨rfl, rfl, rfl, by simp [Sort.grow], fun k hk => ?_⟩
 show (w.heap ++ os)[k]? = _
 rw [Array.getElem?_append_left hk]
theorem wpList_boxE {P : Program} {w : World} {ops : Array Oper} {rest : List Oper} {o : Oper} {a : Act} {Q : Exit → Act → World → Prop} (hgd : Region.wanted o (yielded ops a.tmps) = true) (ty : TypeId) (x : Operand) (ho : o.op = .box ty x) (cs : List Value) (hx : a.eval x = .agg cs.toArray)
  (h : ∀ w', Blk w' w.heap.size ty cs → Gr w w' → w'.heap.size = w.heap.size + 1 → (∀ k, k < w.heap.size → w'.heap[k]? = w.heap[k]?) → wpList P ops Q rest (a.put o.dst (.pointer (some ⟨w.heap.size, 0, none⟩))) w') :
  wpList P ops Q (o :: rest) a w := by
 refine BigFrame.wpList_want hgd fun K hK => ?_
 unfold Oper.wp
 have hrun : (Instr.box ty (.agg cs.toArray)).run P w = .ok (.pointer (some ⟨w.heap.size, 0, none⟩)) (w.alloc (.cells cs.toArray ty)) := by
  simp [Instr.box, newVar, Value.cells, run_newRow_blk]
 simp only [execOp, ho, hx, hrun, Sem.run_bind, Result.andThen_ok, Sem.run_pure]
 exact hK _ _ (h _ (Blk.new w ty cs) ((Gr.refl w).alloc _) (by simp) (fun k hk => Below.heap_alloc w _ k hk))
theorem Gr.of {w w' : World} (h : Below w.heap.size w w') (hd : w.drawn ≤ w'.drawn) : Gr w w' := by
 refine ⟨w'.drawn - w.drawn, w'.heap.extract w.heap.size w'.heap.size, ?_⟩
 have hh : w'.heap = w.heap ++ w'.heap.extract w.heap.size w'.heap.size := by
  apply Array.ext_getElem?
  intro i
  by_cases hi : i < w.heap.size
  ·rw [Array.getElem?_append_left hi]
   exact h.block i hi
  ·rw [Array.getElem?_append_right (by omega), Array.getElem?_extract]
   have hs := h.size
   by_cases h2 : i < w'.heap.size
   ·rw [if_pos (by omega)]
    congr 1
    omega
   ·rw [if_neg (by omega), Array.getElem?_eq_none (by omega)]
 obtain ⟨heap, tape, drawn, os, output⟩ := w
 obtain ⟨heap', tape', drawn', os', output'⟩ := w'
 have h1 := h.os
 have h2 := h.tape
 have h3 := h.output
 simp only at h1 h2 h3 hh hd
 subst h1 h2 h3
 unfold Sort.grow World.drewN
 simp only [World.mk.injEq, and_true, true_and]
 exact ⟨hh, by omega⟩
theorem Gr.drawn {w w' : World} (h : Gr w w') : w.drawn ≤ w'.drawn := by
 obtain ⟨q, os, rfl⟩ := h
 show w.drawn ≤ w.drawn + q
 omega
theorem Gr.size {w w' : World} (h : Gr w w') : w.heap.size ≤ w'.heap.size := h.below.size
section
variable {P : Program} {w : World} {ops : Array Oper} {rest : List Oper} {o : Oper} {a : Act} {Q : Exit → Act → World → Prop}
theorem wpList_newE {w0 : World} (hgd : Region.wanted o (yielded ops a.tmps) = true) (ty : TypeId) (ho : o.op = .alloc ty) (i : TypeInfo) (z : Value) (cs : List Value) (hi : P.info? ty = some i) (hz : i.zero = some z) (hc : z.cells = cs.toArray)
  (hb : Gr w0 w)
  (h : ∀ w', Blk w' w.heap.size ty cs → Gr w0 w' → w'.heap.size = w.heap.size + 1 → (∀ k, k < w.heap.size → w'.heap[k]? = w.heap[k]?) → wpList P ops Q rest (a.put o.dst (.pointer (some ⟨w.heap.size, 0, none⟩))) w') :
  wpList P ops Q (o :: rest) a w := by
 refine BigFrame.wpList_want hgd fun K hK => ?_
 unfold Oper.wp
 have hrun : (Instr.alloc ty true (.tuple #[])).run P w = .ok (.pointer (some ⟨w.heap.size, 0, none⟩)) (w.alloc (.cells cs.toArray ty)) := by
  have hzv : (zeroValue ty).run P w = .ok z w := by simp [zeroValue, typeInfo, hi, hz]
  simp [Instr.alloc, hzv, newVar, hc, run_newRow_blk]
 simp only [execOp, ho, hrun, Sem.run_bind, Result.andThen_ok, Sem.run_pure]
 exact hK _ _ (h _ (Blk.new w ty cs) (hb.alloc _) (by simp) (fun k hk => Below.heap_alloc w _ k hk))
theorem wpList_stE {w0 : World} (hgd : o.guard = none) (ty : TypeId) (x y : Operand) (ho : o.op = .store ty x y)
  (g : Nat) (cs : List Value) (hx : a.eval x = .pointer (some ⟨g, 0, none⟩)) (hy : a.eval y = .agg cs.toArray)
  (t : TypeId) (old : List Value) (hg : Blk w g t old) (hi : (P.info? ty).map (·.size) = some cs.length)
  (hold : old.length = cs.length) (h1 : cs.all (·.oneCell') = true) (hb : Gr w0 w) (hB : w0.heap.size ≤ g)
  (h : ∀ w', Blk w' g t cs → Gr w0 w' → w'.heap.size = w.heap.size → (∀ k, k ≠ g → w'.heap[k]? = w.heap[k]?) → wpList P ops Q rest (a.put o.dst undef) w') : wpList P ops Q (o :: rest) a w :=
 wpList_store_row hgd ty x y ho g cs.toArray hx hy t old.toArray hg (by simpa using hi) (by simpa using hold) (by simpa using h1)
  (h _ (setRow_heap w g old.toArray cs.toArray t (0, 0) hg) (Gr.of (below_setRow hb.below hB _) hb.drawn) (by simp) (fun k hk => setRow_other w g k _ hk))
end
theorem low_word (q : Nat → Bool) (y k : Nat) (hy : y = wd q 64) (h0 : y ≠ 0) (hk : k = Lib.ctz 64 y) :
  k < 64 ∧ q k = true ∧ (∀ j, j < k → q j = false) ∧ y &&& (y - 1) = wd (fun j => q j && decide (k + 1 ≤ j)) 64 ∧ y &&& (y - 1) < y := by
 have hlt : y < 2 ^ 64 := by rw [hy]; exact wd_lt q 64
 obtain ⟨m, hm, hk2⟩ := Lib.ctzFrom_spec 64 y (by omega) hlt
 have ek : Lib.ctz 64 y = Lib.ctzFrom 64 y := by simp [Lib.ctz, h0]
 rw [← ek, ← hk] at hm hk2
 have T : ∀ j, y.testBit j = (decide (j < 64) && q j) := fun j => by rw [hy]; exact wd_bit q 64 j
 have T2 : ∀ j, y.testBit j = (decide (j ≥ k) && (2 * m + 1).testBit (j - k)) := fun j => by rw [hm]; exact Nat.testBit_two_pow_mul
 have hp : 0 < 2 ^ k := Nat.pow_pos (by omega)
 have e1 : y - 1 = 2 ^ k * (2 * m) + (2 ^ k - 1) := by rw [hm, Nat.mul_add, Nat.mul_one]; omega
 have T3 : ∀ j, (y - 1).testBit j = if j < k then (2 ^ k - 1).testBit j else (2 * m).testBit (j - k) := fun j => by rw [e1]; exact Nat.testBit_two_pow_mul_add _ (by omega) j
 refine ⟨hk2, ?_, ?_, ?_, Nat.lt_of_le_of_lt Nat.and_le_right (by omega)⟩
 ·have h1 := T k
  rw [T2 k] at h1
  simpa [hk2, Nat.testBit_zero] using h1.symm
 ·intro j hj
  have h1 := T j
  rw [T2 j] at h1
  have : ¬ (j ≥ k) := by omega
  simpa [this, show j < 64 by omega] using h1.symm
 ·apply Nat.eq_of_testBit_eq
  intro j
  rw [Nat.testBit_and, wd_bit, T3, T]
  by_cases h1 : j < k
  ·have h2 := T j
   rw [T2 j] at h2
   have h3 : ¬ (j ≥ k) := by omega
   have h4 : ¬ (k + 1 ≤ j) := by omega
   have h5 : (decide (j < 64) && q j) = false := by rw [← h2]; simp [h3]
   simp [h4, h5]
  ·rw [if_neg h1]
   by_cases h2 : j = k
   ·subst h2
    simp [Nat.testBit_zero]
   ·obtain ⟨d, rfl⟩ : ∃ d, j = k + (d + 1) := ⟨j - k - 1, by omega⟩
    have h3 : k + (d + 1) - k = d + 1 := by omega
    have h4 := T (k + (d + 1))
    rw [T2 (k + (d + 1)), h3, Nat.testBit_succ, show (2 * m + 1) / 2 = m by omega] at h4
    rw [h3, Nat.testBit_succ, show 2 * m / 2 = m by omega]
    have h5 : k + 1 ≤ k + (d + 1) := by omega
    have h6 : k + (d + 1) ≥ k := by omega
    simp only [h6, decide_true, Bool.true_and] at h4
    simp only [h5, decide_true, Bool.and_true]
    rw [← h4]
    cases m.testBit d <;> simp
/-! ### one word of two sets -/
theorem word_xor (p q : Nat → Bool) (i : Nat) : word p i ^^^ word q i = wd (fun j => p (64 * i + j) != q (64 * i + j)) 64 := by
 apply Nat.eq_of_testBit_eq
 intro j
 rw [Nat.testBit_xor]
 simp only [word, wd_bit]
 cases decide (j < 64) <;> simp
theorem neg_wrap (d : Nat) (h0 : d ≠ 0) (h : d < 18446744073709551616) : IntKind.u64.wrap (-(d : Int)) = ((18446744073709551616 - d : Nat) : Int) := by
 rw [IntKind.wrap_u64]
 omega
theorem and_pow (x k : Nat) : x &&& 2 ^ k = if x.testBit k then 2 ^ k else 0 := by
 apply Nat.eq_of_testBit_eq
 intro j
 rw [Nat.testBit_and, Nat.testBit_two_pow]
 by_cases hj : k = j
 ·subst hj
  cases h : x.testBit k <;> simp [h]
 ·cases h : x.testBit k <;> simp [hj, Nat.testBit_two_pow]
theorem less_word (p q : Nat → Bool) (i d : Nat) (hi : i < 4) (hd : d = word p i ^^^ word q i) (h0 : d ≠ 0) (hb : ∀ b, b < 64 * i → p b = q b) :
  ((((word p i) &&& (d &&& (18446744073709551616 - d)) : Nat) : Int) != 0) = lessS p q := by
 have hlt : d < 2 ^ 64 := by rw [hd]; exact Nat.xor_lt_two_pow (word_lt p i) (word_lt q i)
 obtain ⟨hlow, hk64⟩ := Lib.lowest_bit 64 d h0 hlt
 obtain ⟨k, hk⟩ : ∃ k, k = Lib.ctz 64 d := ⟨_, rfl⟩
 obtain ⟨h1, h2, h3, _, _⟩ := low_word _ d k (by rw [hd, word_xor]) h0 hk
 rw [show (18446744073709551616 : Nat) = 2 ^ 64 from rfl, hlow, ← hk]
 have hle := lessS_at (p := p) (q := q) (j := 64 * i + k) (by omega) (fun b hb2 => by
  by_cases hb3 : b < 64 * i
  ·exact hb b hb3
  ·have := h3 (b - 64 * i) (by omega)
   rw [show 64 * i + (b - 64 * i) = b by omega] at this
   simpa using this) (by simpa using h2)
 rw [hle]
 have hbit := wd_bit (fun j => p (64 * i + j)) 64 k
 rw [decide_eq_true h1, Bool.true_and] at hbit
 have hw : (word p i).testBit k = p (64 * i + k) := hbit
 rw [and_pow, hw]
 have hp : 0 < 2 ^ k := Nat.pow_pos (by omega)
 cases p (64 * i + k)
 ·rfl
 ·simp only [if_true, bne_iff_ne, ne_eq]
  omega
theorem less_same (p q : Nat → Bool) (i : Nat) (h0 : word p i ^^^ word q i = 0) (hb : ∀ b, b < 64 * i → p b = q b) : ∀ b, b < 64 * (i + 1) → p b = q b := by
 intro b hb2
 by_cases hb3 : b < 64 * i
 ·exact hb b hb3
 ·rw [word_xor] at h0
  have := wd_zero h0 (b - 64 * i) (by omega)
  rw [show 64 * i + (b - 64 * i) = b by omega] at this
  simpa using this
set_option maxHeartbeats 4000000 in
set_option maxRecDepth 100000 in
theorem bsLess_gr (p q : Nat → Bool) (w : World) :
  Calls Try.prog 102 #[.agg (wds p).toArray, .agg (wds q).toArray] w fun e w' => e = .returned (.bool (lessS p q)) ∧ Gr w w' := by
 go_enter Try.func102, Try.ntmps102
 go_wp2_with (first
  | ((with_reducible refine atDst 2 ?_); refine wpList_boxE rfl 37 _ rfl (wds p) rfl ?_; intro w1 hk1 hb1 hs1 _; have K1 := qH hk1; have G1 := qH hb1; clear hk1 hb1 hs1)
  | ((with_reducible refine atDst 3 ?_); refine wpList_boxE rfl 37 _ rfl (wds q) rfl ?_; intro w2 hk2 hb2 hs2 ho2; have L2 := qH hk2; have G2 := qH (G1.out.trans hb2); have K2 := qH (show Blk w2 w.heap.size 37 (wds p) from (ho2 _ K1.out.lt).trans K1.out); clear hk2 hb2 hs2 ho2))
 go_loopw [7] (fun i wl => ∃ j n : Nat, j ≤ 4 ∧ i = .int .i64 (j : Int) ∧ wl = w2.drewN n ∧ ∀ b, b < 64 * j → p b = q b) (fun i _ => 4 - (intOf i).toNat)
 case atStart => exact ⟨0, 0, by omega, by simp, rfl, fun b hb => by omega⟩
 case round =>
  obtain ⟨j, n, hj, rfl, hwl, hb⟩ := hrel
  have HW := qH hwl
  have HB := qH hb
  have KR := qH (show Blk wr w.heap.size 37 (wds p) by rw [hwl]; exact K2.out)
  have LR := qH (show Blk wr w1.heap.size 37 (wds q) by rw [hwl]; exact L2.out)
  clear hwl hb
  by_cases hjl : j < 4
  ·have j1 : (j : Int) < 4 := by omega
   have hcp := KR.out.cell j
   rw [wds_get p j hjl] at hcp
   have hcq := LR.out.cell j
   rw [wds_get q j hjl] at hcq
   have HLP := qH (word_lt p j)
   have HLQ := qH (word_lt q j)
   have HLW := qH (fun d hd h0 => less_word p q j d hjl hd h0 HB.out)
   have HSM := qH (less_same p q j)
   obtain ⟨x, hx⟩ : ∃ x, x = word p j := ⟨_, rfl⟩
   obtain ⟨y, hy⟩ : ∃ y, y = word q j := ⟨_, rfl⟩
   rw [← hx] at hcp HLP HLW HSM
   rw [← hy] at hcq HLQ HLW HSM
   clear hx hy
   obtain ⟨d, hd⟩ : ∃ d, d = x ^^^ y := ⟨_, rfl⟩
   have HD := qH hd
   have hxy : bits .xor .u64 (x : Int) (y : Int) = (d : Int) := by rw [u64_xor_nat x y HLP.out HLQ.out, hd]
   have HLD := qH (show d < 18446744073709551616 by rw [hd]; exact Nat.xor_lt_two_pow (n := 64) HLP.out HLQ.out)
   clear hd
   by_cases h0 : d = 0
   ·have hdb : ((d : Int) != 0) = false := by rw [h0]; rfl
    have HN := qH (HSM.out (by rw [← HD.out]; exact h0) HB.out)
    clear h0
    go_wp2_with fail
    go_quiet (fail)
    go_wp2_with fail
    exact ⟨⟨j + 1, n + nq, by omega, by congr 1, by rw [HW.out, World.drewN_drewN], HN.out⟩, by simp [intOf] <;> omega⟩
   ·have hdb : ((d : Int) != 0) = true := by simpa using h0
    have HA := qH (HLW.out d HD.out h0)
    have hng := neg_wrap d h0 HLD.out
    obtain ⟨e, he⟩ : ∃ e, e = 18446744073709551616 - d := ⟨_, rfl⟩
    have HLE := qH (show e < 18446744073709551616 by have := HLD.out; omega)
    rw [← he] at hng HA
    obtain ⟨f, hf⟩ : ∃ f, f = d &&& e := ⟨_, rfl⟩
    have hde : bits .and .u64 (d : Int) (e : Int) = (f : Int) := by rw [u64_and_nat d e HLD.out HLE.out, hf]
    rw [← hf] at HA
    have HLF := qH (show f < 18446744073709551616 by rw [hf]; exact Nat.lt_of_le_of_lt Nat.and_le_left HLD.out)
    have hxf : bits .and .u64 (x : Int) (f : Int) = ((x &&& f : Nat) : Int) := u64_and_nat x f HLP.out HLF.out
    obtain ⟨g, hg⟩ : ∃ g, g = x &&& f := ⟨_, rfl⟩
    rw [← hg] at HA hxf
    clear he hf hg h0
    go_wp2_with fail
    go_quiet (fail)
    go_wp2_with fail
    go_ret
    rw [HA.out, HW.out]
    exact ⟨rfl, (G2.out.drewN _).drewN _⟩
  ·obtain rfl : j = 4 := by omega
   have j1 : ¬ ((4 : Int) < 4) := by omega
   have HL := qH (lessS_none HB.out)
   go_wp2_with fail
   go_ret
   rw [HL.out, HW.out]
   exact ⟨rfl, G2.out.drewN _⟩
set_option maxHeartbeats 2000000 in
set_option maxRecDepth 100000 in
theorem isNaN_any (x : Int) (w : World) : Calls Try.prog 100 #[.int .i64 x] w fun e w' => e = .returned (.bool false) ∧ w' = w := by
 go_enter Try.func100, Try.ntmps100
 have h : (x != x) = false := by simp
 go_wp2_with fail
 go_ret
 first | exact ⟨rfl, rfl⟩ | simp
set_option maxHeartbeats 2000000 in
set_option maxRecDepth 100000 in
theorem cmpInt_any (x y : Int) (w : World) : Calls Try.prog 101 #[.int .i64 x, .int .i64 y] w fun e w' => e = .returned (.int .i64 (kindD x y)) ∧ w' = w := by
 go_enter Try.func101, Try.ntmps101
 go_wp2_with fail
 refine (isNaN_any x w).mono ?_
 rintro e w1 ⟨rfl, rfl⟩
 go_wp2_with fail
 refine (isNaN_any y w1).mono ?_
 rintro e w2 ⟨rfl, rfl⟩
 by_cases h1 : x < y
 ·have hk : kindD x y = -1 := by unfold kindD; rw [if_neg (by omega), if_pos h1]
  go_wp2_with fail
  go_ret
  rw [hk]
  exact ⟨rfl, rfl⟩
 ·by_cases h2 : y < x
  ·have hk : kindD x y = 1 := by unfold kindD; rw [if_neg (by omega), if_neg h1]
   go_wp2_with fail
   go_ret
   rw [hk]
   exact ⟨rfl, rfl⟩
  ·have hk : kindD x y = 0 := by unfold kindD; rw [if_pos (by omega)]
   go_wp2_with fail
   go_ret
   rw [hk]
   exact ⟨rfl, rfl⟩
abbrev cmpV : Value := .func (.func 94) #[] #[]
set_option maxHeartbeats 4000000 in
set_option maxRecDepth 100000 in
theorem cmpFunc_gr (l m : List T) (v v' : Value) (w : World) (hl : RowT w.heap.size w v l) (hm : RowT w.heap.size w v' m) (hn : l.length ≤ 1099511627776)
  (hcmp : ∀ a ∈ l, ∀ (b : T) (cs ds : List Value) (w1 : World), RxV w1.heap.size w1 cs a → RxV w1.heap.size w1 ds b → Calls Try.prog 94 #[.agg cs.toArray, .agg ds.toArray] w1 fun e w' => e = .returned (.int .i64 (cmpT a b)) ∧ Gr w1 w') :
  Calls Try.prog 103 #[v, v', cmpV] w fun e w' => e = .returned (.int .i64 (cmpL l m)) ∧ Gr w w' := by
 have IH := qH hcmp
 clear hcmp
 obtain ⟨A, cap, f, rfl, h1, h2, h0, h3, h4⟩ := hl
 obtain ⟨A', cap', f', rfl, h1', h2', h0', h3', h4'⟩ := hm
 have H3 := qH h3
 have H4 := qH h4
 have H3' := qH h3'
 have H4' := qH h4'
 have HN := qH hn
 obtain ⟨i0, hi0, hz0, hz1, hz2⟩ := infoP inf_rx
 obtain ⟨z, hz⟩ : ∃ z, z = Value.int .i64 0 :: (wds (fun _ => false) ++ [Value.slice none 0 0]) := ⟨_, rfl⟩
 have HZL := qH (show z.length = 6 by rw [hz]; rfl)
 have HZ0 := qH (show i0.zero = some (.agg z.toArray) by rw [hz]; exact hz0)
 clear h1 h2 h0 h3 h4 h1' h2' h0' h3' h4' hn hz hz0 hz1 hz2
 go_enter Try.func103, Try.ntmps103
 go_wp2_with fail
 go_loopw [13] (fun i wl => ∃ j : Nat, j ≤ l.length ∧ j ≤ m.length ∧ i = .int .i64 (j : Int) ∧ (∀ (i : Nat) (a b : T), i < j → l[i]? = some a → m[i]? = some b → cmpT a b = 0) ∧ Gr w wl) (fun i _ => l.length - (intOf i).toNat)
 case atStart => exact ⟨0, by omega, by omega, by simp, fun i a b h => by omega, Gr.refl _⟩
 case round =>
  obtain ⟨j, hj, hjm0, rfl, hsm, hb⟩ := hrel
  have HSM := qH hsm
  have HB := qH hb
  have HBB := qH hb.below
  clear hsm hb
  by_cases hjl : j < l.length
  ·have j1 : (j : Int) < (l.length : Int) := Int.ofNat_lt.2 hjl
   obtain ⟨b, off, rfl, hb, hrng⟩ := H3.out (by rintro rfl; simp at hjl)
   obtain ⟨a, ha⟩ : ∃ a, l[j]? = some a := ⟨_, List.getElem?_eq_getElem hjl⟩
   have HV := qH (RxV.part H4.out HBB.out HBB.out.size ha)
   have HRG := qH (range_below (hrng j hjl) HBB.out hb)
   have HAL := qH (List.mem_of_getElem? ha)
   have HAJ := qH ha
   have hj62 : j ≤ 4611686018427387904 := by have := HN.out; omega
   have e3 := wrap_one j hj62
   have e4 := wrap_one' j hj62
   have HG0 := qH HBB.out.size
   clear hrng ha hj62 hb
   by_cases hjm : j < m.length
   ·have j2 : ¬ ((j : Int) ≥ (m.length : Int)) := by omega
    obtain ⟨b', off', rfl, hb', hrng'⟩ := H3'.out (by rintro rfl; simp at hjm)
    obtain ⟨c, hc⟩ : ∃ c, m[j]? = some c := ⟨_, List.getElem?_eq_getElem hjm⟩
    have HV' := qH (RxV.part H4'.out HBB.out HBB.out.size hc)
    have HRG' := qH (range_below (hrng' j hjm) HBB.out hb')
    have HB2 := qH (Nat.lt_of_lt_of_le hb' HBB.out.size)
    have HCJ := qH hc
    clear hrng' hc hb'
    go_wp2_with (first
     | ((with_reducible refine atDst 17 ?_); refine wpList_load_mid rfl 40 _ rfl b (off + j * 6) rfl (f j) _ HRG.out Try.underlying40 rfl (size_rx HV.out.length) ?_)
     | ((with_reducible refine atDst 8 ?_); refine wpList_newE rfl 40 rfl i0 _ z hi0 HZ0.out rfl (Gr.refl wr) ?_; intro w2 hk2 hg2 hs2 _; have K2 := qH hk2; have G2 := qH hg2; clear hk2 hg2 hs2)
     | ((with_reducible refine atStore 40 8 17 ?_); refine wpList_stE rfl 40 _ _ rfl wr.heap.size (f j) rfl rfl 40 _ K2.out (size_rx HV.out.length) (by rw [HZL.out, HV.out.length]) (List.all_eq_true.2 HV.out.one) G2.out (Nat.le_refl _) ?_; intro w3 hk3 hg3 hs3 _; have K3 := qH hk3; have G3 := qH hg3; have HRG3 := qH (range_below HRG'.out hg3.below HB2.out); clear hk3 hg3 hs3)
     | ((with_reducible refine atDst 25 ?_); refine wpList_load_mid rfl 40 _ rfl b' (off' + j * 6) rfl (f' j) _ HRG3.out Try.underlying40 rfl (size_rx HV'.out.length) ?_)
     | ((with_reducible refine atDst 9 ?_); refine wpList_newE rfl 40 rfl i0 _ z hi0 HZ0.out rfl G3.out ?_; intro w4 hk4 hg4 hs4 ho4; have L4 := qH hk4; have G4 := qH hg4; have K4 := qH (show Blk w4 wr.heap.size 40 (f j) from (ho4 _ K3.out.lt).trans K3.out); have HS3 := qH K3.out.lt; clear hk4 hg4 hs4 ho4)
     | ((with_reducible refine atStore 40 9 25 ?_); refine wpList_stE rfl 40 _ _ rfl w3.heap.size (f' j) rfl rfl 40 _ L4.out (size_rx HV'.out.length) (by rw [HZL.out, HV'.out.length]) (List.all_eq_true.2 HV'.out.one) G4.out (Nat.le_of_lt HS3.out) ?_; intro w5 hk5 hg5 hs5 ho5; have L5 := qH hk5; have G5 := qH hg5; have K5 := qH (show Blk w5 wr.heap.size 40 (f j) from (ho5 _ (Nat.ne_of_lt HS3.out)).trans K4.out); clear hk5 hg5 hs5 ho5)
     | ((with_reducible refine atDst 27 ?_); refine wpList_ldArr rfl 40 _ rfl wr.heap.size rfl 40 _ _ K5.out Try.underlying40 rfl (size_rx HV.out.length) ?_)
     | ((with_reducible refine atDst 28 ?_); refine wpList_ldArr rfl 40 _ rfl w3.heap.size rfl 40 _ _ L5.out Try.underlying40 rfl (size_rx HV'.out.length) ?_))
    have V5 := qH ((HV.out.stay G5.out.below).mono G5.out.size)
    have V5' := qH ((HV'.out.stay G5.out.below).mono G5.out.size)
    refine (IH.out a HAL.out c (f j) (f' j) w5 V5.out V5'.out).mono ?_
    rintro e w6 ⟨rfl, hg6⟩
    have G6 := qH (HB.out.trans (G5.out.trans hg6))
    clear hg6
    obtain ⟨x, hx⟩ : ∃ x, cmpT a c = x := ⟨_, rfl⟩
    rw [hx]
    have HX := qH hx
    clear hx
    by_cases hx0 : x = 0
    ·have hxb : (x != 0) = false := by simpa using hx0
     have HX0 := qH (HX.out.trans hx0)
     clear hx0
     go_wp2_with fail
     refine ⟨⟨j + 1, by omega, by omega, by congr 1, fun i a2 b2 hi ha2 hb2 => ?_, G6.out⟩, by simp [intOf] <;> omega⟩
     by_cases hij : i < j
     ·exact HSM.out i a2 b2 hij ha2 hb2
     ·obtain rfl : i = j := by omega
      rw [HAJ.out] at ha2
      rw [HCJ.out] at hb2
      obtain rfl := Option.some.inj ha2
      obtain rfl := Option.some.inj hb2
      exact HX0.out
    ·have hxb : (x != 0) = true := by simpa using hx0
     have HF := qH (show cmpL l m = x by rw [← HX.out]; exact cmpL_at l m j a c HSM.out HAJ.out HCJ.out (by rw [HX.out]; exact hx0))
     clear hx0
     go_wp2_with fail
     go_ret
     rw [HF.out]
     exact ⟨rfl, G6.out⟩
   ·have j2 : ((j : Int) ≥ (m.length : Int)) := by omega
    have hjm' : j = m.length := by omega
    have HF := qH (show cmpL l m = 1 by
     rw [cmpL_end l m fun i x y hx hy => HSM.out i x y (by have := (List.getElem?_eq_some_iff.1 hy).1; omega) hx hy, if_neg (by omega), if_pos (by omega)])
    clear hjm'
    go_wp2_with (first
     | ((with_reducible refine atDst 17 ?_); refine wpList_load_mid rfl 40 _ rfl b (off + j * 6) rfl (f j) _ HRG.out Try.underlying40 rfl (size_rx HV.out.length) ?_)
     | ((with_reducible refine atDst 8 ?_); refine wpList_newE rfl 40 rfl i0 _ z hi0 HZ0.out rfl (Gr.refl wr) ?_; intro w2 hk2 hg2 hs2 _; have K2 := qH hk2; have G2 := qH hg2; clear hk2 hg2 hs2)
     | ((with_reducible refine atStore 40 8 17 ?_); refine wpList_stE rfl 40 _ _ rfl wr.heap.size (f j) rfl rfl 40 _ K2.out (size_rx HV.out.length) (by rw [HZL.out, HV.out.length]) (List.all_eq_true.2 HV.out.one) G2.out (Nat.le_refl _) ?_; intro w3 hk3 hg3 hs3 _; have K3 := qH hk3; have G3 := qH hg3; clear hk3 hg3 hs3))
    go_ret
    rw [HF.out]
    exact ⟨rfl, HB.out.trans G3.out⟩
  ·obtain rfl : j = l.length := by omega
   have j1 : ¬ ((l.length : Int) < (l.length : Int)) := by omega
   have hend := cmpL_end l m fun i x y hx hy => HSM.out i x y (List.getElem?_eq_some_iff.1 hx).1 hx hy
   by_cases hlm : l.length < m.length
   ·have j2 : (l.length : Int) < (m.length : Int) := by omega
    rw [if_pos hlm] at hend
    have HF := qH hend
    clear hend hlm
    go_wp2_with fail
    go_ret
    rw [HF.out]
    exact ⟨rfl, HB.out⟩
   ·have j2 : ¬ (l.length : Int) < (m.length : Int) := by omega
    rw [if_neg hlm, if_neg (by omega)] at hend
    have HF := qH hend
    clear hend hlm
    go_wp2_with fail
    go_ret
    rw [HF.out]
    exact ⟨rfl, HB.out⟩
theorem RowT.monoB {B B' : Nat} {w : World} {v : Value} {l : List T} (h : RowT B w v l) (hB : B ≤ B') : RowT B' w v l := by
 obtain ⟨A, cap, f, hv, h1, h2, h0, h3, h4⟩ := h
 refine ⟨A, cap, f, hv, h1, h2, h0, fun hne => ?_, fun i t ht => (h4 i t ht).mono hB⟩
 obtain ⟨b, off, hA, hlt, hc⟩ := h3 hne
 exact ⟨b, off, hA, Nat.lt_of_lt_of_le hlt hB, hc⟩
set_option maxHeartbeats 8000000 in
set_option maxRecDepth 100000 in
theorem rxCompare_gr : ∀ (N : Nat) (t u : T), t.nodes ≤ N → t.nodes ≤ 1099511627776 → ∀ (cs ds : List Value) (w : World), RxV w.heap.size w cs t → RxV w.heap.size w ds u →
  Calls Try.prog 94 #[.agg cs.toArray, .agg ds.toArray] w fun e w' => e = .returned (.int .i64 (cmpT t u)) ∧ Gr w w' := by
 intro N
 induction N with
 | zero => intro t u h; have := nodes_pos t; omega
 | succ N ih =>
  rintro ⟨k, s, l⟩ ⟨k', s', m⟩ hN hM cs ds w hv hv'
  have IH := qH ih
  clear ih
  obtain ⟨v, rfl, hrt⟩ := hv.row
  obtain ⟨v', rfl, hrt'⟩ := hv'.row
  have RT := qH hrt
  have RT' := qH hrt'
  have HNN := qH (show T.nodes (.node k s l) = 1 + nodesL l by simp only [T.nodes])
  have HSS := qH (cmpT_lex k k' s s' l m)
  rw [HNN.out] at hN hM
  rw [HSS.out]
  have HLN := qH (show l.length ≤ 1099511627776 by have := len_nodes l; omega)
  have HMB := qH (fun a (ha : a ∈ l) => show a.nodes ≤ N by have := nodes_mem ha; omega)
  have HMC := qH (fun a (ha : a ∈ l) => show a.nodes ≤ 1099511627776 by have := nodes_mem ha; omega)
  obtain ⟨A, cap, _, rfl, _⟩ := hrt
  obtain ⟨A', cap', _, rfl, _⟩ := hrt'
  obtain ⟨cs, hcs⟩ : ∃ cs, cs = Value.int .i64 k :: (wds s ++ [.slice A l.length cap]) := ⟨_, rfl⟩
  have HC0 := qH (show cs[0]? = some (.int .i64 k) by rw [hcs]; rfl)
  have HC5 := qH (show cs[5]? = some (.slice A l.length cap) by rw [hcs]; rfl)
  have HCS := qH hcs
  obtain ⟨ds, hds⟩ : ∃ ds, ds = Value.int .i64 k' :: (wds s' ++ [.slice A' m.length cap']) := ⟨_, rfl⟩
  have HD0 := qH (show ds[0]? = some (.int .i64 k') by rw [hds]; rfl)
  have HD5 := qH (show ds[5]? = some (.slice A' m.length cap') by rw [hds]; rfl)
  have HDS := qH hds
  rw [← hcs, ← hds]
  clear hv hv' hN hM hcs hds
  by_cases hk : k = k'
  ·have hkd : kindD k k' = 0 := if_pos hk
   rw [hkd, lex_zero]
   have HK := qH hk
   clear hk
   by_cases h3k : k = 3
   ·have h3b : (k == 3) = true := by simpa using h3k
    have HNE0 := qH h3k
    cases hs : eqS s s' with
    | false =>
     have HNE := qH (show (!eqS s s') = true by rw [hs]; rfl)
     cases hl : lessS s s' with
     | true =>
      have HF := qH (show lex (setD k s s') (cmpL l m) = -1 by unfold setD; rw [if_pos h3k, hs, hl]; rfl)
      rw [HF.out]
      have HL := qH hl
      clear hl hs h3k
      go_enter Try.func94, Try.ntmps94
      go_wp2_with (first
       | ((with_reducible refine atDst 2 ?_); refine wpList_boxE rfl 40 _ rfl cs rfl ?_; intro w1 hk1 hb1 hs1 _; have K1 := qH hk1; have B1 := qH hb1; clear hk1 hb1 hs1)
       | ((with_reducible refine atDst 3 ?_); refine wpList_boxE rfl 40 _ rfl ds rfl ?_; intro w2 hk2 hb2 hs2 ho2; have L2 := qH hk2; have B2 := qH (B1.out.trans hb2); have K2 := qH (show Blk w2 w.heap.size 40 cs from (ho2 _ K1.out.lt).trans K1.out); have a0 := K2.out.cell 0; rw [HC0.out] at a0; have b0 := L2.out.cell 0; rw [HD0.out] at b0; have a5 := K2.out.cell 5; rw [HC5.out] at a5; have b5 := L2.out.cell 5; rw [HD5.out] at b5; have RS := qH (set_range' HCS.out K2.out); have RS' := qH (set_range' HDS.out L2.out); clear hk2 hb2 hs2 ho2 K1 B1))
      refine (cmpInt_any k k' w2).mono ?_
      rintro e w3 ⟨rfl, rfl⟩
      rw [hkd]
      go_wp2_with (first
       | ((with_reducible refine atDst 19 ?_); refine wpList_ldMidG rfl 37 _ rfl w.heap.size 1 rfl (wds s) _ RS.out Try.underlying37 rfl (size_set s) ?_)
       | ((with_reducible refine atDst 21 ?_); refine wpList_ldMidG rfl 37 _ rfl w1.heap.size 1 rfl (wds s') _ RS'.out Try.underlying37 rfl (size_set s') ?_)
       | ((with_reducible refine atDst 22 ?_); refine wpList_neSetG rfl HNE.out 37 35 (.tmp 19) (.tmp 21) 37 rfl guardSet Try.underlying37 Try.underlying35 sizeU64 rfl rfl ?_)
       | ((with_reducible refine atDst 25 ?_); refine wpList_ldMidG rfl 37 _ rfl w.heap.size 1 rfl (wds s) _ RS.out Try.underlying37 rfl (size_set s) ?_)
       | ((with_reducible refine atDst 27 ?_); refine wpList_ldMidG rfl 37 _ rfl w1.heap.size 1 rfl (wds s') _ RS'.out Try.underlying37 rfl (size_set s') ?_))
      refine (bsLess_gr s s' w3).mono ?_
      rintro e w4 ⟨rfl, hg4⟩
      have G4 := qH (B2.out.trans hg4)
      clear hg4
      rw [HL.out]
      go_wp2_with fail
      go_ret
      exact ⟨rfl, G4.out⟩
     | false =>
      have HF := qH (show lex (setD k s s') (cmpL l m) = 1 by unfold setD; rw [if_pos h3k, hs, hl]; rfl)
      rw [HF.out]
      have HL := qH hl
      clear hl hs h3k
      go_enter Try.func94, Try.ntmps94
      go_wp2_with (first
       | ((with_reducible refine atDst 2 ?_); refine wpList_boxE rfl 40 _ rfl cs rfl ?_; intro w1 hk1 hb1 hs1 _; have K1 := qH hk1; have B1 := qH hb1; clear hk1 hb1 hs1)
       | ((with_reducible refine atDst 3 ?_); refine wpList_boxE rfl 40 _ rfl ds rfl ?_; intro w2 hk2 hb2 hs2 ho2; have L2 := qH hk2; have B2 := qH (B1.out.trans hb2); have K2 := qH (show Blk w2 w.heap.size 40 cs from (ho2 _ K1.out.lt).trans K1.out); have a0 := K2.out.cell 0; rw [HC0.out] at a0; have b0 := L2.out.cell 0; rw [HD0.out] at b0; have a5 := K2.out.cell 5; rw [HC5.out] at a5; have b5 := L2.out.cell 5; rw [HD5.out] at b5; have RS := qH (set_range' HCS.out K2.out); have RS' := qH (set_range' HDS.out L2.out); clear hk2 hb2 hs2 ho2 K1 B1))
      refine (cmpInt_any k k' w2).mono ?_
      rintro e w3 ⟨rfl, rfl⟩
      rw [hkd]
      go_wp2_with (first
       | ((with_reducible refine atDst 19 ?_); refine wpList_ldMidG rfl 37 _ rfl w.heap.size 1 rfl (wds s) _ RS.out Try.underlying37 rfl (size_set s) ?_)
       | ((with_reducible refine atDst 21 ?_); refine wpList_ldMidG rfl 37 _ rfl w1.heap.size 1 rfl (wds s') _ RS'.out Try.underlying37 rfl (size_set s') ?_)
       | ((with_reducible refine atDst 22 ?_); refine wpList_neSetG rfl HNE.out 37 35 (.tmp 19) (.tmp 21) 37 rfl guardSet Try.underlying37 Try.underlying35 sizeU64 rfl rfl ?_)
       | ((with_reducible refine atDst 25 ?_); refine wpList_ldMidG rfl 37 _ rfl w.heap.size 1 rfl (wds s) _ RS.out Try.underlying37 rfl (size_set s) ?_)
       | ((with_reducible refine atDst 27 ?_); refine wpList_ldMidG rfl 37 _ rfl w1.heap.size 1 rfl (wds s') _ RS'.out Try.underlying37 rfl (size_set s') ?_))
      refine (bsLess_gr s s' w3).mono ?_
      rintro e w4 ⟨rfl, hg4⟩
      have G4 := qH (B2.out.trans hg4)
      clear hg4
      rw [HL.out]
      go_wp2_with fail
      go_ret
      exact ⟨rfl, G4.out⟩
    | true =>
     have HNE := qH (show (!eqS s s') = false by rw [hs]; rfl)
     have HF := qH (show lex (setD k s s') (cmpL l m) = cmpL l m by unfold setD; rw [if_pos h3k, hs]; rfl)
     rw [HF.out]
     clear hs h3k
     go_enter Try.func94, Try.ntmps94
     go_wp2_with (first
      | ((with_reducible refine atDst 2 ?_); refine wpList_boxE rfl 40 _ rfl cs rfl ?_; intro w1 hk1 hb1 hs1 _; have K1 := qH hk1; have B1 := qH hb1; clear hk1 hb1 hs1)
      | ((with_reducible refine atDst 3 ?_); refine wpList_boxE rfl 40 _ rfl ds rfl ?_; intro w2 hk2 hb2 hs2 ho2; have L2 := qH hk2; have B2 := qH (B1.out.trans hb2); have K2 := qH (show Blk w2 w.heap.size 40 cs from (ho2 _ K1.out.lt).trans K1.out); have a0 := K2.out.cell 0; rw [HC0.out] at a0; have b0 := L2.out.cell 0; rw [HD0.out] at b0; have a5 := K2.out.cell 5; rw [HC5.out] at a5; have b5 := L2.out.cell 5; rw [HD5.out] at b5; have RS := qH (set_range' HCS.out K2.out); have RS' := qH (set_range' HDS.out L2.out); clear hk2 hb2 hs2 ho2 K1 B1))
     refine (cmpInt_any k k' w2).mono ?_
     rintro e w3 ⟨rfl, rfl⟩
     rw [hkd]
     go_wp2_with (first
      | ((with_reducible refine atDst 19 ?_); refine wpList_ldMidG rfl 37 _ rfl w.heap.size 1 rfl (wds s) _ RS.out Try.underlying37 rfl (size_set s) ?_)
      | ((with_reducible refine atDst 21 ?_); refine wpList_ldMidG rfl 37 _ rfl w1.heap.size 1 rfl (wds s') _ RS'.out Try.underlying37 rfl (size_set s') ?_)
      | ((with_reducible refine atDst 22 ?_); refine wpList_neSetG rfl HNE.out 37 35 (.tmp 19) (.tmp 21) 37 rfl guardSet Try.underlying37 Try.underlying35 sizeU64 rfl rfl ?_)
      | ((with_reducible refine atDst 25 ?_); refine wpList_ldMidG rfl 37 _ rfl w.heap.size 1 rfl (wds s) _ RS.out Try.underlying37 rfl (size_set s) ?_)
      | ((with_reducible refine atDst 27 ?_); refine wpList_ldMidG rfl 37 _ rfl w1.heap.size 1 rfl (wds s') _ RS'.out Try.underlying37 rfl (size_set s') ?_))
     refine (cmpFunc_gr l m _ _ w3 (RT.out.below B2.out.below |>.monoB B2.out.size) (RT'.out.below B2.out.below |>.monoB B2.out.size) HLN.out (fun a ha b cs ds w1 h1 h2 => IH.out a b (HMB.out a ha) (HMC.out a ha) cs ds w1 h1 h2)).mono ?_
     rintro e w4 ⟨rfl, hg4⟩
     have G4 := qH (B2.out.trans hg4)
     clear hg4
     go_wp2_with fail
     go_ret
     exact ⟨rfl, G4.out⟩
   ·have h3b : (k == 3) = false := by simpa using h3k
    have HF := qH (show lex (setD k s s') (cmpL l m) = cmpL l m by unfold setD; rw [if_neg h3k]; rfl)
    rw [HF.out]
    have HNE := qH (rfl : (0 : Nat) = 0)
    clear h3k
    go_enter Try.func94, Try.ntmps94
    go_wp2_with (first
     | ((with_reducible refine atDst 2 ?_); refine wpList_boxE rfl 40 _ rfl cs rfl ?_; intro w1 hk1 hb1 hs1 _; have K1 := qH hk1; have B1 := qH hb1; clear hk1 hb1 hs1)
     | ((with_reducible refine atDst 3 ?_); refine wpList_boxE rfl 40 _ rfl ds rfl ?_; intro w2 hk2 hb2 hs2 ho2; have L2 := qH hk2; have B2 := qH (B1.out.trans hb2); have K2 := qH (show Blk w2 w.heap.size 40 cs from (ho2 _ K1.out.lt).trans K1.out); have a0 := K2.out.cell 0; rw [HC0.out] at a0; have b0 := L2.out.cell 0; rw [HD0.out] at b0; have a5 := K2.out.cell 5; rw [HC5.out] at a5; have b5 := L2.out.cell 5; rw [HD5.out] at b5; have RS := qH (set_range' HCS.out K2.out); have RS' := qH (set_range' HDS.out L2.out); clear hk2 hb2 hs2 ho2 K1 B1))
    refine (cmpInt_any k k' w2).mono ?_
    rintro e w3 ⟨rfl, rfl⟩
    rw [hkd]
    go_wp2_with (first
     | ((with_reducible refine atDst 19 ?_); refine wpList_ldMidG rfl 37 _ rfl w.heap.size 1 rfl (wds s) _ RS.out Try.underlying37 rfl (size_set s) ?_)
     | ((with_reducible refine atDst 21 ?_); refine wpList_ldMidG rfl 37 _ rfl w1.heap.size 1 rfl (wds s') _ RS'.out Try.underlying37 rfl (size_set s') ?_)
     | ((with_reducible refine atDst 22 ?_); refine wpList_neSetG rfl HNE.out 37 35 (.tmp 19) (.tmp 21) 37 rfl guardSet Try.underlying37 Try.underlying35 sizeU64 rfl rfl ?_)
     | ((with_reducible refine atDst 25 ?_); refine wpList_ldMidG rfl 37 _ rfl w.heap.size 1 rfl (wds s) _ RS.out Try.underlying37 rfl (size_set s) ?_)
     | ((with_reducible refine atDst 27 ?_); refine wpList_ldMidG rfl 37 _ rfl w1.heap.size 1 rfl (wds s') _ RS'.out Try.underlying37 rfl (size_set s') ?_))
    refine (cmpFunc_gr l m _ _ w3 (RT.out.below B2.out.below |>.monoB B2.out.size) (RT'.out.below B2.out.below |>.monoB B2.out.size) HLN.out (fun a ha b cs ds w1 h1 h2 => IH.out a b (HMB.out a ha) (HMC.out a ha) cs ds w1 h1 h2)).mono ?_
    rintro e w4 ⟨rfl, hg4⟩
    have G4 := qH (B2.out.trans hg4)
    clear hg4
    go_wp2_with fail
    go_ret
    exact ⟨rfl, G4.out⟩
  ·have hkd : kindD k k' ≠ 0 := by
    unfold kindD
    rw [if_neg hk]
    split <;> decide
   rw [lex_ne _ hkd]
   obtain ⟨x, hx⟩ : ∃ x, kindD k k' = x := ⟨_, rfl⟩
   rw [hx] at hkd ⊢
   have HX := qH hx
   have hxb : (x != 0) = true := by simpa using hkd
   clear hx hkd hk
   go_enter Try.func94, Try.ntmps94
   go_wp2_with (first
    | ((with_reducible refine atDst 2 ?_); refine wpList_boxE rfl 40 _ rfl cs rfl ?_; intro w1 hk1 hb1 hs1 _; have K1 := qH hk1; have B1 := qH hb1; clear hk1 hb1 hs1)
    | ((with_reducible refine atDst 3 ?_); refine wpList_boxE rfl 40 _ rfl ds rfl ?_; intro w2 hk2 hb2 hs2 ho2; have L2 := qH hk2; have B2 := qH (B1.out.trans hb2); have K2 := qH (show Blk w2 w.heap.size 40 cs from (ho2 _ K1.out.lt).trans K1.out); have a0 := K2.out.cell 0; rw [HC0.out] at a0; have b0 := L2.out.cell 0; rw [HD0.out] at b0; have a5 := K2.out.cell 5; rw [HC5.out] at a5; have b5 := L2.out.cell 5; rw [HD5.out] at b5; have RS := qH (set_range' HCS.out K2.out); have RS' := qH (set_range' HDS.out L2.out); clear hk2 hb2 hs2 ho2 K1 B1))
   refine (cmpInt_any k k' w2).mono ?_
   rintro e w3 ⟨rfl, rfl⟩
   rw [HX.out]
   go_wp2_with fail
   go_ret
   exact ⟨rfl, B2.out⟩
end Go.Proofs.Ytmcpfaaakmehdaa
