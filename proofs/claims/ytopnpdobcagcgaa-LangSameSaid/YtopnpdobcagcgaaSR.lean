/-
  Texts of this proof, put together: (LayR) DERIVED: THE SHELF's CONTRACTS AT THIS DUMP, IN PLAIN WORDS (tools/lay-plain.mjs out of 'YtopnpdobcagcgaaScrLayR.lean', which tools/lay-shelf.mjs wrote): THE SAME DECLARATIONS UNDER THE SAME NAMES: 'import', 'namespace', 'open', 'def', 'theorem' AND NOTHING ELSE: no command of the shelf's: FOR A HAND-IN. Each laying: the table of numbers ('.._ren') and one theorem, a field a fact of the dump's own or the kernel's comparison; each contract: ONE APPLICATION. (GrA) Draws and blocks of one's own alone: what it is, and laws of the walk. No statement is proved here. (BsLs) What package byteset (Less) answers and leaves: draws and blocks of its own alone. No statement is proved here. (RxG) What package rx (Compare) answers and leaves, with the library's functions that it calls: draws and blocks of its own alone. No statement is proved here.
-/
import Derived.Shelf.SlSortCmp.WholeK
import Derived.Test.YtopnpdobcagcgaaProg
import Derived.Test.YtopnpdobcagcgaaSA
import Derived.Sort.Grow
import Derived.Shelf.Spec.TrailingZeros
import Derived.Test.YtopnpdobcagcgaaSB
import Derived.Test.YtopnpdobcagcgaaSF
import Derived.Test.YtopnpdobcagcgaaSC
import Derived.Test.YtopnpdobcagcgaaSD
namespace Go.Proofs
open Go.Shelf
def Try.sortT_ren : Go.Shelf.Ren := ⟨fun | 6 => 88 | 15 => 94 | 14 => 93 | 28 => 106 | 29 => 107 | 20 => 98 | 21 => 99 | 22 => 100 | 23 => 101 | 24 => 102 | 25 => 103 | 26 => 104 | 27 => 105 | 46 => 109 | 47 => 110 | 48 => 111 | 49 => 112 | 50 => 113 | 57 => 114 | n => n, fun | 22 => 25 | 24 => 27 | 25 => 76 | 3 => 3 | 39 => 80 | 0 => 0 | 53 => 104 | 55 => 22 | 4 => 4 | 46 => 97 | 45 => 96 | 50 => 101 | 5 => 5 | 9 => 9 | 66 => 107 | 70 => 111 | 76 => 113 | 77 => 114 | n => n, fun | n => n⟩
theorem Try.sortT : Go.Proofs.SlLaysF0.n6 Try.prog Try.sortT_ren := {
 mixed := by kernel_rfl
 f6 := ⟨Try.f88.name, by decide, Try.func88.trans (congrArg some (by kernel_rfl))⟩
 f14 := ⟨Try.f93.name, by decide, Try.func93.trans (congrArg some (by kernel_rfl))⟩
 f15 := Try.func94.trans (congrArg some (by kernel_rfl))
 f20 := ⟨Try.f98.name, by decide, Try.func98.trans (congrArg some (by kernel_rfl))⟩
 f21 := ⟨Try.f99.name, by decide, Try.func99.trans (congrArg some (by kernel_rfl))⟩
 f22 := ⟨Try.f100.name, by decide, Try.func100.trans (congrArg some (by kernel_rfl))⟩
 f23 := ⟨Try.f101.name, by decide, Try.func101.trans (congrArg some (by kernel_rfl))⟩
 f24 := ⟨Try.f102.name, by decide, Try.func102.trans (congrArg some (by kernel_rfl))⟩
 f25 := ⟨Try.f103.name, by decide, Try.func103.trans (congrArg some (by kernel_rfl))⟩
 f26 := ⟨Try.f104.name, by decide, Try.func104.trans (congrArg some (by kernel_rfl))⟩
 f27 := ⟨Try.f105.name, by decide, Try.func105.trans (congrArg some (by kernel_rfl))⟩
 f28 := Try.func106.trans (congrArg some (by kernel_rfl))
 f29 := Try.func107.trans (congrArg some (by kernel_rfl))
 f46 := ⟨Try.f109.name, by decide, Try.func109.trans (congrArg some (by kernel_rfl))⟩
 f47 := Try.func110.trans (congrArg some (by kernel_rfl))
 f48 := Try.func111.trans (congrArg some (by kernel_rfl))
 f49 := ⟨Try.f112.name, by decide, Try.func112.trans (congrArg some (by kernel_rfl))⟩
 f50 := ⟨Try.f113.name, by decide, Try.func113.trans (congrArg some (by kernel_rfl))⟩
 f57 := ⟨Try.f114.name, by decide, Try.func114.trans (congrArg some (by kernel_rfl))⟩
 t0 := Try.underlying0
 a0 := Try.isAgg0
 z0 := Try.sizeOf0
 v0 := Try.zeroValue0
 t3 := Try.underlying3
 a3 := Try.isAgg3
 z3 := Try.sizeOf3
 v3 := Try.zeroValue3
 t4 := Try.underlying4
 a4 := Try.isAgg4
 z4 := Try.sizeOf4
 v4 := Try.zeroValue4
 t5 := Try.underlying5
 a5 := Try.isAgg5
 z5 := Try.sizeOf5
 v5 := Try.zeroValue5
 t9 := Try.underlying9
 a9 := Try.isAgg9
 z9 := Try.sizeOf9
 v9 := Try.zeroValue9
 t22 := Try.underlying25
 a22 := Try.isAgg25
 z22 := Try.sizeOf25
 v22 := Try.zeroValue25
 t25 := Try.underlying76
 a25 := Try.isAgg76
 z25 := Try.sizeOf76
 v25 := Try.zeroValue76
 t39 := Try.underlying80
 a39 := Try.isAgg80
 z39 := Try.sizeOf80
 v39 := Try.zeroValue80
 t45 := Try.underlying96
 a45 := Try.isAgg96
 z45 := Try.sizeOf96
 v45 := Try.zeroValue96
 t46 := Try.underlying97
 a46 := Try.isAgg97
 z46 := Try.sizeOf97
 v46 := Try.zeroValue97
 t50 := Try.underlying101
 a50 := Try.isAgg101
 z50 := Try.sizeOf101
 v50 := Try.zeroValue101
 t53 := Try.underlying104
 a53 := Try.isAgg104
 z53 := Try.sizeOf104
 v53 := Try.zeroValue104
 t55 := Try.underlying22
 a55 := Try.isAgg22
 z55 := Try.sizeOf22
 v55 := Try.zeroValue22
 t66 := Try.underlying107
 a66 := Try.isAgg107
 z66 := Try.sizeOf107
 v66 := Try.zeroValue107
 t70 := Try.underlying111
 a70 := Try.isAgg111
 z70 := Try.sizeOf111
 v70 := Try.zeroValue111
 t76 := Try.underlying113
 a76 := Try.isAgg113
 z76 := Try.sizeOf113
 v76 := Try.zeroValue113
 t77 := Try.underlying114
 a77 := Try.isAgg114
 z77 := Try.sizeOf114
 v77 := Try.zeroValue114 }
end Go.Proofs
namespace Go.Proofs.Ytopnpdobcagcgaa
open Go.RowKit
set_option linter.unusedSimpArgs false
set_option linter.unusedVariables false
def Gr (w w' : World) : Prop := ∃ q os, w' = Sort.grow (w.drewN q) os
theorem Gr.refl (w : World) : Gr w w := ⟨0, #[], by rw [Sort.grow_empty]; rfl⟩
theorem Gr.alloc {w w' : World} (h : Gr w w') (o : Obj) : Gr w (w'.alloc o) := by
 obtain ⟨q, os, rfl⟩ := h
 exact ⟨q, os ++ #[o], by rw [Sort.alloc_eq_grow, Sort.grow_grow]⟩
theorem grow_drewN (w : World) (os : Array Obj) (n : Nat) : (Sort.grow w os).drewN n = Sort.grow (w.drewN n) os := rfl
theorem Gr.drewN {w w' : World} (h : Gr w w') (n : Nat) : Gr w (w'.drewN n) := by
 obtain ⟨q, os, rfl⟩ := h
 exact ⟨q + n, os, by rw [grow_drewN, World.drewN_drewN]⟩
theorem Gr.trans {w w' w'' : World} (h : Gr w w') (k : Gr w' w'') : Gr w w'' := by
 obtain ⟨q, os, rfl⟩ := h
 obtain ⟨r, os', rfl⟩ := k
 exact ⟨q + r, os ++ os', by rw [grow_drewN, World.drewN_drewN, Sort.grow_grow]⟩
theorem Gr.below {w w' : World} (h : Gr w w') : Below w.heap.size w w' := by
 obtain ⟨q, os, rfl⟩ := h
 refine ⟨rfl, rfl, rfl, by simp [Sort.grow], fun k hk => ?_⟩
 show (w.heap ++ os)[k]? = _
 rw [Array.getElem?_append_left hk]
theorem wpList_boxE {P : Program} {w : World} {ops : Array Oper} {rest : List Oper} {o : Oper} {a : Act} {Q : Exit → Act → World → Prop} (hgd : Region.wanted o (yielded ops a.tmps) = true) (ty : TypeId) (x : Operand) (ho : o.op = .box ty x) (cs : List Value) (hx : a.eval x = .agg cs.toArray)
  (h : ∀ w', Blk w' w.heap.size ty cs → Gr w w' → w'.heap.size = w.heap.size + 1 → (∀ k, k < w.heap.size → w'.heap[k]? = w.heap[k]?) → wpList P ops Q rest (a.put o.dst (.pointer (some ⟨w.heap.size, 0, none⟩))) w') :
  wpList P ops Q (o :: rest) a w := by
 refine BigFrame.wpList_want hgd fun K hK => ?_
 unfold Oper.wp
 have hrun : (Instr.box ty (.agg cs.toArray)).run P w = .ok (.pointer (some ⟨w.heap.size, 0, none⟩)) (w.alloc (.cells cs.toArray ty)) := by
  simp [Instr.box, newVar, Value.cells, run_newRow_blk]
 simp only [execOp, ho, hx, hrun, Sem.run_bind, Result.andThen_ok, Sem.run_pure]
 exact hK _ _ (h _ (Blk.new w ty cs) ((Gr.refl w).alloc _) (by simp) (fun k hk => Below.heap_alloc w _ k hk))
theorem Gr.of {w w' : World} (h : Below w.heap.size w w') (hd : w.drawn ≤ w'.drawn) : Gr w w' := by
 refine ⟨w'.drawn - w.drawn, w'.heap.extract w.heap.size w'.heap.size, ?_⟩
 have hh : w'.heap = w.heap ++ w'.heap.extract w.heap.size w'.heap.size := by
  apply Array.ext_getElem?
  intro i
  by_cases hi : i < w.heap.size
  ·rw [Array.getElem?_append_left hi]
   exact h.block i hi
  ·rw [Array.getElem?_append_right (by omega), Array.getElem?_extract]
   have hs := h.size
   by_cases h2 : i < w'.heap.size
   ·rw [if_pos (by omega)]
    congr 1
    omega
   ·rw [if_neg (by omega), Array.getElem?_eq_none (by omega)]
 obtain ⟨heap, tape, drawn, os, output⟩ := w
 obtain ⟨heap', tape', drawn', os', output'⟩ := w'
 have h1 := h.os
 have h2 := h.tape
 have h3 := h.output
 simp only at h1 h2 h3 hh hd
 subst h1 h2 h3
 unfold Sort.grow World.drewN
 simp only [World.mk.injEq, and_true, true_and]
 exact ⟨hh, by omega⟩
theorem Gr.drawn {w w' : World} (h : Gr w w') : w.drawn ≤ w'.drawn := by
 obtain ⟨q, os, rfl⟩ := h
 show w.drawn ≤ w.drawn + q
 omega
theorem Gr.size {w w' : World} (h : Gr w w') : w.heap.size ≤ w'.heap.size := h.below.size
section
variable {P : Program} {w : World} {ops : Array Oper} {rest : List Oper} {o : Oper} {a : Act} {Q : Exit → Act → World → Prop}
theorem wpList_newE {w0 : World} (hgd : Region.wanted o (yielded ops a.tmps) = true) (ty : TypeId) (ho : o.op = .alloc ty) (i : TypeInfo) (z : Value) (cs : List Value) (hi : P.info? ty = some i) (hz : i.zero = some z) (hc : z.cells = cs.toArray)
  (hb : Gr w0 w)
  (h : ∀ w', Blk w' w.heap.size ty cs → Gr w0 w' → w'.heap.size = w.heap.size + 1 → (∀ k, k < w.heap.size → w'.heap[k]? = w.heap[k]?) → wpList P ops Q rest (a.put o.dst (.pointer (some ⟨w.heap.size, 0, none⟩))) w') :
  wpList P ops Q (o :: rest) a w := by
 refine BigFrame.wpList_want hgd fun K hK => ?_
 unfold Oper.wp
 have hrun : (Instr.alloc ty true (.tuple #[])).run P w = .ok (.pointer (some ⟨w.heap.size, 0, none⟩)) (w.alloc (.cells cs.toArray ty)) := by
  have hzv : (zeroValue ty).run P w = .ok z w := by simp [zeroValue, typeInfo, hi, hz]
  simp [Instr.alloc, hzv, newVar, hc, run_newRow_blk]
 simp only [execOp, ho, hrun, Sem.run_bind, Result.andThen_ok, Sem.run_pure]
 exact hK _ _ (h _ (Blk.new w ty cs) (hb.alloc _) (by simp) (fun k hk => Below.heap_alloc w _ k hk))
theorem wpList_stE {w0 : World} (hgd : o.guard = none) (ty : TypeId) (x y : Operand) (ho : o.op = .store ty x y)
  (g : Nat) (cs : List Value) (hx : a.eval x = .pointer (some ⟨g, 0, none⟩)) (hy : a.eval y = .agg cs.toArray)
  (t : TypeId) (old : List Value) (hg : Blk w g t old) (hi : (P.info? ty).map (·.size) = some cs.length)
  (hold : old.length = cs.length) (h1 : cs.all (·.oneCell') = true) (hb : Gr w0 w) (hB : w0.heap.size ≤ g)
  (h : ∀ w', Blk w' g t cs → Gr w0 w' → w'.heap.size = w.heap.size → (∀ k, k ≠ g → w'.heap[k]? = w.heap[k]?) → wpList P ops Q rest (a.put o.dst undef) w') : wpList P ops Q (o :: rest) a w :=
 wpList_store_row hgd ty x y ho g cs.toArray hx hy t old.toArray hg (by simpa using hi) (by simpa using hold) (by simpa using h1)
  (h _ (setRow_heap w g old.toArray cs.toArray t (0, 0) hg) (Gr.of (below_setRow hb.below hB _) hb.drawn) (by simp) (fun k hk => setRow_other w g k _ hk))
end
end Go.Proofs.Ytopnpdobcagcgaa
namespace Go.Proofs.Ytopnpdobcagcgaa
open Go.RowKit
set_option linter.unusedSimpArgs false
set_option linter.unusedVariables false
theorem low_word (q : Nat → Bool) (y k : Nat) (hy : y = wd q 64) (h0 : y ≠ 0) (hk : k = Lib.ctz 64 y) :
  k < 64 ∧ q k = true ∧ (∀ j, j < k → q j = false) ∧ y &&& (y - 1) = wd (fun j => q j && decide (k + 1 ≤ j)) 64 ∧ y &&& (y - 1) < y := by
 have hlt : y < 2 ^ 64 := by rw [hy]; exact wd_lt q 64
 obtain ⟨m, hm, hk2⟩ := Lib.ctzFrom_spec 64 y (by omega) hlt
 have ek : Lib.ctz 64 y = Lib.ctzFrom 64 y := by simp [Lib.ctz, h0]
 rw [← ek, ← hk] at hm hk2
 have T : ∀ j, y.testBit j = (decide (j < 64) && q j) := fun j => by rw [hy]; exact wd_bit q 64 j
 have T2 : ∀ j, y.testBit j = (decide (j ≥ k) && (2 * m + 1).testBit (j - k)) := fun j => by rw [hm]; exact Nat.testBit_two_pow_mul
 have hp : 0 < 2 ^ k := Nat.pow_pos (by omega)
 have e1 : y - 1 = 2 ^ k * (2 * m) + (2 ^ k - 1) := by rw [hm, Nat.mul_add, Nat.mul_one]; omega
 have T3 : ∀ j, (y - 1).testBit j = if j < k then (2 ^ k - 1).testBit j else (2 * m).testBit (j - k) := fun j => by rw [e1]; exact Nat.testBit_two_pow_mul_add _ (by omega) j
 refine ⟨hk2, ?_, ?_, ?_, Nat.lt_of_le_of_lt Nat.and_le_right (by omega)⟩
 ·have h1 := T k
  rw [T2 k] at h1
  simpa [hk2, Nat.testBit_zero] using h1.symm
 ·intro j hj
  have h1 := T j
  rw [T2 j] at h1
  have : ¬ (j ≥ k) := by omega
  simpa [this, show j < 64 by omega] using h1.symm
 ·apply Nat.eq_of_testBit_eq
  intro j
  rw [Nat.testBit_and, wd_bit, T3, T]
  by_cases h1 : j < k
  ·have h2 := T j
   rw [T2 j] at h2
   have h3 : ¬ (j ≥ k) := by omega
   have h4 : ¬ (k + 1 ≤ j) := by omega
   have h5 : (decide (j < 64) && q j) = false := by rw [← h2]; simp [h3]
   simp [h4, h5]
  ·rw [if_neg h1]
   by_cases h2 : j = k
   ·subst h2
    simp [Nat.testBit_zero]
   ·obtain ⟨d, rfl⟩ : ∃ d, j = k + (d + 1) := ⟨j - k - 1, by omega⟩
    have h3 : k + (d + 1) - k = d + 1 := by omega
    have h4 := T (k + (d + 1))
    rw [T2 (k + (d + 1)), h3, Nat.testBit_succ, show (2 * m + 1) / 2 = m by omega] at h4
    rw [h3, Nat.testBit_succ, show 2 * m / 2 = m by omega]
    have h5 : k + 1 ≤ k + (d + 1) := by omega
    have h6 : k + (d + 1) ≥ k := by omega
    simp only [h6, decide_true, Bool.true_and] at h4
    simp only [h5, decide_true, Bool.and_true]
    rw [← h4]
    cases m.testBit d <;> simp
/-! ### one word of two sets -/
theorem word_xor (p q : Nat → Bool) (i : Nat) : word p i ^^^ word q i = wd (fun j => p (64 * i + j) != q (64 * i + j)) 64 := by
 apply Nat.eq_of_testBit_eq
 intro j
 rw [Nat.testBit_xor]
 simp only [word, wd_bit]
 cases decide (j < 64) <;> simp
theorem neg_wrap (d : Nat) (h0 : d ≠ 0) (h : d < 18446744073709551616) : IntKind.u64.wrap (-(d : Int)) = ((18446744073709551616 - d : Nat) : Int) := by
 rw [IntKind.wrap_u64]
 omega
theorem and_pow (x k : Nat) : x &&& 2 ^ k = if x.testBit k then 2 ^ k else 0 := by
 apply Nat.eq_of_testBit_eq
 intro j
 rw [Nat.testBit_and, Nat.testBit_two_pow]
 by_cases hj : k = j
 ·subst hj
  cases h : x.testBit k <;> simp [h]
 ·cases h : x.testBit k <;> simp [hj, Nat.testBit_two_pow]
theorem less_word (p q : Nat → Bool) (i d : Nat) (hi : i < 4) (hd : d = word p i ^^^ word q i) (h0 : d ≠ 0) (hb : ∀ b, b < 64 * i → p b = q b) :
  ((((word p i) &&& (d &&& (18446744073709551616 - d)) : Nat) : Int) != 0) = lessS p q := by
 have hlt : d < 2 ^ 64 := by rw [hd]; exact Nat.xor_lt_two_pow (word_lt p i) (word_lt q i)
 obtain ⟨hlow, hk64⟩ := Lib.lowest_bit 64 d h0 hlt
 obtain ⟨k, hk⟩ : ∃ k, k = Lib.ctz 64 d := ⟨_, rfl⟩
 obtain ⟨h1, h2, h3, _, _⟩ := low_word _ d k (by rw [hd, word_xor]) h0 hk
 rw [show (18446744073709551616 : Nat) = 2 ^ 64 from rfl, hlow, ← hk]
 have hle := lessS_at (p := p) (q := q) (j := 64 * i + k) (by omega) (fun b hb2 => by
  by_cases hb3 : b < 64 * i
  ·exact hb b hb3
  ·have := h3 (b - 64 * i) (by omega)
   rw [show 64 * i + (b - 64 * i) = b by omega] at this
   simpa using this) (by simpa using h2)
 rw [hle]
 have hbit := wd_bit (fun j => p (64 * i + j)) 64 k
 rw [decide_eq_true h1, Bool.true_and] at hbit
 have hw : (word p i).testBit k = p (64 * i + k) := hbit
 rw [and_pow, hw]
 have hp : 0 < 2 ^ k := Nat.pow_pos (by omega)
 cases p (64 * i + k)
 ·rfl
 ·simp only [if_true, bne_iff_ne, ne_eq]
  omega
theorem less_same (p q : Nat → Bool) (i : Nat) (h0 : word p i ^^^ word q i = 0) (hb : ∀ b, b < 64 * i → p b = q b) : ∀ b, b < 64 * (i + 1) → p b = q b := by
 intro b hb2
 by_cases hb3 : b < 64 * i
 ·exact hb b hb3
 ·rw [word_xor] at h0
  have := wd_zero h0 (b - 64 * i) (by omega)
  rw [show 64 * i + (b - 64 * i) = b by omega] at this
  simpa using this
set_option maxHeartbeats 4000000 in
set_option maxRecDepth 100000 in
theorem bsLess_gr (p q : Nat → Bool) (w : World) :
  Calls Try.prog 96 #[.agg (wds p).toArray, .agg (wds q).toArray] w fun e w' => e = .returned (.bool (lessS p q)) ∧ Gr w w' := by
 go_enter Try.func96, Try.ntmps96
 go_wp2_with (first
  | ((with_reducible refine atDst 2 ?_); refine wpList_boxE rfl 24 _ rfl (wds p) rfl ?_; intro w1 hk1 hb1 hs1 _; have K1 := Lib.hid hk1; have G1 := Lib.hid hb1; clear hk1 hb1 hs1)
  | ((with_reducible refine atDst 3 ?_); refine wpList_boxE rfl 24 _ rfl (wds q) rfl ?_; intro w2 hk2 hb2 hs2 ho2; have L2 := Lib.hid hk2; have G2 := Lib.hid (G1.out.trans hb2); have K2 := Lib.hid (show Blk w2 w.heap.size 24 (wds p) from (ho2 _ K1.out.lt).trans K1.out); clear hk2 hb2 hs2 ho2))
 go_loopw [7] (fun i wl => ∃ j n : Nat, j ≤ 4 ∧ i = .int .i64 (j : Int) ∧ wl = w2.drewN n ∧ ∀ b, b < 64 * j → p b = q b) (fun i _ => 4 - (intOf i).toNat)
 case atStart => exact ⟨0, 0, by omega, by simp, rfl, fun b hb => by omega⟩
 case round =>
  obtain ⟨j, n, hj, rfl, hwl, hb⟩ := hrel
  have HW := Lib.hid hwl
  have HB := Lib.hid hb
  have KR := Lib.hid (show Blk wr w.heap.size 24 (wds p) by rw [hwl]; exact K2.out)
  have LR := Lib.hid (show Blk wr w1.heap.size 24 (wds q) by rw [hwl]; exact L2.out)
  clear hwl hb
  by_cases hjl : j < 4
  ·have j1 : (j : Int) < 4 := by omega
   have hcp := KR.out.cell j
   rw [wds_get p j hjl] at hcp
   have hcq := LR.out.cell j
   rw [wds_get q j hjl] at hcq
   have HLP := Lib.hid (word_lt p j)
   have HLQ := Lib.hid (word_lt q j)
   have HLW := Lib.hid (fun d hd h0 => less_word p q j d hjl hd h0 HB.out)
   have HSM := Lib.hid (less_same p q j)
   obtain ⟨x, hx⟩ : ∃ x, x = word p j := ⟨_, rfl⟩
   obtain ⟨y, hy⟩ : ∃ y, y = word q j := ⟨_, rfl⟩
   rw [← hx] at hcp HLP HLW HSM
   rw [← hy] at hcq HLQ HLW HSM
   clear hx hy
   obtain ⟨d, hd⟩ : ∃ d, d = x ^^^ y := ⟨_, rfl⟩
   have HD := Lib.hid hd
   have hxy : bits .xor .u64 (x : Int) (y : Int) = (d : Int) := by rw [u64_xor_nat x y HLP.out HLQ.out, hd]
   have HLD := Lib.hid (show d < 18446744073709551616 by rw [hd]; exact Nat.xor_lt_two_pow (n := 64) HLP.out HLQ.out)
   clear hd
   by_cases h0 : d = 0
   ·have hdb : ((d : Int) != 0) = false := by rw [h0]; rfl
    have HN := Lib.hid (HSM.out (by rw [← HD.out]; exact h0) HB.out)
    clear h0
    go_wp2_with fail
    go_quiet (fail)
    go_wp2_with fail
    exact ⟨⟨j + 1, n + nq, by omega, by congr 1, by rw [HW.out, World.drewN_drewN], HN.out⟩, by simp [intOf] <;> omega⟩
   ·have hdb : ((d : Int) != 0) = true := by simpa using h0
    have HA := Lib.hid (HLW.out d HD.out h0)
    have hng := neg_wrap d h0 HLD.out
    obtain ⟨e, he⟩ : ∃ e, e = 18446744073709551616 - d := ⟨_, rfl⟩
    have HLE := Lib.hid (show e < 18446744073709551616 by have := HLD.out; omega)
    rw [← he] at hng HA
    obtain ⟨f, hf⟩ : ∃ f, f = d &&& e := ⟨_, rfl⟩
    have hde : bits .and .u64 (d : Int) (e : Int) = (f : Int) := by rw [u64_and_nat d e HLD.out HLE.out, hf]
    rw [← hf] at HA
    have HLF := Lib.hid (show f < 18446744073709551616 by rw [hf]; exact Nat.lt_of_le_of_lt Nat.and_le_left HLD.out)
    have hxf : bits .and .u64 (x : Int) (f : Int) = ((x &&& f : Nat) : Int) := u64_and_nat x f HLP.out HLF.out
    obtain ⟨g, hg⟩ : ∃ g, g = x &&& f := ⟨_, rfl⟩
    rw [← hg] at HA hxf
    clear he hf hg h0
    go_wp2_with fail
    go_quiet (fail)
    go_wp2_with fail
    go_ret
    rw [HA.out, HW.out]
    exact ⟨rfl, (G2.out.drewN _).drewN _⟩
  ·obtain rfl : j = 4 := by omega
   have j1 : ¬ ((4 : Int) < 4) := by omega
   have HL := Lib.hid (lessS_none HB.out)
   go_wp2_with fail
   go_ret
   rw [HL.out, HW.out]
   exact ⟨rfl, G2.out.drewN _⟩
end Go.Proofs.Ytopnpdobcagcgaa
namespace Go.Proofs.Ytopnpdobcagcgaa
open Go.RowKit
set_option linter.unusedSimpArgs false
set_option linter.unusedVariables false
set_option maxHeartbeats 2000000 in
set_option maxRecDepth 100000 in
theorem isNaN_any (x : Int) (w : World) : Calls Try.prog 108 #[.int .i64 x] w fun e w' => e = .returned (.bool false) ∧ w' = w := by
 go_enter Try.func108, Try.ntmps108
 have h : (x != x) = false := by simp
 go_wp2_with fail
 go_ret
 first | exact ⟨rfl, rfl⟩ | simp
set_option maxHeartbeats 2000000 in
set_option maxRecDepth 100000 in
theorem cmpInt_any (x y : Int) (w : World) : Calls Try.prog 95 #[.int .i64 x, .int .i64 y] w fun e w' => e = .returned (.int .i64 (kindD x y)) ∧ w' = w := by
 go_enter Try.func95, Try.ntmps95
 go_wp2_with fail
 refine (isNaN_any x w).mono ?_
 rintro e w1 ⟨rfl, rfl⟩
 go_wp2_with fail
 refine (isNaN_any y w1).mono ?_
 rintro e w2 ⟨rfl, rfl⟩
 by_cases h1 : x < y
 ·have hk : kindD x y = -1 := by unfold kindD; rw [if_neg (by omega), if_pos h1]
  go_wp2_with fail
  go_ret
  rw [hk]
  exact ⟨rfl, rfl⟩
 ·by_cases h2 : y < x
  ·have hk : kindD x y = 1 := by unfold kindD; rw [if_neg (by omega), if_neg h1]
   go_wp2_with fail
   go_ret
   rw [hk]
   exact ⟨rfl, rfl⟩
  ·have hk : kindD x y = 0 := by unfold kindD; rw [if_pos (by omega)]
   go_wp2_with fail
   go_ret
   rw [hk]
   exact ⟨rfl, rfl⟩
abbrev cmpV : Value := .func (.func 89) #[] #[]
set_option maxHeartbeats 4000000 in
set_option maxRecDepth 100000 in
theorem cmpFunc_gr (l m : List T) (v v' : Value) (w : World) (hl : RowT w.heap.size w v l) (hm : RowT w.heap.size w v' m) (hn : l.length ≤ 1099511627776)
  (hcmp : ∀ a ∈ l, ∀ (b : T) (cs ds : List Value) (w1 : World), RxV w1.heap.size w1 cs a → RxV w1.heap.size w1 ds b → Calls Try.prog 89 #[.agg cs.toArray, .agg ds.toArray] w1 fun e w' => e = .returned (.int .i64 (cmpT a b)) ∧ Gr w1 w') :
  Calls Try.prog 97 #[v, v', cmpV] w fun e w' => e = .returned (.int .i64 (cmpL l m)) ∧ Gr w w' := by
 have IH := Lib.hid hcmp
 clear hcmp
 obtain ⟨A, cap, f, rfl, h1, h2, h0, h3, h4⟩ := hl
 obtain ⟨A', cap', f', rfl, h1', h2', h0', h3', h4'⟩ := hm
 have H3 := Lib.hid h3
 have H4 := Lib.hid h4
 have H3' := Lib.hid h3'
 have H4' := Lib.hid h4'
 have HN := Lib.hid hn
 obtain ⟨i0, hi0, hz0, hz1, hz2⟩ := infoP inf_rx
 obtain ⟨z, hz⟩ : ∃ z, z = Value.int .i64 0 :: (wds (fun _ => false) ++ [Value.slice none 0 0]) := ⟨_, rfl⟩
 have HZL := Lib.hid (show z.length = 6 by rw [hz]; rfl)
 have HZ0 := Lib.hid (show i0.zero = some (.agg z.toArray) by rw [hz]; exact hz0)
 clear h1 h2 h0 h3 h4 h1' h2' h0' h3' h4' hn hz hz0 hz1 hz2
 go_enter Try.func97, Try.ntmps97
 go_wp2_with fail
 go_loopw [13] (fun i wl => ∃ j : Nat, j ≤ l.length ∧ j ≤ m.length ∧ i = .int .i64 (j : Int) ∧ (∀ (i : Nat) (a b : T), i < j → l[i]? = some a → m[i]? = some b → cmpT a b = 0) ∧ Gr w wl) (fun i _ => l.length - (intOf i).toNat)
 case atStart => exact ⟨0, by omega, by omega, by simp, fun i a b h => by omega, Gr.refl _⟩
 case round =>
  obtain ⟨j, hj, hjm0, rfl, hsm, hb⟩ := hrel
  have HSM := Lib.hid hsm
  have HB := Lib.hid hb
  have HBB := Lib.hid hb.below
  clear hsm hb
  by_cases hjl : j < l.length
  ·have j1 : (j : Int) < (l.length : Int) := Int.ofNat_lt.2 hjl
   obtain ⟨b, off, rfl, hb, hrng⟩ := H3.out (by rintro rfl; simp at hjl)
   obtain ⟨a, ha⟩ : ∃ a, l[j]? = some a := ⟨_, List.getElem?_eq_getElem hjl⟩
   have HV := Lib.hid (RxV.part H4.out HBB.out HBB.out.size ha)
   have HRG := Lib.hid (range_below (hrng j hjl) HBB.out hb)
   have HAL := Lib.hid (List.mem_of_getElem? ha)
   have HAJ := Lib.hid ha
   have hj62 : j ≤ 4611686018427387904 := by have := HN.out; omega
   have e3 := wrap_one j hj62
   have e4 := wrap_one' j hj62
   have HG0 := Lib.hid HBB.out.size
   clear hrng ha hj62 hb
   by_cases hjm : j < m.length
   ·have j2 : ¬ ((j : Int) ≥ (m.length : Int)) := by omega
    obtain ⟨b', off', rfl, hb', hrng'⟩ := H3'.out (by rintro rfl; simp at hjm)
    obtain ⟨c, hc⟩ : ∃ c, m[j]? = some c := ⟨_, List.getElem?_eq_getElem hjm⟩
    have HV' := Lib.hid (RxV.part H4'.out HBB.out HBB.out.size hc)
    have HRG' := Lib.hid (range_below (hrng' j hjm) HBB.out hb')
    have HB2 := Lib.hid (Nat.lt_of_lt_of_le hb' HBB.out.size)
    have HCJ := Lib.hid hc
    clear hrng' hc hb'
    go_wp2_with (first
     | ((with_reducible refine atDst 17 ?_); refine wpList_load_mid rfl 27 _ rfl b (off + j * 6) rfl (f j) _ HRG.out Try.underlying27 rfl (size_rx HV.out.length) ?_)
     | ((with_reducible refine atDst 8 ?_); refine wpList_newE rfl 27 rfl i0 _ z hi0 HZ0.out rfl (Gr.refl wr) ?_; intro w2 hk2 hg2 hs2 _; have K2 := Lib.hid hk2; have G2 := Lib.hid hg2; clear hk2 hg2 hs2)
     | ((with_reducible refine atStore 27 8 17 ?_); refine wpList_stE rfl 27 _ _ rfl wr.heap.size (f j) rfl rfl 27 _ K2.out (size_rx HV.out.length) (by rw [HZL.out, HV.out.length]) (List.all_eq_true.2 HV.out.one) G2.out (Nat.le_refl _) ?_; intro w3 hk3 hg3 hs3 _; have K3 := Lib.hid hk3; have G3 := Lib.hid hg3; have HRG3 := Lib.hid (range_below HRG'.out hg3.below HB2.out); clear hk3 hg3 hs3)
     | ((with_reducible refine atDst 25 ?_); refine wpList_load_mid rfl 27 _ rfl b' (off' + j * 6) rfl (f' j) _ HRG3.out Try.underlying27 rfl (size_rx HV'.out.length) ?_)
     | ((with_reducible refine atDst 9 ?_); refine wpList_newE rfl 27 rfl i0 _ z hi0 HZ0.out rfl G3.out ?_; intro w4 hk4 hg4 hs4 ho4; have L4 := Lib.hid hk4; have G4 := Lib.hid hg4; have K4 := Lib.hid (show Blk w4 wr.heap.size 27 (f j) from (ho4 _ K3.out.lt).trans K3.out); have HS3 := Lib.hid K3.out.lt; clear hk4 hg4 hs4 ho4)
     | ((with_reducible refine atStore 27 9 25 ?_); refine wpList_stE rfl 27 _ _ rfl w3.heap.size (f' j) rfl rfl 27 _ L4.out (size_rx HV'.out.length) (by rw [HZL.out, HV'.out.length]) (List.all_eq_true.2 HV'.out.one) G4.out (Nat.le_of_lt HS3.out) ?_; intro w5 hk5 hg5 hs5 ho5; have L5 := Lib.hid hk5; have G5 := Lib.hid hg5; have K5 := Lib.hid (show Blk w5 wr.heap.size 27 (f j) from (ho5 _ (Nat.ne_of_lt HS3.out)).trans K4.out); clear hk5 hg5 hs5 ho5)
     | ((with_reducible refine atDst 27 ?_); refine wpList_ldArr rfl 27 _ rfl wr.heap.size rfl 27 _ _ K5.out Try.underlying27 rfl (size_rx HV.out.length) ?_)
     | ((with_reducible refine atDst 28 ?_); refine wpList_ldArr rfl 27 _ rfl w3.heap.size rfl 27 _ _ L5.out Try.underlying27 rfl (size_rx HV'.out.length) ?_))
    have V5 := Lib.hid ((HV.out.stay G5.out.below).mono G5.out.size)
    have V5' := Lib.hid ((HV'.out.stay G5.out.below).mono G5.out.size)
    refine (IH.out a HAL.out c (f j) (f' j) w5 V5.out V5'.out).mono ?_
    rintro e w6 ⟨rfl, hg6⟩
    have G6 := Lib.hid (HB.out.trans (G5.out.trans hg6))
    clear hg6
    obtain ⟨x, hx⟩ : ∃ x, cmpT a c = x := ⟨_, rfl⟩
    rw [hx]
    have HX := Lib.hid hx
    clear hx
    by_cases hx0 : x = 0
    ·have hxb : (x != 0) = false := by simpa using hx0
     have HX0 := Lib.hid (HX.out.trans hx0)
     clear hx0
     go_wp2_with fail
     refine ⟨⟨j + 1, by omega, by omega, by congr 1, fun i a2 b2 hi ha2 hb2 => ?_, G6.out⟩, by simp [intOf] <;> omega⟩
     by_cases hij : i < j
     ·exact HSM.out i a2 b2 hij ha2 hb2
     ·obtain rfl : i = j := by omega
      rw [HAJ.out] at ha2
      rw [HCJ.out] at hb2
      obtain rfl := Option.some.inj ha2
      obtain rfl := Option.some.inj hb2
      exact HX0.out
    ·have hxb : (x != 0) = true := by simpa using hx0
     have HF := Lib.hid (show cmpL l m = x by rw [← HX.out]; exact cmpL_at l m j a c HSM.out HAJ.out HCJ.out (by rw [HX.out]; exact hx0))
     clear hx0
     go_wp2_with fail
     go_ret
     rw [HF.out]
     exact ⟨rfl, G6.out⟩
   ·have j2 : ((j : Int) ≥ (m.length : Int)) := by omega
    have hjm' : j = m.length := by omega
    have HF := Lib.hid (show cmpL l m = 1 by
     rw [cmpL_end l m fun i x y hx hy => HSM.out i x y (by have := (List.getElem?_eq_some_iff.1 hy).1; omega) hx hy, if_neg (by omega), if_pos (by omega)])
    clear hjm'
    go_wp2_with (first
     | ((with_reducible refine atDst 17 ?_); refine wpList_load_mid rfl 27 _ rfl b (off + j * 6) rfl (f j) _ HRG.out Try.underlying27 rfl (size_rx HV.out.length) ?_)
     | ((with_reducible refine atDst 8 ?_); refine wpList_newE rfl 27 rfl i0 _ z hi0 HZ0.out rfl (Gr.refl wr) ?_; intro w2 hk2 hg2 hs2 _; have K2 := Lib.hid hk2; have G2 := Lib.hid hg2; clear hk2 hg2 hs2)
     | ((with_reducible refine atStore 27 8 17 ?_); refine wpList_stE rfl 27 _ _ rfl wr.heap.size (f j) rfl rfl 27 _ K2.out (size_rx HV.out.length) (by rw [HZL.out, HV.out.length]) (List.all_eq_true.2 HV.out.one) G2.out (Nat.le_refl _) ?_; intro w3 hk3 hg3 hs3 _; have K3 := Lib.hid hk3; have G3 := Lib.hid hg3; clear hk3 hg3 hs3))
    go_ret
    rw [HF.out]
    exact ⟨rfl, HB.out.trans G3.out⟩
  ·obtain rfl : j = l.length := by omega
   have j1 : ¬ ((l.length : Int) < (l.length : Int)) := by omega
   have hend := cmpL_end l m fun i x y hx hy => HSM.out i x y (List.getElem?_eq_some_iff.1 hx).1 hx hy
   by_cases hlm : l.length < m.length
   ·have j2 : (l.length : Int) < (m.length : Int) := by omega
    rw [if_pos hlm] at hend
    have HF := Lib.hid hend
    clear hend hlm
    go_wp2_with fail
    go_ret
    rw [HF.out]
    exact ⟨rfl, HB.out⟩
   ·have j2 : ¬ (l.length : Int) < (m.length : Int) := by omega
    rw [if_neg hlm, if_neg (by omega)] at hend
    have HF := Lib.hid hend
    clear hend hlm
    go_wp2_with fail
    go_ret
    rw [HF.out]
    exact ⟨rfl, HB.out⟩
theorem RowT.monoB {B B' : Nat} {w : World} {v : Value} {l : List T} (h : RowT B w v l) (hB : B ≤ B') : RowT B' w v l := by
 obtain ⟨A, cap, f, hv, h1, h2, h0, h3, h4⟩ := h
 refine ⟨A, cap, f, hv, h1, h2, h0, fun hne => ?_, fun i t ht => (h4 i t ht).mono hB⟩
 obtain ⟨b, off, hA, hlt, hc⟩ := h3 hne
 exact ⟨b, off, hA, Nat.lt_of_lt_of_le hlt hB, hc⟩
set_option maxHeartbeats 8000000 in
set_option maxRecDepth 100000 in
theorem rxCompare_gr : ∀ (N : Nat) (t u : T), t.nodes ≤ N → t.nodes ≤ 1099511627776 → ∀ (cs ds : List Value) (w : World), RxV w.heap.size w cs t → RxV w.heap.size w ds u →
  Calls Try.prog 89 #[.agg cs.toArray, .agg ds.toArray] w fun e w' => e = .returned (.int .i64 (cmpT t u)) ∧ Gr w w' := by
 intro N
 induction N with
 | zero => intro t u h; have := nodes_pos t; omega
 | succ N ih =>
  rintro ⟨k, s, l⟩ ⟨k', s', m⟩ hN hM cs ds w hv hv'
  have IH := Lib.hid ih
  clear ih
  obtain ⟨v, rfl, hrt⟩ := hv.row
  obtain ⟨v', rfl, hrt'⟩ := hv'.row
  have RT := Lib.hid hrt
  have RT' := Lib.hid hrt'
  have HNN := Lib.hid (show T.nodes (.node k s l) = 1 + nodesL l by simp only [T.nodes])
  have HSS := Lib.hid (cmpT_lex k k' s s' l m)
  rw [HNN.out] at hN hM
  rw [HSS.out]
  have HLN := Lib.hid (show l.length ≤ 1099511627776 by have := len_nodes l; omega)
  have HMB := Lib.hid (fun a (ha : a ∈ l) => show a.nodes ≤ N by have := nodes_mem ha; omega)
  have HMC := Lib.hid (fun a (ha : a ∈ l) => show a.nodes ≤ 1099511627776 by have := nodes_mem ha; omega)
  obtain ⟨A, cap, _, rfl, _⟩ := hrt
  obtain ⟨A', cap', _, rfl, _⟩ := hrt'
  obtain ⟨cs, hcs⟩ : ∃ cs, cs = Value.int .i64 k :: (wds s ++ [.slice A l.length cap]) := ⟨_, rfl⟩
  have HC0 := Lib.hid (show cs[0]? = some (.int .i64 k) by rw [hcs]; rfl)
  have HC5 := Lib.hid (show cs[5]? = some (.slice A l.length cap) by rw [hcs]; rfl)
  have HCS := Lib.hid hcs
  obtain ⟨ds, hds⟩ : ∃ ds, ds = Value.int .i64 k' :: (wds s' ++ [.slice A' m.length cap']) := ⟨_, rfl⟩
  have HD0 := Lib.hid (show ds[0]? = some (.int .i64 k') by rw [hds]; rfl)
  have HD5 := Lib.hid (show ds[5]? = some (.slice A' m.length cap') by rw [hds]; rfl)
  have HDS := Lib.hid hds
  rw [← hcs, ← hds]
  clear hv hv' hN hM hcs hds
  by_cases hk : k = k'
  ·have hkd : kindD k k' = 0 := if_pos hk
   rw [hkd, lex_zero]
   have HK := Lib.hid hk
   clear hk
   by_cases h3k : k = 3
   ·have h3b : (k == 3) = true := by simpa using h3k
    have HNE0 := Lib.hid h3k
    cases hs : eqS s s' with
    | false =>
     have HNE := Lib.hid (show (!eqS s s') = true by rw [hs]; rfl)
     cases hl : lessS s s' with
     | true =>
      have HF := Lib.hid (show lex (setD k s s') (cmpL l m) = -1 by unfold setD; rw [if_pos h3k, hs, hl]; rfl)
      rw [HF.out]
      have HL := Lib.hid hl
      clear hl hs h3k
      go_enter Try.func89, Try.ntmps89
      go_wp2_with (first
       | ((with_reducible refine atDst 2 ?_); refine wpList_boxE rfl 27 _ rfl cs rfl ?_; intro w1 hk1 hb1 hs1 _; have K1 := Lib.hid hk1; have B1 := Lib.hid hb1; clear hk1 hb1 hs1)
       | ((with_reducible refine atDst 3 ?_); refine wpList_boxE rfl 27 _ rfl ds rfl ?_; intro w2 hk2 hb2 hs2 ho2; have L2 := Lib.hid hk2; have B2 := Lib.hid (B1.out.trans hb2); have K2 := Lib.hid (show Blk w2 w.heap.size 27 cs from (ho2 _ K1.out.lt).trans K1.out); have a0 := K2.out.cell 0; rw [HC0.out] at a0; have b0 := L2.out.cell 0; rw [HD0.out] at b0; have a5 := K2.out.cell 5; rw [HC5.out] at a5; have b5 := L2.out.cell 5; rw [HD5.out] at b5; have RS := Lib.hid (set_range' HCS.out K2.out); have RS' := Lib.hid (set_range' HDS.out L2.out); clear hk2 hb2 hs2 ho2 K1 B1))
      refine (cmpInt_any k k' w2).mono ?_
      rintro e w3 ⟨rfl, rfl⟩
      rw [hkd]
      go_wp2_with (first
       | ((with_reducible refine atDst 19 ?_); refine wpList_ldMidG rfl 24 _ rfl w.heap.size 1 rfl (wds s) _ RS.out Try.underlying24 rfl (size_set s) ?_)
       | ((with_reducible refine atDst 21 ?_); refine wpList_ldMidG rfl 24 _ rfl w1.heap.size 1 rfl (wds s') _ RS'.out Try.underlying24 rfl (size_set s') ?_)
       | ((with_reducible refine atDst 22 ?_); refine wpList_neSetG rfl HNE.out 24 22 (.tmp 19) (.tmp 21) 24 rfl guardSet Try.underlying24 Try.underlying22 sizeU64 rfl rfl ?_)
       | ((with_reducible refine atDst 25 ?_); refine wpList_ldMidG rfl 24 _ rfl w.heap.size 1 rfl (wds s) _ RS.out Try.underlying24 rfl (size_set s) ?_)
       | ((with_reducible refine atDst 27 ?_); refine wpList_ldMidG rfl 24 _ rfl w1.heap.size 1 rfl (wds s') _ RS'.out Try.underlying24 rfl (size_set s') ?_))
      refine (bsLess_gr s s' w3).mono ?_
      rintro e w4 ⟨rfl, hg4⟩
      have G4 := Lib.hid (B2.out.trans hg4)
      clear hg4
      rw [HL.out]
      go_wp2_with fail
      go_ret
      exact ⟨rfl, G4.out⟩
     | false =>
      have HF := Lib.hid (show lex (setD k s s') (cmpL l m) = 1 by unfold setD; rw [if_pos h3k, hs, hl]; rfl)
      rw [HF.out]
      have HL := Lib.hid hl
      clear hl hs h3k
      go_enter Try.func89, Try.ntmps89
      go_wp2_with (first
       | ((with_reducible refine atDst 2 ?_); refine wpList_boxE rfl 27 _ rfl cs rfl ?_; intro w1 hk1 hb1 hs1 _; have K1 := Lib.hid hk1; have B1 := Lib.hid hb1; clear hk1 hb1 hs1)
       | ((with_reducible refine atDst 3 ?_); refine wpList_boxE rfl 27 _ rfl ds rfl ?_; intro w2 hk2 hb2 hs2 ho2; have L2 := Lib.hid hk2; have B2 := Lib.hid (B1.out.trans hb2); have K2 := Lib.hid (show Blk w2 w.heap.size 27 cs from (ho2 _ K1.out.lt).trans K1.out); have a0 := K2.out.cell 0; rw [HC0.out] at a0; have b0 := L2.out.cell 0; rw [HD0.out] at b0; have a5 := K2.out.cell 5; rw [HC5.out] at a5; have b5 := L2.out.cell 5; rw [HD5.out] at b5; have RS := Lib.hid (set_range' HCS.out K2.out); have RS' := Lib.hid (set_range' HDS.out L2.out); clear hk2 hb2 hs2 ho2 K1 B1))
      refine (cmpInt_any k k' w2).mono ?_
      rintro e w3 ⟨rfl, rfl⟩
      rw [hkd]
      go_wp2_with (first
       | ((with_reducible refine atDst 19 ?_); refine wpList_ldMidG rfl 24 _ rfl w.heap.size 1 rfl (wds s) _ RS.out Try.underlying24 rfl (size_set s) ?_)
       | ((with_reducible refine atDst 21 ?_); refine wpList_ldMidG rfl 24 _ rfl w1.heap.size 1 rfl (wds s') _ RS'.out Try.underlying24 rfl (size_set s') ?_)
       | ((with_reducible refine atDst 22 ?_); refine wpList_neSetG rfl HNE.out 24 22 (.tmp 19) (.tmp 21) 24 rfl guardSet Try.underlying24 Try.underlying22 sizeU64 rfl rfl ?_)
       | ((with_reducible refine atDst 25 ?_); refine wpList_ldMidG rfl 24 _ rfl w.heap.size 1 rfl (wds s) _ RS.out Try.underlying24 rfl (size_set s) ?_)
       | ((with_reducible refine atDst 27 ?_); refine wpList_ldMidG rfl 24 _ rfl w1.heap.size 1 rfl (wds s') _ RS'.out Try.underlying24 rfl (size_set s') ?_))
      refine (bsLess_gr s s' w3).mono ?_
      rintro e w4 ⟨rfl, hg4⟩
      have G4 := Lib.hid (B2.out.trans hg4)
      clear hg4
      rw [HL.out]
      go_wp2_with fail
      go_ret
      exact ⟨rfl, G4.out⟩
    | true =>
     have HNE := Lib.hid (show (!eqS s s') = false by rw [hs]; rfl)
     have HF := Lib.hid (show lex (setD k s s') (cmpL l m) = cmpL l m by unfold setD; rw [if_pos h3k, hs]; rfl)
     rw [HF.out]
     clear hs h3k
     go_enter Try.func89, Try.ntmps89
     go_wp2_with (first
      | ((with_reducible refine atDst 2 ?_); refine wpList_boxE rfl 27 _ rfl cs rfl ?_; intro w1 hk1 hb1 hs1 _; have K1 := Lib.hid hk1; have B1 := Lib.hid hb1; clear hk1 hb1 hs1)
      | ((with_reducible refine atDst 3 ?_); refine wpList_boxE rfl 27 _ rfl ds rfl ?_; intro w2 hk2 hb2 hs2 ho2; have L2 := Lib.hid hk2; have B2 := Lib.hid (B1.out.trans hb2); have K2 := Lib.hid (show Blk w2 w.heap.size 27 cs from (ho2 _ K1.out.lt).trans K1.out); have a0 := K2.out.cell 0; rw [HC0.out] at a0; have b0 := L2.out.cell 0; rw [HD0.out] at b0; have a5 := K2.out.cell 5; rw [HC5.out] at a5; have b5 := L2.out.cell 5; rw [HD5.out] at b5; have RS := Lib.hid (set_range' HCS.out K2.out); have RS' := Lib.hid (set_range' HDS.out L2.out); clear hk2 hb2 hs2 ho2 K1 B1))
     refine (cmpInt_any k k' w2).mono ?_
     rintro e w3 ⟨rfl, rfl⟩
     rw [hkd]
     go_wp2_with (first
      | ((with_reducible refine atDst 19 ?_); refine wpList_ldMidG rfl 24 _ rfl w.heap.size 1 rfl (wds s) _ RS.out Try.underlying24 rfl (size_set s) ?_)
      | ((with_reducible refine atDst 21 ?_); refine wpList_ldMidG rfl 24 _ rfl w1.heap.size 1 rfl (wds s') _ RS'.out Try.underlying24 rfl (size_set s') ?_)
      | ((with_reducible refine atDst 22 ?_); refine wpList_neSetG rfl HNE.out 24 22 (.tmp 19) (.tmp 21) 24 rfl guardSet Try.underlying24 Try.underlying22 sizeU64 rfl rfl ?_)
      | ((with_reducible refine atDst 25 ?_); refine wpList_ldMidG rfl 24 _ rfl w.heap.size 1 rfl (wds s) _ RS.out Try.underlying24 rfl (size_set s) ?_)
      | ((with_reducible refine atDst 27 ?_); refine wpList_ldMidG rfl 24 _ rfl w1.heap.size 1 rfl (wds s') _ RS'.out Try.underlying24 rfl (size_set s') ?_))
     refine (cmpFunc_gr l m _ _ w3 (RT.out.below B2.out.below |>.monoB B2.out.size) (RT'.out.below B2.out.below |>.monoB B2.out.size) HLN.out (fun a ha b cs ds w1 h1 h2 => IH.out a b (HMB.out a ha) (HMC.out a ha) cs ds w1 h1 h2)).mono ?_
     rintro e w4 ⟨rfl, hg4⟩
     have G4 := Lib.hid (B2.out.trans hg4)
     clear hg4
     go_wp2_with fail
     go_ret
     exact ⟨rfl, G4.out⟩
   ·have h3b : (k == 3) = false := by simpa using h3k
    have HF := Lib.hid (show lex (setD k s s') (cmpL l m) = cmpL l m by unfold setD; rw [if_neg h3k]; rfl)
    rw [HF.out]
    have HNE := Lib.hid (rfl : (0 : Nat) = 0)
    clear h3k
    go_enter Try.func89, Try.ntmps89
    go_wp2_with (first
     | ((with_reducible refine atDst 2 ?_); refine wpList_boxE rfl 27 _ rfl cs rfl ?_; intro w1 hk1 hb1 hs1 _; have K1 := Lib.hid hk1; have B1 := Lib.hid hb1; clear hk1 hb1 hs1)
     | ((with_reducible refine atDst 3 ?_); refine wpList_boxE rfl 27 _ rfl ds rfl ?_; intro w2 hk2 hb2 hs2 ho2; have L2 := Lib.hid hk2; have B2 := Lib.hid (B1.out.trans hb2); have K2 := Lib.hid (show Blk w2 w.heap.size 27 cs from (ho2 _ K1.out.lt).trans K1.out); have a0 := K2.out.cell 0; rw [HC0.out] at a0; have b0 := L2.out.cell 0; rw [HD0.out] at b0; have a5 := K2.out.cell 5; rw [HC5.out] at a5; have b5 := L2.out.cell 5; rw [HD5.out] at b5; have RS := Lib.hid (set_range' HCS.out K2.out); have RS' := Lib.hid (set_range' HDS.out L2.out); clear hk2 hb2 hs2 ho2 K1 B1))
    refine (cmpInt_any k k' w2).mono ?_
    rintro e w3 ⟨rfl, rfl⟩
    rw [hkd]
    go_wp2_with (first
     | ((with_reducible refine atDst 19 ?_); refine wpList_ldMidG rfl 24 _ rfl w.heap.size 1 rfl (wds s) _ RS.out Try.underlying24 rfl (size_set s) ?_)
     | ((with_reducible refine atDst 21 ?_); refine wpList_ldMidG rfl 24 _ rfl w1.heap.size 1 rfl (wds s') _ RS'.out Try.underlying24 rfl (size_set s') ?_)
     | ((with_reducible refine atDst 22 ?_); refine wpList_neSetG rfl HNE.out 24 22 (.tmp 19) (.tmp 21) 24 rfl guardSet Try.underlying24 Try.underlying22 sizeU64 rfl rfl ?_)
     | ((with_reducible refine atDst 25 ?_); refine wpList_ldMidG rfl 24 _ rfl w.heap.size 1 rfl (wds s) _ RS.out Try.underlying24 rfl (size_set s) ?_)
     | ((with_reducible refine atDst 27 ?_); refine wpList_ldMidG rfl 24 _ rfl w1.heap.size 1 rfl (wds s') _ RS'.out Try.underlying24 rfl (size_set s') ?_))
    refine (cmpFunc_gr l m _ _ w3 (RT.out.below B2.out.below |>.monoB B2.out.size) (RT'.out.below B2.out.below |>.monoB B2.out.size) HLN.out (fun a ha b cs ds w1 h1 h2 => IH.out a b (HMB.out a ha) (HMC.out a ha) cs ds w1 h1 h2)).mono ?_
    rintro e w4 ⟨rfl, hg4⟩
    have G4 := Lib.hid (B2.out.trans hg4)
    clear hg4
    go_wp2_with fail
    go_ret
    exact ⟨rfl, G4.out⟩
  ·have hkd : kindD k k' ≠ 0 := by
    unfold kindD
    rw [if_neg hk]
    split <;> decide
   rw [lex_ne _ hkd]
   obtain ⟨x, hx⟩ : ∃ x, kindD k k' = x := ⟨_, rfl⟩
   rw [hx] at hkd ⊢
   have HX := Lib.hid hx
   have hxb : (x != 0) = true := by simpa using hkd
   clear hx hkd hk
   go_enter Try.func89, Try.ntmps89
   go_wp2_with (first
    | ((with_reducible refine atDst 2 ?_); refine wpList_boxE rfl 27 _ rfl cs rfl ?_; intro w1 hk1 hb1 hs1 _; have K1 := Lib.hid hk1; have B1 := Lib.hid hb1; clear hk1 hb1 hs1)
    | ((with_reducible refine atDst 3 ?_); refine wpList_boxE rfl 27 _ rfl ds rfl ?_; intro w2 hk2 hb2 hs2 ho2; have L2 := Lib.hid hk2; have B2 := Lib.hid (B1.out.trans hb2); have K2 := Lib.hid (show Blk w2 w.heap.size 27 cs from (ho2 _ K1.out.lt).trans K1.out); have a0 := K2.out.cell 0; rw [HC0.out] at a0; have b0 := L2.out.cell 0; rw [HD0.out] at b0; have a5 := K2.out.cell 5; rw [HC5.out] at a5; have b5 := L2.out.cell 5; rw [HD5.out] at b5; have RS := Lib.hid (set_range' HCS.out K2.out); have RS' := Lib.hid (set_range' HDS.out L2.out); clear hk2 hb2 hs2 ho2 K1 B1))
   refine (cmpInt_any k k' w2).mono ?_
   rintro e w3 ⟨rfl, rfl⟩
   rw [HX.out]
   go_wp2_with fail
   go_ret
   exact ⟨rfl, B2.out⟩
end Go.Proofs.Ytopnpdobcagcgaa
