/-
  Texts of this proof, put together: BsD, GrA, SetC, BsLs, BsE, DoorS, Tie, Cards, SetS, SetQ. No statement is proved here.
-/
import Derived.Test.YteadghoojeehlaaGreatDoorXB
import Derived.Laws.Bits128
import Derived.Test.YteadghoojeehlaaGreatDoorXA
import Derived.Sort.Grow
import Derived.Shelf.Spec.TrailingZeros
import Derived.ChangeSame
import Derived.ChangeVars
import Derived.JoinedOf
import Derived.RowKit
import Derived.RowKitTokens
import Derived.LaidLaws
import Derived.LaidHandle
import Derived.LaidMore
import Derived.LaidOnce
import Derived.Stop.Joined
import Derived.Lib.LaidTab
import Derived.Test.YteadghoojeehlaaGreatDoorRows
import Derived.LaidByTextLater
import Derived.SevenTiedAt
import Derived.LaidSub
import GoSem.ClaimSeven
import Derived.Laws.MakeOwn
import Derived.Laws.IdiomCopy
namespace Go.Proofs.YteadghoojeehlaaGreatDoor
open Go.RowKit
set_option linter.unusedSimpArgs false
set_option linter.unusedVariables false
theorem rep85 : rep 85 8 = 6148914691236517205 := by decide +kernel
theorem rep51 : rep 51 8 = 3689348814741910323 := by decide +kernel
theorem rep15 : rep 15 8 = 1085102592571150095 := by decide +kernel
theorem split8 (x : Nat) : ∃ y b, b < 256 ∧ x = 256 * y + b := ⟨x / 256, x % 256, Nat.mod_lt _ (by omega), by omega⟩
theorem S1_lt : ∀ n x : Nat, S1 n x ≤ rep 255 n
 | 0, x => by simp [S1, rep]
 | n + 1, x => by
  obtain ⟨y, b, hb, rfl⟩ := split8 x
  have k1 : s1 b < 256 := (f1 ⟨_, hb⟩ 0).2
  have := S1_lt n y
  rw [S1_step n _ _ hb]
  simp only [rep]
  omega
theorem S2_lt : ∀ n x : Nat, S2 n (S1 n x) ≤ rep 68 n
 | 0, x => by simp [S2, rep]
 | n + 1, x => by
  obtain ⟨y, b, hb, rfl⟩ := split8 x
  have k1 : s1 b < 256 := (f1 ⟨_, hb⟩ 0).2
  have k2 : s2 (s1 b) ≤ 68 := (f4 ⟨_, hb⟩).2.1
  have := S2_lt n y
  rw [S1_step n _ _ hb, S2_step n _ _ k1]
  simp only [rep]
  omega
theorem rep255 : rep 255 8 = 18446744073709551615 := by decide +kernel
theorem rep68 : rep 68 8 = 4919131752989213764 := by decide +kernel
theorem and_lit (a c : Nat) (ha : a < 18446744073709551616) (hc : c < 18446744073709551616) (C : Int) (hC : C = (c : Int)) : bits .and .u64 (a : Int) C = ((a &&& c : Nat) : Int) := by
 rw [hC]
 exact u64_and_nat a c ha hc
theorem wrapN (a : Nat) (h : a < 18446744073709551616) : IntKind.u64.wrap (a : Int) = (a : Int) := IntWalk.u64_in _ (by omega)
theorem low127 (u n : Nat) (h : u % 128 = n) : bits .and .i64 (wrap64 (u : Int)) 127 = (n : Int) := by
 rw [i64_and127]
 unfold wrap64
 rw [Int.emod_def ((u : Int) + 9223372036854775808)]
 generalize ((u : Int) + 9223372036854775808) / 18446744073709551616 = q
 omega
set_option maxHeartbeats 1000000 in
theorem ones_any (x : Nat) (hx : x < 18446744073709551616) (w : World) :
  Calls Tryz.prog 76 #[.int .u64 (x : Int)] w fun e w' => e = .returned (.int .i64 (popc 64 x : Int)) ∧ w' = w := by
 obtain ⟨x1, h1⟩ : ∃ x1, x1 = S1 8 x := ⟨_, rfl⟩
 obtain ⟨x2, h2⟩ : ∃ x2, x2 = S2 8 x1 := ⟨_, rfl⟩
 obtain ⟨x3, h3⟩ : ∃ x3, x3 = S3 8 x2 := ⟨_, rfl⟩
 obtain ⟨y, hy⟩ : ∃ y, y = x3 + x3 / 256 := ⟨_, rfl⟩
 obtain ⟨z, hz⟩ : ∃ z, z = y + y / 65536 := ⟨_, rfl⟩
 obtain ⟨u, hu⟩ : ∃ u, u = z + z / 4294967296 := ⟨_, rfl⟩
 obtain ⟨n, hn⟩ : ∃ n, n = popc 64 x := ⟨_, rfl⟩
 have l1 : x1 ≤ 18446744073709551615 := by rw [h1, ← rep255]; exact S1_lt 8 x
 have l2 : x2 ≤ 4919131752989213764 := by rw [h2, h1, ← rep68]; exact S2_lt 8 x
 have hs := sum64 x hx y z u (by rw [hy, h3, h2, h1]; rfl) hz hu
 have E1 : IntKind.u64.wrap (bits .and .u64 ((x : Int) / 2) 6148914691236517205 + bits .and .u64 (x : Int) 6148914691236517205) = (x1 : Int) := by
  rw [show (x : Int) / 2 = ((x / 2 : Nat) : Int) from by omega, and_lit (x / 2) 6148914691236517205 (by omega) (by omega) 6148914691236517205 rfl, and_lit x 6148914691236517205 hx (by omega) 6148914691236517205 rfl, ← rep85]
  rw [← Int.natCast_add, show (x / 2 &&& rep 85 8) + (x &&& rep 85 8) = x1 from h1.symm]
  exact wrapN x1 (by omega)
 have E2 : IntKind.u64.wrap (bits .and .u64 ((x1 : Int) / 4) 3689348814741910323 + bits .and .u64 (x1 : Int) 3689348814741910323) = (x2 : Int) := by
  rw [show (x1 : Int) / 4 = ((x1 / 4 : Nat) : Int) from by omega, and_lit (x1 / 4) 3689348814741910323 (by omega) (by omega) 3689348814741910323 rfl, and_lit x1 3689348814741910323 (by omega) (by omega) 3689348814741910323 rfl, ← rep51]
  rw [← Int.natCast_add, show (x1 / 4 &&& rep 51 8) + (x1 &&& rep 51 8) = x2 from h2.symm]
  exact wrapN x2 (by omega)
 have E3 : bits .and .u64 (IntKind.u64.wrap ((x2 : Int) / 16 + (x2 : Int))) 1085102592571150095 = (x3 : Int) := by
  rw [show (x2 : Int) / 16 + (x2 : Int) = ((x2 / 16 + x2 : Nat) : Int) from by omega, wrapN _ (by omega), and_lit (x2 / 16 + x2) 1085102592571150095 (by omega) (by omega) 1085102592571150095 rfl, ← rep15]
  rw [show (x2 / 16 + x2) &&& rep 15 8 = x3 from h3.symm]
 have E4 : IntKind.u64.wrap ((x3 : Int) + (x3 : Int) / 256) = (y : Int) := by
  rw [show (x3 : Int) + (x3 : Int) / 256 = (y : Int) from by omega]
  exact wrapN y hs.1
 have E5 : IntKind.u64.wrap ((y : Int) + (y : Int) / 65536) = (z : Int) := by
  rw [show (y : Int) + (y : Int) / 65536 = (z : Int) from by omega]
  exact wrapN z hs.2.1
 have E6 : IntKind.u64.wrap ((z : Int) + (z : Int) / 4294967296) = (u : Int) := by
  rw [show (z : Int) + (z : Int) / 4294967296 = (u : Int) from by omega]
  exact wrapN u hs.2.2.1
 have E7 : bits .and .i64 (wrap64 (u : Int)) 127 = (n : Int) := by
  have := hs.2.2.2
  rw [← hn] at this
  exact low127 u n this
 rw [← hn]
 clear hs hy hz hu hn h1 h2 h3 l1 l2 hx
 go_enter Tryz.func76, Tryz.ntmps76
 go_wp2_with fail
 go_ret
 exact ⟨rfl, rfl⟩
/-! ### Len -/
def lenW (p : Nat → Bool) : Nat → Nat
 | 0 => 0
 | j + 1 => lenW p j + popc 64 (word p j)
theorem popc_word (p : Nat → Bool) (i : Nat) : popc 64 (word p i) = ((List.range 64).filter fun j => p (64 * i + j)).length := by
 unfold popc
 congr 1
 apply List.filter_congr
 intro j hj
 have hj64 : j < 64 := List.mem_range.1 hj
 simp only [word, wd_bit]
 simp [hj64]
theorem lenW_eq (p : Nat → Bool) : ∀ j, lenW p j = ((List.range (64 * j)).filter p).length
 | 0 => rfl
 | j + 1 => by
  rw [lenW, lenW_eq p j, popc_word, Nat.mul_succ, List.range_add, List.filter_append, List.length_append, List.filter_map, List.length_map]
  rfl
theorem lenW_four (p : Nat → Bool) : lenW p 4 = (memJ p 256).length := by
 rw [lenW_eq]
 unfold memJ
 rw [List.length_map]
theorem lenW_le (p : Nat → Bool) (j : Nat) : lenW p j ≤ 64 * j := by
 rw [lenW_eq]
 refine Nat.le_trans (List.length_filter_le _ _) ?_
 simp
theorem idx0 (p : Nat → Bool) (w : World) : (Instr.index 43 (.agg (wds p).toArray) (.int .i64 0)).run Tryz.prog w = .ok (.int .u64 (word p 0 : Int)) w := by kernel_rfl
theorem idx1 (p : Nat → Bool) (w : World) : (Instr.index 43 (.agg (wds p).toArray) (.int .i64 1)).run Tryz.prog w = .ok (.int .u64 (word p 1 : Int)) w := by kernel_rfl
theorem idx2 (p : Nat → Bool) (w : World) : (Instr.index 43 (.agg (wds p).toArray) (.int .i64 2)).run Tryz.prog w = .ok (.int .u64 (word p 2 : Int)) w := by kernel_rfl
theorem idx3 (p : Nat → Bool) (w : World) : (Instr.index 43 (.agg (wds p).toArray) (.int .i64 3)).run Tryz.prog w = .ok (.int .u64 (word p 3 : Int)) w := by kernel_rfl
theorem idx_set (p : Nat → Bool) (j : Nat) (hj : j < 4) (w : World) : (Instr.index 43 (.agg (wds p).toArray) (.int .i64 (j : Int))).run Tryz.prog w = .ok (.int .u64 (word p j : Int)) w := by
 match j, hj with
 | 0, _ => exact idx0 p w
 | 1, _ => exact idx1 p w
 | 2, _ => exact idx2 p w
 | 3, _ => exact idx3 p w
set_option maxHeartbeats 2000000 in
set_option maxRecDepth 100000 in
theorem bsLen_any (p : Nat → Bool) (w : World) :
  Calls Tryz.prog 51 #[.agg (wds p).toArray] w fun e w' => e = .returned (.int .i64 ((memJ p 256).length : Int)) ∧ Below w.heap.size w w' := by
 obtain ⟨cs, hcs⟩ : ∃ cs, cs = wds p := ⟨_, rfl⟩
 have HCS := qH hcs
 have HSZ := qH (show (Tryz.prog.info? 43).map (·.size) = some cs.length by rw [hcs]; exact size_set p)
 have HG := qH (show ∀ (i : Nat) (_ : i < 4) (w : World), (Instr.index 43 (.agg cs.toArray) (.int .i64 (i : Int))).run Tryz.prog w = .ok (.int .u64 (word p i : Int)) w by rw [hcs]; exact idx_set p)
 have HF := qH (lenW_four p)
 rw [← hcs]
 clear hcs
 go_enter Tryz.func51, Tryz.ntmps51
 go_wp2_with (first
  | ((with_reducible refine atDst 1 ?_); refine wpList_box rfl 43 _ rfl cs rfl (Below.refl w.heap.size w) (Nat.le_refl _) ?_; intro w1 hk1 hb1 hs1 _; have K1 := qH hk1; have B1 := qH hb1; clear hk1 hb1 hs1)
  | ((with_reducible refine atDst 5 ?_); refine wpList_ldArr rfl 43 _ rfl w.heap.size rfl 43 _ _ K1.out Tryz.underlying43 rfl HSZ.out ?_))
 go_loopw [2, 6] (fun s i wl => ∃ j : Nat, j ≤ 4 ∧ i = .int .i64 (j : Int) ∧ s = .int .i64 (lenW p j : Int) ∧ Below w.heap.size w wl) (fun s i _ => 4 - (intOf i).toNat)
 case atStart => exact ⟨0, by omega, by simp, by simp [lenW], B1.out⟩
 case round =>
  obtain ⟨j, hj, rfl, rfl, hb⟩ := hrel
  have BR := qH hb
  clear hb
  by_cases hjl : j < 4
  ·have j1 : (j : Int) < 4 := by omega
   have hcj := HG.out j hjl
   obtain ⟨x, hx⟩ : ∃ x, x = word p j := ⟨_, rfl⟩
   rw [← hx] at hcj
   have hlx : x < 18446744073709551616 := by rw [hx]; exact word_lt _ _
   have HN := qH (show lenW p j + popc 64 x = lenW p (j + 1) by rw [hx]; rfl)
   have hle := lenW_le p (j + 1)
   obtain ⟨n, hn⟩ : ∃ n, n = lenW p j := ⟨_, rfl⟩
   obtain ⟨m, hm⟩ : ∃ m, m = popc 64 x := ⟨_, rfl⟩
   rw [← hn, ← hm] at HN
   rw [← hn]
   have hwr : IntKind.i64.wrap ((n : Int) + (m : Int)) = ((n : Int) + (m : Int)) := IntWalk.i64_in _ (by have := HN.out; omega)
   have HON := qH (ones_any x hlx)
   rw [← hm] at HON
   have HLX := qH hlx
   clear hx hn hm hle hlx
   go_wp2_with fail
   refine (HON.out wr).mono ?_
   rintro e w2 ⟨rfl, rfl⟩
   go_wp2_with fail
   have h := HN.out
   exact ⟨⟨j + 1, by omega, by congr 1, by congr 1; omega, BR.out⟩, by simp [intOf] <;> omega⟩
  ·obtain rfl : j = 4 := by omega
   have j1 : ¬ ((4 : Int) < 4) := by omega
   go_wp2_with fail
   go_ret
   rw [← HF.out]
   exact ⟨rfl, BR.out⟩
def Gr (w w' : World) : Prop := ∃ q os, w' = Sort.grow (w.drewN q) os
theorem Gr.refl (w : World) : Gr w w := ⟨0, #[], by rw [Sort.grow_empty]; rfl⟩
theorem Gr.alloc {w w' : World} (h : Gr w w') (o : Obj) : Gr w (w'.alloc o) := by
 obtain ⟨q, os, rfl⟩ := h
 exact ⟨q, os ++ #[o], by rw [Sort.alloc_eq_grow, Sort.grow_grow]⟩
theorem grow_drewN (w : World) (os : Array Obj) (n : Nat) : (Sort.grow w os).drewN n = Sort.grow (w.drewN n) os := rfl
theorem Gr.drewN {w w' : World} (h : Gr w w') (n : Nat) : Gr w (w'.drewN n) := by
 obtain ⟨q, os, rfl⟩ := h
 exact ⟨q + n, os, by rw [grow_drewN, World.drewN_drewN]⟩
theorem Gr.trans {w w' w'' : World} (h : Gr w w') (k : Gr w' w'') : Gr w w'' := by
 obtain ⟨q, os, rfl⟩ := h
 obtain ⟨r, os', rfl⟩ := k
 exact ⟨q + r, os ++ os', by rw [grow_drewN, World.drewN_drewN, Sort.grow_grow]⟩
theorem Gr.below {w w' : World} (h : Gr w w') : Below w.heap.size w w' := by
 obtain ⟨q, os, rfl⟩ := h
 refine ⟨rfl, rfl, rfl, by simp [Sort.grow], fun k hk => ?_⟩
 show (w.heap ++ os)[k]? = _
 rw [Array.getElem?_append_left hk]
theorem wpList_boxE {P : Program} {w : World} {ops : Array Oper} {rest : List Oper} {o : Oper} {a : Act} {Q : Exit → Act → World → Prop} (hgd : Region.wanted o (yielded ops a.tmps) = true) (ty : TypeId) (x : Operand) (ho : o.op = .box ty x) (cs : List Value) (hx : a.eval x = .agg cs.toArray)
  (h : ∀ w', Blk w' w.heap.size ty cs → Gr w w' → w'.heap.size = w.heap.size + 1 → (∀ k, k < w.heap.size → w'.heap[k]? = w.heap[k]?) → wpList P ops Q rest (a.put o.dst (.pointer (some ⟨w.heap.size, 0, none⟩))) w') :
  wpList P ops Q (o :: rest) a w := by
 refine BigFrame.wpList_want hgd fun K hK => ?_
 unfold Oper.wp
 have hrun : (Instr.box ty (.agg cs.toArray)).run P w = .ok (.pointer (some ⟨w.heap.size, 0, none⟩)) (w.alloc (.cells cs.toArray ty)) := by
  simp [Instr.box, newVar, Value.cells, run_newRow_blk]
 simp only [execOp, ho, hx, hrun, Sem.run_bind, Result.andThen_ok, Sem.run_pure]
 exact hK _ _ (h _ (Blk.new w ty cs) ((Gr.refl w).alloc _) (by simp) (fun k hk => Below.heap_alloc w _ k hk))
theorem Gr.of {w w' : World} (h : Below w.heap.size w w') (hd : w.drawn ≤ w'.drawn) : Gr w w' := by
 refine ⟨w'.drawn - w.drawn, w'.heap.extract w.heap.size w'.heap.size, ?_⟩
 have hh : w'.heap = w.heap ++ w'.heap.extract w.heap.size w'.heap.size := by
  apply Array.ext_getElem?
  intro i
  by_cases hi : i < w.heap.size
  ·rw [Array.getElem?_append_left hi]
   exact h.block i hi
  ·rw [Array.getElem?_append_right (by omega), Array.getElem?_extract]
   have hs := h.size
   by_cases h2 : i < w'.heap.size
   ·rw [if_pos (by omega)]
    congr 1
    omega
   ·rw [if_neg (by omega), Array.getElem?_eq_none (by omega)]
 obtain ⟨heap, tape, drawn, os, output⟩ := w
 obtain ⟨heap', tape', drawn', os', output'⟩ := w'
 have h1 := h.os
 have h2 := h.tape
 have h3 := h.output
 simp only at h1 h2 h3 hh hd
 subst h1 h2 h3
 unfold Sort.grow World.drewN
 simp only [World.mk.injEq, and_true, true_and]
 exact ⟨hh, by omega⟩
theorem Gr.drawn {w w' : World} (h : Gr w w') : w.drawn ≤ w'.drawn := by
 obtain ⟨q, os, rfl⟩ := h
 show w.drawn ≤ w.drawn + q
 omega
theorem Gr.size {w w' : World} (h : Gr w w') : w.heap.size ≤ w'.heap.size := h.below.size
section
variable {P : Program} {w : World} {ops : Array Oper} {rest : List Oper} {o : Oper} {a : Act} {Q : Exit → Act → World → Prop}
theorem wpList_newE {w0 : World} (hgd : Region.wanted o (yielded ops a.tmps) = true) (ty : TypeId) (ho : o.op = .alloc ty) (i : TypeInfo) (z : Value) (cs : List Value) (hi : P.info? ty = some i) (hz : i.zero = some z) (hc : z.cells = cs.toArray)
  (hb : Gr w0 w)
  (h : ∀ w', Blk w' w.heap.size ty cs → Gr w0 w' → w'.heap.size = w.heap.size + 1 → (∀ k, k < w.heap.size → w'.heap[k]? = w.heap[k]?) → wpList P ops Q rest (a.put o.dst (.pointer (some ⟨w.heap.size, 0, none⟩))) w') :
  wpList P ops Q (o :: rest) a w := by
 refine BigFrame.wpList_want hgd fun K hK => ?_
 unfold Oper.wp
 have hrun : (Instr.alloc ty true (.tuple #[])).run P w = .ok (.pointer (some ⟨w.heap.size, 0, none⟩)) (w.alloc (.cells cs.toArray ty)) := by
  have hzv : (zeroValue ty).run P w = .ok z w := by simp [zeroValue, typeInfo, hi, hz]
  simp [Instr.alloc, hzv, newVar, hc, run_newRow_blk]
 simp only [execOp, ho, hrun, Sem.run_bind, Result.andThen_ok, Sem.run_pure]
 exact hK _ _ (h _ (Blk.new w ty cs) (hb.alloc _) (by simp) (fun k hk => Below.heap_alloc w _ k hk))
theorem wpList_stE {w0 : World} (hgd : o.guard = none) (ty : TypeId) (x y : Operand) (ho : o.op = .store ty x y)
  (g : Nat) (cs : List Value) (hx : a.eval x = .pointer (some ⟨g, 0, none⟩)) (hy : a.eval y = .agg cs.toArray)
  (t : TypeId) (old : List Value) (hg : Blk w g t old) (hi : (P.info? ty).map (·.size) = some cs.length)
  (hold : old.length = cs.length) (h1 : cs.all (·.oneCell') = true) (hb : Gr w0 w) (hB : w0.heap.size ≤ g)
  (h : ∀ w', Blk w' g t cs → Gr w0 w' → w'.heap.size = w.heap.size → (∀ k, k ≠ g → w'.heap[k]? = w.heap[k]?) → wpList P ops Q rest (a.put o.dst undef) w') : wpList P ops Q (o :: rest) a w :=
 wpList_store_row hgd ty x y ho g cs.toArray hx hy t old.toArray hg (by simpa using hi) (by simpa using hold) (by simpa using h1)
  (h _ (setRow_heap w g old.toArray cs.toArray t (0, 0) hg) (Gr.of (below_setRow hb.below hB _) hb.drawn) (by simp) (fun k hk => setRow_other w g k _ hk))
end
def lessS (p q : Nat → Bool) : Bool := match (List.range 256).find? fun b => p b != q b with
 | some b => p b
 | none => false
theorem lessS_at {p q : Nat → Bool} {j : Nat} (hj : j < 256) (h : ∀ b, b < j → p b = q b) (hne : p j ≠ q j) : lessS p q = p j := by
 have : (List.range 256).find? (fun b => p b != q b) = some j := by
  rw [List.find?_range_eq_some]
  exact ⟨by simpa using hne, List.mem_range.2 hj, fun b hb => by simp [h b hb]⟩
 unfold lessS
 rw [this]
theorem lessS_none {p q : Nat → Bool} (h : ∀ b, b < 256 → p b = q b) : lessS p q = false := by
 have : (List.range 256).find? (fun b => p b != q b) = none := by
  rw [List.find?_eq_none]
  intro b hb
  simp [h b (List.mem_range.1 hb)]
 unfold lessS
 rw [this]
set_option maxHeartbeats 2000000 in
set_option maxRecDepth 100000 in
theorem refSetLess_any (p q : Nat → Bool) (w : World) :
  Calls Tryz.prog 110 #[.agg (wds p).toArray, .agg (wds q).toArray] w fun e w' => e = .returned (.bool (lessS p q)) ∧ Below w.heap.size w w' := by
 go_enter Tryz.func110, Tryz.ntmps110
 go_wp2_with (first
  | ((with_reducible refine atDst 2 ?_); refine wpList_box rfl 43 _ rfl (wds p) rfl (Below.refl w.heap.size w) (Nat.le_refl _) ?_; intro w1 hk1 hb1 hs1 _; have K1 := qH hk1; have B1 := qH hb1; clear hk1 hb1 hs1)
  | ((with_reducible refine atDst 3 ?_); refine wpList_box rfl 43 _ rfl (wds q) rfl B1.out B1.out.size ?_; intro w2 hk2 hb2 hs2 ho2; have L2 := qH hk2; have B2 := qH hb2; have K2 := qH (show Blk w2 w.heap.size 43 (wds p) from (ho2 _ K1.out.lt).trans K1.out); clear hk2 hb2 hs2 ho2))
 go_loopw [5] (fun i wl => ∃ j : Nat, j ≤ 256 ∧ i = .int .i64 (j : Int) ∧ (∀ b, b < j → p b = q b) ∧ Below w2.heap.size w2 wl) (fun i _ => 256 - (intOf i).toNat)
 case atStart => exact ⟨0, by omega, by simp, fun b hb => by omega, Below.refl _ _⟩
 case round =>
  obtain ⟨j, hj, rfl, hpq, hb⟩ := hrel
  have HPQ := qH hpq
  have HB := qH hb
  clear hpq hb
  by_cases hjl : j < 256
  ·have j1 : (j : Int) < 256 := by omega
   have hw8 : IntKind.u8.wrap (j : Int) = (j : Int) := IntWalk.u8_in _ (by omega)
   have KR := qH (K2.out.below HB.out K2.out.lt)
   have LR := qH (L2.out.below HB.out L2.out.lt)
   have SR := qH HB.out.size
   go_wp2_with fail
   refine sx_startB (B := w2.heap.size) (w0 := wr) (by kernel_rfl) (Below.refl _ _) (fun wd hwd hX => ?_)
   have SD := qH (Nat.le_trans SR.out hX.size)
   clear hwd
   refine sx_take (i := 0) (oi := ⟨some 10, _, _, _, _, _⟩) (v := .agg (wds p).toArray) rfl (by kernel_rfl) (by kernel_rfl) (by kernel_rfl) (fun _ _ _ h => h) rfl hX (ld_blk 43 _ rfl w.heap.size rfl 43 _ _ KR.out K2.out.lt Tryz.underlying43 rfl (size_set p)) ?_
   simp only [Act.put, qA, qB, qC]
   refine sx_take (i := 4) (oi := ⟨some 14, _, _, _, _, _⟩) (v := .agg (wds q).toArray) rfl (by kernel_rfl) (by kernel_rfl) (by kernel_rfl) (fun _ _ _ h => h) rfl hX (ld_blk 43 _ rfl w1.heap.size rfl 43 _ _ LR.out L2.out.lt Tryz.underlying43 rfl (size_set q)) ?_
   simp only [Act.put, qA, qB, qC]
   refine sx_take (i := 1) (oi := ⟨some 11, _, _, _, _, _⟩) (v := ?_) rfl (by kernel_rfl) (by kernel_rfl) (by kernel_rfl) (fun _ _ _ h => h) rfl hX ?_ ?_; rotate_left; (intro W hW; go_simp; try with_reducible rfl); simp only [Act.put, qA, qB, qC]
   refine sx_take (i := 2) (oi := ⟨some 12, _, _, _, _, _⟩) (v := ?_) rfl (by kernel_rfl) (by kernel_rfl) (by kernel_rfl) (fun _ _ _ h => h) rfl hX ?_ ?_; rotate_left; (intro W hW; go_simp; try with_reducible rfl); simp only [Act.put, qA, qB, qC]
   refine sx_take (i := 5) (oi := ⟨some 15, _, _, _, _, _⟩) (v := ?_) rfl (by kernel_rfl) (by kernel_rfl) (by kernel_rfl) (fun _ _ _ h => h) rfl hX ?_ ?_; rotate_left; (intro W hW; go_simp; try with_reducible rfl); simp only [Act.put, qA, qB, qC]
   refine sx_take (i := 6) (oi := ⟨some 16, _, _, _, _, _⟩) (v := ?_) rfl (by kernel_rfl) (by kernel_rfl) (by kernel_rfl) (fun _ _ _ h => h) rfl hX ?_ ?_; rotate_left; (intro W hW; go_simp; try with_reducible rfl); simp only [Act.put, qA, qB, qC]
   refine sx_actB (i := 3) (o := ⟨some 13, _, _, _, _, _⟩) rfl (by kernel_rfl) rfl hX (fun K hK => ?_)
   go_wp2_with fail
   refine (refHas_any p j hjl wd).mono ?_
   rintro e w5 ⟨rfl, hb5⟩
   refine hK _ _ (hb5.mono SD.out) ?_
   clear hK K
   replace hX := hX.trans (hb5.mono SD.out)
   have S5 := qH (Nat.le_trans SD.out hb5.size)
   clear hb5
   refine sx_actB (i := 7) (o := ⟨some 17, _, _, _, _, _⟩) rfl (by kernel_rfl) rfl hX (fun K hK => ?_)
   go_wp2_with fail
   refine (refHas_any q j hjl w5).mono ?_
   rintro e w6 ⟨rfl, hb6⟩
   refine hK _ _ (hb6.mono S5.out) ?_
   clear hK K
   replace hX := hX.trans (hb6.mono S5.out)
   have K6 := qH (KR.out.below hX K2.out.lt)
   have B6 := qH (HB.out.trans hX)
   clear hb6
   obtain ⟨x, hx⟩ : ∃ x, x = p j := ⟨_, rfl⟩
   obtain ⟨y, hy⟩ : ∃ y, y = q j := ⟨_, rfl⟩
   rw [← hx, ← hy]
   have HXX := qH hx
   have HYY := qH hy
   clear hx hy
   by_cases hxy : x = y
   ·have hne : (x == y) = true := by simp [hxy]
    have HE := qH hxy
    clear hxy
    refine sx_take (i := 8) (oi := ⟨some 18, _, _, _, _, _⟩) (v := ?_) rfl (by kernel_rfl) (by kernel_rfl) (by kernel_rfl) (fun _ _ _ h => h) rfl hX ?_ ?_; rotate_left; (intro W hW; go_simp; try with_reducible rfl); simp only [Act.put, qA, qB, qC]
    refine wpAnyH_done (by kernel_rfl) ?_ _
    go_wp2_with fail
    refine ⟨⟨j + 1, by omega, by congr 1, fun b hb => ?_, B6.out⟩, by simp [intOf] <;> omega⟩
    rcases Nat.lt_or_ge b j with h | h
    ·exact HPQ.out b h
    ·obtain rfl : b = j := by omega
     rw [← HXX.out, ← HYY.out, HE.out]
   ·have hne : (x == y) = false := by simpa using hxy
    have HL := qH (lessS_at hjl HPQ.out (by rw [← HXX.out, ← HYY.out]; exact hxy))
    clear hxy
    refine sx_take (i := 8) (oi := ⟨some 18, _, _, _, _, _⟩) (v := ?_) rfl (by kernel_rfl) (by kernel_rfl) (by kernel_rfl) (fun _ _ _ h => h) rfl hX ?_ ?_; rotate_left; (intro W hW; go_simp; try with_reducible rfl); simp only [Act.put, qA, qB, qC]
    refine wpAnyH_done (by kernel_rfl) ?_ _
    go_wp2_with ((with_reducible refine atDst 19 ?_); refine wpList_ldArr rfl 43 _ rfl w.heap.size rfl 43 _ _ K6.out Tryz.underlying43 rfl (size_set p) ?_)
    refine (refHas_any p j hjl w6).mono ?_
    rintro e w7 ⟨rfl, hb7⟩
    have B7 := qH ((B2.out.trans (B6.out.mono B2.out.size)).trans (hb7.mono (Nat.le_trans (Nat.le_trans B2.out.size HB.out.size) hX.size)))
    clear hb7
    go_wp2_with fail
    go_ret
    rw [HL.out]
    exact ⟨rfl, B7.out⟩
  ·obtain rfl : j = 256 := by omega
   have j1 : ¬ ((256 : Int) < 256) := by omega
   have HL := qH (lessS_none HPQ.out)
   go_wp2_with fail
   go_ret
   rw [HL.out]
   exact ⟨rfl, B2.out.trans (HB.out.mono B2.out.size)⟩
theorem low_word (q : Nat → Bool) (y k : Nat) (hy : y = wd q 64) (h0 : y ≠ 0) (hk : k = Lib.ctz 64 y) :
  k < 64 ∧ q k = true ∧ (∀ j, j < k → q j = false) ∧ y &&& (y - 1) = wd (fun j => q j && decide (k + 1 ≤ j)) 64 ∧ y &&& (y - 1) < y := by
 have hlt : y < 2 ^ 64 := by rw [hy]; exact wd_lt q 64
 obtain ⟨m, hm, hk2⟩ := Lib.ctzFrom_spec 64 y (by omega) hlt
 have ek : Lib.ctz 64 y = Lib.ctzFrom 64 y := by simp [Lib.ctz, h0]
 rw [← ek, ← hk] at hm hk2
 have T : ∀ j, y.testBit j = (decide (j < 64) && q j) := fun j => by rw [hy]; exact wd_bit q 64 j
 have T2 : ∀ j, y.testBit j = (decide (j ≥ k) && (2 * m + 1).testBit (j - k)) := fun j => by rw [hm]; exact Nat.testBit_two_pow_mul
 have hp : 0 < 2 ^ k := Nat.pow_pos (by omega)
 have e1 : y - 1 = 2 ^ k * (2 * m) + (2 ^ k - 1) := by rw [hm, Nat.mul_add, Nat.mul_one]; omega
 have T3 : ∀ j, (y - 1).testBit j = if j < k then (2 ^ k - 1).testBit j else (2 * m).testBit (j - k) := fun j => by rw [e1]; exact Nat.testBit_two_pow_mul_add _ (by omega) j
 refine ⟨hk2, ?_, ?_, ?_, Nat.lt_of_le_of_lt Nat.and_le_right (by omega)⟩
 ·have h1 := T k
  rw [T2 k] at h1
  simpa [hk2, Nat.testBit_zero] using h1.symm
 ·intro j hj
  have h1 := T j
  rw [T2 j] at h1
  have : ¬ (j ≥ k) := by omega
  simpa [this, show j < 64 by omega] using h1.symm
 ·apply Nat.eq_of_testBit_eq
  intro j
  rw [Nat.testBit_and, wd_bit, T3, T]
  by_cases h1 : j < k
  ·have h2 := T j
   rw [T2 j] at h2
   have h3 : ¬ (j ≥ k) := by omega
   have h4 : ¬ (k + 1 ≤ j) := by omega
   have h5 : (decide (j < 64) && q j) = false := by rw [← h2]; simp [h3]
   simp [h4, h5]
  ·rw [if_neg h1]
   by_cases h2 : j = k
   ·subst h2
    simp [Nat.testBit_zero]
   ·obtain ⟨d, rfl⟩ : ∃ d, j = k + (d + 1) := ⟨j - k - 1, by omega⟩
    have h3 : k + (d + 1) - k = d + 1 := by omega
    have h4 := T (k + (d + 1))
    rw [T2 (k + (d + 1)), h3, Nat.testBit_succ, show (2 * m + 1) / 2 = m by omega] at h4
    rw [h3, Nat.testBit_succ, show 2 * m / 2 = m by omega]
    have h5 : k + 1 ≤ k + (d + 1) := by omega
    have h6 : k + (d + 1) ≥ k := by omega
    simp only [h6, decide_true, Bool.true_and] at h4
    simp only [h5, decide_true, Bool.and_true]
    rw [← h4]
    cases m.testBit d <;> simp
/-! ### one word of two sets -/
theorem word_xor (p q : Nat → Bool) (i : Nat) : word p i ^^^ word q i = wd (fun j => p (64 * i + j) != q (64 * i + j)) 64 := by
 apply Nat.eq_of_testBit_eq
 intro j
 rw [Nat.testBit_xor]
 simp only [word, wd_bit]
 cases decide (j < 64) <;> simp
theorem neg_wrap (d : Nat) (h0 : d ≠ 0) (h : d < 18446744073709551616) : IntKind.u64.wrap (-(d : Int)) = ((18446744073709551616 - d : Nat) : Int) := by
 rw [IntKind.wrap_u64]
 omega
theorem and_pow (x k : Nat) : x &&& 2 ^ k = if x.testBit k then 2 ^ k else 0 := by
 apply Nat.eq_of_testBit_eq
 intro j
 rw [Nat.testBit_and, Nat.testBit_two_pow]
 by_cases hj : k = j
 ·subst hj
  cases h : x.testBit k <;> simp [h]
 ·cases h : x.testBit k <;> simp [hj, Nat.testBit_two_pow]
theorem less_word (p q : Nat → Bool) (i d : Nat) (hi : i < 4) (hd : d = word p i ^^^ word q i) (h0 : d ≠ 0) (hb : ∀ b, b < 64 * i → p b = q b) :
  ((((word p i) &&& (d &&& (18446744073709551616 - d)) : Nat) : Int) != 0) = lessS p q := by
 have hlt : d < 2 ^ 64 := by rw [hd]; exact Nat.xor_lt_two_pow (word_lt p i) (word_lt q i)
 obtain ⟨hlow, hk64⟩ := Lib.lowest_bit 64 d h0 hlt
 obtain ⟨k, hk⟩ : ∃ k, k = Lib.ctz 64 d := ⟨_, rfl⟩
 obtain ⟨h1, h2, h3, _, _⟩ := low_word _ d k (by rw [hd, word_xor]) h0 hk
 rw [show (18446744073709551616 : Nat) = 2 ^ 64 from rfl, hlow, ← hk]
 have hle := lessS_at (p := p) (q := q) (j := 64 * i + k) (by omega) (fun b hb2 => by
  by_cases hb3 : b < 64 * i
  ·exact hb b hb3
  ·have := h3 (b - 64 * i) (by omega)
   rw [show 64 * i + (b - 64 * i) = b by omega] at this
   simpa using this) (by simpa using h2)
 rw [hle]
 have hbit := wd_bit (fun j => p (64 * i + j)) 64 k
 rw [decide_eq_true h1, Bool.true_and] at hbit
 have hw : (word p i).testBit k = p (64 * i + k) := hbit
 rw [and_pow, hw]
 have hp : 0 < 2 ^ k := Nat.pow_pos (by omega)
 cases p (64 * i + k)
 ·rfl
 ·simp only [if_true, bne_iff_ne, ne_eq]
  omega
theorem less_same (p q : Nat → Bool) (i : Nat) (h0 : word p i ^^^ word q i = 0) (hb : ∀ b, b < 64 * i → p b = q b) : ∀ b, b < 64 * (i + 1) → p b = q b := by
 intro b hb2
 by_cases hb3 : b < 64 * i
 ·exact hb b hb3
 ·rw [word_xor] at h0
  have := wd_zero h0 (b - 64 * i) (by omega)
  rw [show 64 * i + (b - 64 * i) = b by omega] at this
  simpa using this
set_option maxHeartbeats 4000000 in
set_option maxRecDepth 100000 in
theorem bsLess_gr (p q : Nat → Bool) (w : World) :
  Calls Tryz.prog 75 #[.agg (wds p).toArray, .agg (wds q).toArray] w fun e w' => e = .returned (.bool (lessS p q)) ∧ Gr w w' := by
 go_enter Tryz.func75, Tryz.ntmps75
 go_wp2_with (first
  | ((with_reducible refine atDst 2 ?_); refine wpList_boxE rfl 43 _ rfl (wds p) rfl ?_; intro w1 hk1 hb1 hs1 _; have K1 := qH hk1; have G1 := qH hb1; clear hk1 hb1 hs1)
  | ((with_reducible refine atDst 3 ?_); refine wpList_boxE rfl 43 _ rfl (wds q) rfl ?_; intro w2 hk2 hb2 hs2 ho2; have L2 := qH hk2; have G2 := qH (G1.out.trans hb2); have K2 := qH (show Blk w2 w.heap.size 43 (wds p) from (ho2 _ K1.out.lt).trans K1.out); clear hk2 hb2 hs2 ho2))
 go_loopw [7] (fun i wl => ∃ j n : Nat, j ≤ 4 ∧ i = .int .i64 (j : Int) ∧ wl = w2.drewN n ∧ ∀ b, b < 64 * j → p b = q b) (fun i _ => 4 - (intOf i).toNat)
 case atStart => exact ⟨0, 0, by omega, by simp, rfl, fun b hb => by omega⟩
 case round =>
  obtain ⟨j, n, hj, rfl, hwl, hb⟩ := hrel
  have HW := qH hwl
  have HB := qH hb
  have KR := qH (show Blk wr w.heap.size 43 (wds p) by rw [hwl]; exact K2.out)
  have LR := qH (show Blk wr w1.heap.size 43 (wds q) by rw [hwl]; exact L2.out)
  clear hwl hb
  by_cases hjl : j < 4
  ·have j1 : (j : Int) < 4 := by omega
   have hcp := KR.out.cell j
   rw [wds_get p j hjl] at hcp
   have hcq := LR.out.cell j
   rw [wds_get q j hjl] at hcq
   have HLP := qH (word_lt p j)
   have HLQ := qH (word_lt q j)
   have HLW := qH (fun d hd h0 => less_word p q j d hjl hd h0 HB.out)
   have HSM := qH (less_same p q j)
   obtain ⟨x, hx⟩ : ∃ x, x = word p j := ⟨_, rfl⟩
   obtain ⟨y, hy⟩ : ∃ y, y = word q j := ⟨_, rfl⟩
   rw [← hx] at hcp HLP HLW HSM
   rw [← hy] at hcq HLQ HLW HSM
   clear hx hy
   obtain ⟨d, hd⟩ : ∃ d, d = x ^^^ y := ⟨_, rfl⟩
   have HD := qH hd
   have hxy : bits .xor .u64 (x : Int) (y : Int) = (d : Int) := by rw [u64_xor_nat x y HLP.out HLQ.out, hd]
   have HLD := qH (show d < 18446744073709551616 by rw [hd]; exact Nat.xor_lt_two_pow (n := 64) HLP.out HLQ.out)
   clear hd
   by_cases h0 : d = 0
   ·have hdb : ((d : Int) != 0) = false := by rw [h0]; rfl
    have HN := qH (HSM.out (by rw [← HD.out]; exact h0) HB.out)
    clear h0
    go_wp2_with fail
    go_quiet (fail)
    go_wp2_with fail
    exact ⟨⟨j + 1, n + nq, by omega, by congr 1, by rw [HW.out, World.drewN_drewN], HN.out⟩, by simp [intOf] <;> omega⟩
   ·have hdb : ((d : Int) != 0) = true := by simpa using h0
    have HA := qH (HLW.out d HD.out h0)
    have hng := neg_wrap d h0 HLD.out
    obtain ⟨e, he⟩ : ∃ e, e = 18446744073709551616 - d := ⟨_, rfl⟩
    have HLE := qH (show e < 18446744073709551616 by have := HLD.out; omega)
    rw [← he] at hng HA
    obtain ⟨f, hf⟩ : ∃ f, f = d &&& e := ⟨_, rfl⟩
    have hde : bits .and .u64 (d : Int) (e : Int) = (f : Int) := by rw [u64_and_nat d e HLD.out HLE.out, hf]
    rw [← hf] at HA
    have HLF := qH (show f < 18446744073709551616 by rw [hf]; exact Nat.lt_of_le_of_lt Nat.and_le_left HLD.out)
    have hxf : bits .and .u64 (x : Int) (f : Int) = ((x &&& f : Nat) : Int) := u64_and_nat x f HLP.out HLF.out
    obtain ⟨g, hg⟩ : ∃ g, g = x &&& f := ⟨_, rfl⟩
    rw [← hg] at HA hxf
    clear he hf hg h0
    go_wp2_with fail
    go_quiet (fail)
    go_wp2_with fail
    go_ret
    rw [HA.out, HW.out]
    exact ⟨rfl, (G2.out.drewN _).drewN _⟩
  ·obtain rfl : j = 4 := by omega
   have j1 : ¬ ((4 : Int) < 4) := by omega
   have HL := qH (lessS_none HB.out)
   go_wp2_with fail
   go_ret
   rw [HL.out, HW.out]
   exact ⟨rfl, G2.out.drewN _⟩
def Tb (w : World) : Prop := TabAt 0 Lib.deBruijn64tab w
theorem Tb.lt {w : World} (h : Tb w) : 0 < w.heap.size := by
 have h1 := h 0 (by decide)
 have := World.block_lt_of_cell? _ _ h1
 exact this
theorem Tb.below {w w' : World} {B : Nat} (h : Tb w) (hb : Below B w w') (hB : w.heap.size ≤ B) : Tb w' :=
 fun j hj => (hb.cell (p := ⟨0, j, none⟩) (Nat.lt_of_lt_of_le h.lt hB)).trans (h j hj)
theorem Tb.belowG {w w' : World} {B : Nat} (h : Tb w) (hb : Below B w w') (hB : 0 < B) : Tb w' :=
 fun j hj => (hb.cell (p := ⟨0, j, none⟩) hB).trans (h j hj)
theorem tz_core (x k idx : Nat) (w : World) (hx0 : ((x : Int) == 0) = false)
  (key : IntKind.u64.wrap (bits BinOp.and IntKind.u64 (x : Int) (IntKind.u64.wrap (-(x : Int))) * 285870213051353865) / 288230376151711744 = (idx : Int))
  (hi : idx < 64) (hk : k < 64) (hcell : w.cell? ⟨0, idx, none⟩ = some (.int .u8 k)) :
  Calls Tryz.prog 52 #[.int .u64 x] w fun e w' => e = .returned (.int .i64 k) ∧ w' = w := by
 go_enter Tryz.func52, Tryz.ntmps52
 go_wp2_with (simp only [key])
 go_ret
 exact ⟨rfl, rfl⟩
theorem tz_any (x : Nat) (hx : x < 18446744073709551616) (hx0 : x ≠ 0) (w : World) (hT : Tb w) :
  Calls Tryz.prog 52 #[.int .u64 (x : Int)] w fun e w' => e = .returned (.int .i64 (Lib.ctz 64 x : Int)) ∧ w' = w := by
 obtain ⟨hlow, hk⟩ := Lib.lowest_bit 64 x hx0 hx
 obtain ⟨hi, htab⟩ := Lib.deBruijn64_at _ hk
 have hcell := hT _ hi
 rw [htab] at hcell
 exact tz_core x _ _ w (by simp; omega) (tz64_key x _ hx hx0 hlow) hi hk hcell
def left (p : Nat → Bool) (i c : Nat) : Nat := wd (fun j => p (64 * i + j) && decide (c ≤ j)) 64
theorem left_zero (p : Nat → Bool) (i : Nat) : left p i 0 = word p i := by simp [left, word]
theorem left_lt (p : Nat → Bool) (i c : Nat) : left p i c < 18446744073709551616 := wd_lt _ 64
theorem memJ_skip (p : Nat → Bool) (a : Nat) : ∀ d, (∀ j, j < d → p (a + j) = false) → memJ p (a + d) = memJ p a
 | 0, _ => rfl
 | d + 1, h => by
  rw [show a + (d + 1) = (a + d) + 1 from rfl, memJ_succ, h d (by omega), memJ_skip p a d fun j hj => h j (by omega)]
  rfl
theorem left_none (p : Nat → Bool) (i c : Nat) (hc : c ≤ 64) (h : left p i c = 0) : memJ p (64 * i + c) = memJ p (64 * (i + 1)) := by
 have := memJ_skip p (64 * i + c) (64 - c) fun j hj => by
  have := wd_zero h (c + j) (by omega)
  simpa [Nat.add_assoc] using this
 rw [← this]
 congr 1
 omega
theorem left_next (p : Nat → Bool) (i c k : Nat) (h0 : left p i c ≠ 0) (hk : k = Lib.ctz 64 (left p i c)) :
  k < 64 ∧ memJ p (64 * i + (k + 1)) = memJ p (64 * i + c) ++ [UInt8.ofNat (64 * i + k)] ∧ left p i c &&& (left p i c - 1) = left p i (k + 1) ∧ left p i c &&& (left p i c - 1) < left p i c := by
 obtain ⟨h1, h2, h3, h4, h5⟩ := low_word _ _ k rfl h0 hk
 simp only [Bool.and_eq_true, decide_eq_true_iff] at h2
 refine ⟨h1, ?_, ?_, h5⟩
 ·rw [show 64 * i + (k + 1) = (64 * i + k) + 1 from rfl, memJ_succ, h2.1, if_pos rfl]
  congr 1
  have := memJ_skip p (64 * i + c) (k - c) fun j hj => by
   have := h3 (c + j) (by omega)
   simpa [Nat.add_assoc] using this
  rw [← this]
  congr 1
  omega
 ·show left p i c &&& (left p i c - 1) = _
  rw [show left p i (k + 1) = wd (fun j => (p (64 * i + j) && decide (c ≤ j)) && decide (k + 1 ≤ j)) 64 from wd_congr fun j hj => by
   by_cases hj2 : k + 1 ≤ j
   ·have : c ≤ j := by omega
    simp [hj2, this]
   ·simp [hj2]]
  exact h4
open Go.ChangeShapes Go.WideShapes Go.ChangeAt Go.RowKit
def laidL : List (String × DataW Unit) := [("math/bits.deBruijn64tab", Rows.laid_math_bits_deBruijn64tab)]
abbrev doorSteps : Nat := 14
theorem gT : Tryz.prog.globalNamed "math/bits.deBruijn64tab" = some 0 := by kernel_rfl
theorem gTType : (Tryz.prog.globals[0]?).map (·.type) = some 127 := by kernel_rfl
def tabZ : List Int := Lib.deBruijn64tab.map fun (n : Nat) => (n : Int)
theorem tab_same : (Rows.laid_math_bits_deBruijn64tab : DataW Unit) = Lib.tabData .u8 tabZ := by kernel_rfl
theorem of_laid {W : World} (h : laidMetH Tryz.prog laidL W) : Tb W := by
 have h' : laidMet Tryz.prog [("math/bits.deBruijn64tab", Rows.laid_math_bits_deBruijn64tab)] W := h
 rw [tab_same] at h'
 have ht := Lib.tabIs_of_head gT gTType Tryz.underlying127 Tryz.underlying5 (by kernel_rfl) (by kernel_rfl) h'
 intro j hj
 have := ht.cell gT j (by unfold tabZ; rw [List.length_map]; exact hj)
 rw [this]
 congr 2
 unfold tabZ
 rw [List.getD_eq_getElem?_getD, List.getElem?_map, List.getD_eq_getElem?_getD, List.getElem?_eq_getElem hj]
 rfl
theorem door_met (os : Os) (args : Array Value) : laidMetH Tryz.prog laidL ((World.doorLaid Tryz.prog doorSteps os).forCall (fun _ _ => 0) ⟨#[], args, []⟩).memory :=
 laidMetH_of_parts3 (fuel := 8) (laidMet_of_run' 8 (by kernel_rfl) (by kernel_rfl)) (by kernel_rfl) (by kernel_rfl)
open Go
set_option maxRecDepth 100000
theorem seatTie1 : Tryz.prog.laidByTextLater [("math/bits.deBruijn64tab", Rows.laid_math_bits_deBruijn64tab)] [.data] true :=
 Program.laidByTextLater_by_one 14 8 65 (by kernel_rfl) (by kernel_rfl) (by kernel_rfl) (by kernel_rfl) (by kernel_rfl) (by kernel_rfl) (fun _ _ => by kernel_rfl)
theorem noOwnUnsafe : Tryz.pinned.checked.prog.headLifts.contains "ownunsafe" = false := by kernel_rfl
theorem tie : Tryz.prog.laidByTextLater [("math/bits.deBruijn64tab", Rows.laid_math_bits_deBruijn64tab)] [.data] true :=
 Program.laidByTextLater.sub seatTie1 ["math/bits.deBruijn64tab"] (by kernel_rfl) (by kernel_rfl)
theorem subsetMade_row_tie : Rows.subsetMadeRow.laidByTextAt .later Tryz.pinned [.data] true :=
 OpenClaim.laidByTextAt_later rfl rfl tie noOwnUnsafe
namespace Rows
def subsetMadeCard : Claim7 := { stood := { row := subsetMadeRow, standIns := [], harness := (true, "46e0a2a5466cfcc0c514b1e1fcb0cd1d1a3e5bec625e9c8228d1570d79a6c6b9"), looks := false }, kinds := [], alts := [], laidByText := true, laidKinds := [.data], laidTests := true, laidLooks := .later }
def SubsetMadeCardSaid : Prop := Claim7.holds Tryz.pinned (.plain (OpenSpec.ofChange subsetMadeSpec)) subsetMadeCard
end Rows
def sets (qs : List (Nat → Bool)) : List Value := qs.flatMap wds
theorem sets_cons (q : Nat → Bool) (qs : List (Nat → Bool)) : sets (q :: qs) = wds q ++ sets qs := rfl
theorem sets_append (ps qs : List (Nat → Bool)) : sets (ps ++ qs) = sets ps ++ sets qs := by simp [sets]
theorem sets_length : ∀ qs : List (Nat → Bool), (sets qs).length = qs.length * 4
 | [] => rfl
 | q :: r => by rw [sets_cons, List.length_append, wds_length, sets_length r, List.length_cons]; omega
theorem sets_get : ∀ {qs : List (Nat → Bool)} {k : Nat} {q : Nat → Bool}, qs[k]? = some q → ∀ i, i < 4 → (sets qs)[k * 4 + i]? = (wds q)[i]?
 | [], k, q, h, _, _ => by simp at h
 | p :: r, 0, q, h, i, hi => by
  have : p = q := by simpa using h
  subst this
  rw [sets_cons, List.getElem?_append_left (by rw [wds_length]; omega), Nat.zero_mul, Nat.zero_add]
 | p :: r, k + 1, q, h, i, hi => by
  have h' : r[k]? = some q := by simpa using h
  rw [sets_cons, List.getElem?_append_right (by rw [wds_length]; omega), wds_length, show (k + 1) * 4 + i - 4 = k * 4 + i from by omega]
  exact sets_get h' i hi
theorem sets_one (qs : List (Nat → Bool)) : ∀ u ∈ sets qs, u.oneCell' = true := by
 intro u hu
 obtain ⟨q, _, hq⟩ := List.mem_flatMap.1 hu
 exact List.all_eq_true.1 (wds_all q) u hq
theorem Blk.range {w : World} {g : Nat} {t : TypeId} {qs : List (Nat → Bool)} (h : Blk w g t (sets qs)) {k : Nat} {q : Nat → Bool} (hq : qs[k]? = some q) : w.rangeAt g (k * 4) (wds q) := by
 intro j v hv
 have hj : j < 4 := by
  have := (List.getElem?_eq_some_iff.1 hv).1
  rwa [wds_length] at this
 rw [h.cell, sets_get hq j hj, hv]
theorem Blk.there {w : World} {g o n : Nat} {t : TypeId} {cs : List Value} (h : Blk w g t cs) (ho : o + n ≤ cs.length) : w.there g o n := by
 intro j hj
 refine ⟨?_, h.frozen _⟩
 rw [h.cell, List.getElem?_eq_getElem (by omega)]
 rfl
theorem splice_cons {cs : List Value} {o : Nat} {v : Value} {r : List Value} (h : o + (r.length + 1) ≤ cs.length) : splice (cs.set o v) (o + 1) r = splice cs o (v :: r) := by
 unfold splice
 rw [List.take_set, List.drop_set, if_pos (by omega), List.length_cons]
 have ho : o < cs.length := by omega
 rw [List.take_succ_eq_append_getElem ho, List.set_append_right _ _ (by simp; omega)]
 simp only [List.length_take, Nat.min_eq_left (Nat.le_of_lt ho), Nat.sub_self, List.set_cons_zero, List.append_assoc, List.cons_append, List.nil_append]
 rw [show o + 1 + r.length = o + (r.length + 1) from by omega]
theorem Blk.setCells {g : Nat} {t : TypeId} : ∀ {vs : List Value} {w : World} {cs : List Value} {o : Nat}, Blk w g t cs → o + vs.length ≤ cs.length → Blk (w.setCells g o vs) g t (splice cs o vs)
 | [], w, cs, o, h, _ => by simpa [World.setCells, splice] using h
 | v :: r, w, cs, o, h, hl => by
  have hl' : o + (r.length + 1) ≤ cs.length := by simpa using hl
  have := Blk.setCells (vs := r) (o := o + 1) (h.set o v) (by rw [List.length_set]; omega)
  rw [splice_cons hl'] at this
  exact this
theorem below_setCells {B g : Nat} {w0 : World} (hB : B ≤ g) : ∀ {vs : List Value} {w : World} {o : Nat}, Below B w0 w → Below B w0 (w.setCells g o vs)
 | [], _, _, h => h
 | v :: r, w, o, h => below_setCells (vs := r) hB (h.setCell (p := ⟨g, o, none⟩) hB v)
theorem setCells_size (g : Nat) : ∀ (vs : List Value) (w : World) (o : Nat), (w.setCells g o vs).heap.size = w.heap.size
 | [], _, _ => rfl
 | v :: r, w, o => by rw [World.setCells, setCells_size g r]; simp
theorem setCells_other (g k : Nat) (hk : k ≠ g) : ∀ (vs : List Value) (w : World) (o : Nat), (w.setCells g o vs).heap[k]? = w.heap[k]?
 | [], _, _ => rfl
 | v :: r, w, o => by rw [World.setCells, setCells_other g k hk r]; exact Below.heap_setCell w ⟨g, o, none⟩ v k hk
section
variable {P : Program} {w : World} {ops : Array Oper} {rest : List Oper} {o : Oper} {a : Act} {Q : Exit → Act → World → Prop}
end
theorem all_range_int : ∀ (xs ys : List Int), xs.length = ys.length → ((List.range xs.length).all fun i => xs.getD i 0 == ys.getD i 0) = (xs == ys)
 | [], [], _ => rfl
 | x :: xs, y :: ys, h => by
  have ih := all_range_int xs ys (by simpa using h)
  rw [List.length_cons, List.range_succ_eq_map, List.all_cons, List.all_map]
  simp only [List.getD_cons_zero, Function.comp_def, List.getD_cons_succ, ih]
  simp [List.cons_beq_cons]
 | [], _ :: _, h => by simp at h
 | _ :: _, [], h => by simp at h
section
variable {P : Program} (w : World)
theorem run_equalIn_nums (d : Nat) (t e : TypeId) (n : Nat) (k : IntKind) (ht : P.underlying t = some (.array n e)) (he : P.underlying e = some (.int k)) (hsz : ∀ w, (sizeOf e).run P w = .ok 1 w)
  (xs ys : List Int) (hx : xs.length = n) (hy : ys.length = n) :
  (Op.equalIn (d + 2) t (.agg (nums k xs).toArray) (.agg (nums k ys).toArray)).run P w = .ok (xs == ys) w := by
 rw [← all_range_int xs ys (hx.trans hy.symm), hx, List.range_eq_range', Op.equalIn]
 simp only [Sem.run_bind, run_underlying ht, Result.andThen_ok, hsz, Std.Legacy.Range.forIn_eq_forIn_range', Std.Legacy.Range.size, Nat.sub_zero, Nat.add_sub_cancel, Nat.div_one]
 have hl : ∀ i ∈ List.range' 0 n 1, i < n := fun i hi => by simpa using (List.mem_range'_1.1 hi).2
 generalize List.range' 0 n 1 = l at hl ⊢
 induction l with
 | nil => simp
 | cons i l ih =>
  have hi : i < n := hl i (by simp)
  have px : (part e (nums k xs).toArray (i * 1)).run P w = .ok (.int k (xs.getD i 0)) w := by
   simp [part, isAgg, run_underlying he, List.getD, nums, List.getElem?_eq_getElem (show i < xs.length by omega)]
  have py : (part e (nums k ys).toArray (i * 1)).run P w = .ok (.int k (ys.getD i 0)) w := by
   simp [part, isAgg, run_underlying he, List.getD, nums, List.getElem?_eq_getElem (show i < ys.length by omega)]
  have pe : (Op.equalIn (d + 1) e (.int k (xs.getD i 0)) (.int k (ys.getD i 0))).run P w = .ok (xs.getD i 0 == ys.getD i 0) w := run_equalIn_int w d e k k _ _ he
  simp only [List.forIn_cons, Sem.run_bind, px, py, pe, Result.andThen_ok, List.all_cons]
  cases hb : (xs.getD i 0 == ys.getD i 0)
  ·simp
  ·simp only [Bool.not_true, Bool.false_eq_true, if_false, Sem.run_pure, Result.andThen_ok, Bool.true_and]
   exact ih fun j hj => hl j (by simp [hj])
def eqS (p q : Nat → Bool) : Bool := [(word p 0 : Int), (word p 1 : Int), (word p 2 : Int), (word p 3 : Int)] == [(word q 0 : Int), (word q 1 : Int), (word q 2 : Int), (word q 3 : Int)]
theorem eqS_self (p : Nat → Bool) : eqS p p = true := by simp [eqS]
theorem eqS_iff (p q : Nat → Bool) : eqS p q = true ↔ ∀ b, b < 256 → p b = q b := by
 constructor
 ·intro h
  have h' : [(word p 0 : Int), (word p 1 : Int), (word p 2 : Int), (word p 3 : Int)] = [(word q 0 : Int), (word q 1 : Int), (word q 2 : Int), (word q 3 : Int)] := by simpa [eqS] using h
  refine wds_inj ?_
  unfold wds
  simp only [List.cons.injEq, and_true] at h'
  rw [h'.1, h'.2.1, h'.2.2.1, h'.2.2.2]
 ·intro h
  unfold eqS
  rw [word_congr h 0 (by omega), word_congr h 1 (by omega), word_congr h 2 (by omega), word_congr h 3 (by omega)]
  simp
section
variable (t e : TypeId) (ht : P.underlying t = some (.array 4 e)) (he : P.underlying e = some (.int .u64)) (hsz : ∀ w, (sizeOf e).run P w = .ok 1 w) (p q : Nat → Bool)
include ht he hsz
theorem run_eql_sets : (binOp .eql t (.agg (wds p).toArray) (.agg (wds q).toArray)).run P w = .ok (.bool (eqS p q)) w := by
 have := run_equalIn_nums (P := P) w 9998 t e 4 .u64 ht he hsz [(word p 0 : Int), (word p 1 : Int), (word p 2 : Int), (word p 3 : Int)] [(word q 0 : Int), (word q 1 : Int), (word q 2 : Int), (word q 3 : Int)] rfl rfl
 rw [run_eql_struct]
 have e1 : (wds p).toArray = (nums .u64 [(word p 0 : Int), (word p 1 : Int), (word p 2 : Int), (word p 3 : Int)]).toArray := rfl
 have e2 : (wds q).toArray = (nums .u64 [(word q 0 : Int), (word q 1 : Int), (word q 2 : Int), (word q 3 : Int)]).toArray := rfl
 rw [e1, e2, this]
 rfl
theorem run_neq_sets : (binOp .neq t (.agg (wds p).toArray) (.agg (wds q).toArray)).run P w = .ok (.bool (!eqS p q)) w := by
 have := run_equalIn_nums (P := P) w 9998 t e 4 .u64 ht he hsz [(word p 0 : Int), (word p 1 : Int), (word p 2 : Int), (word p 3 : Int)] [(word q 0 : Int), (word q 1 : Int), (word q 2 : Int), (word q 3 : Int)] rfl rfl
 rw [run_neq_struct]
 have e1 : (wds p).toArray = (nums .u64 [(word p 0 : Int), (word p 1 : Int), (word p 2 : Int), (word p 3 : Int)]).toArray := rfl
 have e2 : (wds q).toArray = (nums .u64 [(word q 0 : Int), (word q 1 : Int), (word q 2 : Int), (word q 3 : Int)]).toArray := rfl
 rw [e1, e2, this]
 rfl
end
end
section
variable {P : Program} {w : World} {ops : Array Oper} {rest : List Oper} {o : Oper} {a : Act} {Q : Exit → Act → World → Prop}
theorem wpList_eqSet (hgd : Region.wanted o (yielded ops a.tmps) = true) (t e : TypeId) (x y : Operand) (oT : TypeId) (ho : o.op = .binOp .eql t x y oT) (hm : P.eqGuardType P.depth t = false)
  (ht : P.underlying t = some (.array 4 e)) (he : P.underlying e = some (.int .u64)) (hsz : ∀ w, (sizeOf e).run P w = .ok 1 w)
  (p q : Nat → Bool) (ex : a.eval x = .agg (wds p).toArray) (ey : a.eval y = .agg (wds q).toArray)
  (h : wpList P ops Q rest (a.put o.dst (.bool (eqS p q))) w) : wpList P ops Q (o :: rest) a w := by
 refine BigFrame.wpList_want hgd fun K hK => ?_
 unfold Oper.wp
 simp only [execOp, ho, ex, ey, Sem.run_bind, run_eqGuard_agg w .eql t x y _ _ hm, Result.andThen_ok, run_eql_sets w t e ht he hsz p q, Sem.run_pure]
 exact hK _ _ h
theorem wpList_eqSet_is (hgd : Region.wanted o (yielded ops a.tmps) = true) {b : Bool} {p q : Nat → Bool} (hb : eqS p q = b) (t e : TypeId) (x y : Operand) (oT : TypeId) (ho : o.op = .binOp .eql t x y oT) (hm : P.eqGuardType P.depth t = false)
  (ht : P.underlying t = some (.array 4 e)) (he : P.underlying e = some (.int .u64)) (hsz : ∀ w, (sizeOf e).run P w = .ok 1 w)
  (ex : a.eval x = .agg (wds p).toArray) (ey : a.eval y = .agg (wds q).toArray)
  (h : wpList P ops Q rest (a.put o.dst (.bool b)) w) : wpList P ops Q (o :: rest) a w :=
 wpList_eqSet hgd t e x y oT ho hm ht he hsz p q ex ey (hb ▸ h)
end
end Go.Proofs.YteadghoojeehlaaGreatDoor
