/-
  What package byteset (Less, order) answers and leaves: draws and blocks of its own alone. No statement is proved here.
-/
import Derived.Test.YtaobeconjdeenaaDoorBsE
import Derived.Test.YtaobeconjdeenaaDoorSetC
import Derived.Sort.Grow
namespace Go.Proofs.YtaobeconjdeenaaDoor
open Go.RowKit
set_option linter.unusedSimpArgs false
set_option linter.unusedVariables false

/-- Nothing but draws and blocks of its own. -/
def Gr (w w' : World) : Prop := ∃ q os, w' = Sort.grow (w.drewN q) os
theorem Gr.refl (w : World) : Gr w w := ⟨0, #[], by rw [Sort.grow_empty]; rfl⟩
theorem Gr.alloc {w w' : World} (h : Gr w w') (o : Obj) : Gr w (w'.alloc o) := by
  obtain ⟨q, os, rfl⟩ := h
  exact ⟨q, os ++ #[o], by rw [Sort.alloc_eq_grow, Sort.grow_grow]⟩
theorem grow_drewN (w : World) (os : Array Obj) (n : Nat) : (Sort.grow w os).drewN n = Sort.grow (w.drewN n) os := rfl
theorem Gr.drewN {w w' : World} (h : Gr w w') (n : Nat) : Gr w (w'.drewN n) := by
  obtain ⟨q, os, rfl⟩ := h
  exact ⟨q + n, os, by rw [grow_drewN, World.drewN_drewN]⟩
theorem Gr.trans {w w' w'' : World} (h : Gr w w') (k : Gr w' w'') : Gr w w'' := by
  obtain ⟨q, os, rfl⟩ := h
  obtain ⟨r, os', rfl⟩ := k
  exact ⟨q + r, os ++ os', by rw [grow_drewN, World.drewN_drewN, Sort.grow_grow]⟩
theorem Gr.below {w w' : World} (h : Gr w w') : Below w.heap.size w w' := by
  obtain ⟨q, os, rfl⟩ := h
  refine ⟨rfl, rfl, rfl, by simp [Sort.grow], fun k hk => ?_⟩
  show (w.heap ++ os)[k]? = _
  rw [Array.getElem?_append_left hk]
/-- A parameter's box: what it is, to the block. -/
theorem wpList_boxE {P : Program} {w : World} {ops : Array Oper} {rest : List Oper} {o : Oper} {a : Act} {Q : Exit → Act → World → Prop} (hgd : Region.wanted o (yielded ops a.tmps) = true) (ty : TypeId) (x : Operand) (ho : o.op = .box ty x) (cs : List Value) (hx : a.eval x = .agg cs.toArray)
    (h : ∀ w', Blk w' w.heap.size ty cs → Gr w w' → w'.heap.size = w.heap.size + 1 → (∀ k, k < w.heap.size → w'.heap[k]? = w.heap[k]?) → wpList P ops Q rest (a.put o.dst (.pointer (some ⟨w.heap.size, 0, none⟩))) w') :
    wpList P ops Q (o :: rest) a w := by
  refine BigFrame.wpList_want hgd fun K hK => ?_
  unfold Oper.wp
  have hrun : (Instr.box ty (.agg cs.toArray)).run P w = .ok (.pointer (some ⟨w.heap.size, 0, none⟩)) (w.alloc (.cells cs.toArray ty)) := by
    simp [Instr.box, newVar, Value.cells, run_newRow_blk]
  simp only [execOp, ho, hx, hrun, Sem.run_bind, Result.andThen_ok, Sem.run_pure]
  exact hK _ _ (h _ (Blk.new w ty cs) ((Gr.refl w).alloc _) (by simp) (fun k hk => Below.heap_alloc w _ k hk))

/-! ### one word of two sets -/
theorem word_xor (p q : Nat → Bool) (i : Nat) : word p i ^^^ word q i = wd (fun j => p (64 * i + j) != q (64 * i + j)) 64 := by
  apply Nat.eq_of_testBit_eq
  intro j
  rw [Nat.testBit_xor]
  simp only [word, wd_bit]
  cases decide (j < 64) <;> simp
theorem neg_wrap (d : Nat) (h0 : d ≠ 0) (h : d < 18446744073709551616) : IntKind.u64.wrap (-(d : Int)) = ((18446744073709551616 - d : Nat) : Int) := by
  rw [IntKind.wrap_u64]
  omega
theorem and_pow (x k : Nat) : x &&& 2 ^ k = if x.testBit k then 2 ^ k else 0 := by
  apply Nat.eq_of_testBit_eq
  intro j
  rw [Nat.testBit_and, Nat.testBit_two_pow]
  by_cases hj : k = j
  · subst hj
    cases h : x.testBit k <;> simp [h]
  · cases h : x.testBit k <;> simp [hj, Nat.testBit_two_pow]
theorem less_word (p q : Nat → Bool) (i d : Nat) (hi : i < 4) (hd : d = word p i ^^^ word q i) (h0 : d ≠ 0) (hb : ∀ b, b < 64 * i → p b = q b) :
    ((((word p i) &&& (d &&& (18446744073709551616 - d)) : Nat) : Int) != 0) = lessS p q := by
  have hlt : d < 2 ^ 64 := by rw [hd]; exact Nat.xor_lt_two_pow (word_lt p i) (word_lt q i)
  obtain ⟨hlow, hk64⟩ := Lib.lowest_bit 64 d h0 hlt
  obtain ⟨k, hk⟩ : ∃ k, k = Lib.ctz 64 d := ⟨_, rfl⟩
  obtain ⟨h1, h2, h3, _, _⟩ := low_word _ d k (by rw [hd, word_xor]) h0 hk
  rw [show (18446744073709551616 : Nat) = 2 ^ 64 from rfl, hlow, ← hk]
  have hle := lessS_at (p := p) (q := q) (j := 64 * i + k) (by omega) (fun b hb2 => by
    by_cases hb3 : b < 64 * i
    · exact hb b hb3
    · have := h3 (b - 64 * i) (by omega)
      rw [show 64 * i + (b - 64 * i) = b by omega] at this
      simpa using this) (by simpa using h2)
  rw [hle]
  have hbit := wd_bit (fun j => p (64 * i + j)) 64 k
  rw [decide_eq_true h1, Bool.true_and] at hbit
  have hw : (word p i).testBit k = p (64 * i + k) := hbit
  rw [and_pow, hw]
  have hp : 0 < 2 ^ k := Nat.pow_pos (by omega)
  cases p (64 * i + k)
  · rfl
  · simp only [if_true, bne_iff_ne, ne_eq]
    omega
theorem less_same (p q : Nat → Bool) (i : Nat) (h0 : word p i ^^^ word q i = 0) (hb : ∀ b, b < 64 * i → p b = q b) : ∀ b, b < 64 * (i + 1) → p b = q b := by
  intro b hb2
  by_cases hb3 : b < 64 * i
  · exact hb b hb3
  · rw [word_xor] at h0
    have := wd_zero h0 (b - 64 * i) (by omega)
    rw [show 64 * i + (b - 64 * i) = b by omega] at this
    simpa using this

set_option maxHeartbeats 4000000 in
set_option maxRecDepth 100000 in
theorem bsLess_gr (p q : Nat → Bool) (w : World) :
    Calls Tryd.prog 24 #[.agg (wds p).toArray, .agg (wds q).toArray] w fun e w' => e = .returned (.bool (lessS p q)) ∧ Gr w w' := by
  go_enter Tryd.func24, Tryd.ntmps24
  go_wp2_with (first
    | ((with_reducible refine atDst 2 ?_); refine wpList_boxE rfl 24 _ rfl (wds p) rfl ?_; intro w1 hk1 hb1 hs1 _; have K1 := Lib.hid hk1; have G1 := Lib.hid hb1; clear hk1 hb1 hs1)
    | ((with_reducible refine atDst 3 ?_); refine wpList_boxE rfl 24 _ rfl (wds q) rfl ?_; intro w2 hk2 hb2 hs2 ho2; have L2 := Lib.hid hk2; have G2 := Lib.hid (G1.out.trans hb2); have K2 := Lib.hid (show Blk w2 w.heap.size 24 (wds p) from (ho2 _ K1.out.lt).trans K1.out); clear hk2 hb2 hs2 ho2))
  go_loopw [7] (fun i wl => ∃ j n : Nat, j ≤ 4 ∧ i = .int .i64 (j : Int) ∧ wl = w2.drewN n ∧ ∀ b, b < 64 * j → p b = q b) (fun i _ => 4 - (intOf i).toNat)
  case atStart => exact ⟨0, 0, by omega, by simp, rfl, fun b hb => by omega⟩
  case round =>
    obtain ⟨j, n, hj, rfl, hwl, hb⟩ := hrel
    have HW := Lib.hid hwl
    have HB := Lib.hid hb
    have KR := Lib.hid (show Blk wr w.heap.size 24 (wds p) by rw [hwl]; exact K2.out)
    have LR := Lib.hid (show Blk wr w1.heap.size 24 (wds q) by rw [hwl]; exact L2.out)
    clear hwl hb
    by_cases hjl : j < 4
    · have j1 : (j : Int) < 4 := by omega
      have hcp := KR.out.cell j
      rw [wds_get p j hjl] at hcp
      have hcq := LR.out.cell j
      rw [wds_get q j hjl] at hcq
      have HLP := Lib.hid (word_lt p j)
      have HLQ := Lib.hid (word_lt q j)
      have HLW := Lib.hid (fun d hd h0 => less_word p q j d hjl hd h0 HB.out)
      have HSM := Lib.hid (less_same p q j)
      obtain ⟨x, hx⟩ : ∃ x, x = word p j := ⟨_, rfl⟩
      obtain ⟨y, hy⟩ : ∃ y, y = word q j := ⟨_, rfl⟩
      rw [← hx] at hcp HLP HLW HSM
      rw [← hy] at hcq HLQ HLW HSM
      clear hx hy
      obtain ⟨d, hd⟩ : ∃ d, d = x ^^^ y := ⟨_, rfl⟩
      have HD := Lib.hid hd
      have hxy : bits .xor .u64 (x : Int) (y : Int) = (d : Int) := by rw [u64_xor_nat x y HLP.out HLQ.out, hd]
      have HLD := Lib.hid (show d < 18446744073709551616 by rw [hd]; exact Nat.xor_lt_two_pow (n := 64) HLP.out HLQ.out)
      clear hd
      by_cases h0 : d = 0
      · have hdb : ((d : Int) != 0) = false := by rw [h0]; rfl
        have HN := Lib.hid (HSM.out (by rw [← HD.out]; exact h0) HB.out)
        clear h0
        go_wp2_with fail
        go_quiet (fail)
        go_wp2_with fail
        exact ⟨⟨j + 1, n + nq, by omega, by congr 1, by rw [HW.out, World.drewN_drewN], HN.out⟩, by simp [intOf] <;> omega⟩
      · have hdb : ((d : Int) != 0) = true := by simpa using h0
        have HA := Lib.hid (HLW.out d HD.out h0)
        have hng := neg_wrap d h0 HLD.out
        obtain ⟨e, he⟩ : ∃ e, e = 18446744073709551616 - d := ⟨_, rfl⟩
        have HLE := Lib.hid (show e < 18446744073709551616 by have := HLD.out; omega)
        rw [← he] at hng HA
        obtain ⟨f, hf⟩ : ∃ f, f = d &&& e := ⟨_, rfl⟩
        have hde : bits .and .u64 (d : Int) (e : Int) = (f : Int) := by rw [u64_and_nat d e HLD.out HLE.out, hf]
        rw [← hf] at HA
        have HLF := Lib.hid (show f < 18446744073709551616 by rw [hf]; exact Nat.lt_of_le_of_lt Nat.and_le_left HLD.out)
        have hxf : bits .and .u64 (x : Int) (f : Int) = ((x &&& f : Nat) : Int) := u64_and_nat x f HLP.out HLF.out
        obtain ⟨g, hg⟩ : ∃ g, g = x &&& f := ⟨_, rfl⟩
        rw [← hg] at HA hxf
        clear he hf hg h0
        go_wp2_with fail
        go_quiet (fail)
        go_wp2_with fail
        go_ret
        rw [HA.out, HW.out]
        exact ⟨rfl, (G2.out.drewN _).drewN _⟩
    · obtain rfl : j = 4 := by omega
      have j1 : ¬ ((4 : Int) < 4) := by omega
      have HL := Lib.hid (lessS_none HB.out)
      go_wp2_with fail
      go_ret
      rw [HL.out, HW.out]
      exact ⟨rfl, G2.out.drewN _⟩
theorem bsLess_any (p q : Nat → Bool) (w : World) :
    Calls Tryd.prog 24 #[.agg (wds p).toArray, .agg (wds q).toArray] w fun e w' => e = .returned (.bool (lessS p q)) ∧ Below w.heap.size w w' :=
  (bsLess_gr p q w).mono fun _ _ h => ⟨h.1, h.2.below⟩

/-- Less as a comparison. -/
def ordS (p q : Nat → Bool) : Int := if lessS p q then -1 else if lessS q p then 1 else 0
set_option maxHeartbeats 4000000 in
set_option maxRecDepth 100000 in
theorem bsOrder_gr (p q : Nat → Bool) (w : World) :
    Calls Tryd.prog 36 #[.agg (wds p).toArray, .agg (wds q).toArray] w fun e w' => e = .returned (.int .i64 (ordS p q)) ∧ Gr w w' := by
  go_enter Tryd.func36, Tryd.ntmps36
  go_wp2_with (first
    | ((with_reducible refine atDst 2 ?_); refine wpList_boxE rfl 24 _ rfl (wds p) rfl ?_; intro w1 hk1 hb1 hs1 _; have K1 := Lib.hid hk1; have G1 := Lib.hid hb1; clear hk1 hb1 hs1)
    | ((with_reducible refine atDst 3 ?_); refine wpList_boxE rfl 24 _ rfl (wds q) rfl ?_; intro w2 hk2 hb2 hs2 ho2; have L2 := Lib.hid hk2; have G2 := Lib.hid (G1.out.trans hb2); have K2 := Lib.hid (show Blk w2 w.heap.size 24 (wds p) from (ho2 _ K1.out.lt).trans K1.out); clear hk2 hb2 hs2 ho2)
    | ((with_reducible refine atDst 6 ?_); refine wpList_ldArr rfl 24 _ rfl w.heap.size rfl 24 _ _ K2.out Tryd.underlying24 rfl (size_set p) ?_)
    | ((with_reducible refine atDst 7 ?_); refine wpList_ldArr rfl 24 _ rfl w1.heap.size rfl 24 _ _ L2.out Tryd.underlying24 rfl (size_set q) ?_))
  refine (bsLess_gr p q w2).mono ?_
  rintro e w3 ⟨rfl, hb3⟩
  have G3 := Lib.hid (G2.out.trans hb3)
  have K3 := Lib.hid (K2.out.below hb3.below K2.out.lt)
  have L3 := Lib.hid (L2.out.below hb3.below L2.out.lt)
  clear hb3
  cases h1 : lessS p q with
  | true =>
    have HR := Lib.hid (show ordS p q = -1 by unfold ordS; rw [h1]; rfl)
    clear h1
    go_wp2_with fail
    go_ret
    rw [HR.out]
    exact ⟨rfl, G3.out⟩
  | false =>
    have H1 := Lib.hid h1
    clear h1
    go_wp2_with (first
      | ((with_reducible refine atDst 10 ?_); refine wpList_ldArr rfl 24 _ rfl w1.heap.size rfl 24 _ _ L3.out Tryd.underlying24 rfl (size_set q) ?_)
      | ((with_reducible refine atDst 11 ?_); refine wpList_ldArr rfl 24 _ rfl w.heap.size rfl 24 _ _ K3.out Tryd.underlying24 rfl (size_set p) ?_))
    refine (bsLess_gr q p w3).mono ?_
    rintro e w4 ⟨rfl, hb4⟩
    have G4 := Lib.hid (G3.out.trans hb4)
    clear hb4
    cases h2 : lessS q p with
    | true =>
      have HR := Lib.hid (show ordS p q = 1 by unfold ordS; rw [H1.out, h2]; rfl)
      clear h2
      go_wp2_with fail
      go_ret
      rw [HR.out]
      exact ⟨rfl, G4.out⟩
    | false =>
      have HR := Lib.hid (show ordS p q = 0 by unfold ordS; rw [H1.out, h2]; rfl)
      clear h2
      go_wp2_with fail
      go_ret
      rw [HR.out]
      exact ⟨rfl, G4.out⟩
end Go.Proofs.YtaobeconjdeenaaDoor
