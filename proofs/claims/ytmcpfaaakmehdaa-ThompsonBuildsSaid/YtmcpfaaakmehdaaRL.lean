/-
  Texts of this proof, put together: PyA, PyB, PlA. No statement is proved here.
-/
import Derived.Test.YtmcpfaaakmehdaaRE
import Derived.Test.YtmcpfaaakmehdaaRK
namespace Go.Proofs.Ytmcpfaaakmehdaa
open Go.RowKit
set_option linter.unusedSimpArgs false
set_option linter.unusedVariables false
theorem below_drewP {B : Nat} {a w : World} (h : Below B a w) (n : Nat) : Below B a (w.drewN n) := ⟨h.os, h.tape, h.output, h.size, h.block⟩
def numV (ps : List UInt8) (n m : Nat) : Nat := if ps.length ≤ n then 0 else (ps.getD n 0).toNat % m
def numN (ps : List UInt8) (n : Nat) : Nat := if ps.length ≤ n then n else n + 1
theorem numN_le {ps : List UInt8} {n : Nat} (h : n ≤ ps.length) : numN ps n ≤ ps.length := by
 unfold numN
 split <;> omega
theorem numN_ge (ps : List UInt8) (n : Nat) : n ≤ numN ps n := by
 unfold numN
 split <;> omega
theorem numV_lt (ps : List UInt8) (n : Nat) {m : Nat} (hm : 0 < m) : numV ps n m < m := by
 unfold numV
 split
 ·exact hm
 ·exact Nat.mod_lt _ hm
structure Pk (w : World) (g : Nat) (V : Value) (ps : List UInt8) (n : Nat) : Prop where
 blk : Blk w g 74 [V, .int .i64 (n : Int)]
 row : RowB g w V (bvs ps)
 le : n ≤ ps.length
 few : ps.length ≤ 1048576
theorem grown_belowG {w w' : World} {g : Nat} (h : w.grownBy w' (some g)) (hg : g < w.heap.size) : Below g w w' :=
 ⟨h.os, h.tape, h.output, h.size, fun k hk => h.block k (by omega) (fun e => by have := Option.some.inj e; omega)⟩
theorem below_grownG {w w' : World} (g : Nat) (h : Below w.heap.size w w') : w.grownBy w' (some g) := ⟨h.os, h.tape, h.output, h.size, fun k hk _ => h.block k hk⟩
theorem grownG_trans {w w1 w2 : World} {g : Nat} (h : w.grownBy w1 (some g)) (h2 : w1.grownBy w2 (some g)) : w.grownBy w2 (some g) :=
 ⟨h2.os.trans h.os, h2.tape.trans h.tape, h2.output.trans h.output, Nat.le_trans h.size h2.size, fun k hk hne => (h2.block k (by have := h.size; omega) hne).trans (h.block k hk hne)⟩
theorem Pk.grown {w w' : World} {g : Nat} {V : Value} {ps : List UInt8} {n n' : Nat} (h : Pk w g V ps n) (hg : w.grownBy w' (some g)) (hb : Blk w' g 74 [V, .int .i64 (n' : Int)]) (hn : n' ≤ ps.length) : Pk w' g V ps n' :=
 ⟨hb, h.row.below (grown_belowG hg h.blk.lt), hn, h.few⟩
theorem Pk.below {w w' : World} {g : Nat} {V : Value} {ps : List UInt8} {n : Nat} (h : Pk w g V ps n) (hb : Below w.heap.size w w') : Pk w' g V ps n :=
 ⟨h.blk.below hb h.blk.lt, h.row.below (hb.mono (Nat.le_of_lt h.blk.lt)), h.le, h.few⟩
theorem Pk.other {w w' : World} {g : Nat} {V : Value} {ps : List UInt8} {n : Nat} (h : Pk w g V ps n) (k : Nat) (hk : ∀ i, i ≠ k → w'.heap[i]? = w.heap[i]?) (hg : g < k) (hbl : Below k w w') : Pk w' g V ps n :=
 ⟨(hk g (by omega)).trans h.blk, h.row.below (hbl.mono (by omega)), h.le, h.few⟩
theorem grown_setCell {w w' : World} {g o : Nat} {v : Value} (h : w.grownBy w' (some g)) : w.grownBy (w'.setCell ⟨g, o, none⟩ v) (some g) := grown_setCells h o [v]
set_option maxHeartbeats 4000000 in
set_option maxRecDepth 1000000 in
theorem over_any (w : World) (g : Nat) (V : Value) (ps : List UInt8) (n : Nat) (h : Pk w g V ps n) :
  Calls Try.prog 59 #[.pointer (some ⟨g, 0, none⟩)] w fun e w' => e = .returned (.bool (decide (ps.length ≤ n))) ∧ Below w.heap.size w w' := by
 have H := qH h
 have c0 := h.blk.cell 0
 have c1 := h.blk.cell 1
 obtain ⟨A, cap, rfl, a1, a2, a0, a3⟩ := h.row
 rw [bvs_length] at c0 a1
 have c0' : w.cell? ⟨g, 0, none⟩ = some (.slice A ps.length cap) := by rw [c0]; rfl
 have c1' : w.cell? ⟨g, 1, none⟩ = some (.int .i64 (n : Int)) := by rw [c1]; rfl
 clear h a1 a2 a0 a3 c0 c1
 by_cases hn : ps.length ≤ n
 ·have d : ((ps.length : Int) ≤ (n : Int)) := by omega
  have HR := qH (decide_eq_true hn)
  clear hn
  go_enter Try.func59, Try.ntmps59
  go_wp2_with fail
  go_quiet (fail)
  go_wp2_with fail
  go_ret
  rw [HR.out]
  exact ⟨rfl, below_drewP (Below.refl _ _) _⟩
 ·have d : ¬ ((ps.length : Int) ≤ (n : Int)) := by omega
  have HR := qH (decide_eq_false hn)
  clear hn
  go_enter Try.func59, Try.ntmps59
  go_wp2_with fail
  go_quiet (fail)
  go_wp2_with fail
  go_ret
  rw [HR.out]
  exact ⟨rfl, below_drewP (Below.refl _ _) _⟩
set_option maxHeartbeats 4000000 in
set_option maxRecDepth 1000000 in
theorem num_any (w : World) (g : Nat) (V : Value) (ps : List UInt8) (n m : Nat) (h : Pk w g V ps n) (hm : 0 < m) (hm2 : m ≤ 1048576) :
  Calls Try.prog 45 #[.pointer (some ⟨g, 0, none⟩), .int .i64 (m : Int)] w fun e w' => e = .returned (.int .i64 (numV ps n m : Int)) ∧ w.grownBy w' (some g) ∧ Pk w' g V ps (numN ps n) := by
 have H := qH h
 have c0 := h.blk.cell 0
 have c1 := h.blk.cell 1
 obtain ⟨A, cap, rfl, a1, a2, a0, a3⟩ := h.row
 have hfw := h.few
 have hle := h.le
 rw [bvs_length] at c0 a1 H ⊢
 have c0' : w.cell? ⟨g, 0, none⟩ = some (.slice A ps.length cap) := by rw [c0]; rfl
 have c1' : w.cell? ⟨g, 1, none⟩ = some (.int .i64 (n : Int)) := by rw [c1]; rfl
 have HA3 := qH a3
 clear h a1 a2 a0 a3 c0 c1
 by_cases hn : ps.length ≤ n
 ·have d : ((ps.length : Int) ≤ (n : Int)) := by omega
  have HR := qH (show numV ps n m = 0 ∧ numN ps n = n from ⟨by unfold numV; rw [if_pos hn], by unfold numN; rw [if_pos hn]⟩)
  clear hn
  go_enter Try.func45, Try.ntmps45
  go_wp2_with fail
  go_quiet (fail)
  go_wp2_with fail
  go_ret
  rw [HR.out.1, HR.out.2]
  have hb := below_drewP (Below.refl w.heap.size w) nq
  exact ⟨rfl, below_grownG _ hb, H.out.below hb⟩
 ·have d : ¬ ((ps.length : Int) ≤ (n : Int)) := by omega
  obtain ⟨b, off, rfl, hbg, hbw, hcell⟩ := HA3.out (by intro he; rw [List.map_eq_nil_iff.1 he] at hn; simp at hn)
  have HR := qH (show numV ps n m = (ps.getD n 0).toNat % m ∧ numN ps n = n + 1 from ⟨by unfold numV; rw [if_neg hn], by unfold numN; rw [if_neg hn]⟩)
  have hcn := hcell n (bv (ps.getD n 0)) (bvs_get ps n _ (by rw [List.getD_eq_getElem?_getD, List.getElem?_eq_getElem (by omega)]; rfl))
  have fz := H.out.blk.frozen 1
  obtain ⟨x, hx⟩ : ∃ x, x = (ps.getD n 0).toNat := ⟨_, rfl⟩
  have hxl : x < 256 := by rw [hx]; exact UInt8.toNat_lt _
  have hcn' : w.cell? ⟨b, off + n, none⟩ = some (.int .u8 (x : Int)) := by rw [hx]; exact hcn
  rw [← hx] at HR
  have HBG := qH hbg
  have e3 := wrap_one n (by omega)
  have e4 := wrap_one' n (by omega)
  clear hcn hx hcell hbw hbg
  go_enter Try.func45, Try.ntmps45
  go_wp2_with fail
  go_quiet (fail)
  go_wp2_with fail
  obtain ⟨w3, hw3⟩ : ∃ w3, w3 = (w.drewN nq).setCell ⟨g, 1, none⟩ (.int .i64 ((n : Int) + 1)) := ⟨_, rfl⟩
  have hgr := qH (show w.grownBy w3 (some g) by rw [hw3]; exact grown_setCell (below_grownG _ (below_drewP (Below.refl _ _) _)))
  have hbl := qH (show Blk w3 g 74 [.slice (some ⟨b, off, none⟩) ps.length cap, .int .i64 ((n + 1 : Nat) : Int)] by
   rw [hw3]
   exact (show Blk (w.drewN nq) g _ _ from H.out.blk).set 1 (.int .i64 ((n + 1 : Nat) : Int)))
  have f0 : w3.cell? ⟨g, 0, none⟩ = some (.slice (some ⟨b, off, none⟩) ps.length cap) := hbl.out.cell 0
  have f1 : w3.cell? ⟨g, 1, none⟩ = some (.int .i64 ((n + 1 : Nat) : Int)) := hbl.out.cell 1
  have fn : w3.cell? ⟨b, off + n, none⟩ = some (.int .u8 (x : Int)) := by
   refine ((grown_belowG hgr.out H.out.blk.lt).cell (p := ⟨b, off + n, none⟩) HBG.out).trans hcn'
  have HPK := qH (H.out.grown hgr.out hbl.out (by omega))
  rw [← hw3]
  have e5 : wrap64 (((n : Int) + 1) - 1) = (n : Int) := by rw [show ((n : Int) + 1) - 1 = (n : Int) by omega]; exact IntWalk.wrap64_in _ (by omega)
  have e6 : IntKind.i64.wrap (((n : Int) + 1) - 1) = (n : Int) := by rw [show ((n : Int) + 1) - 1 = (n : Int) by omega]; exact IntWalk.i64_in _ (by omega)
  have e7 : (x : Int).tmod (m : Int) = ((x % m : Nat) : Int) := rfl
  have e8 : IntKind.i64.wrap (x : Int) = (x : Int) := IntWalk.i64_in _ (by omega)
  have e9 : ¬ ((m : Int) = 0) := by omega
  have e10 : ((m : Int) == 0) = false := by rw [beq_eq_false_iff_ne]; omega
  clear hw3 c0' c1' hcn' fz
  go_quiet (fail)
  go_wp2_with fail
  go_ret
  rw [HR.out.1, HR.out.2]
  exact ⟨rfl, grownG_trans hgr.out (below_grownG _ (below_drewP (Below.refl _ _) _)), HPK.out.below (below_drewP (Below.refl _ _) _)⟩
theorem grownG_below {w wk w' : World} {g : Nat} (h : w.grownBy wk (some g)) (hb : Below w.heap.size wk w') : w.grownBy w' (some g) :=
 ⟨hb.os.trans h.os, hb.tape.trans h.tape, hb.output.trans h.output, Nat.le_trans h.size hb.size, fun k hk hne => (hb.block k hk).trans (h.block k hk hne)⟩
def rangeS (a b : Nat) : Nat → Bool := fun x => decide (a ≤ x ∧ x ≤ b)
def listS (l : List Nat) : Nat → Bool := fun x => decide (x ∈ l)
def notS (s : Nat → Bool) : Nat → Bool := fun x => decide (x < 256) && !s x
def setP (ps : List UInt8) (n : Nat) : (Nat → Bool) × Nat :=
 if numV ps n 8 = 0 then (rangeS 97 100, numN ps n)
 else if numV ps n 8 = 1 then (rangeS (numV ps (numN ps n) 256) (numV ps (numN ps (numN ps n)) 256), numN ps (numN ps (numN ps n)))
 else if numV ps n 8 = 2 then (notS (listS [97 + numV ps (numN ps n) 4]), numN ps (numN ps n))
 else if numV ps n 8 = 3 then (listS [97 + numV ps (numN ps n) 4, 97 + numV ps (numN ps (numN ps n)) 4, numV ps (numN ps (numN ps (numN ps n))) 256], numN ps (numN ps (numN ps (numN ps n))))
 else if numV ps n 8 = 4 then (rangeS 0 255, numN ps n)
 else (listS [97 + numV ps (numN ps n) 4], numN ps (numN ps n))
theorem can_range {a b : Nat} (h : b < 256) : canS (rangeS a b) := fun x hx => by
 unfold rangeS
 exact decide_eq_false (by omega)
theorem can_list {l : List Nat} (h : ∀ x ∈ l, x < 256) : canS (listS l) := fun x hx => by
 unfold listS
 exact decide_eq_false fun hm => by have := h x hm; omega
theorem can_not (s : Nat → Bool) : canS (notS s) := fun x hx => by
 unfold notS
 rw [decide_eq_false (by omega)]
 rfl
theorem setP_can (ps : List UInt8) (n : Nat) : canS (setP ps n).1 := by
 have h4 : ∀ k, 97 + numV ps k 4 < 256 := fun k => by have := numV_lt ps k (m := 4) (by omega); omega
 have h256 : ∀ k, numV ps k 256 < 256 := fun k => numV_lt ps k (by omega)
 unfold setP
 split
 ·exact can_range (by omega)
 ·split
  ·exact can_range (h256 _)
  ·split
   ·exact can_not _
   ·split
    ·exact can_list fun x hx => by
      simp only [List.mem_cons, List.not_mem_nil, or_false] at hx
      rcases hx with rfl | rfl | rfl
      ·exact h4 _
      ·exact h4 _
      ·exact h256 _
    ·split
     ·exact can_range (by omega)
     ·exact can_list fun x hx => by
       simp only [List.mem_cons, List.not_mem_nil, or_false] at hx
       rw [hx]
       exact h4 _
theorem refOfQ (v : Value) (l : List UInt8) (w : World) (hr : Row w v (bvs l)) (hl : l.length ≤ 1048576) (q : Nat → Bool) (hq : wds (fun b => decide (UInt8.ofNat b ∈ l)) = wds q) :
  Calls Try.prog 33 #[v] w fun e w' => e = .returned (.agg (wds q).toArray) ∧ Below w.heap.size w w' := by
 rw [← hq]
 exact refOf_any v l w hr hl
theorem refNotQ (p : Nat → Bool) (w : World) (q : Nat → Bool) (hq : wds (fun b => !p b) = wds q) :
  Calls Try.prog 77 #[.agg (wds p).toArray] w fun e w' => e = .returned (.agg (wds q).toArray) ∧ Below w.heap.size w w' := by
 rw [← hq]
 exact refNot_any p w
theorem refRangeQ (f t : Nat) (hf : f < 256) (ht : t < 256) (w : World) (q : Nat → Bool) (hq : q = rangeS f t) :
  Calls Try.prog 76 #[.int .u8 (f : Int), .int .u8 (t : Int)] w fun e w' => e = .returned (.agg (wds q).toArray) ∧ Below w.heap.size w w' := by
 rw [hq]
 exact refRange_any f t hf ht w
theorem add97 {a c : Nat} (h : c = 97 + a) (ha : a < 256) : wrap64 (97 + (a : Int)) = (c : Int) := by
 rw [show 97 + (a : Int) = (c : Int) by omega]
 exact IntWalk.wrap64_in _ (by omega)
theorem add97' {a c : Nat} (h : c = 97 + a) (ha : a < 256) : IntKind.i64.wrap (97 + (a : Int)) = (c : Int) := by
 rw [show 97 + (a : Int) = (c : Int) by omega]
 exact IntWalk.i64_in _ (by omega)
theorem ofNat_inj {b c : Nat} (hb : b < 256) (hc : c < 256) : UInt8.ofNat b = UInt8.ofNat c ↔ b = c := by
 constructor
 ·intro he
  have h1 := congrArg UInt8.toNat he
  rw [UInt8.toNat_ofNat', UInt8.toNat_ofNat', Nat.mod_eq_of_lt hc, Nat.mod_eq_of_lt hb] at h1
  exact h1
 ·intro h
  rw [h]
theorem wds_list1 {c : Nat} (hc : c < 256) (l : List UInt8) (hl : l = [UInt8.ofNat c]) (q : Nat → Bool) (hq : q = listS [c]) : wds (fun b => decide (UInt8.ofNat b ∈ l)) = wds q := by
 refine wds_congr fun b hb => ?_
 rw [hq]
 unfold listS
 rw [Bool.eq_iff_iff, decide_eq_true_iff, decide_eq_true_iff, hl, List.mem_singleton, List.mem_singleton]
 exact ofNat_inj hb hc
theorem wds_list3 {c d f : Nat} (hc : c < 256) (hd : d < 256) (hf : f < 256) (l : List UInt8) (hl : l = [UInt8.ofNat c, UInt8.ofNat d, UInt8.ofNat f]) (q : Nat → Bool) (hq : q = listS [c, d, f]) : wds (fun b => decide (UInt8.ofNat b ∈ l)) = wds q := by
 refine wds_congr fun b hb => ?_
 rw [hq]
 unfold listS
 rw [Bool.eq_iff_iff, decide_eq_true_iff, decide_eq_true_iff, hl, List.mem_cons, List.mem_cons, List.mem_singleton, List.mem_cons, List.mem_cons, List.mem_singleton, ofNat_inj hb hc, ofNat_inj hb hd, ofNat_inj hb hf]
theorem refOf1 (c : Nat) (hc : c < 256) (v : Value) (w : World) (hr : Row w v (bvs [UInt8.ofNat c])) (q : Nat → Bool) (hq : q = listS [c]) :
  Calls Try.prog 33 #[v] w fun e w' => e = .returned (.agg (wds q).toArray) ∧ Below w.heap.size w w' := by
 obtain ⟨l, hl⟩ : ∃ l, l = [UInt8.ofNat c] := ⟨_, rfl⟩
 rw [← hl] at hr
 exact refOfQ v l w hr (by rw [hl, List.length_singleton]; omega) q (wds_list1 hc l hl q hq)
theorem refOf3 (c d f : Nat) (hc : c < 256) (hd : d < 256) (hf : f < 256) (v : Value) (w : World) (hr : Row w v (bvs [UInt8.ofNat c, UInt8.ofNat d, UInt8.ofNat f])) (q : Nat → Bool) (hq : q = listS [c, d, f]) :
  Calls Try.prog 33 #[v] w fun e w' => e = .returned (.agg (wds q).toArray) ∧ Below w.heap.size w w' := by
 obtain ⟨l, hl⟩ : ∃ l, l = [UInt8.ofNat c, UInt8.ofNat d, UInt8.ofNat f] := ⟨_, rfl⟩
 have h3 : l.length = 3 := by rw [hl]; rfl
 rw [← hl] at hr
 exact refOfQ v l w hr (by omega) q (wds_list3 hc hd hf l hl q hq)
theorem wds_notQ {y q : Nat → Bool} (h : q = notS y) : wds (fun b => !y b) = wds q := wds_congr fun b hb => by
 rw [h]
 unfold notS
 rw [decide_eq_true hb]
 rfl
set_option maxHeartbeats 8000000 in
set_option maxRecDepth 1000000 in
theorem set_any (w : World) (g : Nat) (V : Value) (ps : List UInt8) (n : Nat) (h : Pk w g V ps n) :
  Calls Try.prog 60 #[.pointer (some ⟨g, 0, none⟩)] w fun e w' => e = .returned (.agg (wds (setP ps n).1).toArray) ∧ w.grownBy w' (some g) ∧ Pk w' g V ps (setP ps n).2 := by
 have HPK := qH h
 have HNE := qH (show some w.heap.size ≠ some g from fun he => by have h1 := Option.some.inj he; have h2 := h.blk.lt; omega)
 obtain ⟨i1, hi1, hz1⟩ := info_set
 obtain ⟨z, hz⟩ : ∃ z : Nat → Bool, z = fun _ => false := ⟨_, rfl⟩
 rw [← hz] at hz1
 have HZ1 := qH hz1
 clear hz1 hz
 obtain ⟨q, hq⟩ : ∃ q, q = (setP ps n).1 := ⟨_, rfl⟩
 obtain ⟨m, hm⟩ : ∃ m, m = (setP ps n).2 := ⟨_, rfl⟩
 rw [← hq, ← hm]
 have hl8 := numV_lt ps n (m := 8) (by omega)
 unfold setP at hq hm
 obtain ⟨x0, hx0⟩ : ∃ x, x = numV ps n 8 := ⟨_, rfl⟩
 obtain ⟨n1, hn1⟩ : ∃ x, x = numN ps n := ⟨_, rfl⟩
 obtain ⟨n2, hn2⟩ : ∃ x, x = numN ps n1 := ⟨_, rfl⟩
 obtain ⟨n3, hn3⟩ : ∃ x, x = numN ps n2 := ⟨_, rfl⟩
 obtain ⟨n4, hn4⟩ : ∃ x, x = numN ps n3 := ⟨_, rfl⟩
 rw [← hx0, ← hn1, ← hn2, ← hn3, ← hn4] at hq hm
 rw [← hx0] at hl8
 have HX0 := qH hx0
 have HN1 := qH hn1
 have HN2 := qH hn2
 have HN3 := qH hn3
 have HN4 := qH hn4
 clear h hx0 hn1 hn2 hn3 hn4
 by_cases h0 : x0 = 0
 ·rw [if_pos h0] at hq hm
  have s0 : ((x0 : Int) == 0) = true := by rw [h0]; rfl
  have HQ := qH hq
  have hm' : m = n1 := hm
  subst hm'
  clear hq hm h0 hl8
  go_enter Try.func60, Try.ntmps60
  go_wp2_with ((with_reducible refine atDst 2 ?_); refine wpList_new rfl 37 rfl i1 _ (wds z) hi1 HZ1.out rfl (Below.refl w.heap.size w) (Nat.le_refl _) ?_; intro w1 hk1 hb1 hs1 _; have K1 := qH hk1; have G1 := qH (below_grownG g hb1); have P1 := qH (HPK.out.below hb1); clear hk1 hb1 hs1; (try simp only [Act.put, qA, qB, qC]))
  refine (num_any w1 g V ps n 8 P1.out (by omega) (by omega)).mono ?_
  rintro e w2 ⟨rfl, hg, hp⟩
  have G2 := qH (grownG_trans G1.out hg)
  have K2 := qH (K1.out.grown hg HNE.out)
  have P2 := qH hp
  rw [← HX0.out]
  rw [← HN1.out] at P2
  clear hg hp
  go_wp2_with fail
  refine (refRangeQ 97 100 (by omega) (by omega) w2 q HQ.out).mono ?_
  rintro e w8 ⟨rfl, hb8⟩
  have G8 := qH (grownG_trans G2.out (below_grownG g hb8))
  have K8 := qH (K2.out.below hb8 K2.out.lt)
  have P8 := qH (P2.out.below hb8)
  clear hb8
  go_wp2_with ((with_reducible refine atStore 37 2 7 ?_); refine wpList_stBlk rfl 37 _ _ rfl w.heap.size (wds q) rfl rfl 37 _ K8.out (size_set q) rfl (wds_all _) (Below.refl w.heap.size w8) (Nat.le_refl _) ?_; intro w9 hk9 hb9 hs9 ho9; have K9 := qH hk9; have G9 := qH (grownG_below G8.out hb9); have P9 := qH (P8.out.other _ ho9 HPK.out.blk.lt hb9); clear hk9 hb9 hs9 ho9; (try simp only [Act.put, qA, qB, qC]))
  refine bodyPost_ret (results_blk rfl _ _ w.heap.size 37 _ _ rfl K9.out Try.underlying37 rfl (size_set q)) rfl ?_
  exact ⟨rfl, G9.out, P9.out⟩
 rw [if_neg h0] at hq hm
 have s0 : ((x0 : Int) == 0) = false := by rw [beq_eq_false_iff_ne]; omega
 by_cases h1 : x0 = 1
 ·rw [if_pos h1] at hq hm
  have s1 : ((x0 : Int) == 1) = true := by rw [h1]; rfl
  obtain ⟨a, ha⟩ : ∃ a, a = numV ps n1 256 := ⟨_, rfl⟩
  obtain ⟨b, hb⟩ : ∃ b, b = numV ps n2 256 := ⟨_, rfl⟩
  rw [← ha, ← hb] at hq
  have ha2 : a < 256 := by rw [ha]; exact numV_lt _ _ (by omega)
  have hb2 : b < 256 := by rw [hb]; exact numV_lt _ _ (by omega)
  have HA := qH ha
  have HB := qH hb
  have HQ := qH hq
  have hm' : m = n3 := hm
  subst hm'
  have u1 := wrap_u8 ha2
  have u2 := wrap_u8 hb2
  clear hq hm h0 h1 hl8 ha hb
  go_enter Try.func60, Try.ntmps60
  go_wp2_with ((with_reducible refine atDst 2 ?_); refine wpList_new rfl 37 rfl i1 _ (wds z) hi1 HZ1.out rfl (Below.refl w.heap.size w) (Nat.le_refl _) ?_; intro w1 hk1 hb1 hs1 _; have K1 := qH hk1; have G1 := qH (below_grownG g hb1); have P1 := qH (HPK.out.below hb1); clear hk1 hb1 hs1; (try simp only [Act.put, qA, qB, qC]))
  refine (num_any w1 g V ps n 8 P1.out (by omega) (by omega)).mono ?_
  rintro e w2 ⟨rfl, hg, hp⟩
  have G2 := qH (grownG_trans G1.out hg)
  have K2 := qH (K1.out.grown hg HNE.out)
  have P2 := qH hp
  rw [← HX0.out]
  rw [← HN1.out] at P2
  clear hg hp
  go_wp2_with fail
  refine (num_any w2 g V ps n1 256 P2.out (by omega) (by omega)).mono ?_
  rintro e w3 ⟨rfl, hg, hp⟩
  have G3 := qH (grownG_trans G2.out hg)
  have K3 := qH (K2.out.grown hg HNE.out)
  have P3 := qH hp
  clear hg hp
  rw [← HA.out]
  rw [← HN2.out] at P3
  go_wp2_with fail
  refine (num_any w3 g V ps n2 256 P3.out (by omega) (by omega)).mono ?_
  rintro e w4 ⟨rfl, hg, hp⟩
  have G4 := qH (grownG_trans G3.out hg)
  have K4 := qH (K3.out.grown hg HNE.out)
  have P4 := qH hp
  clear hg hp
  rw [← HB.out]
  rw [← HN3.out] at P4
  go_wp2_with fail
  refine (refRangeQ a b ha2 hb2 w4 q HQ.out).mono ?_
  rintro e w8 ⟨rfl, hb8⟩
  have G8 := qH (grownG_trans G4.out (below_grownG g hb8))
  have K8 := qH (K4.out.below hb8 K4.out.lt)
  have P8 := qH (P4.out.below hb8)
  clear hb8
  go_wp2_with ((with_reducible refine atStore 37 2 16 ?_); refine wpList_stBlk rfl 37 _ _ rfl w.heap.size (wds q) rfl rfl 37 _ K8.out (size_set q) rfl (wds_all _) (Below.refl w.heap.size w8) (Nat.le_refl _) ?_; intro w9 hk9 hb9 hs9 ho9; have K9 := qH hk9; have G9 := qH (grownG_below G8.out hb9); have P9 := qH (P8.out.other _ ho9 HPK.out.blk.lt hb9); clear hk9 hb9 hs9 ho9; (try simp only [Act.put, qA, qB, qC]))
  refine bodyPost_ret (results_blk rfl _ _ w.heap.size 37 _ _ rfl K9.out Try.underlying37 rfl (size_set q)) rfl ?_
  exact ⟨rfl, G9.out, P9.out⟩
 rw [if_neg h1] at hq hm
 have s1 : ((x0 : Int) == 1) = false := by rw [beq_eq_false_iff_ne]; omega
 obtain ⟨i0, hi0, hy0, hs0⟩ := info_u8
 have HY0 := qH hy0
 clear hy0
 by_cases h2 : x0 = 2
 ·rw [if_pos h2] at hq hm
  have s2 : ((x0 : Int) == 2) = true := by rw [h2]; rfl
  obtain ⟨a, ha⟩ : ∃ a, a = numV ps n1 4 := ⟨_, rfl⟩
  rw [← ha] at hq
  have ha2 : a < 4 := by rw [ha]; exact numV_lt _ _ (by omega)
  obtain ⟨c, hc⟩ : ∃ c, c = 97 + a := ⟨_, rfl⟩
  rw [← hc] at hq
  have HA := qH ha
  have HQ := qH hq
  obtain ⟨y, hy⟩ : ∃ y, y = listS [c] := ⟨_, rfl⟩
  have HY := qH hy
  clear hy
  have hm' : m = n2 := hm
  subst hm'
  have hc2 : c < 256 := by omega
  have HBV := qH (bv_ofNat hc2)
  have f1 := add97 hc (Nat.lt_trans ha2 (by decide))
  have f2 := add97' hc (Nat.lt_trans ha2 (by decide))
  have u1 := wrap_u8 hc2
  clear hq hm h0 h1 h2 hl8 ha hc
  go_enter Try.func60, Try.ntmps60
  go_wp2_with ((with_reducible refine atDst 2 ?_); refine wpList_new rfl 37 rfl i1 _ (wds z) hi1 HZ1.out rfl (Below.refl w.heap.size w) (Nat.le_refl _) ?_; intro w1 hk1 hb1 hs1 _; have K1 := qH hk1; have G1 := qH (below_grownG g hb1); have P1 := qH (HPK.out.below hb1); clear hk1 hb1 hs1; (try simp only [Act.put, qA, qB, qC]))
  refine (num_any w1 g V ps n 8 P1.out (by omega) (by omega)).mono ?_
  rintro e w2 ⟨rfl, hg, hp⟩
  have G2 := qH (grownG_trans G1.out hg)
  have K2 := qH (K1.out.grown hg HNE.out)
  have P2 := qH hp
  rw [← HX0.out]
  rw [← HN1.out] at P2
  clear hg hp
  go_wp2_with fail
  refine (num_any w2 g V ps n1 4 P2.out (by omega) (by omega)).mono ?_
  rintro e w3 ⟨rfl, hg, hp⟩
  have G3 := qH (grownG_trans G2.out hg)
  have K3 := qH (K2.out.grown hg HNE.out)
  have P3 := qH hp
  clear hg hp
  rw [← HA.out]
  rw [← HN2.out] at P3
  go_wp2_with ((with_reducible refine atDst 23 ?_); refine wpList_bldB1 rfl 26 5 _ rfl i0 Try.underlying26 hi0 HY0.out hs0 (UInt8.ofNat c) HBV.out.symm ?_; intro w4 _ hr hb _; have R4 := qH hr; have K4 := qH (K3.out.below hb K3.out.lt); have G4 := qH (grownG_trans G3.out (below_grownG g hb)); have P4 := qH (P3.out.below hb); clear hr hb; (try simp only [Act.put, qA, qB, qC]))
  refine (refOf1 c hc2 _ w4 R4.out y HY.out).mono ?_
  rintro e w5 ⟨rfl, hb⟩
  have K5 := qH (K4.out.below hb K4.out.lt)
  have G5 := qH (grownG_trans G4.out (below_grownG g hb))
  have P5 := qH (P4.out.below hb)
  clear hb
  go_wp2_with fail
  refine (refNotQ y w5 q (wds_notQ (by rw [HY.out, HQ.out]))).mono ?_
  rintro e w8 ⟨rfl, hb8⟩
  have G8 := qH (grownG_trans G5.out (below_grownG g hb8))
  have K8 := qH (K5.out.below hb8 K5.out.lt)
  have P8 := qH (P5.out.below hb8)
  clear hb8
  go_wp2_with ((with_reducible refine atStore 37 2 25 ?_); refine wpList_stBlk rfl 37 _ _ rfl w.heap.size (wds q) rfl rfl 37 _ K8.out (size_set q) rfl (wds_all _) (Below.refl w.heap.size w8) (Nat.le_refl _) ?_; intro w9 hk9 hb9 hs9 ho9; have K9 := qH hk9; have G9 := qH (grownG_below G8.out hb9); have P9 := qH (P8.out.other _ ho9 HPK.out.blk.lt hb9); clear hk9 hb9 hs9 ho9; (try simp only [Act.put, qA, qB, qC]))
  refine bodyPost_ret (results_blk rfl _ _ w.heap.size 37 _ _ rfl K9.out Try.underlying37 rfl (size_set q)) rfl ?_
  exact ⟨rfl, G9.out, P9.out⟩
 rw [if_neg h2] at hq hm
 have s2 : ((x0 : Int) == 2) = false := by rw [beq_eq_false_iff_ne]; omega
 by_cases h3 : x0 = 3
 ·rw [if_pos h3] at hq hm
  have s3 : ((x0 : Int) == 3) = true := by rw [h3]; rfl
  obtain ⟨a, ha⟩ : ∃ a, a = numV ps n1 4 := ⟨_, rfl⟩
  obtain ⟨b, hb⟩ : ∃ b, b = numV ps n2 4 := ⟨_, rfl⟩
  obtain ⟨f, hf⟩ : ∃ f, f = numV ps n3 256 := ⟨_, rfl⟩
  rw [← ha, ← hb, ← hf] at hq
  have ha2 : a < 4 := by rw [ha]; exact numV_lt _ _ (by omega)
  have hb2 : b < 4 := by rw [hb]; exact numV_lt _ _ (by omega)
  have hf2 : f < 256 := by rw [hf]; exact numV_lt _ _ (by omega)
  obtain ⟨c, hc⟩ : ∃ c, c = 97 + a := ⟨_, rfl⟩
  obtain ⟨d, hd⟩ : ∃ d, d = 97 + b := ⟨_, rfl⟩
  rw [← hc, ← hd] at hq
  have HA := qH ha
  have HB := qH hb
  have HF := qH hf
  have HQ := qH hq
  have hm' : m = n4 := hm
  subst hm'
  have hc2 : c < 256 := by omega
  have hd2 : d < 256 := by omega
  have HBV := qH (bv_ofNat hc2)
  have HBD := qH (bv_ofNat hd2)
  have HBF := qH (bv_ofNat hf2)
  have f1 := add97 hc (Nat.lt_trans ha2 (by decide))
  have f2 := add97' hc (Nat.lt_trans ha2 (by decide))
  have f3 := add97 hd (Nat.lt_trans hb2 (by decide))
  have f4 := add97' hd (Nat.lt_trans hb2 (by decide))
  have u1 := wrap_u8 hc2
  have u2 := wrap_u8 hd2
  have u3 := wrap_u8 hf2
  clear hq hm h0 h1 h2 h3 hl8 ha hb hf hc hd
  go_enter Try.func60, Try.ntmps60
  go_wp2_with ((with_reducible refine atDst 2 ?_); refine wpList_new rfl 37 rfl i1 _ (wds z) hi1 HZ1.out rfl (Below.refl w.heap.size w) (Nat.le_refl _) ?_; intro w1 hk1 hb1 hs1 _; have K1 := qH hk1; have G1 := qH (below_grownG g hb1); have P1 := qH (HPK.out.below hb1); clear hk1 hb1 hs1; (try simp only [Act.put, qA, qB, qC]))
  refine (num_any w1 g V ps n 8 P1.out (by omega) (by omega)).mono ?_
  rintro e w2 ⟨rfl, hg, hp⟩
  have G2 := qH (grownG_trans G1.out hg)
  have K2 := qH (K1.out.grown hg HNE.out)
  have P2 := qH hp
  rw [← HX0.out]
  rw [← HN1.out] at P2
  clear hg hp
  go_wp2_with fail
  refine (num_any w2 g V ps n1 4 P2.out (by omega) (by omega)).mono ?_
  rintro e w3 ⟨rfl, hg, hp⟩
  have G3 := qH (grownG_trans G2.out hg)
  have K3 := qH (K2.out.grown hg HNE.out)
  have P3 := qH hp
  clear hg hp
  rw [← HA.out]
  rw [← HN2.out] at P3
  go_wp2_with fail
  refine (num_any w3 g V ps n2 4 P3.out (by omega) (by omega)).mono ?_
  rintro e w4 ⟨rfl, hg, hp⟩
  have G4 := qH (grownG_trans G3.out hg)
  have K4 := qH (K3.out.grown hg HNE.out)
  have P4 := qH hp
  clear hg hp
  rw [← HB.out]
  rw [← HN3.out] at P4
  go_wp2_with fail
  refine (num_any w4 g V ps n3 256 P4.out (by omega) (by omega)).mono ?_
  rintro e w5 ⟨rfl, hg, hp⟩
  have G5 := qH (grownG_trans G4.out hg)
  have K5 := qH (K4.out.grown hg HNE.out)
  have P5 := qH hp
  clear hg hp
  rw [← HF.out]
  rw [← HN4.out] at P5
  go_wp2_with ((with_reducible refine atDst 39 ?_); refine wpList_bldB3 rfl 26 5 _ _ _ rfl i0 Try.underlying26 hi0 HY0.out hs0 (UInt8.ofNat c) (UInt8.ofNat d) (UInt8.ofNat f) HBV.out.symm HBD.out.symm HBF.out.symm ?_; intro w6 _ hr hb _; have R6 := qH hr; have K6 := qH (K5.out.below hb K5.out.lt); have G6 := qH (grownG_trans G5.out (below_grownG g hb)); have P6 := qH (P5.out.below hb); clear hr hb; (try simp only [Act.put, qA, qB, qC]))
  refine (refOf3 c d f hc2 hd2 hf2 _ w6 R6.out q HQ.out).mono ?_
  rintro e w8 ⟨rfl, hb8⟩
  have G8 := qH (grownG_trans G6.out (below_grownG g hb8))
  have K8 := qH (K6.out.below hb8 K6.out.lt)
  have P8 := qH (P6.out.below hb8)
  clear hb8
  go_wp2_with ((with_reducible refine atStore 37 2 40 ?_); refine wpList_stBlk rfl 37 _ _ rfl w.heap.size (wds q) rfl rfl 37 _ K8.out (size_set q) rfl (wds_all _) (Below.refl w.heap.size w8) (Nat.le_refl _) ?_; intro w9 hk9 hb9 hs9 ho9; have K9 := qH hk9; have G9 := qH (grownG_below G8.out hb9); have P9 := qH (P8.out.other _ ho9 HPK.out.blk.lt hb9); clear hk9 hb9 hs9 ho9; (try simp only [Act.put, qA, qB, qC]))
  refine bodyPost_ret (results_blk rfl _ _ w.heap.size 37 _ _ rfl K9.out Try.underlying37 rfl (size_set q)) rfl ?_
  exact ⟨rfl, G9.out, P9.out⟩
 rw [if_neg h3] at hq hm
 have s3 : ((x0 : Int) == 3) = false := by rw [beq_eq_false_iff_ne]; omega
 by_cases h4 : x0 = 4
 ·rw [if_pos h4] at hq hm
  have s4 : ((x0 : Int) == 4) = true := by rw [h4]; rfl
  have HQ := qH hq
  have hm' : m = n1 := hm
  subst hm'
  clear hq hm h0 h1 h2 h3 h4 hl8
  go_enter Try.func60, Try.ntmps60
  go_wp2_with ((with_reducible refine atDst 2 ?_); refine wpList_new rfl 37 rfl i1 _ (wds z) hi1 HZ1.out rfl (Below.refl w.heap.size w) (Nat.le_refl _) ?_; intro w1 hk1 hb1 hs1 _; have K1 := qH hk1; have G1 := qH (below_grownG g hb1); have P1 := qH (HPK.out.below hb1); clear hk1 hb1 hs1; (try simp only [Act.put, qA, qB, qC]))
  refine (num_any w1 g V ps n 8 P1.out (by omega) (by omega)).mono ?_
  rintro e w2 ⟨rfl, hg, hp⟩
  have G2 := qH (grownG_trans G1.out hg)
  have K2 := qH (K1.out.grown hg HNE.out)
  have P2 := qH hp
  rw [← HX0.out]
  rw [← HN1.out] at P2
  clear hg hp
  go_wp2_with fail
  refine (refRangeQ 0 255 (by omega) (by omega) w2 q HQ.out).mono ?_
  rintro e w8 ⟨rfl, hb8⟩
  have G8 := qH (grownG_trans G2.out (below_grownG g hb8))
  have K8 := qH (K2.out.below hb8 K2.out.lt)
  have P8 := qH (P2.out.below hb8)
  clear hb8
  go_wp2_with ((with_reducible refine atStore 37 2 43 ?_); refine wpList_stBlk rfl 37 _ _ rfl w.heap.size (wds q) rfl rfl 37 _ K8.out (size_set q) rfl (wds_all _) (Below.refl w.heap.size w8) (Nat.le_refl _) ?_; intro w9 hk9 hb9 hs9 ho9; have K9 := qH hk9; have G9 := qH (grownG_below G8.out hb9); have P9 := qH (P8.out.other _ ho9 HPK.out.blk.lt hb9); clear hk9 hb9 hs9 ho9; (try simp only [Act.put, qA, qB, qC]))
  refine bodyPost_ret (results_blk rfl _ _ w.heap.size 37 _ _ rfl K9.out Try.underlying37 rfl (size_set q)) rfl ?_
  exact ⟨rfl, G9.out, P9.out⟩
 ·rw [if_neg h4] at hq hm
  have s4 : ((x0 : Int) == 4) = false := by rw [beq_eq_false_iff_ne]; omega
  obtain ⟨a, ha⟩ : ∃ a, a = numV ps n1 4 := ⟨_, rfl⟩
  rw [← ha] at hq
  have ha2 : a < 4 := by rw [ha]; exact numV_lt _ _ (by omega)
  obtain ⟨c, hc⟩ : ∃ c, c = 97 + a := ⟨_, rfl⟩
  rw [← hc] at hq
  have HA := qH ha
  have HQ := qH hq
  obtain ⟨y, hy⟩ : ∃ y, y = listS [c] := ⟨_, rfl⟩
  have HY := qH hy
  clear hy
  have hm' : m = n2 := hm
  subst hm'
  have hc2 : c < 256 := by omega
  have HBV := qH (bv_ofNat hc2)
  have f1 := add97 hc (Nat.lt_trans ha2 (by decide))
  have f2 := add97' hc (Nat.lt_trans ha2 (by decide))
  have u1 := wrap_u8 hc2
  clear hq hm h0 h1 h2 h3 h4 hl8 ha hc
  go_enter Try.func60, Try.ntmps60
  go_wp2_with ((with_reducible refine atDst 2 ?_); refine wpList_new rfl 37 rfl i1 _ (wds z) hi1 HZ1.out rfl (Below.refl w.heap.size w) (Nat.le_refl _) ?_; intro w1 hk1 hb1 hs1 _; have K1 := qH hk1; have G1 := qH (below_grownG g hb1); have P1 := qH (HPK.out.below hb1); clear hk1 hb1 hs1; (try simp only [Act.put, qA, qB, qC]))
  refine (num_any w1 g V ps n 8 P1.out (by omega) (by omega)).mono ?_
  rintro e w2 ⟨rfl, hg, hp⟩
  have G2 := qH (grownG_trans G1.out hg)
  have K2 := qH (K1.out.grown hg HNE.out)
  have P2 := qH hp
  rw [← HX0.out]
  rw [← HN1.out] at P2
  clear hg hp
  go_wp2_with fail
  refine (num_any w2 g V ps n1 4 P2.out (by omega) (by omega)).mono ?_
  rintro e w3 ⟨rfl, hg, hp⟩
  have G3 := qH (grownG_trans G2.out hg)
  have K3 := qH (K2.out.grown hg HNE.out)
  have P3 := qH hp
  clear hg hp
  rw [← HA.out]
  rw [← HN2.out] at P3
  go_wp2_with ((with_reducible refine atDst 48 ?_); refine wpList_bldB1 rfl 26 5 _ rfl i0 Try.underlying26 hi0 HY0.out hs0 (UInt8.ofNat c) HBV.out.symm ?_; intro w4 _ hr hb _; have R4 := qH hr; have K4 := qH (K3.out.below hb K3.out.lt); have G4 := qH (grownG_trans G3.out (below_grownG g hb)); have P4 := qH (P3.out.below hb); clear hr hb; (try simp only [Act.put, qA, qB, qC]))
  refine (refOf1 c hc2 _ w4 R4.out q HQ.out).mono ?_
  rintro e w8 ⟨rfl, hb8⟩
  have G8 := qH (grownG_trans G4.out (below_grownG g hb8))
  have K8 := qH (K4.out.below hb8 K4.out.lt)
  have P8 := qH (P4.out.below hb8)
  clear hb8
  go_wp2_with ((with_reducible refine atStore 37 2 49 ?_); refine wpList_stBlk rfl 37 _ _ rfl w.heap.size (wds q) rfl rfl 37 _ K8.out (size_set q) rfl (wds_all _) (Below.refl w.heap.size w8) (Nat.le_refl _) ?_; intro w9 hk9 hb9 hs9 ho9; have K9 := qH hk9; have G9 := qH (grownG_below G8.out hb9); have P9 := qH (P8.out.other _ ho9 HPK.out.blk.lt hb9); clear hk9 hb9 hs9 ho9; (try simp only [Act.put, qA, qB, qC]))
  refine bodyPost_ret (results_blk rfl _ _ w.heap.size 37 _ _ rfl K9.out Try.underlying37 rfl (size_set q)) rfl ?_
  exact ⟨rfl, G9.out, P9.out⟩
mutual
theorem sameT_eq : ∀ t u : T, canT t → canT u → sameT t u = true → t = u
 | .node k s l, .node k' s' l', h, h', hs => by
  simp only [sameT, Bool.and_eq_true, decide_eq_true_eq] at hs
  simp only [canT] at h h'
  rw [hs.1.1, can_eq h.1 h'.1 hs.1.2, sameL_eq l l' h.2 h'.2 hs.2]
theorem sameL_eq : ∀ l m : List T, canL l → canL m → sameL l m = true → l = m
 | [], [], _, _, _ => rfl
 | [], _ :: _, _, _, h => by simp [sameL] at h
 | _ :: _, [], _, _, h => by simp [sameL] at h
 | a :: r, b :: s, hl, hm, h => by
  simp only [sameL, Bool.and_eq_true] at h
  simp only [canL] at hl hm
  rw [sameT_eq a b hl.1 hm.1 h.1, sameL_eq r s hl.2 hm.2 h.2]
end
mutual
theorem sameT_self : ∀ t : T, sameT t t = true
 | .node k s l => by
  simp only [sameT, Bool.and_eq_true, decide_eq_true_eq]
  exact ⟨⟨trivial, eqS_self s⟩, sameL_self l⟩
theorem sameL_self : ∀ l : List T, sameL l l = true
 | [] => rfl
 | a :: r => by
  simp only [sameL, Bool.and_eq_true]
  exact ⟨sameT_self a, sameL_self r⟩
end
theorem flat_all {k : Int} {l : List T} (h : ∀ t ∈ l, t.kind ≠ k) : flatT k l = l := by
 induction l with
 | nil => rfl
 | cons a r ih =>
  have e : flatT k (a :: r) = (if a.kind = k then a.args else [a]) ++ flatT k r := by simp [flatT]
  rw [e, if_neg (h a (by simp)), ih fun t ht => h t (by simp [ht])]
  rfl
theorem without_allK {k : Int} {l : List T} (h : ∀ t ∈ l, t.kind ≠ k) : withoutT k l = l := by
 unfold withoutT
 rw [List.filter_eq_self]
 intro t ht
 simpa using h t ht
theorem any_none {k : Int} {l : List T} (h : ∀ t ∈ l, t.kind ≠ k) : anyK k l = false := by
 unfold anyK
 rw [List.any_eq_false]
 intro t ht
 simpa using h t ht
theorem flat_kind {k : Int} {l : List T} (hk : k = 4 ∨ k = 5) (h : ∀ t ∈ l, good t) : ∀ t ∈ flatT k l, t.kind ≠ k := fun t ht => by
 unfold flatT at ht
 obtain ⟨u, hu, hu2⟩ := List.mem_flatMap.1 ht
 by_cases hku : u.kind = k
 ·rw [if_pos hku] at hu2
  cases u with
  | node k' s m =>
   have h1 := (good_node.1 (h _ hu)).2.2.2.2.1 t hu2
   have h2 : k' = k := hku
   intro h3
   rw [h3, h2] at h1
   unfold fitsT at h1
   rcases hk with rfl | rfl <;> simp at h1
 ·rw [if_neg hku] at hu2
  obtain rfl := List.mem_singleton.1 hu2
  exact hku
theorem without_kind {k : Int} {l : List T} : ∀ t ∈ withoutT k l, t.kind ≠ k := fun t ht => by simpa using (List.mem_filter.1 ht).2
theorem can_wrap {k : Int} {n : T} {l : List T} (hn : canT n) (h : ∀ t ∈ l, canT t) : canT (wrapT k n l) := by
 match l, h with
 | [], _ => exact hn
 | [t], h => exact h t (by simp)
 | a :: b :: r, h =>
  show canT (.node k zeroS (a :: b :: r))
  simp only [canT]
  exact ⟨can_zero, canL_iff.2 h⟩
theorem can_none : canT noneT := ⟨can_zero, trivial⟩
theorem can_empty : canT emptyT := ⟨can_zero, trivial⟩
theorem wrap_inv {k : Int} {n : T} {l m : List T} (hn : n.kind ≠ k) (hm : ∀ t ∈ m, t.kind ≠ k) (h : wrapT k n m = .node k zeroS l) : m = l := by
 match m, hm with
 | [], _ =>
  have h : n = .node k zeroS l := h
  exact absurd (by rw [h]; rfl) hn
 | [t], hm =>
  have h : t = .node k zeroS l := h
  exact absurd (by rw [h]; rfl) (hm t (by simp))
 | a :: b :: r, _ =>
  have h : T.node k zeroS (a :: b :: r) = .node k zeroS l := h
  injection h
theorem cat_same {l : List T} (hl : ∀ t ∈ l, good t) (h2 : 2 ≤ l.length) {s : Nat → Bool} (hs : canS s) (hz : eqS s zeroS = true) :
  sameT (catT l) (.node 4 s l) = true ↔ ∀ x ∈ l, fitsT x.kind 4 = true := by
 obtain rfl := can_eq hs can_zero hz
 have hfg := good_flat (k := 4) hl
 have hfk := flat_kind (k := 4) (.inl rfl) hl
 constructor
 ·intro h
  have hcl : canT (.node 4 zeroS l) := by
   simp only [canT]
   exact ⟨can_zero, canL_iff.2 fun t ht => (hl t ht).1⟩
  have hcc : canT (catT l) := by
   unfold catT
   split
   ·exact can_none
   ·exact can_wrap can_empty fun t ht => (hfg t (List.mem_filter.1 ht).1).1
  have he := sameT_eq _ _ hcc hcl h
  unfold catT at he
  cases ha : anyK 1 (flatT 4 l) with
  | true => rw [ha] at he; injection he with h1; omega
  | false =>
   rw [ha, if_neg (by simp)] at he
   have hm := wrap_inv (by show (2 : Int) ≠ 4; omega) (fun t ht => hfk t (List.mem_filter.1 ht).1) he
   intro x hx
   rw [← hm] at hx
   have k2 := without_kind x hx
   have k4 := hfk x (List.mem_filter.1 hx).1
   have k1 : x.kind ≠ 1 := fun h1 => by
    have : anyK 1 (flatT 4 l) = true := List.any_eq_true.2 ⟨x, (List.mem_filter.1 hx).1, by simpa using h1⟩
    rw [ha] at this
    cases this
   unfold fitsT
   rw [if_neg k2]
   simp [k1, k4]
 ·intro h
  have hk : ∀ x ∈ l, x.kind ≠ 2 ∧ x.kind ≠ 1 ∧ x.kind ≠ 4 := fun x hx => by
   have h1 := h x hx
   unfold fitsT at h1
   by_cases h2 : x.kind = 2
   ·rw [if_pos h2] at h1; simp at h1
   ·rw [if_neg h2] at h1
    simp at h1
    exact ⟨h2, h1.1, h1.2⟩
  have e : catT l = .node 4 zeroS l := by
   unfold catT
   rw [flat_all fun x hx => (hk x hx).2.2, any_none fun x hx => (hk x hx).2.1, without_allK fun x hx => (hk x hx).1, if_neg (by simp), wrapT_many 4 _ _ h2]
  rw [e]
  exact sameT_self _
/-! ### alternatives -/
theorem cmp_kind {t u : T} (h : cmpT t u < 0) : t.kind ≤ u.kind := by
 cases t with
 | node k s l =>
  cases u with
  | node k' s' l' =>
   show k ≤ k'
   simp only [cmpT] at h
   split at h
   ·omega
   ·split at h
    ·omega
    ·omega
theorem folT_iff {a b : T} : folT b a = true ↔ cmpT a b < 0 ∧ ¬ (b.kind = 3 ∧ a.kind = 3) := by
 unfold folT
 simp only [Bool.and_eq_true, decide_eq_true_eq, Bool.not_eq_true', Bool.and_eq_false_iff, decide_eq_false_iff_not]
 constructor
 ·rintro ⟨h1, h2⟩
  exact ⟨h1, fun h => h2.elim (fun h3 => h3 h.1) (fun h3 => h3 h.2)⟩
 ·rintro ⟨h1, h2⟩
  refine ⟨h1, ?_⟩
  by_cases hb : b.kind = 3
  ·exact .inr fun ha => h2 ⟨hb, ha⟩
  ·exact .inl hb
theorem ascF_pairs : ∀ l : List T, ascF l = true → l.Pairwise fun a b => cmpT a b < 0 ∧ ¬ (b.kind = 3 ∧ a.kind = 3)
 | [], _ => List.Pairwise.nil
 | [a], _ => List.pairwise_singleton _ _
 | a :: b :: r, h => by
  simp only [ascF, Bool.and_eq_true] at h
  have h1 := folT_iff.1 h.1
  have ih := ascF_pairs (b :: r) h.2
  refine List.pairwise_cons.2 ⟨fun x hx => ?_, ih⟩
  rcases List.mem_cons.1 hx with rfl | hx
  ·exact h1
  ·have h3 := (List.pairwise_cons.1 ih).1 x hx
   refine ⟨cmpT_trans h1.1 (by have := h3.1; omega), fun hk => ?_⟩
   have k1 := cmp_kind h1.1
   have k2 := cmp_kind h3.1
   exact h1.2 ⟨by have h5 := hk.1; have h6 := hk.2; omega, hk.2⟩
theorem ascF_of : ∀ l : List T, (l.Pairwise fun a b => cmpT a b < 0 ∧ ¬ (b.kind = 3 ∧ a.kind = 3)) → ascF l = true
 | [], _ => rfl
 | [a], _ => rfl
 | a :: b :: r, h => by
  have h1 := List.pairwise_cons.1 h
  simp only [ascF, Bool.and_eq_true]
  exact ⟨folT_iff.2 (h1.1 b (by simp)), ascF_of (b :: r) h1.2⟩
theorem good_three {x : T} (hx : good x) (h3 : x.kind = 3) : x = .node 3 x.set [] ∧ eqS x.set zeroS = false := by
 cases x with
 | node k s l =>
  obtain rfl : k = 3 := h3
  have h := (good_node.1 hx).2.2.2.1
  unfold countT at h
  simp at h
  refine ⟨?_, ?_⟩
  ·show T.node 3 s l = .node 3 s []
   rw [h.2]
  ·show eqS s zeroS = false
   simpa using h.1
theorem alt_same {l : List T} (hl : ∀ t ∈ l, good t) (h2 : 2 ≤ l.length) {s : Nat → Bool} (hs : canS s) (hz : eqS s zeroS = true) :
  sameT (altT l) (.node 5 s l) = true ↔ (∀ x ∈ l, fitsT x.kind 5 = true) ∧ ascF l = true := by
 obtain rfl := can_eq hs can_zero hz
 have hfg := good_flat (k := 5) hl
 have hfk := flat_kind (k := 5) (.inr rfl) hl
 have hwg := good_without (k := 1) hfg
 have hig := good_items hwg
 constructor
 ·intro h
  have hcl : canT (.node 5 zeroS l) := by
   simp only [canT]
   exact ⟨can_zero, canL_iff.2 fun t ht => (hl t ht).1⟩
  have hcc : canT (altT l) := by
   unfold altT
   exact can_wrap can_none fun t ht => (hig t ((sortU_mem hig t).1 ht)).1
  have he := sameT_eq _ _ hcc hcl h
  unfold altT at he
  have hik : ∀ t ∈ itemsT (withoutT 1 (flatT 5 l)), t.kind ≠ 5 ∧ t.kind ≠ 1 ∧ (t.kind = 3 → t = .node 3 (orT (withoutT 1 (flatT 5 l))) []) := fun t ht => by
   unfold itemsT at ht
   rcases List.mem_append.1 ht with ht | ht
   ·have h3 := without_kind t ht
    have ht2 := (List.mem_filter.1 ht).1
    exact ⟨hfk t (List.mem_filter.1 ht2).1, without_kind t ht2, fun h => absurd h h3⟩
   ·split at ht
    ·cases ht
    ·obtain rfl := List.mem_singleton.1 ht
     exact ⟨by show (3 : Int) ≠ 5; omega, by show (3 : Int) ≠ 1; omega, fun _ => rfl⟩
  have hm := wrap_inv (by show (1 : Int) ≠ 5; omega) (fun t ht => (hik t ((sortU_mem hig t).1 ht)).1) he
  have hasc := sortU_asc (itemsT (withoutT 1 (flatT 5 l)))
  have hmem := fun t => sortU_mem hig t
  rw [hm] at hasc hmem
  refine ⟨fun x hx => ?_, ascF_of l (List.Pairwise.imp_of_mem (fun {a b} ha hb hab => ⟨hab, fun hk => ?_⟩) hasc)⟩
  ·obtain ⟨k5, k1, _⟩ := hik x ((hmem x).1 hx)
   unfold fitsT
   split
   ·rfl
   ·simp [k1, k5]
  ·have e1 := (hik a ((hmem a).1 ha)).2.2 hk.2
   have e2 := (hik b ((hmem b).1 hb)).2.2 hk.1
   rw [e1, e2, cmpT_self] at hab
   omega
 ·rintro ⟨hf, ha⟩
  have hk : ∀ x ∈ l, x.kind ≠ 5 ∧ x.kind ≠ 1 := fun x hx => by
   have h1 := hf x hx
   unfold fitsT at h1
   by_cases h2 : x.kind = 2
   ·rw [h2]; omega
   ·rw [if_neg h2] at h1
    simp at h1
    exact ⟨h1.2, h1.1⟩
  have hp := ascF_pairs l ha
  have hasc : Asc l := hp.imp fun h => h.1
  have hitems : ∀ x, x ∈ itemsT l ↔ x ∈ l := fun x => by
   by_cases h3 : ∃ y ∈ l, y.kind = 3
   ·obtain ⟨y, hy, hy3⟩ := h3
    have hone : ∀ z ∈ l, z.kind = 3 → z = y := fun z hz hz3 => by
     obtain ⟨i, hi, rfl⟩ := List.getElem_of_mem hy
     obtain ⟨j, hj, rfl⟩ := List.getElem_of_mem hz
     rcases Nat.lt_trichotomy i j with h | h | h
     ·exact absurd ⟨hz3, hy3⟩ (List.pairwise_iff_getElem.1 hp i j hi hj h).2
     ·subst h; rfl
     ·exact absurd ⟨hy3, hz3⟩ (List.pairwise_iff_getElem.1 hp j i hj hi h).2
    obtain ⟨ye, yz⟩ := good_three (hl y hy) hy3
    have hor : orT l = y.set := by
     funext b
     unfold orT
     rw [Bool.eq_iff_iff, List.any_eq_true]
     constructor
     ·rintro ⟨z, hz, hz2⟩
      simp only [Bool.and_eq_true, decide_eq_true_eq] at hz2
      rw [← hone z hz hz2.1]
      exact hz2.2
     ·intro hb
      exact ⟨y, hy, by simp [hy3, hb]⟩
    unfold itemsT
    rw [hor, yz, if_neg (by simp), ← ye, List.mem_append, List.mem_singleton]
    constructor
    ·rintro (h | h)
     ·exact (List.mem_filter.1 h).1
     ·rw [h]; exact hy
    ·intro h
     by_cases hx3 : x.kind = 3
     ·exact .inr (hone x h hx3)
     ·exact .inl (List.mem_filter.2 ⟨h, by simpa using hx3⟩)
   ·have h3 : ∀ y ∈ l, y.kind ≠ 3 := fun y hy h => h3 ⟨y, hy, h⟩
    have hor : eqS (orT l) zeroS = true := (eqS_iff _ _).2 fun b _ => by
     show orT l b = false
     unfold orT
     rw [List.any_eq_false]
     intro t ht
     simp [h3 t ht]
    unfold itemsT
    rw [hor, if_pos rfl, List.append_nil, without_allK h3]
  have hgi : ∀ t ∈ itemsT l, good t := fun t ht => hl t ((hitems t).1 ht)
  have e : altT l = .node 5 zeroS l := by
   unfold altT
   rw [flat_all fun x hx => (hk x hx).1, without_allK fun x hx => (hk x hx).2, asc_ext (sortU_asc (itemsT l)) hasc (fun x => by rw [sortU_mem hgi, hitems]), wrapT_many 5 _ _ h2]
  rw [e]
  exact sameT_self _
end Go.Proofs.Ytmcpfaaakmehdaa
