/-
  Texts of this proof, put together: PyA, PyB, PlA, PyC, ThA. No statement is proved here.
-/
import Derived.Test.YteadghoojeehlaaGreatDoorXE
import Derived.Test.YteadghoojeehlaaGreatDoorXK
import Derived.Test.YteadghoojeehlaaGreatDoorXI
namespace Go.Proofs.YteadghoojeehlaaGreatDoor
open Go.RowKit
set_option linter.unusedSimpArgs false
set_option linter.unusedVariables false
theorem below_drewP {B : Nat} {a w : World} (h : Below B a w) (n : Nat) : Below B a (w.drewN n) := ⟨h.os, h.tape, h.output, h.size, h.block⟩
def numV (ps : List UInt8) (n m : Nat) : Nat := if ps.length ≤ n then 0 else (ps.getD n 0).toNat % m
def numN (ps : List UInt8) (n : Nat) : Nat := if ps.length ≤ n then n else n + 1
theorem numV_lt (ps : List UInt8) (n : Nat) {m : Nat} (hm : 0 < m) : numV ps n m < m := by
 unfold numV
 split
 ·exact hm
 ·exact Nat.mod_lt _ hm
structure Pk (w : World) (g : Nat) (V : Value) (ps : List UInt8) (n : Nat) : Prop where
 blk : Blk w g 87 [V, .int .i64 (n : Int)]
 row : RowB g w V (bvs ps)
 le : n ≤ ps.length
 few : ps.length ≤ 1048576
theorem grown_belowG {w w' : World} {g : Nat} (h : w.grownBy w' (some g)) (hg : g < w.heap.size) : Below g w w' :=
 ⟨h.os, h.tape, h.output, h.size, fun k hk => h.block k (by omega) (fun e => by have := Option.some.inj e; omega)⟩
theorem below_grownG {w w' : World} (g : Nat) (h : Below w.heap.size w w') : w.grownBy w' (some g) := ⟨h.os, h.tape, h.output, h.size, fun k hk _ => h.block k hk⟩
theorem grownG_trans {w w1 w2 : World} {g : Nat} (h : w.grownBy w1 (some g)) (h2 : w1.grownBy w2 (some g)) : w.grownBy w2 (some g) :=
 ⟨h2.os.trans h.os, h2.tape.trans h.tape, h2.output.trans h.output, Nat.le_trans h.size h2.size, fun k hk hne => (h2.block k (by have := h.size; omega) hne).trans (h.block k hk hne)⟩
theorem Pk.grown {w w' : World} {g : Nat} {V : Value} {ps : List UInt8} {n n' : Nat} (h : Pk w g V ps n) (hg : w.grownBy w' (some g)) (hb : Blk w' g 87 [V, .int .i64 (n' : Int)]) (hn : n' ≤ ps.length) : Pk w' g V ps n' :=
 ⟨hb, h.row.below (grown_belowG hg h.blk.lt), hn, h.few⟩
theorem Pk.below {w w' : World} {g : Nat} {V : Value} {ps : List UInt8} {n : Nat} (h : Pk w g V ps n) (hb : Below w.heap.size w w') : Pk w' g V ps n :=
 ⟨h.blk.below hb h.blk.lt, h.row.below (hb.mono (Nat.le_of_lt h.blk.lt)), h.le, h.few⟩
theorem Pk.other {w w' : World} {g : Nat} {V : Value} {ps : List UInt8} {n : Nat} (h : Pk w g V ps n) (k : Nat) (hk : ∀ i, i ≠ k → w'.heap[i]? = w.heap[i]?) (hg : g < k) (hbl : Below k w w') : Pk w' g V ps n :=
 ⟨(hk g (by omega)).trans h.blk, h.row.below (hbl.mono (by omega)), h.le, h.few⟩
theorem grown_setCell {w w' : World} {g o : Nat} {v : Value} (h : w.grownBy w' (some g)) : w.grownBy (w'.setCell ⟨g, o, none⟩ v) (some g) := grown_setCells h o [v]
set_option maxHeartbeats 4000000 in
set_option maxRecDepth 1000000 in
theorem over_any (w : World) (g : Nat) (V : Value) (ps : List UInt8) (n : Nat) (h : Pk w g V ps n) :
  Calls Tryz.prog 62 #[.pointer (some ⟨g, 0, none⟩)] w fun e w' => e = .returned (.bool (decide (ps.length ≤ n))) ∧ Below w.heap.size w w' := by
 have H := qH h
 have c0 := h.blk.cell 0
 have c1 := h.blk.cell 1
 obtain ⟨A, cap, rfl, a1, a2, a0, a3⟩ := h.row
 rw [bvs_length] at c0 a1
 have c0' : w.cell? ⟨g, 0, none⟩ = some (.slice A ps.length cap) := by rw [c0]; rfl
 have c1' : w.cell? ⟨g, 1, none⟩ = some (.int .i64 (n : Int)) := by rw [c1]; rfl
 clear h a1 a2 a0 a3 c0 c1
 by_cases hn : ps.length ≤ n
 ·have d : ((ps.length : Int) ≤ (n : Int)) := by omega
  have HR := qH (decide_eq_true hn)
  clear hn
  go_enter Tryz.func62, Tryz.ntmps62
  go_wp2_with fail
  go_quiet (fail)
  go_wp2_with fail
  go_ret
  rw [HR.out]
  exact ⟨rfl, below_drewP (Below.refl _ _) _⟩
 ·have d : ¬ ((ps.length : Int) ≤ (n : Int)) := by omega
  have HR := qH (decide_eq_false hn)
  clear hn
  go_enter Tryz.func62, Tryz.ntmps62
  go_wp2_with fail
  go_quiet (fail)
  go_wp2_with fail
  go_ret
  rw [HR.out]
  exact ⟨rfl, below_drewP (Below.refl _ _) _⟩
set_option maxHeartbeats 4000000 in
set_option maxRecDepth 1000000 in
theorem num_any (w : World) (g : Nat) (V : Value) (ps : List UInt8) (n m : Nat) (h : Pk w g V ps n) (hm : 0 < m) (hm2 : m ≤ 1048576) :
  Calls Tryz.prog 61 #[.pointer (some ⟨g, 0, none⟩), .int .i64 (m : Int)] w fun e w' => e = .returned (.int .i64 (numV ps n m : Int)) ∧ w.grownBy w' (some g) ∧ Pk w' g V ps (numN ps n) := by
 have H := qH h
 have c0 := h.blk.cell 0
 have c1 := h.blk.cell 1
 obtain ⟨A, cap, rfl, a1, a2, a0, a3⟩ := h.row
 have hfw := h.few
 have hle := h.le
 rw [bvs_length] at c0 a1 H ⊢
 have c0' : w.cell? ⟨g, 0, none⟩ = some (.slice A ps.length cap) := by rw [c0]; rfl
 have c1' : w.cell? ⟨g, 1, none⟩ = some (.int .i64 (n : Int)) := by rw [c1]; rfl
 have HA3 := qH a3
 clear h a1 a2 a0 a3 c0 c1
 by_cases hn : ps.length ≤ n
 ·have d : ((ps.length : Int) ≤ (n : Int)) := by omega
  have HR := qH (show numV ps n m = 0 ∧ numN ps n = n from ⟨by unfold numV; rw [if_pos hn], by unfold numN; rw [if_pos hn]⟩)
  clear hn
  go_enter Tryz.func61, Tryz.ntmps61
  go_wp2_with fail
  go_quiet (fail)
  go_wp2_with fail
  go_ret
  rw [HR.out.1, HR.out.2]
  have hb := below_drewP (Below.refl w.heap.size w) nq
  exact ⟨rfl, below_grownG _ hb, H.out.below hb⟩
 ·have d : ¬ ((ps.length : Int) ≤ (n : Int)) := by omega
  obtain ⟨b, off, rfl, hbg, hbw, hcell⟩ := HA3.out (by intro he; rw [List.map_eq_nil_iff.1 he] at hn; simp at hn)
  have HR := qH (show numV ps n m = (ps.getD n 0).toNat % m ∧ numN ps n = n + 1 from ⟨by unfold numV; rw [if_neg hn], by unfold numN; rw [if_neg hn]⟩)
  have hcn := hcell n (bv (ps.getD n 0)) (bvs_get ps n _ (by rw [List.getD_eq_getElem?_getD, List.getElem?_eq_getElem (by omega)]; rfl))
  have fz := H.out.blk.frozen 1
  obtain ⟨x, hx⟩ : ∃ x, x = (ps.getD n 0).toNat := ⟨_, rfl⟩
  have hxl : x < 256 := by rw [hx]; exact UInt8.toNat_lt _
  have hcn' : w.cell? ⟨b, off + n, none⟩ = some (.int .u8 (x : Int)) := by rw [hx]; exact hcn
  rw [← hx] at HR
  have HBG := qH hbg
  have e3 := wrap_one n (by omega)
  have e4 := wrap_one' n (by omega)
  clear hcn hx hcell hbw hbg
  go_enter Tryz.func61, Tryz.ntmps61
  go_wp2_with fail
  go_quiet (fail)
  go_wp2_with fail
  obtain ⟨w3, hw3⟩ : ∃ w3, w3 = (w.drewN nq).setCell ⟨g, 1, none⟩ (.int .i64 ((n : Int) + 1)) := ⟨_, rfl⟩
  have hgr := qH (show w.grownBy w3 (some g) by rw [hw3]; exact grown_setCell (below_grownG _ (below_drewP (Below.refl _ _) _)))
  have hbl := qH (show Blk w3 g 87 [.slice (some ⟨b, off, none⟩) ps.length cap, .int .i64 ((n + 1 : Nat) : Int)] by
   rw [hw3]
   exact (show Blk (w.drewN nq) g _ _ from H.out.blk).set 1 (.int .i64 ((n + 1 : Nat) : Int)))
  have f0 : w3.cell? ⟨g, 0, none⟩ = some (.slice (some ⟨b, off, none⟩) ps.length cap) := hbl.out.cell 0
  have f1 : w3.cell? ⟨g, 1, none⟩ = some (.int .i64 ((n + 1 : Nat) : Int)) := hbl.out.cell 1
  have fn : w3.cell? ⟨b, off + n, none⟩ = some (.int .u8 (x : Int)) := by
   refine ((grown_belowG hgr.out H.out.blk.lt).cell (p := ⟨b, off + n, none⟩) HBG.out).trans hcn'
  have HPK := qH (H.out.grown hgr.out hbl.out (by omega))
  rw [← hw3]
  have e5 : wrap64 (((n : Int) + 1) - 1) = (n : Int) := by rw [show ((n : Int) + 1) - 1 = (n : Int) by omega]; exact IntWalk.wrap64_in _ (by omega)
  have e6 : IntKind.i64.wrap (((n : Int) + 1) - 1) = (n : Int) := by rw [show ((n : Int) + 1) - 1 = (n : Int) by omega]; exact IntWalk.i64_in _ (by omega)
  have e7 : (x : Int).tmod (m : Int) = ((x % m : Nat) : Int) := rfl
  have e8 : IntKind.i64.wrap (x : Int) = (x : Int) := IntWalk.i64_in _ (by omega)
  have e9 : ¬ ((m : Int) = 0) := by omega
  have e10 : ((m : Int) == 0) = false := by rw [beq_eq_false_iff_ne]; omega
  clear hw3 c0' c1' hcn' fz
  go_quiet (fail)
  go_wp2_with fail
  go_ret
  rw [HR.out.1, HR.out.2]
  exact ⟨rfl, grownG_trans hgr.out (below_grownG _ (below_drewP (Below.refl _ _) _)), HPK.out.below (below_drewP (Below.refl _ _) _)⟩
theorem grownG_below {w wk w' : World} {g : Nat} (h : w.grownBy wk (some g)) (hb : Below w.heap.size wk w') : w.grownBy w' (some g) :=
 ⟨hb.os.trans h.os, hb.tape.trans h.tape, hb.output.trans h.output, Nat.le_trans h.size hb.size, fun k hk hne => (hb.block k hk).trans (h.block k hk hne)⟩
def rangeS (a b : Nat) : Nat → Bool := fun x => decide (a ≤ x ∧ x ≤ b)
def listS (l : List Nat) : Nat → Bool := fun x => decide (x ∈ l)
def notS (s : Nat → Bool) : Nat → Bool := fun x => decide (x < 256) && !s x
def setP (ps : List UInt8) (n : Nat) : (Nat → Bool) × Nat :=
 if numV ps n 8 = 0 then (rangeS 97 100, numN ps n)
 else if numV ps n 8 = 1 then (rangeS (numV ps (numN ps n) 256) (numV ps (numN ps (numN ps n)) 256), numN ps (numN ps (numN ps n)))
 else if numV ps n 8 = 2 then (notS (listS [97 + numV ps (numN ps n) 4]), numN ps (numN ps n))
 else if numV ps n 8 = 3 then (listS [97 + numV ps (numN ps n) 4, 97 + numV ps (numN ps (numN ps n)) 4, numV ps (numN ps (numN ps (numN ps n))) 256], numN ps (numN ps (numN ps (numN ps n))))
 else if numV ps n 8 = 4 then (rangeS 0 255, numN ps n)
 else (listS [97 + numV ps (numN ps n) 4], numN ps (numN ps n))
theorem can_range {a b : Nat} (h : b < 256) : canS (rangeS a b) := fun x hx => by
 unfold rangeS
 exact decide_eq_false (by omega)
theorem can_list {l : List Nat} (h : ∀ x ∈ l, x < 256) : canS (listS l) := fun x hx => by
 unfold listS
 exact decide_eq_false fun hm => by have := h x hm; omega
theorem can_not (s : Nat → Bool) : canS (notS s) := fun x hx => by
 unfold notS
 rw [decide_eq_false (by omega)]
 rfl
theorem setP_can (ps : List UInt8) (n : Nat) : canS (setP ps n).1 := by
 have h4 : ∀ k, 97 + numV ps k 4 < 256 := fun k => by have := numV_lt ps k (m := 4) (by omega); omega
 have h256 : ∀ k, numV ps k 256 < 256 := fun k => numV_lt ps k (by omega)
 unfold setP
 split
 ·exact can_range (by omega)
 ·split
  ·exact can_range (h256 _)
  ·split
   ·exact can_not _
   ·split
    ·exact can_list fun x hx => by
      simp only [List.mem_cons, List.not_mem_nil, or_false] at hx
      rcases hx with rfl | rfl | rfl
      ·exact h4 _
      ·exact h4 _
      ·exact h256 _
    ·split
     ·exact can_range (by omega)
     ·exact can_list fun x hx => by
       simp only [List.mem_cons, List.not_mem_nil, or_false] at hx
       rw [hx]
       exact h4 _
theorem refOfQ (v : Value) (l : List UInt8) (w : World) (hr : Row w v (bvs l)) (hl : l.length ≤ 1048576) (q : Nat → Bool) (hq : wds (fun b => decide (UInt8.ofNat b ∈ l)) = wds q) :
  Calls Tryz.prog 16 #[v] w fun e w' => e = .returned (.agg (wds q).toArray) ∧ Below w.heap.size w w' := by
 rw [← hq]
 exact refOf_any v l w hr hl
theorem refNotQ (p : Nat → Bool) (w : World) (q : Nat → Bool) (hq : wds (fun b => !p b) = wds q) :
  Calls Tryz.prog 81 #[.agg (wds p).toArray] w fun e w' => e = .returned (.agg (wds q).toArray) ∧ Below w.heap.size w w' := by
 rw [← hq]
 exact refNot_any p w
theorem refRangeQ (f t : Nat) (hf : f < 256) (ht : t < 256) (w : World) (q : Nat → Bool) (hq : q = rangeS f t) :
  Calls Tryz.prog 80 #[.int .u8 (f : Int), .int .u8 (t : Int)] w fun e w' => e = .returned (.agg (wds q).toArray) ∧ Below w.heap.size w w' := by
 rw [hq]
 exact refRange_any f t hf ht w
theorem add97 {a c : Nat} (h : c = 97 + a) (ha : a < 256) : wrap64 (97 + (a : Int)) = (c : Int) := by
 rw [show 97 + (a : Int) = (c : Int) by omega]
 exact IntWalk.wrap64_in _ (by omega)
theorem add97' {a c : Nat} (h : c = 97 + a) (ha : a < 256) : IntKind.i64.wrap (97 + (a : Int)) = (c : Int) := by
 rw [show 97 + (a : Int) = (c : Int) by omega]
 exact IntWalk.i64_in _ (by omega)
theorem ofNat_inj {b c : Nat} (hb : b < 256) (hc : c < 256) : UInt8.ofNat b = UInt8.ofNat c ↔ b = c := by
 constructor
 ·intro he
  have h1 := congrArg UInt8.toNat he
  rw [UInt8.toNat_ofNat', UInt8.toNat_ofNat', Nat.mod_eq_of_lt hc, Nat.mod_eq_of_lt hb] at h1
  exact h1
 ·intro h
  rw [h]
theorem wds_list1 {c : Nat} (hc : c < 256) (l : List UInt8) (hl : l = [UInt8.ofNat c]) (q : Nat → Bool) (hq : q = listS [c]) : wds (fun b => decide (UInt8.ofNat b ∈ l)) = wds q := by
 refine wds_congr fun b hb => ?_
 rw [hq]
 unfold listS
 rw [Bool.eq_iff_iff, decide_eq_true_iff, decide_eq_true_iff, hl, List.mem_singleton, List.mem_singleton]
 exact ofNat_inj hb hc
theorem wds_list3 {c d f : Nat} (hc : c < 256) (hd : d < 256) (hf : f < 256) (l : List UInt8) (hl : l = [UInt8.ofNat c, UInt8.ofNat d, UInt8.ofNat f]) (q : Nat → Bool) (hq : q = listS [c, d, f]) : wds (fun b => decide (UInt8.ofNat b ∈ l)) = wds q := by
 refine wds_congr fun b hb => ?_
 rw [hq]
 unfold listS
 rw [Bool.eq_iff_iff, decide_eq_true_iff, decide_eq_true_iff, hl, List.mem_cons, List.mem_cons, List.mem_singleton, List.mem_cons, List.mem_cons, List.mem_singleton, ofNat_inj hb hc, ofNat_inj hb hd, ofNat_inj hb hf]
theorem refOf1 (c : Nat) (hc : c < 256) (v : Value) (w : World) (hr : Row w v (bvs [UInt8.ofNat c])) (q : Nat → Bool) (hq : q = listS [c]) :
  Calls Tryz.prog 16 #[v] w fun e w' => e = .returned (.agg (wds q).toArray) ∧ Below w.heap.size w w' := by
 obtain ⟨l, hl⟩ : ∃ l, l = [UInt8.ofNat c] := ⟨_, rfl⟩
 rw [← hl] at hr
 exact refOfQ v l w hr (by rw [hl, List.length_singleton]; omega) q (wds_list1 hc l hl q hq)
theorem refOf3 (c d f : Nat) (hc : c < 256) (hd : d < 256) (hf : f < 256) (v : Value) (w : World) (hr : Row w v (bvs [UInt8.ofNat c, UInt8.ofNat d, UInt8.ofNat f])) (q : Nat → Bool) (hq : q = listS [c, d, f]) :
  Calls Tryz.prog 16 #[v] w fun e w' => e = .returned (.agg (wds q).toArray) ∧ Below w.heap.size w w' := by
 obtain ⟨l, hl⟩ : ∃ l, l = [UInt8.ofNat c, UInt8.ofNat d, UInt8.ofNat f] := ⟨_, rfl⟩
 have h3 : l.length = 3 := by rw [hl]; rfl
 rw [← hl] at hr
 exact refOfQ v l w hr (by omega) q (wds_list3 hc hd hf l hl q hq)
theorem wds_notQ {y q : Nat → Bool} (h : q = notS y) : wds (fun b => !y b) = wds q := wds_congr fun b hb => by
 rw [h]
 unfold notS
 rw [decide_eq_true hb]
 rfl
set_option maxHeartbeats 8000000 in
set_option maxRecDepth 1000000 in
theorem set_any (w : World) (g : Nat) (V : Value) (ps : List UInt8) (n : Nat) (h : Pk w g V ps n) :
  Calls Tryz.prog 63 #[.pointer (some ⟨g, 0, none⟩)] w fun e w' => e = .returned (.agg (wds (setP ps n).1).toArray) ∧ w.grownBy w' (some g) ∧ Pk w' g V ps (setP ps n).2 := by
 have HPK := qH h
 have HNE := qH (show some w.heap.size ≠ some g from fun he => by have h1 := Option.some.inj he; have h2 := h.blk.lt; omega)
 obtain ⟨i1, hi1, hz1⟩ := info_set
 obtain ⟨z, hz⟩ : ∃ z : Nat → Bool, z = fun _ => false := ⟨_, rfl⟩
 rw [← hz] at hz1
 have HZ1 := qH hz1
 clear hz1 hz
 obtain ⟨q, hq⟩ : ∃ q, q = (setP ps n).1 := ⟨_, rfl⟩
 obtain ⟨m, hm⟩ : ∃ m, m = (setP ps n).2 := ⟨_, rfl⟩
 rw [← hq, ← hm]
 have hl8 := numV_lt ps n (m := 8) (by omega)
 unfold setP at hq hm
 obtain ⟨x0, hx0⟩ : ∃ x, x = numV ps n 8 := ⟨_, rfl⟩
 obtain ⟨n1, hn1⟩ : ∃ x, x = numN ps n := ⟨_, rfl⟩
 obtain ⟨n2, hn2⟩ : ∃ x, x = numN ps n1 := ⟨_, rfl⟩
 obtain ⟨n3, hn3⟩ : ∃ x, x = numN ps n2 := ⟨_, rfl⟩
 obtain ⟨n4, hn4⟩ : ∃ x, x = numN ps n3 := ⟨_, rfl⟩
 rw [← hx0, ← hn1, ← hn2, ← hn3, ← hn4] at hq hm
 rw [← hx0] at hl8
 have HX0 := qH hx0
 have HN1 := qH hn1
 have HN2 := qH hn2
 have HN3 := qH hn3
 have HN4 := qH hn4
 clear h hx0 hn1 hn2 hn3 hn4
 by_cases h0 : x0 = 0
 ·rw [if_pos h0] at hq hm
  have s0 : ((x0 : Int) == 0) = true := by rw [h0]; rfl
  have HQ := qH hq
  have hm' : m = n1 := hm
  subst hm'
  clear hq hm h0 hl8
  go_enter Tryz.func63, Tryz.ntmps63
  go_wp2_with ((with_reducible refine atDst 2 ?_); refine wpList_new rfl 43 rfl i1 _ (wds z) hi1 HZ1.out rfl (Below.refl w.heap.size w) (Nat.le_refl _) ?_; intro w1 hk1 hb1 hs1 _; have K1 := qH hk1; have G1 := qH (below_grownG g hb1); have P1 := qH (HPK.out.below hb1); clear hk1 hb1 hs1; (try simp only [Act.put, qA, qB, qC]))
  refine (num_any w1 g V ps n 8 P1.out (by omega) (by omega)).mono ?_
  rintro e w2 ⟨rfl, hg, hp⟩
  have G2 := qH (grownG_trans G1.out hg)
  have K2 := qH (K1.out.grown hg HNE.out)
  have P2 := qH hp
  rw [← HX0.out]
  rw [← HN1.out] at P2
  clear hg hp
  go_wp2_with fail
  refine (refRangeQ 97 100 (by omega) (by omega) w2 q HQ.out).mono ?_
  rintro e w8 ⟨rfl, hb8⟩
  have G8 := qH (grownG_trans G2.out (below_grownG g hb8))
  have K8 := qH (K2.out.below hb8 K2.out.lt)
  have P8 := qH (P2.out.below hb8)
  clear hb8
  go_wp2_with ((with_reducible refine atStore 43 2 7 ?_); refine wpList_stBlk rfl 43 _ _ rfl w.heap.size (wds q) rfl rfl 43 _ K8.out (size_set q) rfl (wds_all _) (Below.refl w.heap.size w8) (Nat.le_refl _) ?_; intro w9 hk9 hb9 hs9 ho9; have K9 := qH hk9; have G9 := qH (grownG_below G8.out hb9); have P9 := qH (P8.out.other _ ho9 HPK.out.blk.lt hb9); clear hk9 hb9 hs9 ho9; (try simp only [Act.put, qA, qB, qC]))
  refine bodyPost_ret (results_blk rfl _ _ w.heap.size 43 _ _ rfl K9.out Tryz.underlying43 rfl (size_set q)) rfl ?_
  exact ⟨rfl, G9.out, P9.out⟩
 rw [if_neg h0] at hq hm
 have s0 : ((x0 : Int) == 0) = false := by rw [beq_eq_false_iff_ne]; omega
 by_cases h1 : x0 = 1
 ·rw [if_pos h1] at hq hm
  have s1 : ((x0 : Int) == 1) = true := by rw [h1]; rfl
  obtain ⟨a, ha⟩ : ∃ a, a = numV ps n1 256 := ⟨_, rfl⟩
  obtain ⟨b, hb⟩ : ∃ b, b = numV ps n2 256 := ⟨_, rfl⟩
  rw [← ha, ← hb] at hq
  have ha2 : a < 256 := by rw [ha]; exact numV_lt _ _ (by omega)
  have hb2 : b < 256 := by rw [hb]; exact numV_lt _ _ (by omega)
  have HA := qH ha
  have HB := qH hb
  have HQ := qH hq
  have hm' : m = n3 := hm
  subst hm'
  have u1 := wrap_u8 ha2
  have u2 := wrap_u8 hb2
  clear hq hm h0 h1 hl8 ha hb
  go_enter Tryz.func63, Tryz.ntmps63
  go_wp2_with ((with_reducible refine atDst 2 ?_); refine wpList_new rfl 43 rfl i1 _ (wds z) hi1 HZ1.out rfl (Below.refl w.heap.size w) (Nat.le_refl _) ?_; intro w1 hk1 hb1 hs1 _; have K1 := qH hk1; have G1 := qH (below_grownG g hb1); have P1 := qH (HPK.out.below hb1); clear hk1 hb1 hs1; (try simp only [Act.put, qA, qB, qC]))
  refine (num_any w1 g V ps n 8 P1.out (by omega) (by omega)).mono ?_
  rintro e w2 ⟨rfl, hg, hp⟩
  have G2 := qH (grownG_trans G1.out hg)
  have K2 := qH (K1.out.grown hg HNE.out)
  have P2 := qH hp
  rw [← HX0.out]
  rw [← HN1.out] at P2
  clear hg hp
  go_wp2_with fail
  refine (num_any w2 g V ps n1 256 P2.out (by omega) (by omega)).mono ?_
  rintro e w3 ⟨rfl, hg, hp⟩
  have G3 := qH (grownG_trans G2.out hg)
  have K3 := qH (K2.out.grown hg HNE.out)
  have P3 := qH hp
  clear hg hp
  rw [← HA.out]
  rw [← HN2.out] at P3
  go_wp2_with fail
  refine (num_any w3 g V ps n2 256 P3.out (by omega) (by omega)).mono ?_
  rintro e w4 ⟨rfl, hg, hp⟩
  have G4 := qH (grownG_trans G3.out hg)
  have K4 := qH (K3.out.grown hg HNE.out)
  have P4 := qH hp
  clear hg hp
  rw [← HB.out]
  rw [← HN3.out] at P4
  go_wp2_with fail
  refine (refRangeQ a b ha2 hb2 w4 q HQ.out).mono ?_
  rintro e w8 ⟨rfl, hb8⟩
  have G8 := qH (grownG_trans G4.out (below_grownG g hb8))
  have K8 := qH (K4.out.below hb8 K4.out.lt)
  have P8 := qH (P4.out.below hb8)
  clear hb8
  go_wp2_with ((with_reducible refine atStore 43 2 16 ?_); refine wpList_stBlk rfl 43 _ _ rfl w.heap.size (wds q) rfl rfl 43 _ K8.out (size_set q) rfl (wds_all _) (Below.refl w.heap.size w8) (Nat.le_refl _) ?_; intro w9 hk9 hb9 hs9 ho9; have K9 := qH hk9; have G9 := qH (grownG_below G8.out hb9); have P9 := qH (P8.out.other _ ho9 HPK.out.blk.lt hb9); clear hk9 hb9 hs9 ho9; (try simp only [Act.put, qA, qB, qC]))
  refine bodyPost_ret (results_blk rfl _ _ w.heap.size 43 _ _ rfl K9.out Tryz.underlying43 rfl (size_set q)) rfl ?_
  exact ⟨rfl, G9.out, P9.out⟩
 rw [if_neg h1] at hq hm
 have s1 : ((x0 : Int) == 1) = false := by rw [beq_eq_false_iff_ne]; omega
 obtain ⟨i0, hi0, hy0, hs0⟩ := info_u8
 have HY0 := qH hy0
 clear hy0
 by_cases h2 : x0 = 2
 ·rw [if_pos h2] at hq hm
  have s2 : ((x0 : Int) == 2) = true := by rw [h2]; rfl
  obtain ⟨a, ha⟩ : ∃ a, a = numV ps n1 4 := ⟨_, rfl⟩
  rw [← ha] at hq
  have ha2 : a < 4 := by rw [ha]; exact numV_lt _ _ (by omega)
  obtain ⟨c, hc⟩ : ∃ c, c = 97 + a := ⟨_, rfl⟩
  rw [← hc] at hq
  have HA := qH ha
  have HQ := qH hq
  obtain ⟨y, hy⟩ : ∃ y, y = listS [c] := ⟨_, rfl⟩
  have HY := qH hy
  clear hy
  have hm' : m = n2 := hm
  subst hm'
  have hc2 : c < 256 := by omega
  have HBV := qH (bv_ofNat hc2)
  have f1 := add97 hc (Nat.lt_trans ha2 (by decide))
  have f2 := add97' hc (Nat.lt_trans ha2 (by decide))
  have u1 := wrap_u8 hc2
  clear hq hm h0 h1 h2 hl8 ha hc
  go_enter Tryz.func63, Tryz.ntmps63
  go_wp2_with ((with_reducible refine atDst 2 ?_); refine wpList_new rfl 43 rfl i1 _ (wds z) hi1 HZ1.out rfl (Below.refl w.heap.size w) (Nat.le_refl _) ?_; intro w1 hk1 hb1 hs1 _; have K1 := qH hk1; have G1 := qH (below_grownG g hb1); have P1 := qH (HPK.out.below hb1); clear hk1 hb1 hs1; (try simp only [Act.put, qA, qB, qC]))
  refine (num_any w1 g V ps n 8 P1.out (by omega) (by omega)).mono ?_
  rintro e w2 ⟨rfl, hg, hp⟩
  have G2 := qH (grownG_trans G1.out hg)
  have K2 := qH (K1.out.grown hg HNE.out)
  have P2 := qH hp
  rw [← HX0.out]
  rw [← HN1.out] at P2
  clear hg hp
  go_wp2_with fail
  refine (num_any w2 g V ps n1 4 P2.out (by omega) (by omega)).mono ?_
  rintro e w3 ⟨rfl, hg, hp⟩
  have G3 := qH (grownG_trans G2.out hg)
  have K3 := qH (K2.out.grown hg HNE.out)
  have P3 := qH hp
  clear hg hp
  rw [← HA.out]
  rw [← HN2.out] at P3
  go_wp2_with ((with_reducible refine atDst 23 ?_); refine wpList_bldB1 rfl 38 5 _ rfl i0 Tryz.underlying38 hi0 HY0.out hs0 (UInt8.ofNat c) HBV.out.symm ?_; intro w4 _ hr hb _; have R4 := qH hr; have K4 := qH (K3.out.below hb K3.out.lt); have G4 := qH (grownG_trans G3.out (below_grownG g hb)); have P4 := qH (P3.out.below hb); clear hr hb; (try simp only [Act.put, qA, qB, qC]))
  refine (refOf1 c hc2 _ w4 R4.out y HY.out).mono ?_
  rintro e w5 ⟨rfl, hb⟩
  have K5 := qH (K4.out.below hb K4.out.lt)
  have G5 := qH (grownG_trans G4.out (below_grownG g hb))
  have P5 := qH (P4.out.below hb)
  clear hb
  go_wp2_with fail
  refine (refNotQ y w5 q (wds_notQ (by rw [HY.out, HQ.out]))).mono ?_
  rintro e w8 ⟨rfl, hb8⟩
  have G8 := qH (grownG_trans G5.out (below_grownG g hb8))
  have K8 := qH (K5.out.below hb8 K5.out.lt)
  have P8 := qH (P5.out.below hb8)
  clear hb8
  go_wp2_with ((with_reducible refine atStore 43 2 25 ?_); refine wpList_stBlk rfl 43 _ _ rfl w.heap.size (wds q) rfl rfl 43 _ K8.out (size_set q) rfl (wds_all _) (Below.refl w.heap.size w8) (Nat.le_refl _) ?_; intro w9 hk9 hb9 hs9 ho9; have K9 := qH hk9; have G9 := qH (grownG_below G8.out hb9); have P9 := qH (P8.out.other _ ho9 HPK.out.blk.lt hb9); clear hk9 hb9 hs9 ho9; (try simp only [Act.put, qA, qB, qC]))
  refine bodyPost_ret (results_blk rfl _ _ w.heap.size 43 _ _ rfl K9.out Tryz.underlying43 rfl (size_set q)) rfl ?_
  exact ⟨rfl, G9.out, P9.out⟩
 rw [if_neg h2] at hq hm
 have s2 : ((x0 : Int) == 2) = false := by rw [beq_eq_false_iff_ne]; omega
 by_cases h3 : x0 = 3
 ·rw [if_pos h3] at hq hm
  have s3 : ((x0 : Int) == 3) = true := by rw [h3]; rfl
  obtain ⟨a, ha⟩ : ∃ a, a = numV ps n1 4 := ⟨_, rfl⟩
  obtain ⟨b, hb⟩ : ∃ b, b = numV ps n2 4 := ⟨_, rfl⟩
  obtain ⟨f, hf⟩ : ∃ f, f = numV ps n3 256 := ⟨_, rfl⟩
  rw [← ha, ← hb, ← hf] at hq
  have ha2 : a < 4 := by rw [ha]; exact numV_lt _ _ (by omega)
  have hb2 : b < 4 := by rw [hb]; exact numV_lt _ _ (by omega)
  have hf2 : f < 256 := by rw [hf]; exact numV_lt _ _ (by omega)
  obtain ⟨c, hc⟩ : ∃ c, c = 97 + a := ⟨_, rfl⟩
  obtain ⟨d, hd⟩ : ∃ d, d = 97 + b := ⟨_, rfl⟩
  rw [← hc, ← hd] at hq
  have HA := qH ha
  have HB := qH hb
  have HF := qH hf
  have HQ := qH hq
  have hm' : m = n4 := hm
  subst hm'
  have hc2 : c < 256 := by omega
  have hd2 : d < 256 := by omega
  have HBV := qH (bv_ofNat hc2)
  have HBD := qH (bv_ofNat hd2)
  have HBF := qH (bv_ofNat hf2)
  have f1 := add97 hc (Nat.lt_trans ha2 (by decide))
  have f2 := add97' hc (Nat.lt_trans ha2 (by decide))
  have f3 := add97 hd (Nat.lt_trans hb2 (by decide))
  have f4 := add97' hd (Nat.lt_trans hb2 (by decide))
  have u1 := wrap_u8 hc2
  have u2 := wrap_u8 hd2
  have u3 := wrap_u8 hf2
  clear hq hm h0 h1 h2 h3 hl8 ha hb hf hc hd
  go_enter Tryz.func63, Tryz.ntmps63
  go_wp2_with ((with_reducible refine atDst 2 ?_); refine wpList_new rfl 43 rfl i1 _ (wds z) hi1 HZ1.out rfl (Below.refl w.heap.size w) (Nat.le_refl _) ?_; intro w1 hk1 hb1 hs1 _; have K1 := qH hk1; have G1 := qH (below_grownG g hb1); have P1 := qH (HPK.out.below hb1); clear hk1 hb1 hs1; (try simp only [Act.put, qA, qB, qC]))
  refine (num_any w1 g V ps n 8 P1.out (by omega) (by omega)).mono ?_
  rintro e w2 ⟨rfl, hg, hp⟩
  have G2 := qH (grownG_trans G1.out hg)
  have K2 := qH (K1.out.grown hg HNE.out)
  have P2 := qH hp
  rw [← HX0.out]
  rw [← HN1.out] at P2
  clear hg hp
  go_wp2_with fail
  refine (num_any w2 g V ps n1 4 P2.out (by omega) (by omega)).mono ?_
  rintro e w3 ⟨rfl, hg, hp⟩
  have G3 := qH (grownG_trans G2.out hg)
  have K3 := qH (K2.out.grown hg HNE.out)
  have P3 := qH hp
  clear hg hp
  rw [← HA.out]
  rw [← HN2.out] at P3
  go_wp2_with fail
  refine (num_any w3 g V ps n2 4 P3.out (by omega) (by omega)).mono ?_
  rintro e w4 ⟨rfl, hg, hp⟩
  have G4 := qH (grownG_trans G3.out hg)
  have K4 := qH (K3.out.grown hg HNE.out)
  have P4 := qH hp
  clear hg hp
  rw [← HB.out]
  rw [← HN3.out] at P4
  go_wp2_with fail
  refine (num_any w4 g V ps n3 256 P4.out (by omega) (by omega)).mono ?_
  rintro e w5 ⟨rfl, hg, hp⟩
  have G5 := qH (grownG_trans G4.out hg)
  have K5 := qH (K4.out.grown hg HNE.out)
  have P5 := qH hp
  clear hg hp
  rw [← HF.out]
  rw [← HN4.out] at P5
  go_wp2_with ((with_reducible refine atDst 39 ?_); refine wpList_bldB3 rfl 38 5 _ _ _ rfl i0 Tryz.underlying38 hi0 HY0.out hs0 (UInt8.ofNat c) (UInt8.ofNat d) (UInt8.ofNat f) HBV.out.symm HBD.out.symm HBF.out.symm ?_; intro w6 _ hr hb _; have R6 := qH hr; have K6 := qH (K5.out.below hb K5.out.lt); have G6 := qH (grownG_trans G5.out (below_grownG g hb)); have P6 := qH (P5.out.below hb); clear hr hb; (try simp only [Act.put, qA, qB, qC]))
  refine (refOf3 c d f hc2 hd2 hf2 _ w6 R6.out q HQ.out).mono ?_
  rintro e w8 ⟨rfl, hb8⟩
  have G8 := qH (grownG_trans G6.out (below_grownG g hb8))
  have K8 := qH (K6.out.below hb8 K6.out.lt)
  have P8 := qH (P6.out.below hb8)
  clear hb8
  go_wp2_with ((with_reducible refine atStore 43 2 40 ?_); refine wpList_stBlk rfl 43 _ _ rfl w.heap.size (wds q) rfl rfl 43 _ K8.out (size_set q) rfl (wds_all _) (Below.refl w.heap.size w8) (Nat.le_refl _) ?_; intro w9 hk9 hb9 hs9 ho9; have K9 := qH hk9; have G9 := qH (grownG_below G8.out hb9); have P9 := qH (P8.out.other _ ho9 HPK.out.blk.lt hb9); clear hk9 hb9 hs9 ho9; (try simp only [Act.put, qA, qB, qC]))
  refine bodyPost_ret (results_blk rfl _ _ w.heap.size 43 _ _ rfl K9.out Tryz.underlying43 rfl (size_set q)) rfl ?_
  exact ⟨rfl, G9.out, P9.out⟩
 rw [if_neg h3] at hq hm
 have s3 : ((x0 : Int) == 3) = false := by rw [beq_eq_false_iff_ne]; omega
 by_cases h4 : x0 = 4
 ·rw [if_pos h4] at hq hm
  have s4 : ((x0 : Int) == 4) = true := by rw [h4]; rfl
  have HQ := qH hq
  have hm' : m = n1 := hm
  subst hm'
  clear hq hm h0 h1 h2 h3 h4 hl8
  go_enter Tryz.func63, Tryz.ntmps63
  go_wp2_with ((with_reducible refine atDst 2 ?_); refine wpList_new rfl 43 rfl i1 _ (wds z) hi1 HZ1.out rfl (Below.refl w.heap.size w) (Nat.le_refl _) ?_; intro w1 hk1 hb1 hs1 _; have K1 := qH hk1; have G1 := qH (below_grownG g hb1); have P1 := qH (HPK.out.below hb1); clear hk1 hb1 hs1; (try simp only [Act.put, qA, qB, qC]))
  refine (num_any w1 g V ps n 8 P1.out (by omega) (by omega)).mono ?_
  rintro e w2 ⟨rfl, hg, hp⟩
  have G2 := qH (grownG_trans G1.out hg)
  have K2 := qH (K1.out.grown hg HNE.out)
  have P2 := qH hp
  rw [← HX0.out]
  rw [← HN1.out] at P2
  clear hg hp
  go_wp2_with fail
  refine (refRangeQ 0 255 (by omega) (by omega) w2 q HQ.out).mono ?_
  rintro e w8 ⟨rfl, hb8⟩
  have G8 := qH (grownG_trans G2.out (below_grownG g hb8))
  have K8 := qH (K2.out.below hb8 K2.out.lt)
  have P8 := qH (P2.out.below hb8)
  clear hb8
  go_wp2_with ((with_reducible refine atStore 43 2 43 ?_); refine wpList_stBlk rfl 43 _ _ rfl w.heap.size (wds q) rfl rfl 43 _ K8.out (size_set q) rfl (wds_all _) (Below.refl w.heap.size w8) (Nat.le_refl _) ?_; intro w9 hk9 hb9 hs9 ho9; have K9 := qH hk9; have G9 := qH (grownG_below G8.out hb9); have P9 := qH (P8.out.other _ ho9 HPK.out.blk.lt hb9); clear hk9 hb9 hs9 ho9; (try simp only [Act.put, qA, qB, qC]))
  refine bodyPost_ret (results_blk rfl _ _ w.heap.size 43 _ _ rfl K9.out Tryz.underlying43 rfl (size_set q)) rfl ?_
  exact ⟨rfl, G9.out, P9.out⟩
 ·rw [if_neg h4] at hq hm
  have s4 : ((x0 : Int) == 4) = false := by rw [beq_eq_false_iff_ne]; omega
  obtain ⟨a, ha⟩ : ∃ a, a = numV ps n1 4 := ⟨_, rfl⟩
  rw [← ha] at hq
  have ha2 : a < 4 := by rw [ha]; exact numV_lt _ _ (by omega)
  obtain ⟨c, hc⟩ : ∃ c, c = 97 + a := ⟨_, rfl⟩
  rw [← hc] at hq
  have HA := qH ha
  have HQ := qH hq
  obtain ⟨y, hy⟩ : ∃ y, y = listS [c] := ⟨_, rfl⟩
  have HY := qH hy
  clear hy
  have hm' : m = n2 := hm
  subst hm'
  have hc2 : c < 256 := by omega
  have HBV := qH (bv_ofNat hc2)
  have f1 := add97 hc (Nat.lt_trans ha2 (by decide))
  have f2 := add97' hc (Nat.lt_trans ha2 (by decide))
  have u1 := wrap_u8 hc2
  clear hq hm h0 h1 h2 h3 h4 hl8 ha hc
  go_enter Tryz.func63, Tryz.ntmps63
  go_wp2_with ((with_reducible refine atDst 2 ?_); refine wpList_new rfl 43 rfl i1 _ (wds z) hi1 HZ1.out rfl (Below.refl w.heap.size w) (Nat.le_refl _) ?_; intro w1 hk1 hb1 hs1 _; have K1 := qH hk1; have G1 := qH (below_grownG g hb1); have P1 := qH (HPK.out.below hb1); clear hk1 hb1 hs1; (try simp only [Act.put, qA, qB, qC]))
  refine (num_any w1 g V ps n 8 P1.out (by omega) (by omega)).mono ?_
  rintro e w2 ⟨rfl, hg, hp⟩
  have G2 := qH (grownG_trans G1.out hg)
  have K2 := qH (K1.out.grown hg HNE.out)
  have P2 := qH hp
  rw [← HX0.out]
  rw [← HN1.out] at P2
  clear hg hp
  go_wp2_with fail
  refine (num_any w2 g V ps n1 4 P2.out (by omega) (by omega)).mono ?_
  rintro e w3 ⟨rfl, hg, hp⟩
  have G3 := qH (grownG_trans G2.out hg)
  have K3 := qH (K2.out.grown hg HNE.out)
  have P3 := qH hp
  clear hg hp
  rw [← HA.out]
  rw [← HN2.out] at P3
  go_wp2_with ((with_reducible refine atDst 48 ?_); refine wpList_bldB1 rfl 38 5 _ rfl i0 Tryz.underlying38 hi0 HY0.out hs0 (UInt8.ofNat c) HBV.out.symm ?_; intro w4 _ hr hb _; have R4 := qH hr; have K4 := qH (K3.out.below hb K3.out.lt); have G4 := qH (grownG_trans G3.out (below_grownG g hb)); have P4 := qH (P3.out.below hb); clear hr hb; (try simp only [Act.put, qA, qB, qC]))
  refine (refOf1 c hc2 _ w4 R4.out q HQ.out).mono ?_
  rintro e w8 ⟨rfl, hb8⟩
  have G8 := qH (grownG_trans G4.out (below_grownG g hb8))
  have K8 := qH (K4.out.below hb8 K4.out.lt)
  have P8 := qH (P4.out.below hb8)
  clear hb8
  go_wp2_with ((with_reducible refine atStore 43 2 49 ?_); refine wpList_stBlk rfl 43 _ _ rfl w.heap.size (wds q) rfl rfl 43 _ K8.out (size_set q) rfl (wds_all _) (Below.refl w.heap.size w8) (Nat.le_refl _) ?_; intro w9 hk9 hb9 hs9 ho9; have K9 := qH hk9; have G9 := qH (grownG_below G8.out hb9); have P9 := qH (P8.out.other _ ho9 HPK.out.blk.lt hb9); clear hk9 hb9 hs9 ho9; (try simp only [Act.put, qA, qB, qC]))
  refine bodyPost_ret (results_blk rfl _ _ w.heap.size 43 _ _ rfl K9.out Tryz.underlying43 rfl (size_set q)) rfl ?_
  exact ⟨rfl, G9.out, P9.out⟩
theorem flat_kind {k : Int} {l : List T} (hk : k = 4 ∨ k = 5) (h : ∀ t ∈ l, good t) : ∀ t ∈ flatT k l, t.kind ≠ k := fun t ht => by
 unfold flatT at ht
 obtain ⟨u, hu, hu2⟩ := List.mem_flatMap.1 ht
 by_cases hku : u.kind = k
 ·rw [if_pos hku] at hu2
  cases u with
  | node k' s m =>
   have h1 := (good_node.1 (h _ hu)).2.2.2.2.1 t hu2
   have h2 : k' = k := hku
   intro h3
   rw [h3, h2] at h1
   unfold fitsT at h1
   rcases hk with rfl | rfl <;> simp at h1
 ·rw [if_neg hku] at hu2
  obtain rfl := List.mem_singleton.1 hu2
  exact hku
theorem without_kind {k : Int} {l : List T} : ∀ t ∈ withoutT k l, t.kind ≠ k := fun t ht => by simpa using (List.mem_filter.1 ht).2
/-! ### alternatives -/
theorem folT_iff {a b : T} : folT b a = true ↔ cmpT a b < 0 ∧ ¬ (b.kind = 3 ∧ a.kind = 3) := by
 unfold folT
 simp only [Bool.and_eq_true, decide_eq_true_eq, Bool.not_eq_true', Bool.and_eq_false_iff, decide_eq_false_iff_not]
 constructor
 ·rintro ⟨h1, h2⟩
  exact ⟨h1, fun h => h2.elim (fun h3 => h3 h.1) (fun h3 => h3 h.2)⟩
 ·rintro ⟨h1, h2⟩
  refine ⟨h1, ?_⟩
  by_cases hb : b.kind = 3
  ·exact .inr fun ha => h2 ⟨hb, ha⟩
  ·exact .inl hb
theorem ascF_of : ∀ l : List T, (l.Pairwise fun a b => cmpT a b < 0 ∧ ¬ (b.kind = 3 ∧ a.kind = 3)) → ascF l = true
 | [], _ => rfl
 | [a], _ => rfl
 | a :: b :: r, h => by
  have h1 := List.pairwise_cons.1 h
  simp only [ascF, Bool.and_eq_true]
  exact ⟨folT_iff.2 (h1.1 b (by simp)), ascF_of (b :: r) h1.2⟩
def rxP (ps : List UInt8) : Nat → Nat → Nat → T × Nat
 | 0, _, n => (noneT, n)
 | N + 1, deep, n =>
  if ps.length ≤ numN ps n ∨ 8 < deep ∨ numV ps n 9 < 3 then
   if ps.length ≤ numN ps n ∨ 0 < numV ps n 9 then (bytesT (setP ps (numN ps n)).1, (setP ps (numN ps n)).2)
   else if numV ps (numN ps n) 3 = 0 then (noneT, numN ps (numN ps n)) else (emptyT, numN ps (numN ps n))
  else if numV ps n 9 < 6 then (catT [(rxP ps N (deep + 1) (numN ps n)).1, (rxP ps N (deep + 1) (rxP ps N (deep + 1) (numN ps n)).2).1], (rxP ps N (deep + 1) (rxP ps N (deep + 1) (numN ps n)).2).2)
  else if numV ps n 9 < 8 then (altT [(rxP ps N (deep + 1) (numN ps n)).1, (rxP ps N (deep + 1) (rxP ps N (deep + 1) (numN ps n)).2).1], (rxP ps N (deep + 1) (rxP ps N (deep + 1) (numN ps n)).2).2)
  else (starT (rxP ps N (deep + 1) (numN ps n)).1, (rxP ps N (deep + 1) (numN ps n)).2)
theorem good_none : good noneT := good_node.2 ⟨can_zero, by simp, .inr rfl, by simp [countT], by simp, by simp⟩
theorem good_empty : good emptyT := good_node.2 ⟨can_zero, by simp, .inr rfl, by simp [countT], by simp, by simp⟩
theorem good_bytes {s : Nat → Bool} (h : canS s) : good (bytesT s) := by
 unfold bytesT
 cases hs : eqS s zeroS with
 | true => exact good_none
 | false => exact good_set h hs
theorem good_cat {l : List T} (h : ∀ t ∈ l, good t) : good (catT l) := by
 have hfg := good_flat (k := 4) h
 have hfk := flat_kind (k := 4) (.inl rfl) h
 unfold catT
 cases ha : anyK 1 (flatT 4 l) with
 | true => exact good_none
 | false =>
  rw [if_neg (by simp)]
  have hw : ∀ t ∈ withoutT 2 (flatT 4 l), good t ∧ t.kind ≠ 2 ∧ t.kind ≠ 1 ∧ t.kind ≠ 4 := fun t ht => by
   have hm := (List.mem_filter.1 ht).1
   refine ⟨hfg t hm, without_kind t ht, fun h1 => ?_, hfk t hm⟩
   have : anyK 1 (flatT 4 l) = true := List.any_eq_true.2 ⟨t, hm, by simpa using h1⟩
   rw [ha] at this
   cases this
  match hm : withoutT 2 (flatT 4 l) with
  | [] => exact good_empty
  | [t] => exact (hw t (by rw [hm]; simp)).1
  | a :: b :: r =>
   rw [hm] at hw
   refine good_node.2 ⟨can_zero, fun t ht => (hw t ht).1, .inr rfl, by simp [countT], fun t ht => ?_, fun h5 => by omega⟩
   obtain ⟨_, k2, k1, k4⟩ := hw t ht
   unfold fitsT
   rw [if_neg k2]
   simp [k1, k4]
theorem good_alt {l : List T} (h : ∀ t ∈ l, good t) : good (altT l) := by
 have hfg := good_flat (k := 5) h
 have hfk := flat_kind (k := 5) (.inr rfl) h
 have hwg := good_without (k := 1) hfg
 have hig := good_items hwg
 have hik : ∀ t ∈ itemsT (withoutT 1 (flatT 5 l)), t.kind ≠ 5 ∧ t.kind ≠ 1 ∧ (t.kind = 3 → t = .node 3 (orT (withoutT 1 (flatT 5 l))) []) := fun t ht => by
  unfold itemsT at ht
  rcases List.mem_append.1 ht with ht | ht
  ·have h3 := without_kind t ht
   have ht2 := (List.mem_filter.1 ht).1
   exact ⟨hfk t (List.mem_filter.1 ht2).1, without_kind t ht2, fun h => absurd h h3⟩
  ·split at ht
   ·cases ht
   ·obtain rfl := List.mem_singleton.1 ht
    exact ⟨by show (3 : Int) ≠ 5; omega, by show (3 : Int) ≠ 1; omega, fun _ => rfl⟩
 have hasc := sortU_asc (itemsT (withoutT 1 (flatT 5 l)))
 have hmem := fun t => sortU_mem hig t
 unfold altT
 obtain ⟨m, hm⟩ : ∃ m, m = sortU (itemsT (withoutT 1 (flatT 5 l))) := ⟨_, rfl⟩
 rw [← hm] at hasc hmem ⊢
 match m, hasc, hmem with
 | [], _, _ => exact good_none
 | [t], _, hmem => exact hig t ((hmem t).1 (by simp))
 | a :: b :: r, hasc, hmem =>
  refine good_node.2 ⟨can_zero, fun t ht => hig t ((hmem t).1 ht), .inr rfl, by simp [countT], fun t ht => ?_, fun _ => ascF_of _ (List.Pairwise.imp_of_mem (fun {x y} hx hy hxy => ⟨hxy, fun hk => ?_⟩) hasc)⟩
  ·obtain ⟨k5, k1, _⟩ := hik t ((hmem t).1 ht)
   unfold fitsT
   split
   ·rfl
   ·simp [k1, k5]
  ·have e1 := (hik x ((hmem x).1 hx)).2.2 hk.2
   have e2 := (hik y ((hmem y).1 hy)).2.2 hk.1
   rw [e1, e2, cmpT_self] at hxy
   omega
theorem good_args {r : T} (h : good r) : ∀ t ∈ r.args, good t := by
 cases r with
 | node k s l => exact (good_node.1 h).2.1
theorem good_star1 {r : T} (h : good r) : good (star1T r) := by
 unfold star1T
 split
 ·exact h
 ·split
  ·exact good_empty
  ·rename_i h6 h12
   refine good_node.2 ⟨can_zero, fun t ht => ?_, .inr rfl, by simp [countT], fun t ht => ?_, fun h5 => by omega⟩
   ·obtain rfl := List.mem_singleton.1 ht
    exact h
   ·obtain rfl := List.mem_singleton.1 ht
    unfold fitsT
    rw [if_neg (fun h2 => h12 (.inr h2))]
    simp [h6]
    exact fun h1 => h12 (.inl h1)
theorem good_star {r : T} (h : good r) : good (starT r) := by
 unfold starT
 split
 ·exact good_star1 (good_alt fun t ht => good_args h t (List.mem_filter.1 ht).1)
 ·exact good_star1 h
theorem star1_nodes (r : T) : (star1T r).nodes ≤ r.nodes + 1 := by
 have hp := nodes_pos r
 unfold star1T
 split
 ·omega
 ·split
  ·show (1 : Nat) ≤ _
   omega
  ·simp only [T.nodes, nodesL]; omega
theorem star_nodes (r : T) : (starT r).nodes ≤ r.nodes + 4 := by
 unfold starT
 split
 ·have h1 := star1_nodes (altT (withoutT 2 r.args))
  have h2 := altT_nodes (withoutT 2 r.args)
  have h3 := withoutT_nodes 2 r.args
  have h4 : nodesL r.args ≤ r.nodes := by
   cases r with
   | node k s l => simp only [T.args, T.nodes]; omega
  omega
 ·have := star1_nodes r
  omega
theorem rxP_good (ps : List UInt8) : ∀ N deep n, good (rxP ps N deep n).1
 | 0, _, _ => good_none
 | N + 1, deep, n => by
  have h1 := rxP_good ps N (deep + 1) (numN ps n)
  have h2 := rxP_good ps N (deep + 1) (rxP ps N (deep + 1) (numN ps n)).2
  have h12 : ∀ t ∈ [(rxP ps N (deep + 1) (numN ps n)).1, (rxP ps N (deep + 1) (rxP ps N (deep + 1) (numN ps n)).2).1], good t := fun t ht => by
   simp only [List.mem_cons, List.not_mem_nil, or_false] at ht
   rcases ht with rfl | rfl
   ·exact h1
   ·exact h2
  simp only [rxP]
  split
  ·split
   ·exact good_bytes (setP_can _ _)
   ·split
    ·exact good_none
    ·exact good_empty
  ·split
   ·exact good_cat h12
   ·split
    ·exact good_alt h12
    ·exact good_star h1
theorem rxP_nodes (ps : List UInt8) : ∀ N deep n, (rxP ps N deep n).1.nodes + 5 ≤ 6 * 2 ^ N
 | 0, _, _ => by show 1 + 5 ≤ 6 * 2 ^ 0; omega
 | N + 1, deep, n => by
  have h1 := rxP_nodes ps N (deep + 1) (numN ps n)
  have h2 := rxP_nodes ps N (deep + 1) (rxP ps N (deep + 1) (numN ps n)).2
  have hp : 1 ≤ 2 ^ N := Nat.one_le_two_pow
  have e : 2 ^ (N + 1) = 2 * 2 ^ N := by rw [Nat.pow_succ, Nat.mul_comm]
  have hc := catT_nodes [(rxP ps N (deep + 1) (numN ps n)).1, (rxP ps N (deep + 1) (rxP ps N (deep + 1) (numN ps n)).2).1]
  have ha := altT_nodes [(rxP ps N (deep + 1) (numN ps n)).1, (rxP ps N (deep + 1) (rxP ps N (deep + 1) (numN ps n)).2).1]
  have hs := star_nodes (rxP ps N (deep + 1) (numN ps n)).1
  simp only [nodesL] at hc ha
  rw [e]
  simp only [rxP]
  split
  ·split
   ·show (bytesT _).nodes + 5 ≤ _
    unfold bytesT
    split
    ·show 1 + 5 ≤ _; omega
    ·show 1 + 0 + 5 ≤ _; omega
   ·split
    ·show 1 + 5 ≤ _; omega
    ·show 1 + 5 ≤ _; omega
  ·split
   ·show (catT _).nodes + 5 ≤ _; omega
   ·split
    ·show (altT _).nodes + 5 ≤ _; omega
    ·show (starT _).nodes + 5 ≤ _; omega
structure St where
 set : Nat → Bool
 to : Int
 free : List Int
structure MayN (S : List St) (a z : Int) : Prop where
 few : S.length ≤ 2000
 a0 : 0 ≤ a
 a1 : a < (S.length : Int)
 z0 : 0 ≤ z
 z1 : z < (S.length : Int)
 to : ∀ s ∈ S, s.to < (S.length : Int)
 free8 : ∀ s ∈ S, s.free.length ≤ 8
 free : ∀ s ∈ S, ∀ f ∈ s.free, 0 ≤ f ∧ f < (S.length : Int)
inductive Rc (S : List St) (P : Nat → Prop) : Nat → Prop
 | base {i : Nat} : P i → i < S.length → Rc S P i
 | go {i j : Nat} {s : St} : Rc S P i → S[i]? = some s → (j : Int) ∈ s.free → j < S.length → Rc S P j
theorem Rc.lt {S : List St} {P : Nat → Prop} {i : Nat} (h : Rc S P i) : i < S.length := by
 cases h with
 | base _ h => exact h
 | go _ _ _ h => exact h
theorem Rc.mono {S : List St} {P Q : Nat → Prop} {i : Nat} (h : Rc S P i) (hPQ : ∀ i, P i → Q i) : Rc S Q i := by
 induction h with
 | base h1 h2 => exact .base (hPQ _ h1) h2
 | go _ h2 h3 h4 ih => exact .go ih h2 h3 h4
theorem rc_is {S : List St} {P : Nat → Prop} {t : Nat → Bool} (h1 : ∀ i, i < S.length → P i → t i = true)
  (h2 : ∀ i s, S[i]? = some s → t i = true → ∀ j : Nat, (j : Int) ∈ s.free → t j = true) (h3 : ∀ i, i < S.length → t i = true → Rc S P i) (i : Nat) (hi : i < S.length) : t i = true ↔ Rc S P i := by
 refine ⟨h3 i hi, fun h => ?_⟩
 clear h3 hi
 induction h with
 | base a b => exact h1 _ b a
 | go _ b c _ ih => exact h2 _ _ b ih _ c
noncomputable def rcB (S : List St) (P : Nat → Prop) (i : Nat) : Bool := @decide (Rc S P i) (Classical.propDecidable _)
theorem rcB_iff {S : List St} {P : Nat → Prop} {i : Nat} : rcB S P i = true ↔ Rc S P i := by
 unfold rcB
 exact @decide_eq_true_iff _ (Classical.propDecidable _)
/-! ### rising lists of states -/
def risJ (t : Nat → Bool) (n : Nat) : List Int := ((List.range n).filter t).map fun i : Nat => (i : Int)
theorem risJ_succ (t : Nat → Bool) (n : Nat) : risJ t (n + 1) = if t n then risJ t n ++ [(n : Int)] else risJ t n := by
 unfold risJ
 rw [List.range_succ, List.filter_append, List.map_append]
 cases h : t n <;> simp [h]
theorem risJ_congr {t u : Nat → Bool} {n : Nat} (h : ∀ i, i < n → t i = u i) : risJ t n = risJ u n := by
 unfold risJ
 rw [List.filter_congr fun i hi => h i (List.mem_range.1 hi)]
theorem risJ_mem {t : Nat → Bool} {n : Nat} {x : Int} : x ∈ risJ t n ↔ ∃ i : Nat, x = (i : Int) ∧ i < n ∧ t i = true := by
 unfold risJ
 rw [List.mem_map]
 constructor
 ·rintro ⟨i, hi, rfl⟩
  have := List.mem_filter.1 hi
  exact ⟨i, rfl, List.mem_range.1 this.1, this.2⟩
 ·rintro ⟨i, rfl, h1, h2⟩
  exact ⟨i, List.mem_filter.2 ⟨List.mem_range.2 h1, h2⟩, rfl⟩
theorem risJ_len (t : Nat → Bool) (n : Nat) : (risJ t n).length ≤ n := by
 unfold risJ
 rw [List.length_map]
 have := List.length_filter_le t (List.range n)
 rwa [List.length_range] at this
theorem risJ_rise (t : Nat → Bool) (n : Nat) : (risJ t n).Pairwise (· < ·) := by
 unfold risJ
 rw [List.pairwise_map]
 exact (List.pairwise_lt_range.filter t).imp fun h => by omega
def ofL (l : List Int) (i : Nat) : Prop := (i : Int) ∈ l
noncomputable def clsN (S : List St) (l : List Int) : List Int := risJ (rcB S (ofL l)) S.length
theorem clsN_mem {S : List St} {l : List Int} {i : Nat} : (i : Int) ∈ clsN S l ↔ Rc S (ofL l) i := by
 unfold clsN
 rw [risJ_mem]
 constructor
 ·rintro ⟨j, hj, _, h⟩
  have : i = j := by omega
  subst this
  exact rcB_iff.1 h
 ·intro h
  exact ⟨i, rfl, h.lt, rcB_iff.2 h⟩
def goN (S : List St) (l : List Int) (b : Nat) : List Int := l.filterMap fun x => if 0 ≤ x then (S[x.toNat]?).bind fun s => if 0 ≤ s.to ∧ s.set b = true then some s.to else none else none
noncomputable def stpN (S : List St) (l : List Int) (b : Nat) : List Int := clsN S (goN S l b)
theorem goN_mem {S : List St} {l : List Int} {b : Nat} {x : Int} : x ∈ goN S l b ↔ ∃ (i : Nat) (s : St), (i : Int) ∈ l ∧ S[i]? = some s ∧ 0 ≤ s.to ∧ s.set b = true ∧ x = s.to := by
 unfold goN
 rw [List.mem_filterMap]
 constructor
 ·rintro ⟨y, hy, h⟩
  by_cases h0 : 0 ≤ y
  ·rw [if_pos h0] at h
   cases hs : S[y.toNat]? with
   | none => rw [hs] at h; cases h
   | some s =>
    rw [hs] at h
    have h : (if 0 ≤ s.to ∧ s.set b = true then some s.to else none) = some x := h
    by_cases hc : 0 ≤ s.to ∧ s.set b = true
    ·rw [if_pos hc] at h
     injection h with h
     exact ⟨y.toNat, s, by rwa [Int.toNat_of_nonneg h0], hs, hc.1, hc.2, h.symm⟩
    ·rw [if_neg hc] at h; cases h
  ·rw [if_neg h0] at h; cases h
 ·rintro ⟨i, s, h1, h2, h3, h4, rfl⟩
  refine ⟨(i : Int), h1, ?_⟩
  rw [if_pos (by omega), Int.toNat_natCast, h2]
  show (if 0 ≤ s.to ∧ s.set b = true then some s.to else none) = some s.to
  rw [if_pos ⟨h3, h4⟩]
/-! ### ways -/
inductive Way (S : List St) : Nat → List UInt8 → Nat → Prop
 | here {i : Nat} : i < S.length → Way S i [] i
 | free {i j k : Nat} {s : St} {w : List UInt8} : S[i]? = some s → (j : Int) ∈ s.free → Way S j w k → Way S i w k
 | byte {i j k : Nat} {s : St} {b : UInt8} {w : List UInt8} : S[i]? = some s → s.set b.toNat = true → s.to = (j : Int) → Way S j w k → Way S i (b :: w) k
theorem Way.lt {S : List St} {i k : Nat} {w : List UInt8} (h : Way S i w k) : i < S.length := by
 cases h with
 | here h => exact h
 | free h _ _ => exact (List.getElem?_eq_some_iff.1 h).1
 | byte h _ _ _ => exact (List.getElem?_eq_some_iff.1 h).1
theorem Way.lt2 {S : List St} {i k : Nat} {w : List UInt8} (h : Way S i w k) : k < S.length := by
 induction h with
 | here h => exact h
 | free _ _ _ ih => exact ih
 | byte _ _ _ _ ih => exact ih
theorem Way.app {S : List St} {i j k : Nat} {u v : List UInt8} (h : Way S i u j) (h2 : Way S j v k) : Way S i (u ++ v) k := by
 induction h with
 | here _ => exact h2
 | free a b _ ih => exact .free a b (ih h2)
 | byte a b c _ ih => exact .byte a b c (ih h2)
end Go.Proofs.YteadghoojeehlaaGreatDoor
