/-
  Texts of this proof, put together: (PyA) What makes expressions out of numbers: the numbers, one behind the other. No statement is proved here. (PyB) What makes sets of bytes out of numbers. No statement is proved here. (PyC) What makes expressions out of numbers, as a plain function; that what it makes is plain, and how great it is. No statement is proved here. (PyE) Laws of the walk: two expressions laid in a row, a whole block stored, at a single operation. No statement is proved here. (PyD) What makes expressions out of numbers: what the calls answer and leave. No statement is proved here. (PyG) What makes expressions out of numbers: Made and Rx. No statement is proved here.
-/
import Derived.Test.YtmlojjgddmnbmaaDoorMDb
import Derived.Test.YtmlojjgddmnbmaaDoorMC
namespace Go.Proofs.YtmlojjgddmnbmaaDoor
open Go.RowKit
set_option linter.unusedSimpArgs false
set_option linter.unusedVariables false

/-- The number that is read where n are read already, below m; how many are read then. -/
def numV (ps : List UInt8) (n m : Nat) : Nat := if ps.length ≤ n then 0 else (ps.getD n 0).toNat % m
def numN (ps : List UInt8) (n : Nat) : Nat := if ps.length ≤ n then n else n + 1
theorem numN_le {ps : List UInt8} {n : Nat} (h : n ≤ ps.length) : numN ps n ≤ ps.length := by
  unfold numN
  split <;> omega
theorem numN_ge (ps : List UInt8) (n : Nat) : n ≤ numN ps n := by
  unfold numN
  split <;> omega
theorem numV_lt (ps : List UInt8) (n : Nat) {m : Nat} (hm : 0 < m) : numV ps n m < m := by
  unfold numV
  split
  · exact hm
  · exact Nat.mod_lt _ hm
/-- Block g holds the numbers ps, of which n are read. -/
structure Pk (w : World) (g : Nat) (V : Value) (ps : List UInt8) (n : Nat) : Prop where
  blk : Blk w g 52 [V, .int .i64 (n : Int)]
  row : RowB g w V (bvs ps)
  le : n ≤ ps.length
  few : ps.length ≤ 1048576
theorem grown_belowG {w w' : World} {g : Nat} (h : w.grownBy w' (some g)) (hg : g < w.heap.size) : Below g w w' :=
  ⟨h.os, h.tape, h.output, h.size, fun k hk => h.block k (by omega) (fun e => by have := Option.some.inj e; omega)⟩
theorem below_grownG {w w' : World} (g : Nat) (h : Below w.heap.size w w') : w.grownBy w' (some g) := ⟨h.os, h.tape, h.output, h.size, fun k hk _ => h.block k hk⟩
theorem grownG_trans {w w1 w2 : World} {g : Nat} (h : w.grownBy w1 (some g)) (h2 : w1.grownBy w2 (some g)) : w.grownBy w2 (some g) :=
  ⟨h2.os.trans h.os, h2.tape.trans h.tape, h2.output.trans h.output, Nat.le_trans h.size h2.size, fun k hk hne => (h2.block k (by have := h.size; omega) hne).trans (h.block k hk hne)⟩
theorem grownG_refl (w : World) (g : Nat) : w.grownBy w (some g) := below_grownG g (Below.refl _ _)
theorem Pk.grown {w w' : World} {g : Nat} {V : Value} {ps : List UInt8} {n n' : Nat} (h : Pk w g V ps n) (hg : w.grownBy w' (some g)) (hb : Blk w' g 52 [V, .int .i64 (n' : Int)]) (hn : n' ≤ ps.length) : Pk w' g V ps n' :=
  ⟨hb, h.row.below (grown_belowG hg h.blk.lt), hn, h.few⟩
theorem Pk.below {w w' : World} {g : Nat} {V : Value} {ps : List UInt8} {n : Nat} (h : Pk w g V ps n) (hb : Below w.heap.size w w') : Pk w' g V ps n :=
  ⟨h.blk.below hb h.blk.lt, h.row.below (hb.mono (Nat.le_of_lt h.blk.lt)), h.le, h.few⟩
theorem Pk.other {w w' : World} {g : Nat} {V : Value} {ps : List UInt8} {n : Nat} (h : Pk w g V ps n) (k : Nat) (hk : ∀ i, i ≠ k → w'.heap[i]? = w.heap[i]?) (hg : g < k) (hbl : Below k w w') : Pk w' g V ps n :=
  ⟨(hk g (by omega)).trans h.blk, h.row.below (hbl.mono (by omega)), h.le, h.few⟩

theorem grown_setCell {w w' : World} {g o : Nat} {v : Value} (h : w.grownBy w' (some g)) : w.grownBy (w'.setCell ⟨g, o, none⟩ v) (some g) := grown_setCells h o [v]
set_option maxHeartbeats 4000000 in
set_option maxRecDepth 1000000 in
theorem over_any (w : World) (g : Nat) (V : Value) (ps : List UInt8) (n : Nat) (h : Pk w g V ps n) :
    Calls Tryd.prog 43 #[.pointer (some ⟨g, 0, none⟩)] w fun e w' => e = .returned (.bool (decide (ps.length ≤ n))) ∧ Below w.heap.size w w' := by
  have H := Lib.hid h
  have c0 := h.blk.cell 0
  have c1 := h.blk.cell 1
  obtain ⟨A, cap, rfl, a1, a2, a0, a3⟩ := h.row
  rw [bvs_length] at c0 a1
  have c0' : w.cell? ⟨g, 0, none⟩ = some (.slice A ps.length cap) := by rw [c0]; rfl
  have c1' : w.cell? ⟨g, 1, none⟩ = some (.int .i64 (n : Int)) := by rw [c1]; rfl
  clear h a1 a2 a0 a3 c0 c1
  by_cases hn : ps.length ≤ n
  · have d : ((ps.length : Int) ≤ (n : Int)) := by omega
    have HR := Lib.hid (decide_eq_true hn)
    clear hn
    go_enter Tryd.func43, Tryd.ntmps43
    go_wp2_with fail
    go_quiet (fail)
    go_wp2_with fail
    go_ret
    rw [HR.out]
    exact ⟨rfl, below_drewN (Below.refl _ _) _⟩
  · have d : ¬ ((ps.length : Int) ≤ (n : Int)) := by omega
    have HR := Lib.hid (decide_eq_false hn)
    clear hn
    go_enter Tryd.func43, Tryd.ntmps43
    go_wp2_with fail
    go_quiet (fail)
    go_wp2_with fail
    go_ret
    rw [HR.out]
    exact ⟨rfl, below_drewN (Below.refl _ _) _⟩
set_option maxHeartbeats 4000000 in
set_option maxRecDepth 1000000 in
theorem num_any (w : World) (g : Nat) (V : Value) (ps : List UInt8) (n m : Nat) (h : Pk w g V ps n) (hm : 0 < m) (hm2 : m ≤ 1048576) :
    Calls Tryd.prog 42 #[.pointer (some ⟨g, 0, none⟩), .int .i64 (m : Int)] w fun e w' => e = .returned (.int .i64 (numV ps n m : Int)) ∧ w.grownBy w' (some g) ∧ Pk w' g V ps (numN ps n) := by
  have H := Lib.hid h
  have c0 := h.blk.cell 0
  have c1 := h.blk.cell 1
  obtain ⟨A, cap, rfl, a1, a2, a0, a3⟩ := h.row
  have hfw := h.few
  have hle := h.le
  rw [bvs_length] at c0 a1 H ⊢
  have c0' : w.cell? ⟨g, 0, none⟩ = some (.slice A ps.length cap) := by rw [c0]; rfl
  have c1' : w.cell? ⟨g, 1, none⟩ = some (.int .i64 (n : Int)) := by rw [c1]; rfl
  have HA3 := Lib.hid a3
  clear h a1 a2 a0 a3 c0 c1
  by_cases hn : ps.length ≤ n
  · have d : ((ps.length : Int) ≤ (n : Int)) := by omega
    have HR := Lib.hid (show numV ps n m = 0 ∧ numN ps n = n from ⟨by unfold numV; rw [if_pos hn], by unfold numN; rw [if_pos hn]⟩)
    clear hn
    go_enter Tryd.func42, Tryd.ntmps42
    go_wp2_with fail
    go_quiet (fail)
    go_wp2_with fail
    go_ret
    rw [HR.out.1, HR.out.2]
    have hb := below_drewN (Below.refl w.heap.size w) nq
    exact ⟨rfl, below_grownG _ hb, H.out.below hb⟩
  · have d : ¬ ((ps.length : Int) ≤ (n : Int)) := by omega
    obtain ⟨b, off, rfl, hbg, hbw, hcell⟩ := HA3.out (by intro he; rw [List.map_eq_nil_iff.1 he] at hn; simp at hn)
    have HR := Lib.hid (show numV ps n m = (ps.getD n 0).toNat % m ∧ numN ps n = n + 1 from ⟨by unfold numV; rw [if_neg hn], by unfold numN; rw [if_neg hn]⟩)
    have hcn := hcell n (bv (ps.getD n 0)) (bvs_get ps n _ (by rw [List.getD_eq_getElem?_getD, List.getElem?_eq_getElem (by omega)]; rfl))
    have fz := H.out.blk.frozen 1
    obtain ⟨x, hx⟩ : ∃ x, x = (ps.getD n 0).toNat := ⟨_, rfl⟩
    have hxl : x < 256 := by rw [hx]; exact UInt8.toNat_lt _
    have hcn' : w.cell? ⟨b, off + n, none⟩ = some (.int .u8 (x : Int)) := by rw [hx]; exact hcn
    rw [← hx] at HR
    have HBG := Lib.hid hbg
    have e3 := wrap_one n (by omega)
    have e4 := wrap_one' n (by omega)
    clear hcn hx hcell hbw hbg
    go_enter Tryd.func42, Tryd.ntmps42
    go_wp2_with fail
    go_quiet (fail)
    go_wp2_with fail
    obtain ⟨w3, hw3⟩ : ∃ w3, w3 = (w.drewN nq).setCell ⟨g, 1, none⟩ (.int .i64 ((n : Int) + 1)) := ⟨_, rfl⟩
    have hgr := Lib.hid (show w.grownBy w3 (some g) by rw [hw3]; exact grown_setCell (below_grownG _ (below_drewN (Below.refl _ _) _)))
    have hbl := Lib.hid (show Blk w3 g 52 [.slice (some ⟨b, off, none⟩) ps.length cap, .int .i64 ((n + 1 : Nat) : Int)] by
      rw [hw3]
      exact (show Blk (w.drewN nq) g _ _ from H.out.blk).set 1 (.int .i64 ((n + 1 : Nat) : Int)))
    have f0 : w3.cell? ⟨g, 0, none⟩ = some (.slice (some ⟨b, off, none⟩) ps.length cap) := hbl.out.cell 0
    have f1 : w3.cell? ⟨g, 1, none⟩ = some (.int .i64 ((n + 1 : Nat) : Int)) := hbl.out.cell 1
    have fn : w3.cell? ⟨b, off + n, none⟩ = some (.int .u8 (x : Int)) := by
      refine ((grown_belowG hgr.out H.out.blk.lt).cell (p := ⟨b, off + n, none⟩) HBG.out).trans hcn'
    have HPK := Lib.hid (H.out.grown hgr.out hbl.out (by omega))
    rw [← hw3]
    have e5 : wrap64 (((n : Int) + 1) - 1) = (n : Int) := by rw [show ((n : Int) + 1) - 1 = (n : Int) by omega]; exact IntWalk.wrap64_in _ (by omega)
    have e6 : IntKind.i64.wrap (((n : Int) + 1) - 1) = (n : Int) := by rw [show ((n : Int) + 1) - 1 = (n : Int) by omega]; exact IntWalk.i64_in _ (by omega)
    have e7 : (x : Int).tmod (m : Int) = ((x % m : Nat) : Int) := rfl
    have e8 : IntKind.i64.wrap (x : Int) = (x : Int) := IntWalk.i64_in _ (by omega)
    have e9 : ¬ ((m : Int) = 0) := by omega
    have e10 : ((m : Int) == 0) = false := by rw [beq_eq_false_iff_ne]; omega
    clear hw3 c0' c1' hcn' fz
    go_quiet (fail)
    go_wp2_with fail
    go_ret
    rw [HR.out.1, HR.out.2]
    exact ⟨rfl, grownG_trans hgr.out (below_grownG _ (below_drewN (Below.refl _ _) _)), HPK.out.below (below_drewN (Below.refl _ _) _)⟩
theorem grownG_below {w wk w' : World} {g : Nat} (h : w.grownBy wk (some g)) (hb : Below w.heap.size wk w') : w.grownBy w' (some g) :=
  ⟨hb.os.trans h.os, hb.tape.trans h.tape, hb.output.trans h.output, Nat.le_trans h.size hb.size, fun k hk hne => (hb.block k hk).trans (h.block k hk hne)⟩
end Go.Proofs.YtmlojjgddmnbmaaDoor
namespace Go.Proofs.YtmlojjgddmnbmaaDoor
open Go.RowKit
set_option linter.unusedSimpArgs false
set_option linter.unusedVariables false

def rangeS (a b : Nat) : Nat → Bool := fun x => decide (a ≤ x ∧ x ≤ b)
def listS (l : List Nat) : Nat → Bool := fun x => decide (x ∈ l)
def notS (s : Nat → Bool) : Nat → Bool := fun x => decide (x < 256) && !s x
/-- The set that is made where n numbers are read already, and how many are read then. -/
def setP (ps : List UInt8) (n : Nat) : (Nat → Bool) × Nat :=
  if numV ps n 8 = 0 then (rangeS 97 100, numN ps n)
  else if numV ps n 8 = 1 then (rangeS (numV ps (numN ps n) 256) (numV ps (numN ps (numN ps n)) 256), numN ps (numN ps (numN ps n)))
  else if numV ps n 8 = 2 then (notS (listS [97 + numV ps (numN ps n) 4]), numN ps (numN ps n))
  else if numV ps n 8 = 3 then (listS [97 + numV ps (numN ps n) 4, 97 + numV ps (numN ps (numN ps n)) 4, numV ps (numN ps (numN ps (numN ps n))) 256], numN ps (numN ps (numN ps (numN ps n))))
  else if numV ps n 8 = 4 then (rangeS 0 255, numN ps n)
  else (listS [97 + numV ps (numN ps n) 4], numN ps (numN ps n))
theorem can_range {a b : Nat} (h : b < 256) : canS (rangeS a b) := fun x hx => by
  unfold rangeS
  exact decide_eq_false (by omega)
theorem can_list {l : List Nat} (h : ∀ x ∈ l, x < 256) : canS (listS l) := fun x hx => by
  unfold listS
  exact decide_eq_false fun hm => by have := h x hm; omega
theorem can_not (s : Nat → Bool) : canS (notS s) := fun x hx => by
  unfold notS
  rw [decide_eq_false (by omega)]
  rfl
theorem setP_can (ps : List UInt8) (n : Nat) : canS (setP ps n).1 := by
  have h4 : ∀ k, 97 + numV ps k 4 < 256 := fun k => by have := numV_lt ps k (m := 4) (by omega); omega
  have h256 : ∀ k, numV ps k 256 < 256 := fun k => numV_lt ps k (by omega)
  unfold setP
  split
  · exact can_range (by omega)
  · split
    · exact can_range (h256 _)
    · split
      · exact can_not _
      · split
        · exact can_list fun x hx => by
            simp only [List.mem_cons, List.not_mem_nil, or_false] at hx
            rcases hx with rfl | rfl | rfl
            · exact h4 _
            · exact h4 _
            · exact h256 _
        · split
          · exact can_range (by omega)
          · exact can_list fun x hx => by
              simp only [List.mem_cons, List.not_mem_nil, or_false] at hx
              rw [hx]
              exact h4 _
theorem mem_ofNat {l : List Nat} (hl : ∀ x ∈ l, x < 256) {b : Nat} (hb : b < 256) : decide (UInt8.ofNat b ∈ l.map UInt8.ofNat) = listS l b := by
  unfold listS
  rw [Bool.eq_iff_iff, decide_eq_true_iff, decide_eq_true_iff, List.mem_map]
  constructor
  · rintro ⟨x, hx, he⟩
    have h1 := congrArg UInt8.toNat he
    rw [UInt8.toNat_ofNat', UInt8.toNat_ofNat', Nat.mod_eq_of_lt (hl x hx), Nat.mod_eq_of_lt hb] at h1
    rw [← h1]
    exact hx
  · intro h
    exact ⟨b, h, rfl⟩
theorem wds_list {l : List Nat} (hl : ∀ x ∈ l, x < 256) : wds (fun b => decide (UInt8.ofNat b ∈ l.map UInt8.ofNat)) = wds (listS l) := wds_congr fun b hb => mem_ofNat hl hb
theorem wds_not {l : List Nat} : wds (fun b => !listS l b) = wds (notS (listS l)) := wds_congr fun b hb => by
  unfold notS
  rw [decide_eq_true hb]
  rfl
theorem listS_wds {l : List Nat} (hl : ∀ x ∈ l, x < 256) : wds (listS l) = wds (fun b => decide (UInt8.ofNat b ∈ l.map UInt8.ofNat)) := (wds_list hl).symm
theorem refOfQ (v : Value) (l : List UInt8) (w : World) (hr : Row w v (bvs l)) (hl : l.length ≤ 1048576) (q : Nat → Bool) (hq : wds (fun b => decide (UInt8.ofNat b ∈ l)) = wds q) :
    Calls Tryd.prog 20 #[v] w fun e w' => e = .returned (.agg (wds q).toArray) ∧ Below w.heap.size w w' := by
  rw [← hq]
  exact refOf_any v l w hr hl
theorem refNotQ (p : Nat → Bool) (w : World) (q : Nat → Bool) (hq : wds (fun b => !p b) = wds q) :
    Calls Tryd.prog 57 #[.agg (wds p).toArray] w fun e w' => e = .returned (.agg (wds q).toArray) ∧ Below w.heap.size w w' := by
  rw [← hq]
  exact refNot_any p w
theorem refRangeQ (f t : Nat) (hf : f < 256) (ht : t < 256) (w : World) (q : Nat → Bool) (hq : q = rangeS f t) :
    Calls Tryd.prog 19 #[.int .u8 (f : Int), .int .u8 (t : Int)] w fun e w' => e = .returned (.agg (wds q).toArray) ∧ Below w.heap.size w w' := by
  rw [hq]
  exact refRange_any f t hf ht w
theorem add97 {a c : Nat} (h : c = 97 + a) (ha : a < 256) : wrap64 (97 + (a : Int)) = (c : Int) := by
  rw [show 97 + (a : Int) = (c : Int) by omega]
  exact IntWalk.wrap64_in _ (by omega)
theorem add97' {a c : Nat} (h : c = 97 + a) (ha : a < 256) : IntKind.i64.wrap (97 + (a : Int)) = (c : Int) := by
  rw [show 97 + (a : Int) = (c : Int) by omega]
  exact IntWalk.i64_in _ (by omega)
theorem ofNat_inj {b c : Nat} (hb : b < 256) (hc : c < 256) : UInt8.ofNat b = UInt8.ofNat c ↔ b = c := by
  constructor
  · intro he
    have h1 := congrArg UInt8.toNat he
    rw [UInt8.toNat_ofNat', UInt8.toNat_ofNat', Nat.mod_eq_of_lt hc, Nat.mod_eq_of_lt hb] at h1
    exact h1
  · intro h
    rw [h]
theorem wds_list1 {c : Nat} (hc : c < 256) (l : List UInt8) (hl : l = [UInt8.ofNat c]) (q : Nat → Bool) (hq : q = listS [c]) : wds (fun b => decide (UInt8.ofNat b ∈ l)) = wds q := by
  refine wds_congr fun b hb => ?_
  rw [hq]
  unfold listS
  rw [Bool.eq_iff_iff, decide_eq_true_iff, decide_eq_true_iff, hl, List.mem_singleton, List.mem_singleton]
  exact ofNat_inj hb hc
theorem wds_list3 {c d f : Nat} (hc : c < 256) (hd : d < 256) (hf : f < 256) (l : List UInt8) (hl : l = [UInt8.ofNat c, UInt8.ofNat d, UInt8.ofNat f]) (q : Nat → Bool) (hq : q = listS [c, d, f]) : wds (fun b => decide (UInt8.ofNat b ∈ l)) = wds q := by
  refine wds_congr fun b hb => ?_
  rw [hq]
  unfold listS
  rw [Bool.eq_iff_iff, decide_eq_true_iff, decide_eq_true_iff, hl, List.mem_cons, List.mem_cons, List.mem_singleton, List.mem_cons, List.mem_cons, List.mem_singleton, ofNat_inj hb hc, ofNat_inj hb hd, ofNat_inj hb hf]
theorem refOf1 (c : Nat) (hc : c < 256) (v : Value) (w : World) (hr : Row w v (bvs [UInt8.ofNat c])) (q : Nat → Bool) (hq : q = listS [c]) :
    Calls Tryd.prog 20 #[v] w fun e w' => e = .returned (.agg (wds q).toArray) ∧ Below w.heap.size w w' := by
  obtain ⟨l, hl⟩ : ∃ l, l = [UInt8.ofNat c] := ⟨_, rfl⟩
  rw [← hl] at hr
  exact refOfQ v l w hr (by rw [hl, List.length_singleton]; omega) q (wds_list1 hc l hl q hq)
theorem refOf3 (c d f : Nat) (hc : c < 256) (hd : d < 256) (hf : f < 256) (v : Value) (w : World) (hr : Row w v (bvs [UInt8.ofNat c, UInt8.ofNat d, UInt8.ofNat f])) (q : Nat → Bool) (hq : q = listS [c, d, f]) :
    Calls Tryd.prog 20 #[v] w fun e w' => e = .returned (.agg (wds q).toArray) ∧ Below w.heap.size w w' := by
  obtain ⟨l, hl⟩ : ∃ l, l = [UInt8.ofNat c, UInt8.ofNat d, UInt8.ofNat f] := ⟨_, rfl⟩
  have h3 : l.length = 3 := by rw [hl]; rfl
  rw [← hl] at hr
  exact refOfQ v l w hr (by omega) q (wds_list3 hc hd hf l hl q hq)
theorem wds_notQ {y q : Nat → Bool} (h : q = notS y) : wds (fun b => !y b) = wds q := wds_congr fun b hb => by
  rw [h]
  unfold notS
  rw [decide_eq_true hb]
  rfl
set_option maxHeartbeats 8000000 in
set_option maxRecDepth 1000000 in
theorem set_any (w : World) (g : Nat) (V : Value) (ps : List UInt8) (n : Nat) (h : Pk w g V ps n) :
    Calls Tryd.prog 44 #[.pointer (some ⟨g, 0, none⟩)] w fun e w' => e = .returned (.agg (wds (setP ps n).1).toArray) ∧ w.grownBy w' (some g) ∧ Pk w' g V ps (setP ps n).2 := by
  have HPK := Lib.hid h
  have HNE := Lib.hid (show some w.heap.size ≠ some g from fun he => by have h1 := Option.some.inj he; have h2 := h.blk.lt; omega)
  obtain ⟨i1, hi1, hz1⟩ := info_set
  obtain ⟨z, hz⟩ : ∃ z : Nat → Bool, z = fun _ => false := ⟨_, rfl⟩
  rw [← hz] at hz1
  have HZ1 := Lib.hid hz1
  clear hz1 hz
  obtain ⟨q, hq⟩ : ∃ q, q = (setP ps n).1 := ⟨_, rfl⟩
  obtain ⟨m, hm⟩ : ∃ m, m = (setP ps n).2 := ⟨_, rfl⟩
  rw [← hq, ← hm]
  have hl8 := numV_lt ps n (m := 8) (by omega)
  unfold setP at hq hm
  obtain ⟨x0, hx0⟩ : ∃ x, x = numV ps n 8 := ⟨_, rfl⟩
  obtain ⟨n1, hn1⟩ : ∃ x, x = numN ps n := ⟨_, rfl⟩
  obtain ⟨n2, hn2⟩ : ∃ x, x = numN ps n1 := ⟨_, rfl⟩
  obtain ⟨n3, hn3⟩ : ∃ x, x = numN ps n2 := ⟨_, rfl⟩
  obtain ⟨n4, hn4⟩ : ∃ x, x = numN ps n3 := ⟨_, rfl⟩
  rw [← hx0, ← hn1, ← hn2, ← hn3, ← hn4] at hq hm
  rw [← hx0] at hl8
  have HX0 := Lib.hid hx0
  have HN1 := Lib.hid hn1
  have HN2 := Lib.hid hn2
  have HN3 := Lib.hid hn3
  have HN4 := Lib.hid hn4
  clear h hx0 hn1 hn2 hn3 hn4
  by_cases h0 : x0 = 0
  · rw [if_pos h0] at hq hm
    have s0 : ((x0 : Int) == 0) = true := by rw [h0]; rfl
    have HQ := Lib.hid hq
    have hm' : m = n1 := hm
    subst hm'
    clear hq hm h0 hl8
    go_enter Tryd.func44, Tryd.ntmps44
    go_wp2_with ((with_reducible refine atDst 2 ?_); refine wpList_new rfl 24 rfl i1 _ (wds z) hi1 HZ1.out rfl (Below.refl w.heap.size w) (Nat.le_refl _) ?_; intro w1 hk1 hb1 hs1 _; have K1 := Lib.hid hk1; have G1 := Lib.hid (below_grownG g hb1); have P1 := Lib.hid (HPK.out.below hb1); clear hk1 hb1 hs1; (try simp only [Act.put, List.setIfInBounds_toArray, List.set_cons_zero, List.set_cons_succ]))
    refine (num_any w1 g V ps n 8 P1.out (by omega) (by omega)).mono ?_
    rintro e w2 ⟨rfl, hg, hp⟩
    have G2 := Lib.hid (grownG_trans G1.out hg)
    have K2 := Lib.hid (K1.out.grown hg HNE.out)
    have P2 := Lib.hid hp
    rw [← HX0.out]
    rw [← HN1.out] at P2
    clear hg hp
    go_wp2_with fail
    refine (refRangeQ 97 100 (by omega) (by omega) w2 q HQ.out).mono ?_
    rintro e w8 ⟨rfl, hb8⟩
    have G8 := Lib.hid (grownG_trans G2.out (below_grownG g hb8))
    have K8 := Lib.hid (K2.out.below hb8 K2.out.lt)
    have P8 := Lib.hid (P2.out.below hb8)
    clear hb8
    go_wp2_with ((with_reducible refine atStore 24 2 7 ?_); refine wpList_stBlk rfl 24 _ _ rfl w.heap.size (wds q) rfl rfl 24 _ K8.out (size_set q) rfl (wds_all _) (Below.refl w.heap.size w8) (Nat.le_refl _) ?_; intro w9 hk9 hb9 hs9 ho9; have K9 := Lib.hid hk9; have G9 := Lib.hid (grownG_below G8.out hb9); have P9 := Lib.hid (P8.out.other _ ho9 HPK.out.blk.lt hb9); clear hk9 hb9 hs9 ho9; (try simp only [Act.put, List.setIfInBounds_toArray, List.set_cons_zero, List.set_cons_succ]))
    refine bodyPost_ret (results_blk rfl _ _ w.heap.size 24 _ _ rfl K9.out Tryd.underlying24 rfl (size_set q)) rfl ?_
    exact ⟨rfl, G9.out, P9.out⟩
  rw [if_neg h0] at hq hm
  have s0 : ((x0 : Int) == 0) = false := by rw [beq_eq_false_iff_ne]; omega
  by_cases h1 : x0 = 1
  · rw [if_pos h1] at hq hm
    have s1 : ((x0 : Int) == 1) = true := by rw [h1]; rfl
    obtain ⟨a, ha⟩ : ∃ a, a = numV ps n1 256 := ⟨_, rfl⟩
    obtain ⟨b, hb⟩ : ∃ b, b = numV ps n2 256 := ⟨_, rfl⟩
    rw [← ha, ← hb] at hq
    have ha2 : a < 256 := by rw [ha]; exact numV_lt _ _ (by omega)
    have hb2 : b < 256 := by rw [hb]; exact numV_lt _ _ (by omega)
    have HA := Lib.hid ha
    have HB := Lib.hid hb
    have HQ := Lib.hid hq
    have hm' : m = n3 := hm
    subst hm'
    have u1 := wrap_u8 ha2
    have u2 := wrap_u8 hb2
    clear hq hm h0 h1 hl8 ha hb
    go_enter Tryd.func44, Tryd.ntmps44
    go_wp2_with ((with_reducible refine atDst 2 ?_); refine wpList_new rfl 24 rfl i1 _ (wds z) hi1 HZ1.out rfl (Below.refl w.heap.size w) (Nat.le_refl _) ?_; intro w1 hk1 hb1 hs1 _; have K1 := Lib.hid hk1; have G1 := Lib.hid (below_grownG g hb1); have P1 := Lib.hid (HPK.out.below hb1); clear hk1 hb1 hs1; (try simp only [Act.put, List.setIfInBounds_toArray, List.set_cons_zero, List.set_cons_succ]))
    refine (num_any w1 g V ps n 8 P1.out (by omega) (by omega)).mono ?_
    rintro e w2 ⟨rfl, hg, hp⟩
    have G2 := Lib.hid (grownG_trans G1.out hg)
    have K2 := Lib.hid (K1.out.grown hg HNE.out)
    have P2 := Lib.hid hp
    rw [← HX0.out]
    rw [← HN1.out] at P2
    clear hg hp
    go_wp2_with fail
    refine (num_any w2 g V ps n1 256 P2.out (by omega) (by omega)).mono ?_
    rintro e w3 ⟨rfl, hg, hp⟩
    have G3 := Lib.hid (grownG_trans G2.out hg)
    have K3 := Lib.hid (K2.out.grown hg HNE.out)
    have P3 := Lib.hid hp
    clear hg hp
    rw [← HA.out]
    rw [← HN2.out] at P3
    go_wp2_with fail
    refine (num_any w3 g V ps n2 256 P3.out (by omega) (by omega)).mono ?_
    rintro e w4 ⟨rfl, hg, hp⟩
    have G4 := Lib.hid (grownG_trans G3.out hg)
    have K4 := Lib.hid (K3.out.grown hg HNE.out)
    have P4 := Lib.hid hp
    clear hg hp
    rw [← HB.out]
    rw [← HN3.out] at P4
    go_wp2_with fail
    refine (refRangeQ a b ha2 hb2 w4 q HQ.out).mono ?_
    rintro e w8 ⟨rfl, hb8⟩
    have G8 := Lib.hid (grownG_trans G4.out (below_grownG g hb8))
    have K8 := Lib.hid (K4.out.below hb8 K4.out.lt)
    have P8 := Lib.hid (P4.out.below hb8)
    clear hb8
    go_wp2_with ((with_reducible refine atStore 24 2 16 ?_); refine wpList_stBlk rfl 24 _ _ rfl w.heap.size (wds q) rfl rfl 24 _ K8.out (size_set q) rfl (wds_all _) (Below.refl w.heap.size w8) (Nat.le_refl _) ?_; intro w9 hk9 hb9 hs9 ho9; have K9 := Lib.hid hk9; have G9 := Lib.hid (grownG_below G8.out hb9); have P9 := Lib.hid (P8.out.other _ ho9 HPK.out.blk.lt hb9); clear hk9 hb9 hs9 ho9; (try simp only [Act.put, List.setIfInBounds_toArray, List.set_cons_zero, List.set_cons_succ]))
    refine bodyPost_ret (results_blk rfl _ _ w.heap.size 24 _ _ rfl K9.out Tryd.underlying24 rfl (size_set q)) rfl ?_
    exact ⟨rfl, G9.out, P9.out⟩
  rw [if_neg h1] at hq hm
  have s1 : ((x0 : Int) == 1) = false := by rw [beq_eq_false_iff_ne]; omega
  obtain ⟨i0, hi0, hy0, hs0⟩ := info_u8
  have HY0 := Lib.hid hy0
  clear hy0
  by_cases h2 : x0 = 2
  · rw [if_pos h2] at hq hm
    have s2 : ((x0 : Int) == 2) = true := by rw [h2]; rfl
    obtain ⟨a, ha⟩ : ∃ a, a = numV ps n1 4 := ⟨_, rfl⟩
    rw [← ha] at hq
    have ha2 : a < 4 := by rw [ha]; exact numV_lt _ _ (by omega)
    obtain ⟨c, hc⟩ : ∃ c, c = 97 + a := ⟨_, rfl⟩
    rw [← hc] at hq
    have HA := Lib.hid ha
    have HQ := Lib.hid hq
    obtain ⟨y, hy⟩ : ∃ y, y = listS [c] := ⟨_, rfl⟩
    have HY := Lib.hid hy
    clear hy
    have hm' : m = n2 := hm
    subst hm'
    have hc2 : c < 256 := by omega
    have HBV := Lib.hid (bv_ofNat hc2)
    have f1 := add97 hc (Nat.lt_trans ha2 (by decide))
    have f2 := add97' hc (Nat.lt_trans ha2 (by decide))
    have u1 := wrap_u8 hc2
    clear hq hm h0 h1 h2 hl8 ha hc
    go_enter Tryd.func44, Tryd.ntmps44
    go_wp2_with ((with_reducible refine atDst 2 ?_); refine wpList_new rfl 24 rfl i1 _ (wds z) hi1 HZ1.out rfl (Below.refl w.heap.size w) (Nat.le_refl _) ?_; intro w1 hk1 hb1 hs1 _; have K1 := Lib.hid hk1; have G1 := Lib.hid (below_grownG g hb1); have P1 := Lib.hid (HPK.out.below hb1); clear hk1 hb1 hs1; (try simp only [Act.put, List.setIfInBounds_toArray, List.set_cons_zero, List.set_cons_succ]))
    refine (num_any w1 g V ps n 8 P1.out (by omega) (by omega)).mono ?_
    rintro e w2 ⟨rfl, hg, hp⟩
    have G2 := Lib.hid (grownG_trans G1.out hg)
    have K2 := Lib.hid (K1.out.grown hg HNE.out)
    have P2 := Lib.hid hp
    rw [← HX0.out]
    rw [← HN1.out] at P2
    clear hg hp
    go_wp2_with fail
    refine (num_any w2 g V ps n1 4 P2.out (by omega) (by omega)).mono ?_
    rintro e w3 ⟨rfl, hg, hp⟩
    have G3 := Lib.hid (grownG_trans G2.out hg)
    have K3 := Lib.hid (K2.out.grown hg HNE.out)
    have P3 := Lib.hid hp
    clear hg hp
    rw [← HA.out]
    rw [← HN2.out] at P3
    go_wp2_with ((with_reducible refine atDst 23 ?_); refine wpList_bldB1 rfl 34 5 _ rfl i0 Tryd.underlying34 hi0 HY0.out hs0 (UInt8.ofNat c) HBV.out.symm ?_; intro w4 _ hr hb _; have R4 := Lib.hid hr; have K4 := Lib.hid (K3.out.below hb K3.out.lt); have G4 := Lib.hid (grownG_trans G3.out (below_grownG g hb)); have P4 := Lib.hid (P3.out.below hb); clear hr hb; (try simp only [Act.put, List.setIfInBounds_toArray, List.set_cons_zero, List.set_cons_succ]))
    refine (refOf1 c hc2 _ w4 R4.out y HY.out).mono ?_
    rintro e w5 ⟨rfl, hb⟩
    have K5 := Lib.hid (K4.out.below hb K4.out.lt)
    have G5 := Lib.hid (grownG_trans G4.out (below_grownG g hb))
    have P5 := Lib.hid (P4.out.below hb)
    clear hb
    go_wp2_with fail
    refine (refNotQ y w5 q (wds_notQ (by rw [HY.out, HQ.out]))).mono ?_
    rintro e w8 ⟨rfl, hb8⟩
    have G8 := Lib.hid (grownG_trans G5.out (below_grownG g hb8))
    have K8 := Lib.hid (K5.out.below hb8 K5.out.lt)
    have P8 := Lib.hid (P5.out.below hb8)
    clear hb8
    go_wp2_with ((with_reducible refine atStore 24 2 25 ?_); refine wpList_stBlk rfl 24 _ _ rfl w.heap.size (wds q) rfl rfl 24 _ K8.out (size_set q) rfl (wds_all _) (Below.refl w.heap.size w8) (Nat.le_refl _) ?_; intro w9 hk9 hb9 hs9 ho9; have K9 := Lib.hid hk9; have G9 := Lib.hid (grownG_below G8.out hb9); have P9 := Lib.hid (P8.out.other _ ho9 HPK.out.blk.lt hb9); clear hk9 hb9 hs9 ho9; (try simp only [Act.put, List.setIfInBounds_toArray, List.set_cons_zero, List.set_cons_succ]))
    refine bodyPost_ret (results_blk rfl _ _ w.heap.size 24 _ _ rfl K9.out Tryd.underlying24 rfl (size_set q)) rfl ?_
    exact ⟨rfl, G9.out, P9.out⟩
  rw [if_neg h2] at hq hm
  have s2 : ((x0 : Int) == 2) = false := by rw [beq_eq_false_iff_ne]; omega
  by_cases h3 : x0 = 3
  · rw [if_pos h3] at hq hm
    have s3 : ((x0 : Int) == 3) = true := by rw [h3]; rfl
    obtain ⟨a, ha⟩ : ∃ a, a = numV ps n1 4 := ⟨_, rfl⟩
    obtain ⟨b, hb⟩ : ∃ b, b = numV ps n2 4 := ⟨_, rfl⟩
    obtain ⟨f, hf⟩ : ∃ f, f = numV ps n3 256 := ⟨_, rfl⟩
    rw [← ha, ← hb, ← hf] at hq
    have ha2 : a < 4 := by rw [ha]; exact numV_lt _ _ (by omega)
    have hb2 : b < 4 := by rw [hb]; exact numV_lt _ _ (by omega)
    have hf2 : f < 256 := by rw [hf]; exact numV_lt _ _ (by omega)
    obtain ⟨c, hc⟩ : ∃ c, c = 97 + a := ⟨_, rfl⟩
    obtain ⟨d, hd⟩ : ∃ d, d = 97 + b := ⟨_, rfl⟩
    rw [← hc, ← hd] at hq
    have HA := Lib.hid ha
    have HB := Lib.hid hb
    have HF := Lib.hid hf
    have HQ := Lib.hid hq
    have hm' : m = n4 := hm
    subst hm'
    have hc2 : c < 256 := by omega
    have hd2 : d < 256 := by omega
    have HBV := Lib.hid (bv_ofNat hc2)
    have HBD := Lib.hid (bv_ofNat hd2)
    have HBF := Lib.hid (bv_ofNat hf2)
    have f1 := add97 hc (Nat.lt_trans ha2 (by decide))
    have f2 := add97' hc (Nat.lt_trans ha2 (by decide))
    have f3 := add97 hd (Nat.lt_trans hb2 (by decide))
    have f4 := add97' hd (Nat.lt_trans hb2 (by decide))
    have u1 := wrap_u8 hc2
    have u2 := wrap_u8 hd2
    have u3 := wrap_u8 hf2
    clear hq hm h0 h1 h2 h3 hl8 ha hb hf hc hd
    go_enter Tryd.func44, Tryd.ntmps44
    go_wp2_with ((with_reducible refine atDst 2 ?_); refine wpList_new rfl 24 rfl i1 _ (wds z) hi1 HZ1.out rfl (Below.refl w.heap.size w) (Nat.le_refl _) ?_; intro w1 hk1 hb1 hs1 _; have K1 := Lib.hid hk1; have G1 := Lib.hid (below_grownG g hb1); have P1 := Lib.hid (HPK.out.below hb1); clear hk1 hb1 hs1; (try simp only [Act.put, List.setIfInBounds_toArray, List.set_cons_zero, List.set_cons_succ]))
    refine (num_any w1 g V ps n 8 P1.out (by omega) (by omega)).mono ?_
    rintro e w2 ⟨rfl, hg, hp⟩
    have G2 := Lib.hid (grownG_trans G1.out hg)
    have K2 := Lib.hid (K1.out.grown hg HNE.out)
    have P2 := Lib.hid hp
    rw [← HX0.out]
    rw [← HN1.out] at P2
    clear hg hp
    go_wp2_with fail
    refine (num_any w2 g V ps n1 4 P2.out (by omega) (by omega)).mono ?_
    rintro e w3 ⟨rfl, hg, hp⟩
    have G3 := Lib.hid (grownG_trans G2.out hg)
    have K3 := Lib.hid (K2.out.grown hg HNE.out)
    have P3 := Lib.hid hp
    clear hg hp
    rw [← HA.out]
    rw [← HN2.out] at P3
    go_wp2_with fail
    refine (num_any w3 g V ps n2 4 P3.out (by omega) (by omega)).mono ?_
    rintro e w4 ⟨rfl, hg, hp⟩
    have G4 := Lib.hid (grownG_trans G3.out hg)
    have K4 := Lib.hid (K3.out.grown hg HNE.out)
    have P4 := Lib.hid hp
    clear hg hp
    rw [← HB.out]
    rw [← HN3.out] at P4
    go_wp2_with fail
    refine (num_any w4 g V ps n3 256 P4.out (by omega) (by omega)).mono ?_
    rintro e w5 ⟨rfl, hg, hp⟩
    have G5 := Lib.hid (grownG_trans G4.out hg)
    have K5 := Lib.hid (K4.out.grown hg HNE.out)
    have P5 := Lib.hid hp
    clear hg hp
    rw [← HF.out]
    rw [← HN4.out] at P5
    go_wp2_with ((with_reducible refine atDst 39 ?_); refine wpList_bldB3 rfl 34 5 _ _ _ rfl i0 Tryd.underlying34 hi0 HY0.out hs0 (UInt8.ofNat c) (UInt8.ofNat d) (UInt8.ofNat f) HBV.out.symm HBD.out.symm HBF.out.symm ?_; intro w6 _ hr hb _; have R6 := Lib.hid hr; have K6 := Lib.hid (K5.out.below hb K5.out.lt); have G6 := Lib.hid (grownG_trans G5.out (below_grownG g hb)); have P6 := Lib.hid (P5.out.below hb); clear hr hb; (try simp only [Act.put, List.setIfInBounds_toArray, List.set_cons_zero, List.set_cons_succ]))
    refine (refOf3 c d f hc2 hd2 hf2 _ w6 R6.out q HQ.out).mono ?_
    rintro e w8 ⟨rfl, hb8⟩
    have G8 := Lib.hid (grownG_trans G6.out (below_grownG g hb8))
    have K8 := Lib.hid (K6.out.below hb8 K6.out.lt)
    have P8 := Lib.hid (P6.out.below hb8)
    clear hb8
    go_wp2_with ((with_reducible refine atStore 24 2 40 ?_); refine wpList_stBlk rfl 24 _ _ rfl w.heap.size (wds q) rfl rfl 24 _ K8.out (size_set q) rfl (wds_all _) (Below.refl w.heap.size w8) (Nat.le_refl _) ?_; intro w9 hk9 hb9 hs9 ho9; have K9 := Lib.hid hk9; have G9 := Lib.hid (grownG_below G8.out hb9); have P9 := Lib.hid (P8.out.other _ ho9 HPK.out.blk.lt hb9); clear hk9 hb9 hs9 ho9; (try simp only [Act.put, List.setIfInBounds_toArray, List.set_cons_zero, List.set_cons_succ]))
    refine bodyPost_ret (results_blk rfl _ _ w.heap.size 24 _ _ rfl K9.out Tryd.underlying24 rfl (size_set q)) rfl ?_
    exact ⟨rfl, G9.out, P9.out⟩
  rw [if_neg h3] at hq hm
  have s3 : ((x0 : Int) == 3) = false := by rw [beq_eq_false_iff_ne]; omega
  by_cases h4 : x0 = 4
  · rw [if_pos h4] at hq hm
    have s4 : ((x0 : Int) == 4) = true := by rw [h4]; rfl
    have HQ := Lib.hid hq
    have hm' : m = n1 := hm
    subst hm'
    clear hq hm h0 h1 h2 h3 h4 hl8
    go_enter Tryd.func44, Tryd.ntmps44
    go_wp2_with ((with_reducible refine atDst 2 ?_); refine wpList_new rfl 24 rfl i1 _ (wds z) hi1 HZ1.out rfl (Below.refl w.heap.size w) (Nat.le_refl _) ?_; intro w1 hk1 hb1 hs1 _; have K1 := Lib.hid hk1; have G1 := Lib.hid (below_grownG g hb1); have P1 := Lib.hid (HPK.out.below hb1); clear hk1 hb1 hs1; (try simp only [Act.put, List.setIfInBounds_toArray, List.set_cons_zero, List.set_cons_succ]))
    refine (num_any w1 g V ps n 8 P1.out (by omega) (by omega)).mono ?_
    rintro e w2 ⟨rfl, hg, hp⟩
    have G2 := Lib.hid (grownG_trans G1.out hg)
    have K2 := Lib.hid (K1.out.grown hg HNE.out)
    have P2 := Lib.hid hp
    rw [← HX0.out]
    rw [← HN1.out] at P2
    clear hg hp
    go_wp2_with fail
    refine (refRangeQ 0 255 (by omega) (by omega) w2 q HQ.out).mono ?_
    rintro e w8 ⟨rfl, hb8⟩
    have G8 := Lib.hid (grownG_trans G2.out (below_grownG g hb8))
    have K8 := Lib.hid (K2.out.below hb8 K2.out.lt)
    have P8 := Lib.hid (P2.out.below hb8)
    clear hb8
    go_wp2_with ((with_reducible refine atStore 24 2 43 ?_); refine wpList_stBlk rfl 24 _ _ rfl w.heap.size (wds q) rfl rfl 24 _ K8.out (size_set q) rfl (wds_all _) (Below.refl w.heap.size w8) (Nat.le_refl _) ?_; intro w9 hk9 hb9 hs9 ho9; have K9 := Lib.hid hk9; have G9 := Lib.hid (grownG_below G8.out hb9); have P9 := Lib.hid (P8.out.other _ ho9 HPK.out.blk.lt hb9); clear hk9 hb9 hs9 ho9; (try simp only [Act.put, List.setIfInBounds_toArray, List.set_cons_zero, List.set_cons_succ]))
    refine bodyPost_ret (results_blk rfl _ _ w.heap.size 24 _ _ rfl K9.out Tryd.underlying24 rfl (size_set q)) rfl ?_
    exact ⟨rfl, G9.out, P9.out⟩
  · rw [if_neg h4] at hq hm
    have s4 : ((x0 : Int) == 4) = false := by rw [beq_eq_false_iff_ne]; omega
    obtain ⟨a, ha⟩ : ∃ a, a = numV ps n1 4 := ⟨_, rfl⟩
    rw [← ha] at hq
    have ha2 : a < 4 := by rw [ha]; exact numV_lt _ _ (by omega)
    obtain ⟨c, hc⟩ : ∃ c, c = 97 + a := ⟨_, rfl⟩
    rw [← hc] at hq
    have HA := Lib.hid ha
    have HQ := Lib.hid hq
    obtain ⟨y, hy⟩ : ∃ y, y = listS [c] := ⟨_, rfl⟩
    have HY := Lib.hid hy
    clear hy
    have hm' : m = n2 := hm
    subst hm'
    have hc2 : c < 256 := by omega
    have HBV := Lib.hid (bv_ofNat hc2)
    have f1 := add97 hc (Nat.lt_trans ha2 (by decide))
    have f2 := add97' hc (Nat.lt_trans ha2 (by decide))
    have u1 := wrap_u8 hc2
    clear hq hm h0 h1 h2 h3 h4 hl8 ha hc
    go_enter Tryd.func44, Tryd.ntmps44
    go_wp2_with ((with_reducible refine atDst 2 ?_); refine wpList_new rfl 24 rfl i1 _ (wds z) hi1 HZ1.out rfl (Below.refl w.heap.size w) (Nat.le_refl _) ?_; intro w1 hk1 hb1 hs1 _; have K1 := Lib.hid hk1; have G1 := Lib.hid (below_grownG g hb1); have P1 := Lib.hid (HPK.out.below hb1); clear hk1 hb1 hs1; (try simp only [Act.put, List.setIfInBounds_toArray, List.set_cons_zero, List.set_cons_succ]))
    refine (num_any w1 g V ps n 8 P1.out (by omega) (by omega)).mono ?_
    rintro e w2 ⟨rfl, hg, hp⟩
    have G2 := Lib.hid (grownG_trans G1.out hg)
    have K2 := Lib.hid (K1.out.grown hg HNE.out)
    have P2 := Lib.hid hp
    rw [← HX0.out]
    rw [← HN1.out] at P2
    clear hg hp
    go_wp2_with fail
    refine (num_any w2 g V ps n1 4 P2.out (by omega) (by omega)).mono ?_
    rintro e w3 ⟨rfl, hg, hp⟩
    have G3 := Lib.hid (grownG_trans G2.out hg)
    have K3 := Lib.hid (K2.out.grown hg HNE.out)
    have P3 := Lib.hid hp
    clear hg hp
    rw [← HA.out]
    rw [← HN2.out] at P3
    go_wp2_with ((with_reducible refine atDst 48 ?_); refine wpList_bldB1 rfl 34 5 _ rfl i0 Tryd.underlying34 hi0 HY0.out hs0 (UInt8.ofNat c) HBV.out.symm ?_; intro w4 _ hr hb _; have R4 := Lib.hid hr; have K4 := Lib.hid (K3.out.below hb K3.out.lt); have G4 := Lib.hid (grownG_trans G3.out (below_grownG g hb)); have P4 := Lib.hid (P3.out.below hb); clear hr hb; (try simp only [Act.put, List.setIfInBounds_toArray, List.set_cons_zero, List.set_cons_succ]))
    refine (refOf1 c hc2 _ w4 R4.out q HQ.out).mono ?_
    rintro e w8 ⟨rfl, hb8⟩
    have G8 := Lib.hid (grownG_trans G4.out (below_grownG g hb8))
    have K8 := Lib.hid (K4.out.below hb8 K4.out.lt)
    have P8 := Lib.hid (P4.out.below hb8)
    clear hb8
    go_wp2_with ((with_reducible refine atStore 24 2 49 ?_); refine wpList_stBlk rfl 24 _ _ rfl w.heap.size (wds q) rfl rfl 24 _ K8.out (size_set q) rfl (wds_all _) (Below.refl w.heap.size w8) (Nat.le_refl _) ?_; intro w9 hk9 hb9 hs9 ho9; have K9 := Lib.hid hk9; have G9 := Lib.hid (grownG_below G8.out hb9); have P9 := Lib.hid (P8.out.other _ ho9 HPK.out.blk.lt hb9); clear hk9 hb9 hs9 ho9; (try simp only [Act.put, List.setIfInBounds_toArray, List.set_cons_zero, List.set_cons_succ]))
    refine bodyPost_ret (results_blk rfl _ _ w.heap.size 24 _ _ rfl K9.out Tryd.underlying24 rfl (size_set q)) rfl ?_
    exact ⟨rfl, G9.out, P9.out⟩
end Go.Proofs.YtmlojjgddmnbmaaDoor
namespace Go.Proofs.YtmlojjgddmnbmaaDoor
open Go.RowKit
set_option linter.unusedSimpArgs false
set_option linter.unusedVariables false

/-- The expression that is made at a depth where n numbers are read already, and how many are read then. -/
def rxP (ps : List UInt8) : Nat → Nat → Nat → T × Nat
  | 0, _, n => (noneT, n)
  | N + 1, deep, n =>
    if ps.length ≤ numN ps n ∨ 8 < deep ∨ numV ps n 9 < 3 then
      if ps.length ≤ numN ps n ∨ 0 < numV ps n 9 then (bytesT (setP ps (numN ps n)).1, (setP ps (numN ps n)).2)
      else if numV ps (numN ps n) 3 = 0 then (noneT, numN ps (numN ps n)) else (emptyT, numN ps (numN ps n))
    else if numV ps n 9 < 6 then (catT [(rxP ps N (deep + 1) (numN ps n)).1, (rxP ps N (deep + 1) (rxP ps N (deep + 1) (numN ps n)).2).1], (rxP ps N (deep + 1) (rxP ps N (deep + 1) (numN ps n)).2).2)
    else if numV ps n 9 < 8 then (altT [(rxP ps N (deep + 1) (numN ps n)).1, (rxP ps N (deep + 1) (rxP ps N (deep + 1) (numN ps n)).2).1], (rxP ps N (deep + 1) (rxP ps N (deep + 1) (numN ps n)).2).2)
    else (starT (rxP ps N (deep + 1) (numN ps n)).1, (rxP ps N (deep + 1) (numN ps n)).2)
theorem good_none : good noneT := good_node.2 ⟨can_zero, by simp, .inr rfl, by simp [countT], by simp, by simp⟩
theorem good_empty : good emptyT := good_node.2 ⟨can_zero, by simp, .inr rfl, by simp [countT], by simp, by simp⟩
theorem good_bytes {s : Nat → Bool} (h : canS s) : good (bytesT s) := by
  unfold bytesT
  cases hs : eqS s zeroS with
  | true => exact good_none
  | false => exact good_set h hs
theorem good_cat {l : List T} (h : ∀ t ∈ l, good t) : good (catT l) := by
  have hfg := good_flat (k := 4) h
  have hfk := flat_kind (k := 4) (.inl rfl) h
  unfold catT
  cases ha : anyK 1 (flatT 4 l) with
  | true => exact good_none
  | false =>
    rw [if_neg (by simp)]
    have hw : ∀ t ∈ withoutT 2 (flatT 4 l), good t ∧ t.kind ≠ 2 ∧ t.kind ≠ 1 ∧ t.kind ≠ 4 := fun t ht => by
      have hm := (List.mem_filter.1 ht).1
      refine ⟨hfg t hm, without_kind t ht, fun h1 => ?_, hfk t hm⟩
      have : anyK 1 (flatT 4 l) = true := List.any_eq_true.2 ⟨t, hm, by simpa using h1⟩
      rw [ha] at this
      cases this
    match hm : withoutT 2 (flatT 4 l) with
    | [] => exact good_empty
    | [t] => exact (hw t (by rw [hm]; simp)).1
    | a :: b :: r =>
      rw [hm] at hw
      refine good_node.2 ⟨can_zero, fun t ht => (hw t ht).1, .inr rfl, by simp [countT], fun t ht => ?_, fun h5 => by omega⟩
      obtain ⟨_, k2, k1, k4⟩ := hw t ht
      unfold fitsT
      rw [if_neg k2]
      simp [k1, k4]
theorem good_alt {l : List T} (h : ∀ t ∈ l, good t) : good (altT l) := by
  have hfg := good_flat (k := 5) h
  have hfk := flat_kind (k := 5) (.inr rfl) h
  have hwg := good_without (k := 1) hfg
  have hig := good_items hwg
  have hik : ∀ t ∈ itemsT (withoutT 1 (flatT 5 l)), t.kind ≠ 5 ∧ t.kind ≠ 1 ∧ (t.kind = 3 → t = .node 3 (orT (withoutT 1 (flatT 5 l))) []) := fun t ht => by
    unfold itemsT at ht
    rcases List.mem_append.1 ht with ht | ht
    · have h3 := without_kind t ht
      have ht2 := (List.mem_filter.1 ht).1
      exact ⟨hfk t (List.mem_filter.1 ht2).1, without_kind t ht2, fun h => absurd h h3⟩
    · split at ht
      · cases ht
      · obtain rfl := List.mem_singleton.1 ht
        exact ⟨by show (3 : Int) ≠ 5; omega, by show (3 : Int) ≠ 1; omega, fun _ => rfl⟩
  have hasc := sortU_asc (itemsT (withoutT 1 (flatT 5 l)))
  have hmem := fun t => sortU_mem hig t
  unfold altT
  obtain ⟨m, hm⟩ : ∃ m, m = sortU (itemsT (withoutT 1 (flatT 5 l))) := ⟨_, rfl⟩
  rw [← hm] at hasc hmem ⊢
  match m, hasc, hmem with
  | [], _, _ => exact good_none
  | [t], _, hmem => exact hig t ((hmem t).1 (by simp))
  | a :: b :: r, hasc, hmem =>
    refine good_node.2 ⟨can_zero, fun t ht => hig t ((hmem t).1 ht), .inr rfl, by simp [countT], fun t ht => ?_, fun _ => ascF_of _ (List.Pairwise.imp_of_mem (fun {x y} hx hy hxy => ⟨hxy, fun hk => ?_⟩) hasc)⟩
    · obtain ⟨k5, k1, _⟩ := hik t ((hmem t).1 ht)
      unfold fitsT
      split
      · rfl
      · simp [k1, k5]
    · have e1 := (hik x ((hmem x).1 hx)).2.2 hk.2
      have e2 := (hik y ((hmem y).1 hy)).2.2 hk.1
      rw [e1, e2, cmpT_self] at hxy
      omega
theorem good_args {r : T} (h : good r) : ∀ t ∈ r.args, good t := by
  cases r with
  | node k s l => exact (good_node.1 h).2.1
theorem good_star1 {r : T} (h : good r) : good (star1T r) := by
  unfold star1T
  split
  · exact h
  · split
    · exact good_empty
    · rename_i h6 h12
      refine good_node.2 ⟨can_zero, fun t ht => ?_, .inr rfl, by simp [countT], fun t ht => ?_, fun h5 => by omega⟩
      · obtain rfl := List.mem_singleton.1 ht
        exact h
      · obtain rfl := List.mem_singleton.1 ht
        unfold fitsT
        rw [if_neg (fun h2 => h12 (.inr h2))]
        simp [h6]
        exact fun h1 => h12 (.inl h1)
theorem good_star {r : T} (h : good r) : good (starT r) := by
  unfold starT
  split
  · exact good_star1 (good_alt fun t ht => good_args h t (List.mem_filter.1 ht).1)
  · exact good_star1 h
theorem star1_nodes (r : T) : (star1T r).nodes ≤ r.nodes + 1 := by
  have hp := nodes_pos r
  unfold star1T
  split
  · omega
  · split
    · show (1 : Nat) ≤ _
      omega
    · simp only [T.nodes, nodesL]; omega
theorem star_nodes (r : T) : (starT r).nodes ≤ r.nodes + 4 := by
  unfold starT
  split
  · have h1 := star1_nodes (altT (withoutT 2 r.args))
    have h2 := altT_nodes (withoutT 2 r.args)
    have h3 := withoutT_nodes 2 r.args
    have h4 : nodesL r.args ≤ r.nodes := by
      cases r with
      | node k s l => simp only [T.args, T.nodes]; omega
    omega
  · have := star1_nodes r
    omega
theorem rxP_good (ps : List UInt8) : ∀ N deep n, good (rxP ps N deep n).1
  | 0, _, _ => good_none
  | N + 1, deep, n => by
    have h1 := rxP_good ps N (deep + 1) (numN ps n)
    have h2 := rxP_good ps N (deep + 1) (rxP ps N (deep + 1) (numN ps n)).2
    have h12 : ∀ t ∈ [(rxP ps N (deep + 1) (numN ps n)).1, (rxP ps N (deep + 1) (rxP ps N (deep + 1) (numN ps n)).2).1], good t := fun t ht => by
      simp only [List.mem_cons, List.not_mem_nil, or_false] at ht
      rcases ht with rfl | rfl
      · exact h1
      · exact h2
    simp only [rxP]
    split
    · split
      · exact good_bytes (setP_can _ _)
      · split
        · exact good_none
        · exact good_empty
    · split
      · exact good_cat h12
      · split
        · exact good_alt h12
        · exact good_star h1
theorem rxP_nodes (ps : List UInt8) : ∀ N deep n, (rxP ps N deep n).1.nodes + 5 ≤ 6 * 2 ^ N
  | 0, _, _ => by show 1 + 5 ≤ 6 * 2 ^ 0; omega
  | N + 1, deep, n => by
    have h1 := rxP_nodes ps N (deep + 1) (numN ps n)
    have h2 := rxP_nodes ps N (deep + 1) (rxP ps N (deep + 1) (numN ps n)).2
    have hp : 1 ≤ 2 ^ N := Nat.one_le_two_pow
    have e : 2 ^ (N + 1) = 2 * 2 ^ N := by rw [Nat.pow_succ, Nat.mul_comm]
    have hc := catT_nodes [(rxP ps N (deep + 1) (numN ps n)).1, (rxP ps N (deep + 1) (rxP ps N (deep + 1) (numN ps n)).2).1]
    have ha := altT_nodes [(rxP ps N (deep + 1) (numN ps n)).1, (rxP ps N (deep + 1) (rxP ps N (deep + 1) (numN ps n)).2).1]
    have hs := star_nodes (rxP ps N (deep + 1) (numN ps n)).1
    simp only [nodesL] at hc ha
    rw [e]
    simp only [rxP]
    split
    · split
      · show (bytesT _).nodes + 5 ≤ _
        unfold bytesT
        split
        · show 1 + 5 ≤ _; omega
        · show 1 + 0 + 5 ≤ _; omega
      · split
        · show 1 + 5 ≤ _; omega
        · show 1 + 5 ≤ _; omega
    · split
      · show (catT _).nodes + 5 ≤ _; omega
      · split
        · show (altT _).nodes + 5 ≤ _; omega
        · show (starT _).nodes + 5 ≤ _; omega
end Go.Proofs.YtmlojjgddmnbmaaDoor
namespace Go.Proofs.YtmlojjgddmnbmaaDoor
open Go.RowKit
set_option linter.unusedSimpArgs false
set_option linter.unusedVariables false

section
variable {P : Program} {w : World} {o : Oper} {a : Act} {K : Act → World → Prop} {Q : Exit → Act → World → Prop}
theorem wp_of_run {v : Value} (h : (execOp a.eval o).run P w = .ok (.value v) w) (hk : K (a.put o.dst v) w) : o.wp P a w K Q := by
  unfold Oper.wp
  rw [h]
  exact hk
theorem run_bldT2 (t e : TypeId) (i : TypeInfo) (ht : P.underlying t = some (.slice e)) (hi : P.info? e = some i) (hz : i.zero = some (.agg (Value.int .i64 0 :: (wds (fun _ => false) ++ [.slice none 0 0])).toArray)) (hs : i.size = 6) (cs ds : List Value) (hc : cs.length = 6) (hl : ds.length = 6) :
    (Instr.buildSlice t 2 #[(0, .agg cs.toArray), (1, .agg ds.toArray)]).run P w = .ok (.slice (some ⟨w.heap.size, 0, none⟩) 2 2) (w.alloc (.cells (cs ++ ds).toArray e)) := by
  have hzv : (zeroValue e).run P w = .ok (.agg (Value.int .i64 0 :: (wds (fun _ => false) ++ [.slice none 0 0])).toArray) w := by simp [zeroValue, typeInfo, hi, hz]
  match cs, hc with
  | [c0, c1, c2, c3, c4, c5], _ =>
    match ds, hl with
    | [d0, d1, d2, d3, d4, d5], _ =>
      simp [Instr.buildSlice, run_underlying ht, sizeOf, typeInfo, hi, hs, hzv, Value.cells, Instr.fill, wds, Array.range_succ, Array.range_zero', newRow]
theorem wp_bldT2 (t e : TypeId) (x y : Operand) (ho : o.op = .buildSlice t 2 #[(0, x), (1, y)]) (i : TypeInfo) (ht : P.underlying t = some (.slice e)) (hi : P.info? e = some i) (hz : i.zero = some (.agg (Value.int .i64 0 :: (wds (fun _ => false) ++ [.slice none 0 0])).toArray)) (hs : i.size = 6) (cs ds : List Value) (hc : cs.length = 6) (hl : ds.length = 6)
    (hx : a.eval x = .agg cs.toArray) (hy : a.eval y = .agg ds.toArray)
    (h : ∀ w', Blk w' w.heap.size e (cs ++ ds) → Below w.heap.size w w' → w'.heap.size = w.heap.size + 1 → K (a.put o.dst (.slice (some ⟨w.heap.size, 0, none⟩) 2 2)) w') : o.wp P a w K Q := by
  have hrun := run_bldT2 (P := P) (w := w) t e i ht hi hz hs cs ds hc hl
  unfold Oper.wp
  simp only [execOp, ho, List.map_toArray, List.map_cons, List.map_nil, hx, hy, hrun, Sem.run_bind, Result.andThen_ok, Sem.run_pure]
  exact (h _ (Blk.new w e _) ((Below.refl _ _).alloc (Nat.le_refl _) _) (by simp))
end
/-- Two expressions in a block of their own. -/
theorem row_two {w : World} {g : Nat} {ty : TypeId} {cs ds : List Value} {t u : T} {B : Nat} (hb : Blk w g ty (cs ++ ds)) (hc : RxV B w cs t) (hd : RxV B w ds u) (hg : g < B) : RowT B w (.slice (some ⟨g, 0, none⟩) 2 2) [t, u] := by
  have hc6 := hc.length
  have hd6 := hd.length
  refine ⟨some ⟨g, 0, none⟩, 2, fun i => if i = 0 then cs else ds, rfl, Nat.le_refl _, by unfold maxLen; omega, (fun h => by cases h), fun _ => ⟨g, 0, rfl, hg, fun i hi => ?_⟩, fun i x hx => ?_⟩
  · have hi2 : i = 0 ∨ i = 1 := by simp at hi; omega
    rcases hi2 with rfl | rfl
    · intro j v hv
      have hj := (List.getElem?_eq_some_iff.1 hv).1
      have hv' : cs[j]? = some v := hv
      rw [hb.cell, show 0 + 0 * 6 + j = j by omega, List.getElem?_append_left (by have := (List.getElem?_eq_some_iff.1 hv').1; exact this)]
      exact hv'
    · intro j v hv
      have hv' : ds[j]? = some v := hv
      rw [hb.cell, show 0 + 1 * 6 + j = cs.length + j by omega, List.getElem?_append_right (by omega), show cs.length + j - cs.length = j by omega]
      exact hv'
  · match i, hx with
    | 0, hx =>
      obtain rfl : t = x := by simpa using hx
      exact hc
    | 1, hx =>
      obtain rfl : u = x := by simpa using hx
      exact hd
end Go.Proofs.YtmlojjgddmnbmaaDoor
namespace Go.Proofs.YtmlojjgddmnbmaaDoor
open Go.RowKit
set_option linter.unusedSimpArgs false
set_option linter.unusedVariables false

theorem refCatX (l : List T) (v : Value) (w : World) (hr : RowT w.heap.size w v l) (hn : nodesL l ≤ 549755813887) :
    Calls Tryd.prog 40 #[v] w fun e w' => ∃ ds, e = .returned (.agg ds.toArray) ∧ RxD (fun k => w.heap.size ≤ k ∧ k < w'.heap.size) w' ds (catT l) ∧ Below w.heap.size w w' := refCat_any l v w hr (by omega)
set_option maxHeartbeats 8000000 in
set_option maxRecDepth 1000000 in
theorem rx_any (g : Nat) (V : Value) (ps : List UInt8) : ∀ (N deep n : Nat) (w : World), N + deep = 10 → deep ≤ 9 → Pk w g V ps n →
    Calls Tryd.prog 28 #[.pointer (some ⟨g, 0, none⟩), .int .i64 (deep : Int)] w fun e w' => ∃ ds, e = .returned (.agg ds.toArray) ∧ RxD (fun k => w.heap.size ≤ k ∧ k < w'.heap.size) w' ds (rxP ps N deep n).1 ∧ w.grownBy w' (some g) ∧ Pk w' g V ps (rxP ps N deep n).2 := by
  intro N
  induction N with
  | zero => intro deep n w h1 h2; omega
  | succ N ih =>
    intro deep n w hN hdp h
    have IH := Lib.hid ih
    have HGD := Lib.hid (rxP_good ps N)
    have HND := Lib.hid (rxP_nodes ps N)
    clear ih
    have HPK := Lib.hid h
    have HNE := Lib.hid (show some w.heap.size ≠ some g from fun he => by have h1 := Option.some.inj he; have h2 := h.blk.lt; omega)
    obtain ⟨i0, hi0, hz0, hz1, hz2⟩ := inf_rx'
    obtain ⟨z, hz⟩ : ∃ z, z = rxc 0 zeroS (.slice none 0 0) := ⟨_, rfl⟩
    have HZL := Lib.hid (show z.length = 6 by rw [hz]; rfl)
    have HZ0 := Lib.hid (show i0.zero = some (.agg z.toArray) by rw [hz]; exact hz0)
    have HZ1 := Lib.hid hz0
    clear hz hz0
    obtain ⟨q, hq⟩ : ∃ q, q = (rxP ps (N + 1) deep n).1 := ⟨_, rfl⟩
    obtain ⟨m, hm⟩ : ∃ m, m = (rxP ps (N + 1) deep n).2 := ⟨_, rfl⟩
    rw [← hq, ← hm]
    simp only [rxP] at hq hm
    have hl9 := numV_lt ps n (m := 9) (by omega)
    obtain ⟨x0, hx0⟩ : ∃ x, x = numV ps n 9 := ⟨_, rfl⟩
    obtain ⟨n1, hn1⟩ : ∃ x, x = numN ps n := ⟨_, rfl⟩
    rw [← hx0, ← hn1] at hq hm
    rw [← hx0] at hl9
    have HX0 := Lib.hid hx0
    have HN1 := Lib.hid hn1
    clear h hx0 hn1
    by_cases ho : ps.length ≤ n1
    · have HOV := Lib.hid (decide_eq_true ho)
      rw [if_pos (.inl ho), if_pos (.inl ho)] at hq hm
      obtain ⟨s, hs⟩ : ∃ s, s = (setP ps n1).1 := ⟨_, rfl⟩
      have HS := Lib.hid hs
      have HQ := Lib.hid (show q = bytesT s by rw [hq, hs])
      have HM := Lib.hid (show m = (setP ps n1).2 from hm)
      clear hq hm hs ho hl9
      go_enter Tryd.func28, Tryd.ntmps28
      go_wp2_with ((with_reducible refine atDst 4 ?_); refine wpList_new rfl 27 rfl i0 _ z hi0 HZ0.out rfl (Below.refl w.heap.size w) (Nat.le_refl _) ?_; intro w1 hk1 hb1 hs1 _; have K1 := Lib.hid hk1; have G1 := Lib.hid (below_grownG g hb1); have P1 := Lib.hid (HPK.out.below hb1); clear hk1 hb1 hs1; (try simp only [Act.put, List.setIfInBounds_toArray, List.set_cons_zero, List.set_cons_succ]))
      refine (num_any w1 g V ps n 9 P1.out (by omega) (by omega)).mono ?_
      rintro e w2 ⟨rfl, hg, hp⟩
      have G2 := Lib.hid (grownG_trans G1.out hg)
      have K2 := Lib.hid (K1.out.grown hg HNE.out)
      have P2 := Lib.hid hp
      rw [← HX0.out]
      rw [← HN1.out] at P2
      clear hg hp
      go_wp2_with fail
      refine (over_any w2 g V ps n1 P2.out).mono ?_
      rintro e w3 ⟨rfl, hb⟩
      rw [HOV.out]
      have G3 := Lib.hid (grownG_trans G2.out (below_grownG g hb))
      have K3 := Lib.hid (K2.out.below hb K2.out.lt)
      have P3 := Lib.hid (P2.out.below hb)
      clear hb
      go_wp2_with fail
      refine (over_any w3 g V ps n1 P3.out).mono ?_
      rintro e w4 ⟨rfl, hb⟩
      rw [HOV.out]
      have G4 := Lib.hid (grownG_trans G3.out (below_grownG g hb))
      have K4 := Lib.hid (K3.out.below hb K3.out.lt)
      have P4 := Lib.hid (P3.out.below hb)
      clear hb
      go_wp2_with fail
      refine (set_any w4 g V ps n1 P4.out).mono ?_
      rintro e w5 ⟨rfl, hg, hp⟩
      have G5 := Lib.hid (grownG_trans G4.out hg)
      have K5 := Lib.hid (K4.out.grown hg HNE.out)
      have P5 := Lib.hid hp
      rw [← HS.out]
      clear hg hp
      go_wp2_with fail
      refine (refBytes_any s w5).mono ?_
      rintro e wx ⟨ds, rfl, hds, hb⟩
      have GX := Lib.hid (grownG_trans G5.out (below_grownG g hb))
      have KX := Lib.hid (K5.out.below hb K5.out.lt)
      have PX := Lib.hid (P5.out.below hb)
      have DX := Lib.hid hds
      have D6 := Lib.hid (hds fun _ => False).length
      have D1 := Lib.hid (show ds.all (·.oneCell') = true from List.all_eq_true.2 (RxD.one (hds fun _ => False)))
      clear hb hds
      go_wp2_with ((with_reducible refine atStore 27 4 28 ?_); refine wpList_stBlk rfl 27 _ _ rfl w.heap.size ds rfl rfl 27 _ KX.out (size_rx D6.out) (by rw [HZL.out, D6.out]) D1.out (Below.refl w.heap.size wx) (Nat.le_refl _) ?_; intro w9 hk9 hb9 hs9 ho9; have K9 := Lib.hid hk9; have G9 := Lib.hid (grownG_below GX.out hb9); have P9 := Lib.hid (PX.out.other _ ho9 HPK.out.blk.lt hb9); have D9 := Lib.hid (RxD.mono ((DX.out fun _ => False).stay (w' := w9) fun k hk => absurd hk id) (D' := fun k => w.heap.size ≤ k ∧ k < w9.heap.size) fun k hk => absurd hk id); clear hk9 hb9 hs9 ho9; (try simp only [Act.put, List.setIfInBounds_toArray, List.set_cons_zero, List.set_cons_succ]))
      refine bodyPost_ret (results_blk rfl _ _ w.heap.size 27 _ _ rfl K9.out Tryd.underlying27 rfl (size_rx D6.out)) rfl ?_
      exact ⟨ds, rfl, by rw [HQ.out]; exact D9.out, G9.out, by rw [HM.out]; exact P9.out⟩
    have HOV := Lib.hid (decide_eq_false ho)
    by_cases h8 : 8 < deep ∨ x0 < 3
    · rw [if_pos (.inr h8)] at hq hm
      by_cases d8 : 8 < deep
      · have g8 : (8 : Int) < (deep : Int) := by omega
        by_cases hp0 : 0 < x0
        · rw [if_pos (.inr hp0)] at hq hm
          have p0 : (0 : Int) < (x0 : Int) := by omega
          obtain ⟨s, hs⟩ : ∃ s, s = (setP ps n1).1 := ⟨_, rfl⟩
          have HS := Lib.hid hs
          have HQ := Lib.hid (show q = bytesT s by rw [hq, hs])
          have HM := Lib.hid (show m = (setP ps n1).2 from hm)
          clear hq hm hs ho hl9 hp0 h8
          go_enter Tryd.func28, Tryd.ntmps28
          go_wp2_with ((with_reducible refine atDst 4 ?_); refine wpList_new rfl 27 rfl i0 _ z hi0 HZ0.out rfl (Below.refl w.heap.size w) (Nat.le_refl _) ?_; intro w1 hk1 hb1 hs1 _; have K1 := Lib.hid hk1; have G1 := Lib.hid (below_grownG g hb1); have P1 := Lib.hid (HPK.out.below hb1); clear hk1 hb1 hs1; (try simp only [Act.put, List.setIfInBounds_toArray, List.set_cons_zero, List.set_cons_succ]))
          refine (num_any w1 g V ps n 9 P1.out (by omega) (by omega)).mono ?_
          rintro e w2 ⟨rfl, hg, hp⟩
          have G2 := Lib.hid (grownG_trans G1.out hg)
          have K2 := Lib.hid (K1.out.grown hg HNE.out)
          have P2 := Lib.hid hp
          rw [← HX0.out]
          rw [← HN1.out] at P2
          clear hg hp
          go_wp2_with fail
          refine (over_any w2 g V ps n1 P2.out).mono ?_
          rintro e w3 ⟨rfl, hb⟩
          rw [HOV.out]
          have G3 := Lib.hid (grownG_trans G2.out (below_grownG g hb))
          have K3 := Lib.hid (K2.out.below hb K2.out.lt)
          have P3 := Lib.hid (P2.out.below hb)
          clear hb
          go_wp2_with fail
          refine (over_any w3 g V ps n1 P3.out).mono ?_
          rintro e w4 ⟨rfl, hb⟩
          rw [HOV.out]
          have G4 := Lib.hid (grownG_trans G3.out (below_grownG g hb))
          have K4 := Lib.hid (K3.out.below hb K3.out.lt)
          have P4 := Lib.hid (P3.out.below hb)
          clear hb
          go_wp2_with fail
          refine (set_any w4 g V ps n1 P4.out).mono ?_
          rintro e w5 ⟨rfl, hg, hp⟩
          have G5 := Lib.hid (grownG_trans G4.out hg)
          have K5 := Lib.hid (K4.out.grown hg HNE.out)
          have P5 := Lib.hid hp
          rw [← HS.out]
          clear hg hp
          go_wp2_with fail
          refine (refBytes_any s w5).mono ?_
          rintro e wx ⟨ds, rfl, hds, hb⟩
          have GX := Lib.hid (grownG_trans G5.out (below_grownG g hb))
          have KX := Lib.hid (K5.out.below hb K5.out.lt)
          have PX := Lib.hid (P5.out.below hb)
          have DX := Lib.hid hds
          have D6 := Lib.hid (hds fun _ => False).length
          have D1 := Lib.hid (show ds.all (·.oneCell') = true from List.all_eq_true.2 (RxD.one (hds fun _ => False)))
          clear hb hds
          go_wp2_with ((with_reducible refine atStore 27 4 28 ?_); refine wpList_stBlk rfl 27 _ _ rfl w.heap.size ds rfl rfl 27 _ KX.out (size_rx D6.out) (by rw [HZL.out, D6.out]) D1.out (Below.refl w.heap.size wx) (Nat.le_refl _) ?_; intro w9 hk9 hb9 hs9 ho9; have K9 := Lib.hid hk9; have G9 := Lib.hid (grownG_below GX.out hb9); have P9 := Lib.hid (PX.out.other _ ho9 HPK.out.blk.lt hb9); have D9 := Lib.hid (RxD.mono ((DX.out fun _ => False).stay (w' := w9) fun k hk => absurd hk id) (D' := fun k => w.heap.size ≤ k ∧ k < w9.heap.size) fun k hk => absurd hk id); clear hk9 hb9 hs9 ho9; (try simp only [Act.put, List.setIfInBounds_toArray, List.set_cons_zero, List.set_cons_succ]))
          refine bodyPost_ret (results_blk rfl _ _ w.heap.size 27 _ _ rfl K9.out Tryd.underlying27 rfl (size_rx D6.out)) rfl ?_
          exact ⟨ds, rfl, by rw [HQ.out]; exact D9.out, G9.out, by rw [HM.out]; exact P9.out⟩
        · rw [if_neg (fun h => h.elim ho hp0)] at hq hm
          have p0 : ¬ ((0 : Int) < (x0 : Int)) := by omega
          obtain ⟨x1, hx1⟩ : ∃ x, x = numV ps n1 3 := ⟨_, rfl⟩
          obtain ⟨n2, hn2⟩ : ∃ x, x = numN ps n1 := ⟨_, rfl⟩
          rw [← hx1, ← hn2] at hq hm
          have HX1 := Lib.hid hx1
          have HN2 := Lib.hid hn2
          by_cases hz0 : x1 = 0
          · rw [if_pos hz0] at hq hm
            have s0 : ((x1 : Int) == 0) = true := by rw [hz0]; rfl
            have HQ := Lib.hid (show q = noneT from hq)
            have HM := Lib.hid (show m = n2 from hm)
            clear hq hm ho hl9 hp0 h8 hx1 hn2 hz0
            go_enter Tryd.func28, Tryd.ntmps28
            go_wp2_with ((with_reducible refine atDst 4 ?_); refine wpList_new rfl 27 rfl i0 _ z hi0 HZ0.out rfl (Below.refl w.heap.size w) (Nat.le_refl _) ?_; intro w1 hk1 hb1 hs1 _; have K1 := Lib.hid hk1; have G1 := Lib.hid (below_grownG g hb1); have P1 := Lib.hid (HPK.out.below hb1); clear hk1 hb1 hs1; (try simp only [Act.put, List.setIfInBounds_toArray, List.set_cons_zero, List.set_cons_succ]))
            refine (num_any w1 g V ps n 9 P1.out (by omega) (by omega)).mono ?_
            rintro e w2 ⟨rfl, hg, hp⟩
            have G2 := Lib.hid (grownG_trans G1.out hg)
            have K2 := Lib.hid (K1.out.grown hg HNE.out)
            have P2 := Lib.hid hp
            rw [← HX0.out]
            rw [← HN1.out] at P2
            clear hg hp
            go_wp2_with fail
            refine (over_any w2 g V ps n1 P2.out).mono ?_
            rintro e w3 ⟨rfl, hb⟩
            rw [HOV.out]
            have G3 := Lib.hid (grownG_trans G2.out (below_grownG g hb))
            have K3 := Lib.hid (K2.out.below hb K2.out.lt)
            have P3 := Lib.hid (P2.out.below hb)
            clear hb
            go_wp2_with fail
            refine (over_any w3 g V ps n1 P3.out).mono ?_
            rintro e w4 ⟨rfl, hb⟩
            rw [HOV.out]
            have G4 := Lib.hid (grownG_trans G3.out (below_grownG g hb))
            have K4 := Lib.hid (K3.out.below hb K3.out.lt)
            have P4 := Lib.hid (P3.out.below hb)
            clear hb
            go_wp2_with fail
            refine (num_any w4 g V ps n1 3 P4.out (by omega) (by omega)).mono ?_
            rintro e w5 ⟨rfl, hg, hp⟩
            have G5 := Lib.hid (grownG_trans G4.out hg)
            have K5 := Lib.hid (K4.out.grown hg HNE.out)
            have P5 := Lib.hid hp
            rw [← HX1.out]
            rw [← HN2.out] at P5
            clear hg hp
            go_wp2_with fail
            refine (refNone_any w5).mono ?_
            rintro e wx ⟨ds, rfl, hds, hb⟩
            have GX := Lib.hid (grownG_trans G5.out (below_grownG g hb))
            have KX := Lib.hid (K5.out.below hb K5.out.lt)
            have PX := Lib.hid (P5.out.below hb)
            have DX := Lib.hid hds
            have D6 := Lib.hid (hds fun _ => False).length
            have D1 := Lib.hid (show ds.all (·.oneCell') = true from List.all_eq_true.2 (RxD.one (hds fun _ => False)))
            clear hb hds
            go_wp2_with ((with_reducible refine atStore 27 4 33 ?_); refine wpList_stBlk rfl 27 _ _ rfl w.heap.size ds rfl rfl 27 _ KX.out (size_rx D6.out) (by rw [HZL.out, D6.out]) D1.out (Below.refl w.heap.size wx) (Nat.le_refl _) ?_; intro w9 hk9 hb9 hs9 ho9; have K9 := Lib.hid hk9; have G9 := Lib.hid (grownG_below GX.out hb9); have P9 := Lib.hid (PX.out.other _ ho9 HPK.out.blk.lt hb9); have D9 := Lib.hid (RxD.mono ((DX.out fun _ => False).stay (w' := w9) fun k hk => absurd hk id) (D' := fun k => w.heap.size ≤ k ∧ k < w9.heap.size) fun k hk => absurd hk id); clear hk9 hb9 hs9 ho9; (try simp only [Act.put, List.setIfInBounds_toArray, List.set_cons_zero, List.set_cons_succ]))
            refine bodyPost_ret (results_blk rfl _ _ w.heap.size 27 _ _ rfl K9.out Tryd.underlying27 rfl (size_rx D6.out)) rfl ?_
            exact ⟨ds, rfl, by rw [HQ.out]; exact D9.out, G9.out, by rw [HM.out]; exact P9.out⟩
          · rw [if_neg hz0] at hq hm
            have s0 : ((x1 : Int) == 0) = false := by rw [beq_eq_false_iff_ne]; omega
            have HQ := Lib.hid (show q = emptyT from hq)
            have HM := Lib.hid (show m = n2 from hm)
            clear hq hm ho hl9 hp0 h8 hx1 hn2 hz0
            go_enter Tryd.func28, Tryd.ntmps28
            go_wp2_with ((with_reducible refine atDst 4 ?_); refine wpList_new rfl 27 rfl i0 _ z hi0 HZ0.out rfl (Below.refl w.heap.size w) (Nat.le_refl _) ?_; intro w1 hk1 hb1 hs1 _; have K1 := Lib.hid hk1; have G1 := Lib.hid (below_grownG g hb1); have P1 := Lib.hid (HPK.out.below hb1); clear hk1 hb1 hs1; (try simp only [Act.put, List.setIfInBounds_toArray, List.set_cons_zero, List.set_cons_succ]))
            refine (num_any w1 g V ps n 9 P1.out (by omega) (by omega)).mono ?_
            rintro e w2 ⟨rfl, hg, hp⟩
            have G2 := Lib.hid (grownG_trans G1.out hg)
            have K2 := Lib.hid (K1.out.grown hg HNE.out)
            have P2 := Lib.hid hp
            rw [← HX0.out]
            rw [← HN1.out] at P2
            clear hg hp
            go_wp2_with fail
            refine (over_any w2 g V ps n1 P2.out).mono ?_
            rintro e w3 ⟨rfl, hb⟩
            rw [HOV.out]
            have G3 := Lib.hid (grownG_trans G2.out (below_grownG g hb))
            have K3 := Lib.hid (K2.out.below hb K2.out.lt)
            have P3 := Lib.hid (P2.out.below hb)
            clear hb
            go_wp2_with fail
            refine (over_any w3 g V ps n1 P3.out).mono ?_
            rintro e w4 ⟨rfl, hb⟩
            rw [HOV.out]
            have G4 := Lib.hid (grownG_trans G3.out (below_grownG g hb))
            have K4 := Lib.hid (K3.out.below hb K3.out.lt)
            have P4 := Lib.hid (P3.out.below hb)
            clear hb
            go_wp2_with fail
            refine (num_any w4 g V ps n1 3 P4.out (by omega) (by omega)).mono ?_
            rintro e w5 ⟨rfl, hg, hp⟩
            have G5 := Lib.hid (grownG_trans G4.out hg)
            have K5 := Lib.hid (K4.out.grown hg HNE.out)
            have P5 := Lib.hid hp
            rw [← HX1.out]
            rw [← HN2.out] at P5
            clear hg hp
            go_wp2_with fail
            refine (refEmpty_any w5).mono ?_
            rintro e wx ⟨ds, rfl, hds, hb⟩
            have GX := Lib.hid (grownG_trans G5.out (below_grownG g hb))
            have KX := Lib.hid (K5.out.below hb K5.out.lt)
            have PX := Lib.hid (P5.out.below hb)
            have DX := Lib.hid hds
            have D6 := Lib.hid (hds fun _ => False).length
            have D1 := Lib.hid (show ds.all (·.oneCell') = true from List.all_eq_true.2 (RxD.one (hds fun _ => False)))
            clear hb hds
            go_wp2_with ((with_reducible refine atStore 27 4 34 ?_); refine wpList_stBlk rfl 27 _ _ rfl w.heap.size ds rfl rfl 27 _ KX.out (size_rx D6.out) (by rw [HZL.out, D6.out]) D1.out (Below.refl w.heap.size wx) (Nat.le_refl _) ?_; intro w9 hk9 hb9 hs9 ho9; have K9 := Lib.hid hk9; have G9 := Lib.hid (grownG_below GX.out hb9); have P9 := Lib.hid (PX.out.other _ ho9 HPK.out.blk.lt hb9); have D9 := Lib.hid (RxD.mono ((DX.out fun _ => False).stay (w' := w9) fun k hk => absurd hk id) (D' := fun k => w.heap.size ≤ k ∧ k < w9.heap.size) fun k hk => absurd hk id); clear hk9 hb9 hs9 ho9; (try simp only [Act.put, List.setIfInBounds_toArray, List.set_cons_zero, List.set_cons_succ]))
            refine bodyPost_ret (results_blk rfl _ _ w.heap.size 27 _ _ rfl K9.out Tryd.underlying27 rfl (size_rx D6.out)) rfl ?_
            exact ⟨ds, rfl, by rw [HQ.out]; exact D9.out, G9.out, by rw [HM.out]; exact P9.out⟩
      · have g8 : ¬ ((8 : Int) < (deep : Int)) := by omega
        have g3 : (x0 : Int) < 3 := by have := h8.resolve_left d8; omega
        by_cases hp0 : 0 < x0
        · rw [if_pos (.inr hp0)] at hq hm
          have p0 : (0 : Int) < (x0 : Int) := by omega
          obtain ⟨s, hs⟩ : ∃ s, s = (setP ps n1).1 := ⟨_, rfl⟩
          have HS := Lib.hid hs
          have HQ := Lib.hid (show q = bytesT s by rw [hq, hs])
          have HM := Lib.hid (show m = (setP ps n1).2 from hm)
          clear hq hm hs ho hl9 hp0 h8
          go_enter Tryd.func28, Tryd.ntmps28
          go_wp2_with ((with_reducible refine atDst 4 ?_); refine wpList_new rfl 27 rfl i0 _ z hi0 HZ0.out rfl (Below.refl w.heap.size w) (Nat.le_refl _) ?_; intro w1 hk1 hb1 hs1 _; have K1 := Lib.hid hk1; have G1 := Lib.hid (below_grownG g hb1); have P1 := Lib.hid (HPK.out.below hb1); clear hk1 hb1 hs1; (try simp only [Act.put, List.setIfInBounds_toArray, List.set_cons_zero, List.set_cons_succ]))
          refine (num_any w1 g V ps n 9 P1.out (by omega) (by omega)).mono ?_
          rintro e w2 ⟨rfl, hg, hp⟩
          have G2 := Lib.hid (grownG_trans G1.out hg)
          have K2 := Lib.hid (K1.out.grown hg HNE.out)
          have P2 := Lib.hid hp
          rw [← HX0.out]
          rw [← HN1.out] at P2
          clear hg hp
          go_wp2_with fail
          refine (over_any w2 g V ps n1 P2.out).mono ?_
          rintro e w3 ⟨rfl, hb⟩
          rw [HOV.out]
          have G3 := Lib.hid (grownG_trans G2.out (below_grownG g hb))
          have K3 := Lib.hid (K2.out.below hb K2.out.lt)
          have P3 := Lib.hid (P2.out.below hb)
          clear hb
          go_wp2_with fail
          refine (over_any w3 g V ps n1 P3.out).mono ?_
          rintro e w4 ⟨rfl, hb⟩
          rw [HOV.out]
          have G4 := Lib.hid (grownG_trans G3.out (below_grownG g hb))
          have K4 := Lib.hid (K3.out.below hb K3.out.lt)
          have P4 := Lib.hid (P3.out.below hb)
          clear hb
          go_wp2_with fail
          refine (set_any w4 g V ps n1 P4.out).mono ?_
          rintro e w5 ⟨rfl, hg, hp⟩
          have G5 := Lib.hid (grownG_trans G4.out hg)
          have K5 := Lib.hid (K4.out.grown hg HNE.out)
          have P5 := Lib.hid hp
          rw [← HS.out]
          clear hg hp
          go_wp2_with fail
          refine (refBytes_any s w5).mono ?_
          rintro e wx ⟨ds, rfl, hds, hb⟩
          have GX := Lib.hid (grownG_trans G5.out (below_grownG g hb))
          have KX := Lib.hid (K5.out.below hb K5.out.lt)
          have PX := Lib.hid (P5.out.below hb)
          have DX := Lib.hid hds
          have D6 := Lib.hid (hds fun _ => False).length
          have D1 := Lib.hid (show ds.all (·.oneCell') = true from List.all_eq_true.2 (RxD.one (hds fun _ => False)))
          clear hb hds
          go_wp2_with ((with_reducible refine atStore 27 4 28 ?_); refine wpList_stBlk rfl 27 _ _ rfl w.heap.size ds rfl rfl 27 _ KX.out (size_rx D6.out) (by rw [HZL.out, D6.out]) D1.out (Below.refl w.heap.size wx) (Nat.le_refl _) ?_; intro w9 hk9 hb9 hs9 ho9; have K9 := Lib.hid hk9; have G9 := Lib.hid (grownG_below GX.out hb9); have P9 := Lib.hid (PX.out.other _ ho9 HPK.out.blk.lt hb9); have D9 := Lib.hid (RxD.mono ((DX.out fun _ => False).stay (w' := w9) fun k hk => absurd hk id) (D' := fun k => w.heap.size ≤ k ∧ k < w9.heap.size) fun k hk => absurd hk id); clear hk9 hb9 hs9 ho9; (try simp only [Act.put, List.setIfInBounds_toArray, List.set_cons_zero, List.set_cons_succ]))
          refine bodyPost_ret (results_blk rfl _ _ w.heap.size 27 _ _ rfl K9.out Tryd.underlying27 rfl (size_rx D6.out)) rfl ?_
          exact ⟨ds, rfl, by rw [HQ.out]; exact D9.out, G9.out, by rw [HM.out]; exact P9.out⟩
        · rw [if_neg (fun h => h.elim ho hp0)] at hq hm
          have p0 : ¬ ((0 : Int) < (x0 : Int)) := by omega
          obtain ⟨x1, hx1⟩ : ∃ x, x = numV ps n1 3 := ⟨_, rfl⟩
          obtain ⟨n2, hn2⟩ : ∃ x, x = numN ps n1 := ⟨_, rfl⟩
          rw [← hx1, ← hn2] at hq hm
          have HX1 := Lib.hid hx1
          have HN2 := Lib.hid hn2
          by_cases hz0 : x1 = 0
          · rw [if_pos hz0] at hq hm
            have s0 : ((x1 : Int) == 0) = true := by rw [hz0]; rfl
            have HQ := Lib.hid (show q = noneT from hq)
            have HM := Lib.hid (show m = n2 from hm)
            clear hq hm ho hl9 hp0 h8 hx1 hn2 hz0
            go_enter Tryd.func28, Tryd.ntmps28
            go_wp2_with ((with_reducible refine atDst 4 ?_); refine wpList_new rfl 27 rfl i0 _ z hi0 HZ0.out rfl (Below.refl w.heap.size w) (Nat.le_refl _) ?_; intro w1 hk1 hb1 hs1 _; have K1 := Lib.hid hk1; have G1 := Lib.hid (below_grownG g hb1); have P1 := Lib.hid (HPK.out.below hb1); clear hk1 hb1 hs1; (try simp only [Act.put, List.setIfInBounds_toArray, List.set_cons_zero, List.set_cons_succ]))
            refine (num_any w1 g V ps n 9 P1.out (by omega) (by omega)).mono ?_
            rintro e w2 ⟨rfl, hg, hp⟩
            have G2 := Lib.hid (grownG_trans G1.out hg)
            have K2 := Lib.hid (K1.out.grown hg HNE.out)
            have P2 := Lib.hid hp
            rw [← HX0.out]
            rw [← HN1.out] at P2
            clear hg hp
            go_wp2_with fail
            refine (over_any w2 g V ps n1 P2.out).mono ?_
            rintro e w3 ⟨rfl, hb⟩
            rw [HOV.out]
            have G3 := Lib.hid (grownG_trans G2.out (below_grownG g hb))
            have K3 := Lib.hid (K2.out.below hb K2.out.lt)
            have P3 := Lib.hid (P2.out.below hb)
            clear hb
            go_wp2_with fail
            refine (over_any w3 g V ps n1 P3.out).mono ?_
            rintro e w4 ⟨rfl, hb⟩
            rw [HOV.out]
            have G4 := Lib.hid (grownG_trans G3.out (below_grownG g hb))
            have K4 := Lib.hid (K3.out.below hb K3.out.lt)
            have P4 := Lib.hid (P3.out.below hb)
            clear hb
            go_wp2_with fail
            refine (num_any w4 g V ps n1 3 P4.out (by omega) (by omega)).mono ?_
            rintro e w5 ⟨rfl, hg, hp⟩
            have G5 := Lib.hid (grownG_trans G4.out hg)
            have K5 := Lib.hid (K4.out.grown hg HNE.out)
            have P5 := Lib.hid hp
            rw [← HX1.out]
            rw [← HN2.out] at P5
            clear hg hp
            go_wp2_with fail
            refine (refNone_any w5).mono ?_
            rintro e wx ⟨ds, rfl, hds, hb⟩
            have GX := Lib.hid (grownG_trans G5.out (below_grownG g hb))
            have KX := Lib.hid (K5.out.below hb K5.out.lt)
            have PX := Lib.hid (P5.out.below hb)
            have DX := Lib.hid hds
            have D6 := Lib.hid (hds fun _ => False).length
            have D1 := Lib.hid (show ds.all (·.oneCell') = true from List.all_eq_true.2 (RxD.one (hds fun _ => False)))
            clear hb hds
            go_wp2_with ((with_reducible refine atStore 27 4 33 ?_); refine wpList_stBlk rfl 27 _ _ rfl w.heap.size ds rfl rfl 27 _ KX.out (size_rx D6.out) (by rw [HZL.out, D6.out]) D1.out (Below.refl w.heap.size wx) (Nat.le_refl _) ?_; intro w9 hk9 hb9 hs9 ho9; have K9 := Lib.hid hk9; have G9 := Lib.hid (grownG_below GX.out hb9); have P9 := Lib.hid (PX.out.other _ ho9 HPK.out.blk.lt hb9); have D9 := Lib.hid (RxD.mono ((DX.out fun _ => False).stay (w' := w9) fun k hk => absurd hk id) (D' := fun k => w.heap.size ≤ k ∧ k < w9.heap.size) fun k hk => absurd hk id); clear hk9 hb9 hs9 ho9; (try simp only [Act.put, List.setIfInBounds_toArray, List.set_cons_zero, List.set_cons_succ]))
            refine bodyPost_ret (results_blk rfl _ _ w.heap.size 27 _ _ rfl K9.out Tryd.underlying27 rfl (size_rx D6.out)) rfl ?_
            exact ⟨ds, rfl, by rw [HQ.out]; exact D9.out, G9.out, by rw [HM.out]; exact P9.out⟩
          · rw [if_neg hz0] at hq hm
            have s0 : ((x1 : Int) == 0) = false := by rw [beq_eq_false_iff_ne]; omega
            have HQ := Lib.hid (show q = emptyT from hq)
            have HM := Lib.hid (show m = n2 from hm)
            clear hq hm ho hl9 hp0 h8 hx1 hn2 hz0
            go_enter Tryd.func28, Tryd.ntmps28
            go_wp2_with ((with_reducible refine atDst 4 ?_); refine wpList_new rfl 27 rfl i0 _ z hi0 HZ0.out rfl (Below.refl w.heap.size w) (Nat.le_refl _) ?_; intro w1 hk1 hb1 hs1 _; have K1 := Lib.hid hk1; have G1 := Lib.hid (below_grownG g hb1); have P1 := Lib.hid (HPK.out.below hb1); clear hk1 hb1 hs1; (try simp only [Act.put, List.setIfInBounds_toArray, List.set_cons_zero, List.set_cons_succ]))
            refine (num_any w1 g V ps n 9 P1.out (by omega) (by omega)).mono ?_
            rintro e w2 ⟨rfl, hg, hp⟩
            have G2 := Lib.hid (grownG_trans G1.out hg)
            have K2 := Lib.hid (K1.out.grown hg HNE.out)
            have P2 := Lib.hid hp
            rw [← HX0.out]
            rw [← HN1.out] at P2
            clear hg hp
            go_wp2_with fail
            refine (over_any w2 g V ps n1 P2.out).mono ?_
            rintro e w3 ⟨rfl, hb⟩
            rw [HOV.out]
            have G3 := Lib.hid (grownG_trans G2.out (below_grownG g hb))
            have K3 := Lib.hid (K2.out.below hb K2.out.lt)
            have P3 := Lib.hid (P2.out.below hb)
            clear hb
            go_wp2_with fail
            refine (over_any w3 g V ps n1 P3.out).mono ?_
            rintro e w4 ⟨rfl, hb⟩
            rw [HOV.out]
            have G4 := Lib.hid (grownG_trans G3.out (below_grownG g hb))
            have K4 := Lib.hid (K3.out.below hb K3.out.lt)
            have P4 := Lib.hid (P3.out.below hb)
            clear hb
            go_wp2_with fail
            refine (num_any w4 g V ps n1 3 P4.out (by omega) (by omega)).mono ?_
            rintro e w5 ⟨rfl, hg, hp⟩
            have G5 := Lib.hid (grownG_trans G4.out hg)
            have K5 := Lib.hid (K4.out.grown hg HNE.out)
            have P5 := Lib.hid hp
            rw [← HX1.out]
            rw [← HN2.out] at P5
            clear hg hp
            go_wp2_with fail
            refine (refEmpty_any w5).mono ?_
            rintro e wx ⟨ds, rfl, hds, hb⟩
            have GX := Lib.hid (grownG_trans G5.out (below_grownG g hb))
            have KX := Lib.hid (K5.out.below hb K5.out.lt)
            have PX := Lib.hid (P5.out.below hb)
            have DX := Lib.hid hds
            have D6 := Lib.hid (hds fun _ => False).length
            have D1 := Lib.hid (show ds.all (·.oneCell') = true from List.all_eq_true.2 (RxD.one (hds fun _ => False)))
            clear hb hds
            go_wp2_with ((with_reducible refine atStore 27 4 34 ?_); refine wpList_stBlk rfl 27 _ _ rfl w.heap.size ds rfl rfl 27 _ KX.out (size_rx D6.out) (by rw [HZL.out, D6.out]) D1.out (Below.refl w.heap.size wx) (Nat.le_refl _) ?_; intro w9 hk9 hb9 hs9 ho9; have K9 := Lib.hid hk9; have G9 := Lib.hid (grownG_below GX.out hb9); have P9 := Lib.hid (PX.out.other _ ho9 HPK.out.blk.lt hb9); have D9 := Lib.hid (RxD.mono ((DX.out fun _ => False).stay (w' := w9) fun k hk => absurd hk id) (D' := fun k => w.heap.size ≤ k ∧ k < w9.heap.size) fun k hk => absurd hk id); clear hk9 hb9 hs9 ho9; (try simp only [Act.put, List.setIfInBounds_toArray, List.set_cons_zero, List.set_cons_succ]))
            refine bodyPost_ret (results_blk rfl _ _ w.heap.size 27 _ _ rfl K9.out Tryd.underlying27 rfl (size_rx D6.out)) rfl ?_
            exact ⟨ds, rfl, by rw [HQ.out]; exact D9.out, G9.out, by rw [HM.out]; exact P9.out⟩
    have h8' : ¬ (ps.length ≤ n1 ∨ 8 < deep ∨ x0 < 3) := fun h => h.elim ho h8
    rw [if_neg h8'] at hq hm
    have g8 : ¬ ((8 : Int) < (deep : Int)) := by omega
    have g3 : ¬ ((x0 : Int) < 3) := by omega
    have e3 := wrap_one deep (by omega)
    have e4 := wrap_one' deep (by omega)
    obtain ⟨tx, htx⟩ : ∃ x, x = (rxP ps N (deep + 1) n1).1 := ⟨_, rfl⟩
    obtain ⟨n2, hn2⟩ : ∃ x, x = (rxP ps N (deep + 1) n1).2 := ⟨_, rfl⟩
    rw [← htx, ← hn2] at hq hm
    have HTX := Lib.hid htx
    have HN2 := Lib.hid hn2
    have HGX := Lib.hid (show good tx by rw [htx]; exact HGD.out _ _)
    have HP2 := Lib.hid (show 6 * 2 ^ N ≤ 3072 from by
      have : 2 ^ N ≤ 2 ^ 9 := Nat.pow_le_pow_right (by omega) (by omega)
      omega)
    have HNX := Lib.hid (show tx.nodes ≤ 3072 by rw [htx]; have h1 := HND.out (deep + 1) n1; have h2 := HP2.out; omega)
    have GL3 := Lib.hid (show g < w.heap.size from HPK.out.blk.lt)
    obtain ⟨ty, hty⟩ : ∃ x, x = (rxP ps N (deep + 1) n2).1 := ⟨_, rfl⟩
    have HTY := Lib.hid hty
    have HNL := Lib.hid (show nodesL [tx, ty] ≤ 549755813887 by
      have h1 := HND.out (deep + 1) n2
      have h2 := HP2.out
      have h3 := HNX.out
      rw [← hty] at h1
      simp only [nodesL]
      omega)
    clear htx hn2 ho h8 h8'
    by_cases hx3 : x0 = 3
    · have z3 : ((x0 : Int) == 3) = true := by rw [hx3]; rfl
      rw [if_pos (by omega), ← hty] at hq
      rw [if_pos (by omega)] at hm
      have HQ := Lib.hid (show q = catT [tx, ty] from hq)
      have HM := Lib.hid (show m = (rxP ps N (deep + 1) n2).2 from hm)
      clear hq hm hty hl9 hx3
      go_enter Tryd.func28, Tryd.ntmps28
      go_wp2_with ((with_reducible refine atDst 4 ?_); refine wpList_new rfl 27 rfl i0 _ z hi0 HZ0.out rfl (Below.refl w.heap.size w) (Nat.le_refl _) ?_; intro w1 hk1 hb1 hs1 _; have K1 := Lib.hid hk1; have G1 := Lib.hid (below_grownG g hb1); have P1 := Lib.hid (HPK.out.below hb1); clear hk1 hb1 hs1; (try simp only [Act.put, List.setIfInBounds_toArray, List.set_cons_zero, List.set_cons_succ]))
      refine (num_any w1 g V ps n 9 P1.out (by omega) (by omega)).mono ?_
      rintro e w2 ⟨rfl, hg, hp⟩
      have G2 := Lib.hid (grownG_trans G1.out hg)
      have K2 := Lib.hid (K1.out.grown hg HNE.out)
      have P2 := Lib.hid hp
      rw [← HX0.out]
      rw [← HN1.out] at P2
      clear hg hp
      go_wp2_with fail
      refine (over_any w2 g V ps n1 P2.out).mono ?_
      rintro e w3 ⟨rfl, hb⟩
      rw [HOV.out]
      have G3 := Lib.hid (grownG_trans G2.out (below_grownG g hb))
      have K3 := Lib.hid (K2.out.below hb K2.out.lt)
      have P3 := Lib.hid (P2.out.below hb)
      clear hb
      go_wp2_with fail
      refine (show Calls Tryd.prog 28 #[.pointer (some ⟨g, 0, none⟩), .int .i64 ((deep : Int) + 1)] w3 _ from IH.out (deep + 1) n1 w3 (by omega) (by omega) P3.out).mono ?_
      rintro e w4 ⟨cs, rfl, hcs, hg, hp⟩
      have D4 := Lib.hid hcs
      have C6 := Lib.hid hcs.length
      have C1 := Lib.hid (show cs.all (·.oneCell') = true from List.all_eq_true.2 (RxD.one hcs))
      have G4 := Lib.hid (grownG_trans G3.out hg)
      have K4 := Lib.hid (K3.out.grown hg HNE.out)
      have P4 := Lib.hid hp
      have S3 := Lib.hid G3.out.size
      have S4 := Lib.hid hg.size
      rw [← HTX.out] at D4
      rw [← HN2.out] at P4
      clear hcs hg hp
      go_wp2_with (first
        | ((with_reducible refine atDst 6 ?_); refine wpList_new rfl 27 rfl i0 _ z hi0 HZ0.out rfl (Below.refl w4.heap.size w4) (Nat.le_refl _) ?_; intro w5 hk hb hs ho; have L5 := Lib.hid hk; have B5 := Lib.hid hb; clear hk hb hs ho; (try simp only [Act.put, List.setIfInBounds_toArray, List.set_cons_zero, List.set_cons_succ]))
        | ((with_reducible refine atStore 27 6 38 ?_); refine wpList_stBlk rfl 27 _ _ rfl w4.heap.size cs rfl rfl 27 _ L5.out (size_rx C6.out) (by rw [HZL.out, C6.out]) C1.out B5.out (Nat.le_refl _) ?_; intro w6 hk hb hs ho; have L6 := Lib.hid hk; have B6 := Lib.hid hb; clear hk hb hs ho; (try simp only [Act.put, List.setIfInBounds_toArray, List.set_cons_zero, List.set_cons_succ])))
      have G6 := Lib.hid (grownG_trans G4.out (below_grownG g B6.out))
      have K6 := Lib.hid (K4.out.below B6.out K4.out.lt)
      have P6 := Lib.hid (P4.out.below B6.out)
      have D6 := Lib.hid (D4.out.stay (w' := w6) fun k hk => B6.out.block k hk.2)
      have NX := Lib.hid (show some w4.heap.size ≠ some g from fun he => by have h1 := Option.some.inj he; have h2 := P4.out.blk.lt; omega)
      have GL := Lib.hid P4.out.blk.lt
      refine sx_startB (B := g) (w0 := w6) (by kernel_rfl) (Below.refl _ _) (fun wd hwd hX => ?_)
      have hbd := (Below.refl w6.heap.size w6).drew
      rw [← hwd] at hbd
      have G7 := Lib.hid (grownG_trans G6.out (below_grownG g hbd))
      have K7 := Lib.hid (K6.out.below hbd K6.out.lt)
      have L7 := Lib.hid (L6.out.below hbd L6.out.lt)
      have P7 := Lib.hid (P6.out.below hbd)
      have S7 := Lib.hid (Nat.le_trans B6.out.size hbd.size)
      have D7 := Lib.hid (D6.out.stay (w' := wd) fun k hk => hbd.block k (Nat.lt_of_lt_of_le hk.2 B6.out.size))
      clear hwd hbd
      refine sx_take (i := 1) (oi := ⟨some 45, _, _, _, _, _⟩) (v := ?_) rfl (by kernel_rfl) (by kernel_rfl) (by kernel_rfl) (fun _ _ _ h => h) rfl hX ?_ ?_; rotate_left; (intro W hW; go_simp; try with_reducible rfl); simp only [Act.put, List.setIfInBounds_toArray, List.set_cons_zero, List.set_cons_succ]
      refine sx_take (i := 2) (oi := ⟨some 46, _, _, _, _, _⟩) (v := ?_) rfl (by kernel_rfl) (by kernel_rfl) (by kernel_rfl) (fun _ _ _ h => h) rfl hX ?_ ?_; rotate_left; (intro W hW; go_simp; try with_reducible rfl); simp only [Act.put, List.setIfInBounds_toArray, List.set_cons_zero, List.set_cons_succ]
      refine sx_take (i := 3) (oi := ⟨some 47, _, _, _, _, _⟩) (v := ?_) rfl (by kernel_rfl) (by kernel_rfl) (by kernel_rfl) (fun _ _ _ h => h) rfl hX ?_ ?_; rotate_left; (intro W hW; go_simp; try with_reducible rfl); simp only [Act.put, List.setIfInBounds_toArray, List.set_cons_zero, List.set_cons_succ]
      refine sx_two (i := 0) (j := 4) (oi := ⟨some 44, _, _, _, _, _⟩) (oj := ⟨some 48, _, _, _, _, _⟩) rfl rfl (by kernel_rfl) rfl rfl hX (fun K hK => ?_) (fun K hK => ?_)
      · refine wp_of_run (ld_blk 27 _ rfl w4.heap.size rfl 27 _ _ L7.out L7.out.lt Tryd.underlying27 rfl (size_rx C6.out) wd (Below.refl _ _)) ?_
        refine hK _ _ (Below.refl _ _) ?_
        (try simp only [Act.put, List.setIfInBounds_toArray, List.set_cons_zero, List.set_cons_succ])
        clear hK K
        refine sx_actB (i := 4) (o := ⟨some 48, _, _, _, _, _⟩) rfl (by kernel_rfl) rfl hX (fun K hK => ?_)
        go_wp2_with fail
        refine (show Calls Tryd.prog 28 #[.pointer (some ⟨g, 0, none⟩), .int .i64 ((deep : Int) + 1)] wd _ from IH.out (deep + 1) n2 wd (by omega) (by omega) P7.out).mono ?_
        rintro e w8 ⟨ds, rfl, hds, hg, hp⟩
        go_wp2_with fail
        have hbg := grown_belowG hg P7.out.blk.lt
        refine hK _ _ hbg ?_
        (try simp only [Act.put, List.setIfInBounds_toArray, List.set_cons_zero, List.set_cons_succ])
        clear hK K
        replace hX := hX.trans hbg
        have Y8 := Lib.hid hds
        have Y6 := Lib.hid hds.length
        have G8 := Lib.hid (grownG_trans G7.out hg)
        have K8 := Lib.hid (K7.out.grown hg HNE.out)
        have L8 := Lib.hid (L7.out.grown hg NX.out)
        have P8 := Lib.hid hp
        have S8 := Lib.hid hg.size
        have D8 := Lib.hid (D7.out.stay (w' := w8) fun k hk => hg.block k (Nat.lt_of_lt_of_le hk.2 S7.out) (fun he => by have h1 := Option.some.inj he; have h2 := GL3.out; have h3 := hk.1; have h4 := S3.out; omega))
        rw [← HTY.out] at Y8
        rw [← HM.out] at P8
        clear hds hg hp hbg
        refine sx_actB (i := 5) (o := ⟨some 49, _, _, _, _, _⟩) rfl (by kernel_rfl) rfl hX (fun K hK => ?_)
        refine wp_bldT2 25 27 (.tmp 44) (.tmp 48) rfl i0 Tryd.underlying25 hi0 HZ1.out hz1 cs ds C6.out Y6.out rfl rfl ?_
        intro w9 hk hb hs
        refine hK _ _ (hb.mono (Nat.le_of_lt P8.out.blk.lt)) ?_
        (try simp only [Act.put, List.setIfInBounds_toArray, List.set_cons_zero, List.set_cons_succ])
        clear hK K
        replace hX := hX.trans (hb.mono (Nat.le_of_lt P8.out.blk.lt))
        have M9 := Lib.hid hk
        have G9 := Lib.hid (grownG_trans G8.out (below_grownG g hb))
        have K9 := Lib.hid (K8.out.below hb K8.out.lt)
        have P9 := Lib.hid (P8.out.below hb)
        have X9 := Lib.hid (show RxV w9.heap.size w9 cs tx from RxD.mono (D8.out.stay (w' := w9) fun k hk => hb.block k (Nat.lt_of_lt_of_le hk.2 (Nat.le_trans S7.out S8.out))) fun k hk => by have h1 := S7.out; have h2 := S8.out; have h3 := hk.2; have h4 := hb.size; omega)
        have Z9 := Lib.hid (show RxV w9.heap.size w9 ds ty from RxD.mono (Y8.out.stay (w' := w9) fun k hk => hb.block k hk.2) fun k hk => by have h3 := hk.2; have h4 := hb.size; omega)
        have LT9 := Lib.hid (show w8.heap.size < w9.heap.size by rw [hs]; omega)
        clear hk hb hs
        refine sx_actB (i := 6) (o := ⟨some 50, _, _, _, _, _⟩) rfl (by kernel_rfl) rfl hX (fun K hK => ?_)
        go_wp2_with fail
        refine (refCatX [tx, ty] _ w9 (row_two M9.out X9.out Z9.out LT9.out) HNL.out).mono ?_
        rintro e wx ⟨es, rfl, hes, hb⟩
        go_wp2_with fail
        refine hK _ _ (hb.mono (Nat.le_of_lt P9.out.blk.lt)) ?_
        (try simp only [Act.put, List.setIfInBounds_toArray, List.set_cons_zero, List.set_cons_succ])
        clear hK K
        replace hX := hX.trans (hb.mono (Nat.le_of_lt P9.out.blk.lt))
        have E10 := Lib.hid hes
        have E6 := Lib.hid hes.length
        have E1 := Lib.hid (show es.all (·.oneCell') = true from List.all_eq_true.2 (RxD.one hes))
        have GX := Lib.hid (grownG_trans G9.out (below_grownG g hb))
        have KX := Lib.hid (K9.out.below hb K9.out.lt)
        have PX := Lib.hid (P9.out.below hb)
        have SX := Lib.hid (show w.heap.size < w9.heap.size from K9.out.lt)
        clear hes hb
        refine sx_actB (i := 7) (o := ⟨none, _, _, _, _, _⟩) rfl (by kernel_rfl) rfl hX (fun K hK => ?_)
        refine wp_stBlk 27 _ _ rfl w.heap.size es rfl rfl 27 _ KX.out (size_rx E6.out) (by rw [HZL.out, E6.out]) E1.out (Below.refl w.heap.size wx) (Nat.le_refl _) ?_
        intro w11 hk hb hs ho hbB
        refine hK _ _ (hbB g (Nat.le_of_lt HPK.out.blk.lt)) ?_
        (try simp only [Act.put, List.setIfInBounds_toArray, List.set_cons_zero, List.set_cons_succ])
        clear hK K hX hbB
        have K11 := Lib.hid hk
        have G11 := Lib.hid (grownG_below GX.out hb)
        have P11 := Lib.hid (PX.out.other _ ho HPK.out.blk.lt hb)
        have E11 := Lib.hid (RxD.mono (E10.out.stay (w' := w11) fun k hk => ho k (by have h1 := hk.1; have h2 := SX.out; omega)) (D' := fun k => w.heap.size ≤ k ∧ k < w11.heap.size) fun k hk => ⟨by have h1 := hk.1; have h2 := SX.out; omega, by have h1 := hk.2; omega⟩)
        clear hk hb hs ho
        refine wpAnyH_done (by kernel_rfl) ?_ _
        go_wp2_with fail
        refine bodyPost_ret (results_blk rfl _ _ w.heap.size 27 _ _ rfl K11.out Tryd.underlying27 rfl (size_rx E6.out)) rfl ?_
        exact ⟨es, rfl, by rw [HQ.out]; exact E11.out, G11.out, P11.out⟩
      · go_wp2_with fail
        refine (show Calls Tryd.prog 28 #[.pointer (some ⟨g, 0, none⟩), .int .i64 ((deep : Int) + 1)] wd _ from IH.out (deep + 1) n2 wd (by omega) (by omega) P7.out).mono ?_
        rintro e w8 ⟨ds, rfl, hds, hg, hp⟩
        go_wp2_with fail
        have hbg := grown_belowG hg P7.out.blk.lt
        refine hK _ _ hbg ?_
        (try simp only [Act.put, List.setIfInBounds_toArray, List.set_cons_zero, List.set_cons_succ])
        clear hK K
        replace hX := hX.trans hbg
        have Y8 := Lib.hid hds
        have Y6 := Lib.hid hds.length
        have G8 := Lib.hid (grownG_trans G7.out hg)
        have K8 := Lib.hid (K7.out.grown hg HNE.out)
        have L8 := Lib.hid (L7.out.grown hg NX.out)
        have P8 := Lib.hid hp
        have S8 := Lib.hid hg.size
        have D8 := Lib.hid (D7.out.stay (w' := w8) fun k hk => hg.block k (Nat.lt_of_lt_of_le hk.2 S7.out) (fun he => by have h1 := Option.some.inj he; have h2 := GL3.out; have h3 := hk.1; have h4 := S3.out; omega))
        rw [← HTY.out] at Y8
        rw [← HM.out] at P8
        clear hds hg hp hbg
        refine sx_actB (i := 0) (o := ⟨some 44, _, _, _, _, _⟩) rfl (by kernel_rfl) rfl hX (fun K hK => ?_)
        refine wp_of_run (ld_blk 27 _ rfl w4.heap.size rfl 27 _ _ L8.out L8.out.lt Tryd.underlying27 rfl (size_rx C6.out) w8 (Below.refl _ _)) ?_
        refine hK _ _ (Below.refl _ _) ?_
        (try simp only [Act.put, List.setIfInBounds_toArray, List.set_cons_zero, List.set_cons_succ])
        clear hK K
        refine sx_actB (i := 5) (o := ⟨some 49, _, _, _, _, _⟩) rfl (by kernel_rfl) rfl hX (fun K hK => ?_)
        refine wp_bldT2 25 27 (.tmp 44) (.tmp 48) rfl i0 Tryd.underlying25 hi0 HZ1.out hz1 cs ds C6.out Y6.out rfl rfl ?_
        intro w9 hk hb hs
        refine hK _ _ (hb.mono (Nat.le_of_lt P8.out.blk.lt)) ?_
        (try simp only [Act.put, List.setIfInBounds_toArray, List.set_cons_zero, List.set_cons_succ])
        clear hK K
        replace hX := hX.trans (hb.mono (Nat.le_of_lt P8.out.blk.lt))
        have M9 := Lib.hid hk
        have G9 := Lib.hid (grownG_trans G8.out (below_grownG g hb))
        have K9 := Lib.hid (K8.out.below hb K8.out.lt)
        have P9 := Lib.hid (P8.out.below hb)
        have X9 := Lib.hid (show RxV w9.heap.size w9 cs tx from RxD.mono (D8.out.stay (w' := w9) fun k hk => hb.block k (Nat.lt_of_lt_of_le hk.2 (Nat.le_trans S7.out S8.out))) fun k hk => by have h1 := S7.out; have h2 := S8.out; have h3 := hk.2; have h4 := hb.size; omega)
        have Z9 := Lib.hid (show RxV w9.heap.size w9 ds ty from RxD.mono (Y8.out.stay (w' := w9) fun k hk => hb.block k hk.2) fun k hk => by have h3 := hk.2; have h4 := hb.size; omega)
        have LT9 := Lib.hid (show w8.heap.size < w9.heap.size by rw [hs]; omega)
        clear hk hb hs
        refine sx_actB (i := 6) (o := ⟨some 50, _, _, _, _, _⟩) rfl (by kernel_rfl) rfl hX (fun K hK => ?_)
        go_wp2_with fail
        refine (refCatX [tx, ty] _ w9 (row_two M9.out X9.out Z9.out LT9.out) HNL.out).mono ?_
        rintro e wx ⟨es, rfl, hes, hb⟩
        go_wp2_with fail
        refine hK _ _ (hb.mono (Nat.le_of_lt P9.out.blk.lt)) ?_
        (try simp only [Act.put, List.setIfInBounds_toArray, List.set_cons_zero, List.set_cons_succ])
        clear hK K
        replace hX := hX.trans (hb.mono (Nat.le_of_lt P9.out.blk.lt))
        have E10 := Lib.hid hes
        have E6 := Lib.hid hes.length
        have E1 := Lib.hid (show es.all (·.oneCell') = true from List.all_eq_true.2 (RxD.one hes))
        have GX := Lib.hid (grownG_trans G9.out (below_grownG g hb))
        have KX := Lib.hid (K9.out.below hb K9.out.lt)
        have PX := Lib.hid (P9.out.below hb)
        have SX := Lib.hid (show w.heap.size < w9.heap.size from K9.out.lt)
        clear hes hb
        refine sx_actB (i := 7) (o := ⟨none, _, _, _, _, _⟩) rfl (by kernel_rfl) rfl hX (fun K hK => ?_)
        refine wp_stBlk 27 _ _ rfl w.heap.size es rfl rfl 27 _ KX.out (size_rx E6.out) (by rw [HZL.out, E6.out]) E1.out (Below.refl w.heap.size wx) (Nat.le_refl _) ?_
        intro w11 hk hb hs ho hbB
        refine hK _ _ (hbB g (Nat.le_of_lt HPK.out.blk.lt)) ?_
        (try simp only [Act.put, List.setIfInBounds_toArray, List.set_cons_zero, List.set_cons_succ])
        clear hK K hX hbB
        have K11 := Lib.hid hk
        have G11 := Lib.hid (grownG_below GX.out hb)
        have P11 := Lib.hid (PX.out.other _ ho HPK.out.blk.lt hb)
        have E11 := Lib.hid (RxD.mono (E10.out.stay (w' := w11) fun k hk => ho k (by have h1 := hk.1; have h2 := SX.out; omega)) (D' := fun k => w.heap.size ≤ k ∧ k < w11.heap.size) fun k hk => ⟨by have h1 := hk.1; have h2 := SX.out; omega, by have h1 := hk.2; omega⟩)
        clear hk hb hs ho
        refine wpAnyH_done (by kernel_rfl) ?_ _
        go_wp2_with fail
        refine bodyPost_ret (results_blk rfl _ _ w.heap.size 27 _ _ rfl K11.out Tryd.underlying27 rfl (size_rx E6.out)) rfl ?_
        exact ⟨es, rfl, by rw [HQ.out]; exact E11.out, G11.out, P11.out⟩
    have z3 : ((x0 : Int) == 3) = false := by rw [beq_eq_false_iff_ne]; omega
    by_cases hx4 : x0 = 4
    · have z4 : ((x0 : Int) == 4) = true := by rw [hx4]; rfl
      rw [if_pos (by omega), ← hty] at hq
      rw [if_pos (by omega)] at hm
      have HQ := Lib.hid (show q = catT [tx, ty] from hq)
      have HM := Lib.hid (show m = (rxP ps N (deep + 1) n2).2 from hm)
      clear hq hm hty hl9 hx4 hx3
      go_enter Tryd.func28, Tryd.ntmps28
      go_wp2_with ((with_reducible refine atDst 4 ?_); refine wpList_new rfl 27 rfl i0 _ z hi0 HZ0.out rfl (Below.refl w.heap.size w) (Nat.le_refl _) ?_; intro w1 hk1 hb1 hs1 _; have K1 := Lib.hid hk1; have G1 := Lib.hid (below_grownG g hb1); have P1 := Lib.hid (HPK.out.below hb1); clear hk1 hb1 hs1; (try simp only [Act.put, List.setIfInBounds_toArray, List.set_cons_zero, List.set_cons_succ]))
      refine (num_any w1 g V ps n 9 P1.out (by omega) (by omega)).mono ?_
      rintro e w2 ⟨rfl, hg, hp⟩
      have G2 := Lib.hid (grownG_trans G1.out hg)
      have K2 := Lib.hid (K1.out.grown hg HNE.out)
      have P2 := Lib.hid hp
      rw [← HX0.out]
      rw [← HN1.out] at P2
      clear hg hp
      go_wp2_with fail
      refine (over_any w2 g V ps n1 P2.out).mono ?_
      rintro e w3 ⟨rfl, hb⟩
      rw [HOV.out]
      have G3 := Lib.hid (grownG_trans G2.out (below_grownG g hb))
      have K3 := Lib.hid (K2.out.below hb K2.out.lt)
      have P3 := Lib.hid (P2.out.below hb)
      clear hb
      go_wp2_with fail
      refine (show Calls Tryd.prog 28 #[.pointer (some ⟨g, 0, none⟩), .int .i64 ((deep : Int) + 1)] w3 _ from IH.out (deep + 1) n1 w3 (by omega) (by omega) P3.out).mono ?_
      rintro e w4 ⟨cs, rfl, hcs, hg, hp⟩
      have D4 := Lib.hid hcs
      have C6 := Lib.hid hcs.length
      have C1 := Lib.hid (show cs.all (·.oneCell') = true from List.all_eq_true.2 (RxD.one hcs))
      have G4 := Lib.hid (grownG_trans G3.out hg)
      have K4 := Lib.hid (K3.out.grown hg HNE.out)
      have P4 := Lib.hid hp
      have S3 := Lib.hid G3.out.size
      have S4 := Lib.hid hg.size
      rw [← HTX.out] at D4
      rw [← HN2.out] at P4
      clear hcs hg hp
      go_wp2_with (first
        | ((with_reducible refine atDst 6 ?_); refine wpList_new rfl 27 rfl i0 _ z hi0 HZ0.out rfl (Below.refl w4.heap.size w4) (Nat.le_refl _) ?_; intro w5 hk hb hs ho; have L5 := Lib.hid hk; have B5 := Lib.hid hb; clear hk hb hs ho; (try simp only [Act.put, List.setIfInBounds_toArray, List.set_cons_zero, List.set_cons_succ]))
        | ((with_reducible refine atStore 27 6 38 ?_); refine wpList_stBlk rfl 27 _ _ rfl w4.heap.size cs rfl rfl 27 _ L5.out (size_rx C6.out) (by rw [HZL.out, C6.out]) C1.out B5.out (Nat.le_refl _) ?_; intro w6 hk hb hs ho; have L6 := Lib.hid hk; have B6 := Lib.hid hb; clear hk hb hs ho; (try simp only [Act.put, List.setIfInBounds_toArray, List.set_cons_zero, List.set_cons_succ])))
      have G6 := Lib.hid (grownG_trans G4.out (below_grownG g B6.out))
      have K6 := Lib.hid (K4.out.below B6.out K4.out.lt)
      have P6 := Lib.hid (P4.out.below B6.out)
      have D6 := Lib.hid (D4.out.stay (w' := w6) fun k hk => B6.out.block k hk.2)
      have NX := Lib.hid (show some w4.heap.size ≠ some g from fun he => by have h1 := Option.some.inj he; have h2 := P4.out.blk.lt; omega)
      have GL := Lib.hid P4.out.blk.lt
      refine sx_startB (B := g) (w0 := w6) (by kernel_rfl) (Below.refl _ _) (fun wd hwd hX => ?_)
      have hbd := (Below.refl w6.heap.size w6).drew
      rw [← hwd] at hbd
      have G7 := Lib.hid (grownG_trans G6.out (below_grownG g hbd))
      have K7 := Lib.hid (K6.out.below hbd K6.out.lt)
      have L7 := Lib.hid (L6.out.below hbd L6.out.lt)
      have P7 := Lib.hid (P6.out.below hbd)
      have S7 := Lib.hid (Nat.le_trans B6.out.size hbd.size)
      have D7 := Lib.hid (D6.out.stay (w' := wd) fun k hk => hbd.block k (Nat.lt_of_lt_of_le hk.2 B6.out.size))
      clear hwd hbd
      refine sx_take (i := 1) (oi := ⟨some 45, _, _, _, _, _⟩) (v := ?_) rfl (by kernel_rfl) (by kernel_rfl) (by kernel_rfl) (fun _ _ _ h => h) rfl hX ?_ ?_; rotate_left; (intro W hW; go_simp; try with_reducible rfl); simp only [Act.put, List.setIfInBounds_toArray, List.set_cons_zero, List.set_cons_succ]
      refine sx_take (i := 2) (oi := ⟨some 46, _, _, _, _, _⟩) (v := ?_) rfl (by kernel_rfl) (by kernel_rfl) (by kernel_rfl) (fun _ _ _ h => h) rfl hX ?_ ?_; rotate_left; (intro W hW; go_simp; try with_reducible rfl); simp only [Act.put, List.setIfInBounds_toArray, List.set_cons_zero, List.set_cons_succ]
      refine sx_take (i := 3) (oi := ⟨some 47, _, _, _, _, _⟩) (v := ?_) rfl (by kernel_rfl) (by kernel_rfl) (by kernel_rfl) (fun _ _ _ h => h) rfl hX ?_ ?_; rotate_left; (intro W hW; go_simp; try with_reducible rfl); simp only [Act.put, List.setIfInBounds_toArray, List.set_cons_zero, List.set_cons_succ]
      refine sx_two (i := 0) (j := 4) (oi := ⟨some 44, _, _, _, _, _⟩) (oj := ⟨some 48, _, _, _, _, _⟩) rfl rfl (by kernel_rfl) rfl rfl hX (fun K hK => ?_) (fun K hK => ?_)
      · refine wp_of_run (ld_blk 27 _ rfl w4.heap.size rfl 27 _ _ L7.out L7.out.lt Tryd.underlying27 rfl (size_rx C6.out) wd (Below.refl _ _)) ?_
        refine hK _ _ (Below.refl _ _) ?_
        (try simp only [Act.put, List.setIfInBounds_toArray, List.set_cons_zero, List.set_cons_succ])
        clear hK K
        refine sx_actB (i := 4) (o := ⟨some 48, _, _, _, _, _⟩) rfl (by kernel_rfl) rfl hX (fun K hK => ?_)
        go_wp2_with fail
        refine (show Calls Tryd.prog 28 #[.pointer (some ⟨g, 0, none⟩), .int .i64 ((deep : Int) + 1)] wd _ from IH.out (deep + 1) n2 wd (by omega) (by omega) P7.out).mono ?_
        rintro e w8 ⟨ds, rfl, hds, hg, hp⟩
        go_wp2_with fail
        have hbg := grown_belowG hg P7.out.blk.lt
        refine hK _ _ hbg ?_
        (try simp only [Act.put, List.setIfInBounds_toArray, List.set_cons_zero, List.set_cons_succ])
        clear hK K
        replace hX := hX.trans hbg
        have Y8 := Lib.hid hds
        have Y6 := Lib.hid hds.length
        have G8 := Lib.hid (grownG_trans G7.out hg)
        have K8 := Lib.hid (K7.out.grown hg HNE.out)
        have L8 := Lib.hid (L7.out.grown hg NX.out)
        have P8 := Lib.hid hp
        have S8 := Lib.hid hg.size
        have D8 := Lib.hid (D7.out.stay (w' := w8) fun k hk => hg.block k (Nat.lt_of_lt_of_le hk.2 S7.out) (fun he => by have h1 := Option.some.inj he; have h2 := GL3.out; have h3 := hk.1; have h4 := S3.out; omega))
        rw [← HTY.out] at Y8
        rw [← HM.out] at P8
        clear hds hg hp hbg
        refine sx_actB (i := 5) (o := ⟨some 49, _, _, _, _, _⟩) rfl (by kernel_rfl) rfl hX (fun K hK => ?_)
        refine wp_bldT2 25 27 (.tmp 44) (.tmp 48) rfl i0 Tryd.underlying25 hi0 HZ1.out hz1 cs ds C6.out Y6.out rfl rfl ?_
        intro w9 hk hb hs
        refine hK _ _ (hb.mono (Nat.le_of_lt P8.out.blk.lt)) ?_
        (try simp only [Act.put, List.setIfInBounds_toArray, List.set_cons_zero, List.set_cons_succ])
        clear hK K
        replace hX := hX.trans (hb.mono (Nat.le_of_lt P8.out.blk.lt))
        have M9 := Lib.hid hk
        have G9 := Lib.hid (grownG_trans G8.out (below_grownG g hb))
        have K9 := Lib.hid (K8.out.below hb K8.out.lt)
        have P9 := Lib.hid (P8.out.below hb)
        have X9 := Lib.hid (show RxV w9.heap.size w9 cs tx from RxD.mono (D8.out.stay (w' := w9) fun k hk => hb.block k (Nat.lt_of_lt_of_le hk.2 (Nat.le_trans S7.out S8.out))) fun k hk => by have h1 := S7.out; have h2 := S8.out; have h3 := hk.2; have h4 := hb.size; omega)
        have Z9 := Lib.hid (show RxV w9.heap.size w9 ds ty from RxD.mono (Y8.out.stay (w' := w9) fun k hk => hb.block k hk.2) fun k hk => by have h3 := hk.2; have h4 := hb.size; omega)
        have LT9 := Lib.hid (show w8.heap.size < w9.heap.size by rw [hs]; omega)
        clear hk hb hs
        refine sx_actB (i := 6) (o := ⟨some 50, _, _, _, _, _⟩) rfl (by kernel_rfl) rfl hX (fun K hK => ?_)
        go_wp2_with fail
        refine (refCatX [tx, ty] _ w9 (row_two M9.out X9.out Z9.out LT9.out) HNL.out).mono ?_
        rintro e wx ⟨es, rfl, hes, hb⟩
        go_wp2_with fail
        refine hK _ _ (hb.mono (Nat.le_of_lt P9.out.blk.lt)) ?_
        (try simp only [Act.put, List.setIfInBounds_toArray, List.set_cons_zero, List.set_cons_succ])
        clear hK K
        replace hX := hX.trans (hb.mono (Nat.le_of_lt P9.out.blk.lt))
        have E10 := Lib.hid hes
        have E6 := Lib.hid hes.length
        have E1 := Lib.hid (show es.all (·.oneCell') = true from List.all_eq_true.2 (RxD.one hes))
        have GX := Lib.hid (grownG_trans G9.out (below_grownG g hb))
        have KX := Lib.hid (K9.out.below hb K9.out.lt)
        have PX := Lib.hid (P9.out.below hb)
        have SX := Lib.hid (show w.heap.size < w9.heap.size from K9.out.lt)
        clear hes hb
        refine sx_actB (i := 7) (o := ⟨none, _, _, _, _, _⟩) rfl (by kernel_rfl) rfl hX (fun K hK => ?_)
        refine wp_stBlk 27 _ _ rfl w.heap.size es rfl rfl 27 _ KX.out (size_rx E6.out) (by rw [HZL.out, E6.out]) E1.out (Below.refl w.heap.size wx) (Nat.le_refl _) ?_
        intro w11 hk hb hs ho hbB
        refine hK _ _ (hbB g (Nat.le_of_lt HPK.out.blk.lt)) ?_
        (try simp only [Act.put, List.setIfInBounds_toArray, List.set_cons_zero, List.set_cons_succ])
        clear hK K hX hbB
        have K11 := Lib.hid hk
        have G11 := Lib.hid (grownG_below GX.out hb)
        have P11 := Lib.hid (PX.out.other _ ho HPK.out.blk.lt hb)
        have E11 := Lib.hid (RxD.mono (E10.out.stay (w' := w11) fun k hk => ho k (by have h1 := hk.1; have h2 := SX.out; omega)) (D' := fun k => w.heap.size ≤ k ∧ k < w11.heap.size) fun k hk => ⟨by have h1 := hk.1; have h2 := SX.out; omega, by have h1 := hk.2; omega⟩)
        clear hk hb hs ho
        refine wpAnyH_done (by kernel_rfl) ?_ _
        go_wp2_with fail
        refine bodyPost_ret (results_blk rfl _ _ w.heap.size 27 _ _ rfl K11.out Tryd.underlying27 rfl (size_rx E6.out)) rfl ?_
        exact ⟨es, rfl, by rw [HQ.out]; exact E11.out, G11.out, P11.out⟩
      · go_wp2_with fail
        refine (show Calls Tryd.prog 28 #[.pointer (some ⟨g, 0, none⟩), .int .i64 ((deep : Int) + 1)] wd _ from IH.out (deep + 1) n2 wd (by omega) (by omega) P7.out).mono ?_
        rintro e w8 ⟨ds, rfl, hds, hg, hp⟩
        go_wp2_with fail
        have hbg := grown_belowG hg P7.out.blk.lt
        refine hK _ _ hbg ?_
        (try simp only [Act.put, List.setIfInBounds_toArray, List.set_cons_zero, List.set_cons_succ])
        clear hK K
        replace hX := hX.trans hbg
        have Y8 := Lib.hid hds
        have Y6 := Lib.hid hds.length
        have G8 := Lib.hid (grownG_trans G7.out hg)
        have K8 := Lib.hid (K7.out.grown hg HNE.out)
        have L8 := Lib.hid (L7.out.grown hg NX.out)
        have P8 := Lib.hid hp
        have S8 := Lib.hid hg.size
        have D8 := Lib.hid (D7.out.stay (w' := w8) fun k hk => hg.block k (Nat.lt_of_lt_of_le hk.2 S7.out) (fun he => by have h1 := Option.some.inj he; have h2 := GL3.out; have h3 := hk.1; have h4 := S3.out; omega))
        rw [← HTY.out] at Y8
        rw [← HM.out] at P8
        clear hds hg hp hbg
        refine sx_actB (i := 0) (o := ⟨some 44, _, _, _, _, _⟩) rfl (by kernel_rfl) rfl hX (fun K hK => ?_)
        refine wp_of_run (ld_blk 27 _ rfl w4.heap.size rfl 27 _ _ L8.out L8.out.lt Tryd.underlying27 rfl (size_rx C6.out) w8 (Below.refl _ _)) ?_
        refine hK _ _ (Below.refl _ _) ?_
        (try simp only [Act.put, List.setIfInBounds_toArray, List.set_cons_zero, List.set_cons_succ])
        clear hK K
        refine sx_actB (i := 5) (o := ⟨some 49, _, _, _, _, _⟩) rfl (by kernel_rfl) rfl hX (fun K hK => ?_)
        refine wp_bldT2 25 27 (.tmp 44) (.tmp 48) rfl i0 Tryd.underlying25 hi0 HZ1.out hz1 cs ds C6.out Y6.out rfl rfl ?_
        intro w9 hk hb hs
        refine hK _ _ (hb.mono (Nat.le_of_lt P8.out.blk.lt)) ?_
        (try simp only [Act.put, List.setIfInBounds_toArray, List.set_cons_zero, List.set_cons_succ])
        clear hK K
        replace hX := hX.trans (hb.mono (Nat.le_of_lt P8.out.blk.lt))
        have M9 := Lib.hid hk
        have G9 := Lib.hid (grownG_trans G8.out (below_grownG g hb))
        have K9 := Lib.hid (K8.out.below hb K8.out.lt)
        have P9 := Lib.hid (P8.out.below hb)
        have X9 := Lib.hid (show RxV w9.heap.size w9 cs tx from RxD.mono (D8.out.stay (w' := w9) fun k hk => hb.block k (Nat.lt_of_lt_of_le hk.2 (Nat.le_trans S7.out S8.out))) fun k hk => by have h1 := S7.out; have h2 := S8.out; have h3 := hk.2; have h4 := hb.size; omega)
        have Z9 := Lib.hid (show RxV w9.heap.size w9 ds ty from RxD.mono (Y8.out.stay (w' := w9) fun k hk => hb.block k hk.2) fun k hk => by have h3 := hk.2; have h4 := hb.size; omega)
        have LT9 := Lib.hid (show w8.heap.size < w9.heap.size by rw [hs]; omega)
        clear hk hb hs
        refine sx_actB (i := 6) (o := ⟨some 50, _, _, _, _, _⟩) rfl (by kernel_rfl) rfl hX (fun K hK => ?_)
        go_wp2_with fail
        refine (refCatX [tx, ty] _ w9 (row_two M9.out X9.out Z9.out LT9.out) HNL.out).mono ?_
        rintro e wx ⟨es, rfl, hes, hb⟩
        go_wp2_with fail
        refine hK _ _ (hb.mono (Nat.le_of_lt P9.out.blk.lt)) ?_
        (try simp only [Act.put, List.setIfInBounds_toArray, List.set_cons_zero, List.set_cons_succ])
        clear hK K
        replace hX := hX.trans (hb.mono (Nat.le_of_lt P9.out.blk.lt))
        have E10 := Lib.hid hes
        have E6 := Lib.hid hes.length
        have E1 := Lib.hid (show es.all (·.oneCell') = true from List.all_eq_true.2 (RxD.one hes))
        have GX := Lib.hid (grownG_trans G9.out (below_grownG g hb))
        have KX := Lib.hid (K9.out.below hb K9.out.lt)
        have PX := Lib.hid (P9.out.below hb)
        have SX := Lib.hid (show w.heap.size < w9.heap.size from K9.out.lt)
        clear hes hb
        refine sx_actB (i := 7) (o := ⟨none, _, _, _, _, _⟩) rfl (by kernel_rfl) rfl hX (fun K hK => ?_)
        refine wp_stBlk 27 _ _ rfl w.heap.size es rfl rfl 27 _ KX.out (size_rx E6.out) (by rw [HZL.out, E6.out]) E1.out (Below.refl w.heap.size wx) (Nat.le_refl _) ?_
        intro w11 hk hb hs ho hbB
        refine hK _ _ (hbB g (Nat.le_of_lt HPK.out.blk.lt)) ?_
        (try simp only [Act.put, List.setIfInBounds_toArray, List.set_cons_zero, List.set_cons_succ])
        clear hK K hX hbB
        have K11 := Lib.hid hk
        have G11 := Lib.hid (grownG_below GX.out hb)
        have P11 := Lib.hid (PX.out.other _ ho HPK.out.blk.lt hb)
        have E11 := Lib.hid (RxD.mono (E10.out.stay (w' := w11) fun k hk => ho k (by have h1 := hk.1; have h2 := SX.out; omega)) (D' := fun k => w.heap.size ≤ k ∧ k < w11.heap.size) fun k hk => ⟨by have h1 := hk.1; have h2 := SX.out; omega, by have h1 := hk.2; omega⟩)
        clear hk hb hs ho
        refine wpAnyH_done (by kernel_rfl) ?_ _
        go_wp2_with fail
        refine bodyPost_ret (results_blk rfl _ _ w.heap.size 27 _ _ rfl K11.out Tryd.underlying27 rfl (size_rx E6.out)) rfl ?_
        exact ⟨es, rfl, by rw [HQ.out]; exact E11.out, G11.out, P11.out⟩
    have z4 : ((x0 : Int) == 4) = false := by rw [beq_eq_false_iff_ne]; omega
    by_cases hx5 : x0 = 5
    · have z5 : ((x0 : Int) == 5) = true := by rw [hx5]; rfl
      rw [if_pos (by omega), ← hty] at hq
      rw [if_pos (by omega)] at hm
      have HQ := Lib.hid (show q = catT [tx, ty] from hq)
      have HM := Lib.hid (show m = (rxP ps N (deep + 1) n2).2 from hm)
      clear hq hm hty hl9 hx5 hx3 hx4
      go_enter Tryd.func28, Tryd.ntmps28
      go_wp2_with ((with_reducible refine atDst 4 ?_); refine wpList_new rfl 27 rfl i0 _ z hi0 HZ0.out rfl (Below.refl w.heap.size w) (Nat.le_refl _) ?_; intro w1 hk1 hb1 hs1 _; have K1 := Lib.hid hk1; have G1 := Lib.hid (below_grownG g hb1); have P1 := Lib.hid (HPK.out.below hb1); clear hk1 hb1 hs1; (try simp only [Act.put, List.setIfInBounds_toArray, List.set_cons_zero, List.set_cons_succ]))
      refine (num_any w1 g V ps n 9 P1.out (by omega) (by omega)).mono ?_
      rintro e w2 ⟨rfl, hg, hp⟩
      have G2 := Lib.hid (grownG_trans G1.out hg)
      have K2 := Lib.hid (K1.out.grown hg HNE.out)
      have P2 := Lib.hid hp
      rw [← HX0.out]
      rw [← HN1.out] at P2
      clear hg hp
      go_wp2_with fail
      refine (over_any w2 g V ps n1 P2.out).mono ?_
      rintro e w3 ⟨rfl, hb⟩
      rw [HOV.out]
      have G3 := Lib.hid (grownG_trans G2.out (below_grownG g hb))
      have K3 := Lib.hid (K2.out.below hb K2.out.lt)
      have P3 := Lib.hid (P2.out.below hb)
      clear hb
      go_wp2_with fail
      refine (show Calls Tryd.prog 28 #[.pointer (some ⟨g, 0, none⟩), .int .i64 ((deep : Int) + 1)] w3 _ from IH.out (deep + 1) n1 w3 (by omega) (by omega) P3.out).mono ?_
      rintro e w4 ⟨cs, rfl, hcs, hg, hp⟩
      have D4 := Lib.hid hcs
      have C6 := Lib.hid hcs.length
      have C1 := Lib.hid (show cs.all (·.oneCell') = true from List.all_eq_true.2 (RxD.one hcs))
      have G4 := Lib.hid (grownG_trans G3.out hg)
      have K4 := Lib.hid (K3.out.grown hg HNE.out)
      have P4 := Lib.hid hp
      have S3 := Lib.hid G3.out.size
      have S4 := Lib.hid hg.size
      rw [← HTX.out] at D4
      rw [← HN2.out] at P4
      clear hcs hg hp
      go_wp2_with (first
        | ((with_reducible refine atDst 6 ?_); refine wpList_new rfl 27 rfl i0 _ z hi0 HZ0.out rfl (Below.refl w4.heap.size w4) (Nat.le_refl _) ?_; intro w5 hk hb hs ho; have L5 := Lib.hid hk; have B5 := Lib.hid hb; clear hk hb hs ho; (try simp only [Act.put, List.setIfInBounds_toArray, List.set_cons_zero, List.set_cons_succ]))
        | ((with_reducible refine atStore 27 6 38 ?_); refine wpList_stBlk rfl 27 _ _ rfl w4.heap.size cs rfl rfl 27 _ L5.out (size_rx C6.out) (by rw [HZL.out, C6.out]) C1.out B5.out (Nat.le_refl _) ?_; intro w6 hk hb hs ho; have L6 := Lib.hid hk; have B6 := Lib.hid hb; clear hk hb hs ho; (try simp only [Act.put, List.setIfInBounds_toArray, List.set_cons_zero, List.set_cons_succ])))
      have G6 := Lib.hid (grownG_trans G4.out (below_grownG g B6.out))
      have K6 := Lib.hid (K4.out.below B6.out K4.out.lt)
      have P6 := Lib.hid (P4.out.below B6.out)
      have D6 := Lib.hid (D4.out.stay (w' := w6) fun k hk => B6.out.block k hk.2)
      have NX := Lib.hid (show some w4.heap.size ≠ some g from fun he => by have h1 := Option.some.inj he; have h2 := P4.out.blk.lt; omega)
      have GL := Lib.hid P4.out.blk.lt
      refine sx_startB (B := g) (w0 := w6) (by kernel_rfl) (Below.refl _ _) (fun wd hwd hX => ?_)
      have hbd := (Below.refl w6.heap.size w6).drew
      rw [← hwd] at hbd
      have G7 := Lib.hid (grownG_trans G6.out (below_grownG g hbd))
      have K7 := Lib.hid (K6.out.below hbd K6.out.lt)
      have L7 := Lib.hid (L6.out.below hbd L6.out.lt)
      have P7 := Lib.hid (P6.out.below hbd)
      have S7 := Lib.hid (Nat.le_trans B6.out.size hbd.size)
      have D7 := Lib.hid (D6.out.stay (w' := wd) fun k hk => hbd.block k (Nat.lt_of_lt_of_le hk.2 B6.out.size))
      clear hwd hbd
      refine sx_take (i := 1) (oi := ⟨some 45, _, _, _, _, _⟩) (v := ?_) rfl (by kernel_rfl) (by kernel_rfl) (by kernel_rfl) (fun _ _ _ h => h) rfl hX ?_ ?_; rotate_left; (intro W hW; go_simp; try with_reducible rfl); simp only [Act.put, List.setIfInBounds_toArray, List.set_cons_zero, List.set_cons_succ]
      refine sx_take (i := 2) (oi := ⟨some 46, _, _, _, _, _⟩) (v := ?_) rfl (by kernel_rfl) (by kernel_rfl) (by kernel_rfl) (fun _ _ _ h => h) rfl hX ?_ ?_; rotate_left; (intro W hW; go_simp; try with_reducible rfl); simp only [Act.put, List.setIfInBounds_toArray, List.set_cons_zero, List.set_cons_succ]
      refine sx_take (i := 3) (oi := ⟨some 47, _, _, _, _, _⟩) (v := ?_) rfl (by kernel_rfl) (by kernel_rfl) (by kernel_rfl) (fun _ _ _ h => h) rfl hX ?_ ?_; rotate_left; (intro W hW; go_simp; try with_reducible rfl); simp only [Act.put, List.setIfInBounds_toArray, List.set_cons_zero, List.set_cons_succ]
      refine sx_two (i := 0) (j := 4) (oi := ⟨some 44, _, _, _, _, _⟩) (oj := ⟨some 48, _, _, _, _, _⟩) rfl rfl (by kernel_rfl) rfl rfl hX (fun K hK => ?_) (fun K hK => ?_)
      · refine wp_of_run (ld_blk 27 _ rfl w4.heap.size rfl 27 _ _ L7.out L7.out.lt Tryd.underlying27 rfl (size_rx C6.out) wd (Below.refl _ _)) ?_
        refine hK _ _ (Below.refl _ _) ?_
        (try simp only [Act.put, List.setIfInBounds_toArray, List.set_cons_zero, List.set_cons_succ])
        clear hK K
        refine sx_actB (i := 4) (o := ⟨some 48, _, _, _, _, _⟩) rfl (by kernel_rfl) rfl hX (fun K hK => ?_)
        go_wp2_with fail
        refine (show Calls Tryd.prog 28 #[.pointer (some ⟨g, 0, none⟩), .int .i64 ((deep : Int) + 1)] wd _ from IH.out (deep + 1) n2 wd (by omega) (by omega) P7.out).mono ?_
        rintro e w8 ⟨ds, rfl, hds, hg, hp⟩
        go_wp2_with fail
        have hbg := grown_belowG hg P7.out.blk.lt
        refine hK _ _ hbg ?_
        (try simp only [Act.put, List.setIfInBounds_toArray, List.set_cons_zero, List.set_cons_succ])
        clear hK K
        replace hX := hX.trans hbg
        have Y8 := Lib.hid hds
        have Y6 := Lib.hid hds.length
        have G8 := Lib.hid (grownG_trans G7.out hg)
        have K8 := Lib.hid (K7.out.grown hg HNE.out)
        have L8 := Lib.hid (L7.out.grown hg NX.out)
        have P8 := Lib.hid hp
        have S8 := Lib.hid hg.size
        have D8 := Lib.hid (D7.out.stay (w' := w8) fun k hk => hg.block k (Nat.lt_of_lt_of_le hk.2 S7.out) (fun he => by have h1 := Option.some.inj he; have h2 := GL3.out; have h3 := hk.1; have h4 := S3.out; omega))
        rw [← HTY.out] at Y8
        rw [← HM.out] at P8
        clear hds hg hp hbg
        refine sx_actB (i := 5) (o := ⟨some 49, _, _, _, _, _⟩) rfl (by kernel_rfl) rfl hX (fun K hK => ?_)
        refine wp_bldT2 25 27 (.tmp 44) (.tmp 48) rfl i0 Tryd.underlying25 hi0 HZ1.out hz1 cs ds C6.out Y6.out rfl rfl ?_
        intro w9 hk hb hs
        refine hK _ _ (hb.mono (Nat.le_of_lt P8.out.blk.lt)) ?_
        (try simp only [Act.put, List.setIfInBounds_toArray, List.set_cons_zero, List.set_cons_succ])
        clear hK K
        replace hX := hX.trans (hb.mono (Nat.le_of_lt P8.out.blk.lt))
        have M9 := Lib.hid hk
        have G9 := Lib.hid (grownG_trans G8.out (below_grownG g hb))
        have K9 := Lib.hid (K8.out.below hb K8.out.lt)
        have P9 := Lib.hid (P8.out.below hb)
        have X9 := Lib.hid (show RxV w9.heap.size w9 cs tx from RxD.mono (D8.out.stay (w' := w9) fun k hk => hb.block k (Nat.lt_of_lt_of_le hk.2 (Nat.le_trans S7.out S8.out))) fun k hk => by have h1 := S7.out; have h2 := S8.out; have h3 := hk.2; have h4 := hb.size; omega)
        have Z9 := Lib.hid (show RxV w9.heap.size w9 ds ty from RxD.mono (Y8.out.stay (w' := w9) fun k hk => hb.block k hk.2) fun k hk => by have h3 := hk.2; have h4 := hb.size; omega)
        have LT9 := Lib.hid (show w8.heap.size < w9.heap.size by rw [hs]; omega)
        clear hk hb hs
        refine sx_actB (i := 6) (o := ⟨some 50, _, _, _, _, _⟩) rfl (by kernel_rfl) rfl hX (fun K hK => ?_)
        go_wp2_with fail
        refine (refCatX [tx, ty] _ w9 (row_two M9.out X9.out Z9.out LT9.out) HNL.out).mono ?_
        rintro e wx ⟨es, rfl, hes, hb⟩
        go_wp2_with fail
        refine hK _ _ (hb.mono (Nat.le_of_lt P9.out.blk.lt)) ?_
        (try simp only [Act.put, List.setIfInBounds_toArray, List.set_cons_zero, List.set_cons_succ])
        clear hK K
        replace hX := hX.trans (hb.mono (Nat.le_of_lt P9.out.blk.lt))
        have E10 := Lib.hid hes
        have E6 := Lib.hid hes.length
        have E1 := Lib.hid (show es.all (·.oneCell') = true from List.all_eq_true.2 (RxD.one hes))
        have GX := Lib.hid (grownG_trans G9.out (below_grownG g hb))
        have KX := Lib.hid (K9.out.below hb K9.out.lt)
        have PX := Lib.hid (P9.out.below hb)
        have SX := Lib.hid (show w.heap.size < w9.heap.size from K9.out.lt)
        clear hes hb
        refine sx_actB (i := 7) (o := ⟨none, _, _, _, _, _⟩) rfl (by kernel_rfl) rfl hX (fun K hK => ?_)
        refine wp_stBlk 27 _ _ rfl w.heap.size es rfl rfl 27 _ KX.out (size_rx E6.out) (by rw [HZL.out, E6.out]) E1.out (Below.refl w.heap.size wx) (Nat.le_refl _) ?_
        intro w11 hk hb hs ho hbB
        refine hK _ _ (hbB g (Nat.le_of_lt HPK.out.blk.lt)) ?_
        (try simp only [Act.put, List.setIfInBounds_toArray, List.set_cons_zero, List.set_cons_succ])
        clear hK K hX hbB
        have K11 := Lib.hid hk
        have G11 := Lib.hid (grownG_below GX.out hb)
        have P11 := Lib.hid (PX.out.other _ ho HPK.out.blk.lt hb)
        have E11 := Lib.hid (RxD.mono (E10.out.stay (w' := w11) fun k hk => ho k (by have h1 := hk.1; have h2 := SX.out; omega)) (D' := fun k => w.heap.size ≤ k ∧ k < w11.heap.size) fun k hk => ⟨by have h1 := hk.1; have h2 := SX.out; omega, by have h1 := hk.2; omega⟩)
        clear hk hb hs ho
        refine wpAnyH_done (by kernel_rfl) ?_ _
        go_wp2_with fail
        refine bodyPost_ret (results_blk rfl _ _ w.heap.size 27 _ _ rfl K11.out Tryd.underlying27 rfl (size_rx E6.out)) rfl ?_
        exact ⟨es, rfl, by rw [HQ.out]; exact E11.out, G11.out, P11.out⟩
      · go_wp2_with fail
        refine (show Calls Tryd.prog 28 #[.pointer (some ⟨g, 0, none⟩), .int .i64 ((deep : Int) + 1)] wd _ from IH.out (deep + 1) n2 wd (by omega) (by omega) P7.out).mono ?_
        rintro e w8 ⟨ds, rfl, hds, hg, hp⟩
        go_wp2_with fail
        have hbg := grown_belowG hg P7.out.blk.lt
        refine hK _ _ hbg ?_
        (try simp only [Act.put, List.setIfInBounds_toArray, List.set_cons_zero, List.set_cons_succ])
        clear hK K
        replace hX := hX.trans hbg
        have Y8 := Lib.hid hds
        have Y6 := Lib.hid hds.length
        have G8 := Lib.hid (grownG_trans G7.out hg)
        have K8 := Lib.hid (K7.out.grown hg HNE.out)
        have L8 := Lib.hid (L7.out.grown hg NX.out)
        have P8 := Lib.hid hp
        have S8 := Lib.hid hg.size
        have D8 := Lib.hid (D7.out.stay (w' := w8) fun k hk => hg.block k (Nat.lt_of_lt_of_le hk.2 S7.out) (fun he => by have h1 := Option.some.inj he; have h2 := GL3.out; have h3 := hk.1; have h4 := S3.out; omega))
        rw [← HTY.out] at Y8
        rw [← HM.out] at P8
        clear hds hg hp hbg
        refine sx_actB (i := 0) (o := ⟨some 44, _, _, _, _, _⟩) rfl (by kernel_rfl) rfl hX (fun K hK => ?_)
        refine wp_of_run (ld_blk 27 _ rfl w4.heap.size rfl 27 _ _ L8.out L8.out.lt Tryd.underlying27 rfl (size_rx C6.out) w8 (Below.refl _ _)) ?_
        refine hK _ _ (Below.refl _ _) ?_
        (try simp only [Act.put, List.setIfInBounds_toArray, List.set_cons_zero, List.set_cons_succ])
        clear hK K
        refine sx_actB (i := 5) (o := ⟨some 49, _, _, _, _, _⟩) rfl (by kernel_rfl) rfl hX (fun K hK => ?_)
        refine wp_bldT2 25 27 (.tmp 44) (.tmp 48) rfl i0 Tryd.underlying25 hi0 HZ1.out hz1 cs ds C6.out Y6.out rfl rfl ?_
        intro w9 hk hb hs
        refine hK _ _ (hb.mono (Nat.le_of_lt P8.out.blk.lt)) ?_
        (try simp only [Act.put, List.setIfInBounds_toArray, List.set_cons_zero, List.set_cons_succ])
        clear hK K
        replace hX := hX.trans (hb.mono (Nat.le_of_lt P8.out.blk.lt))
        have M9 := Lib.hid hk
        have G9 := Lib.hid (grownG_trans G8.out (below_grownG g hb))
        have K9 := Lib.hid (K8.out.below hb K8.out.lt)
        have P9 := Lib.hid (P8.out.below hb)
        have X9 := Lib.hid (show RxV w9.heap.size w9 cs tx from RxD.mono (D8.out.stay (w' := w9) fun k hk => hb.block k (Nat.lt_of_lt_of_le hk.2 (Nat.le_trans S7.out S8.out))) fun k hk => by have h1 := S7.out; have h2 := S8.out; have h3 := hk.2; have h4 := hb.size; omega)
        have Z9 := Lib.hid (show RxV w9.heap.size w9 ds ty from RxD.mono (Y8.out.stay (w' := w9) fun k hk => hb.block k hk.2) fun k hk => by have h3 := hk.2; have h4 := hb.size; omega)
        have LT9 := Lib.hid (show w8.heap.size < w9.heap.size by rw [hs]; omega)
        clear hk hb hs
        refine sx_actB (i := 6) (o := ⟨some 50, _, _, _, _, _⟩) rfl (by kernel_rfl) rfl hX (fun K hK => ?_)
        go_wp2_with fail
        refine (refCatX [tx, ty] _ w9 (row_two M9.out X9.out Z9.out LT9.out) HNL.out).mono ?_
        rintro e wx ⟨es, rfl, hes, hb⟩
        go_wp2_with fail
        refine hK _ _ (hb.mono (Nat.le_of_lt P9.out.blk.lt)) ?_
        (try simp only [Act.put, List.setIfInBounds_toArray, List.set_cons_zero, List.set_cons_succ])
        clear hK K
        replace hX := hX.trans (hb.mono (Nat.le_of_lt P9.out.blk.lt))
        have E10 := Lib.hid hes
        have E6 := Lib.hid hes.length
        have E1 := Lib.hid (show es.all (·.oneCell') = true from List.all_eq_true.2 (RxD.one hes))
        have GX := Lib.hid (grownG_trans G9.out (below_grownG g hb))
        have KX := Lib.hid (K9.out.below hb K9.out.lt)
        have PX := Lib.hid (P9.out.below hb)
        have SX := Lib.hid (show w.heap.size < w9.heap.size from K9.out.lt)
        clear hes hb
        refine sx_actB (i := 7) (o := ⟨none, _, _, _, _, _⟩) rfl (by kernel_rfl) rfl hX (fun K hK => ?_)
        refine wp_stBlk 27 _ _ rfl w.heap.size es rfl rfl 27 _ KX.out (size_rx E6.out) (by rw [HZL.out, E6.out]) E1.out (Below.refl w.heap.size wx) (Nat.le_refl _) ?_
        intro w11 hk hb hs ho hbB
        refine hK _ _ (hbB g (Nat.le_of_lt HPK.out.blk.lt)) ?_
        (try simp only [Act.put, List.setIfInBounds_toArray, List.set_cons_zero, List.set_cons_succ])
        clear hK K hX hbB
        have K11 := Lib.hid hk
        have G11 := Lib.hid (grownG_below GX.out hb)
        have P11 := Lib.hid (PX.out.other _ ho HPK.out.blk.lt hb)
        have E11 := Lib.hid (RxD.mono (E10.out.stay (w' := w11) fun k hk => ho k (by have h1 := hk.1; have h2 := SX.out; omega)) (D' := fun k => w.heap.size ≤ k ∧ k < w11.heap.size) fun k hk => ⟨by have h1 := hk.1; have h2 := SX.out; omega, by have h1 := hk.2; omega⟩)
        clear hk hb hs ho
        refine wpAnyH_done (by kernel_rfl) ?_ _
        go_wp2_with fail
        refine bodyPost_ret (results_blk rfl _ _ w.heap.size 27 _ _ rfl K11.out Tryd.underlying27 rfl (size_rx E6.out)) rfl ?_
        exact ⟨es, rfl, by rw [HQ.out]; exact E11.out, G11.out, P11.out⟩
    have z5 : ((x0 : Int) == 5) = false := by rw [beq_eq_false_iff_ne]; omega
    by_cases hx6 : x0 = 6
    · have z6 : ((x0 : Int) == 6) = true := by rw [hx6]; rfl
      rw [if_neg (by omega), if_pos (by omega), ← hty] at hq
      rw [if_neg (by omega), if_pos (by omega)] at hm
      have HQ := Lib.hid (show q = altT [tx, ty] from hq)
      have HM := Lib.hid (show m = (rxP ps N (deep + 1) n2).2 from hm)
      clear hq hm hty hl9 hx6 hx3 hx4 hx5
      go_enter Tryd.func28, Tryd.ntmps28
      go_wp2_with ((with_reducible refine atDst 4 ?_); refine wpList_new rfl 27 rfl i0 _ z hi0 HZ0.out rfl (Below.refl w.heap.size w) (Nat.le_refl _) ?_; intro w1 hk1 hb1 hs1 _; have K1 := Lib.hid hk1; have G1 := Lib.hid (below_grownG g hb1); have P1 := Lib.hid (HPK.out.below hb1); clear hk1 hb1 hs1; (try simp only [Act.put, List.setIfInBounds_toArray, List.set_cons_zero, List.set_cons_succ]))
      refine (num_any w1 g V ps n 9 P1.out (by omega) (by omega)).mono ?_
      rintro e w2 ⟨rfl, hg, hp⟩
      have G2 := Lib.hid (grownG_trans G1.out hg)
      have K2 := Lib.hid (K1.out.grown hg HNE.out)
      have P2 := Lib.hid hp
      rw [← HX0.out]
      rw [← HN1.out] at P2
      clear hg hp
      go_wp2_with fail
      refine (over_any w2 g V ps n1 P2.out).mono ?_
      rintro e w3 ⟨rfl, hb⟩
      rw [HOV.out]
      have G3 := Lib.hid (grownG_trans G2.out (below_grownG g hb))
      have K3 := Lib.hid (K2.out.below hb K2.out.lt)
      have P3 := Lib.hid (P2.out.below hb)
      clear hb
      go_wp2_with fail
      refine (show Calls Tryd.prog 28 #[.pointer (some ⟨g, 0, none⟩), .int .i64 ((deep : Int) + 1)] w3 _ from IH.out (deep + 1) n1 w3 (by omega) (by omega) P3.out).mono ?_
      rintro e w4 ⟨cs, rfl, hcs, hg, hp⟩
      have D4 := Lib.hid hcs
      have C6 := Lib.hid hcs.length
      have C1 := Lib.hid (show cs.all (·.oneCell') = true from List.all_eq_true.2 (RxD.one hcs))
      have G4 := Lib.hid (grownG_trans G3.out hg)
      have K4 := Lib.hid (K3.out.grown hg HNE.out)
      have P4 := Lib.hid hp
      have S3 := Lib.hid G3.out.size
      have S4 := Lib.hid hg.size
      rw [← HTX.out] at D4
      rw [← HN2.out] at P4
      clear hcs hg hp
      go_wp2_with (first
        | ((with_reducible refine atDst 6 ?_); refine wpList_new rfl 27 rfl i0 _ z hi0 HZ0.out rfl (Below.refl w4.heap.size w4) (Nat.le_refl _) ?_; intro w5 hk hb hs ho; have L5 := Lib.hid hk; have B5 := Lib.hid hb; clear hk hb hs ho; (try simp only [Act.put, List.setIfInBounds_toArray, List.set_cons_zero, List.set_cons_succ]))
        | ((with_reducible refine atStore 27 6 38 ?_); refine wpList_stBlk rfl 27 _ _ rfl w4.heap.size cs rfl rfl 27 _ L5.out (size_rx C6.out) (by rw [HZL.out, C6.out]) C1.out B5.out (Nat.le_refl _) ?_; intro w6 hk hb hs ho; have L6 := Lib.hid hk; have B6 := Lib.hid hb; clear hk hb hs ho; (try simp only [Act.put, List.setIfInBounds_toArray, List.set_cons_zero, List.set_cons_succ])))
      have G6 := Lib.hid (grownG_trans G4.out (below_grownG g B6.out))
      have K6 := Lib.hid (K4.out.below B6.out K4.out.lt)
      have P6 := Lib.hid (P4.out.below B6.out)
      have D6 := Lib.hid (D4.out.stay (w' := w6) fun k hk => B6.out.block k hk.2)
      have NX := Lib.hid (show some w4.heap.size ≠ some g from fun he => by have h1 := Option.some.inj he; have h2 := P4.out.blk.lt; omega)
      have GL := Lib.hid P4.out.blk.lt
      refine sx_startB (B := g) (w0 := w6) (by kernel_rfl) (Below.refl _ _) (fun wd hwd hX => ?_)
      have hbd := (Below.refl w6.heap.size w6).drew
      rw [← hwd] at hbd
      have G7 := Lib.hid (grownG_trans G6.out (below_grownG g hbd))
      have K7 := Lib.hid (K6.out.below hbd K6.out.lt)
      have L7 := Lib.hid (L6.out.below hbd L6.out.lt)
      have P7 := Lib.hid (P6.out.below hbd)
      have S7 := Lib.hid (Nat.le_trans B6.out.size hbd.size)
      have D7 := Lib.hid (D6.out.stay (w' := wd) fun k hk => hbd.block k (Nat.lt_of_lt_of_le hk.2 B6.out.size))
      clear hwd hbd
      refine sx_take (i := 1) (oi := ⟨some 55, _, _, _, _, _⟩) (v := ?_) rfl (by kernel_rfl) (by kernel_rfl) (by kernel_rfl) (fun _ _ _ h => h) rfl hX ?_ ?_; rotate_left; (intro W hW; go_simp; try with_reducible rfl); simp only [Act.put, List.setIfInBounds_toArray, List.set_cons_zero, List.set_cons_succ]
      refine sx_take (i := 2) (oi := ⟨some 56, _, _, _, _, _⟩) (v := ?_) rfl (by kernel_rfl) (by kernel_rfl) (by kernel_rfl) (fun _ _ _ h => h) rfl hX ?_ ?_; rotate_left; (intro W hW; go_simp; try with_reducible rfl); simp only [Act.put, List.setIfInBounds_toArray, List.set_cons_zero, List.set_cons_succ]
      refine sx_take (i := 3) (oi := ⟨some 57, _, _, _, _, _⟩) (v := ?_) rfl (by kernel_rfl) (by kernel_rfl) (by kernel_rfl) (fun _ _ _ h => h) rfl hX ?_ ?_; rotate_left; (intro W hW; go_simp; try with_reducible rfl); simp only [Act.put, List.setIfInBounds_toArray, List.set_cons_zero, List.set_cons_succ]
      refine sx_two (i := 0) (j := 4) (oi := ⟨some 54, _, _, _, _, _⟩) (oj := ⟨some 58, _, _, _, _, _⟩) rfl rfl (by kernel_rfl) rfl rfl hX (fun K hK => ?_) (fun K hK => ?_)
      · refine wp_of_run (ld_blk 27 _ rfl w4.heap.size rfl 27 _ _ L7.out L7.out.lt Tryd.underlying27 rfl (size_rx C6.out) wd (Below.refl _ _)) ?_
        refine hK _ _ (Below.refl _ _) ?_
        (try simp only [Act.put, List.setIfInBounds_toArray, List.set_cons_zero, List.set_cons_succ])
        clear hK K
        refine sx_actB (i := 4) (o := ⟨some 58, _, _, _, _, _⟩) rfl (by kernel_rfl) rfl hX (fun K hK => ?_)
        go_wp2_with fail
        refine (show Calls Tryd.prog 28 #[.pointer (some ⟨g, 0, none⟩), .int .i64 ((deep : Int) + 1)] wd _ from IH.out (deep + 1) n2 wd (by omega) (by omega) P7.out).mono ?_
        rintro e w8 ⟨ds, rfl, hds, hg, hp⟩
        go_wp2_with fail
        have hbg := grown_belowG hg P7.out.blk.lt
        refine hK _ _ hbg ?_
        (try simp only [Act.put, List.setIfInBounds_toArray, List.set_cons_zero, List.set_cons_succ])
        clear hK K
        replace hX := hX.trans hbg
        have Y8 := Lib.hid hds
        have Y6 := Lib.hid hds.length
        have G8 := Lib.hid (grownG_trans G7.out hg)
        have K8 := Lib.hid (K7.out.grown hg HNE.out)
        have L8 := Lib.hid (L7.out.grown hg NX.out)
        have P8 := Lib.hid hp
        have S8 := Lib.hid hg.size
        have D8 := Lib.hid (D7.out.stay (w' := w8) fun k hk => hg.block k (Nat.lt_of_lt_of_le hk.2 S7.out) (fun he => by have h1 := Option.some.inj he; have h2 := GL3.out; have h3 := hk.1; have h4 := S3.out; omega))
        rw [← HTY.out] at Y8
        rw [← HM.out] at P8
        clear hds hg hp hbg
        refine sx_actB (i := 5) (o := ⟨some 59, _, _, _, _, _⟩) rfl (by kernel_rfl) rfl hX (fun K hK => ?_)
        refine wp_bldT2 25 27 (.tmp 54) (.tmp 58) rfl i0 Tryd.underlying25 hi0 HZ1.out hz1 cs ds C6.out Y6.out rfl rfl ?_
        intro w9 hk hb hs
        refine hK _ _ (hb.mono (Nat.le_of_lt P8.out.blk.lt)) ?_
        (try simp only [Act.put, List.setIfInBounds_toArray, List.set_cons_zero, List.set_cons_succ])
        clear hK K
        replace hX := hX.trans (hb.mono (Nat.le_of_lt P8.out.blk.lt))
        have M9 := Lib.hid hk
        have G9 := Lib.hid (grownG_trans G8.out (below_grownG g hb))
        have K9 := Lib.hid (K8.out.below hb K8.out.lt)
        have P9 := Lib.hid (P8.out.below hb)
        have X9 := Lib.hid (show RxV w9.heap.size w9 cs tx from RxD.mono (D8.out.stay (w' := w9) fun k hk => hb.block k (Nat.lt_of_lt_of_le hk.2 (Nat.le_trans S7.out S8.out))) fun k hk => by have h1 := S7.out; have h2 := S8.out; have h3 := hk.2; have h4 := hb.size; omega)
        have Z9 := Lib.hid (show RxV w9.heap.size w9 ds ty from RxD.mono (Y8.out.stay (w' := w9) fun k hk => hb.block k hk.2) fun k hk => by have h3 := hk.2; have h4 := hb.size; omega)
        have LT9 := Lib.hid (show w8.heap.size < w9.heap.size by rw [hs]; omega)
        clear hk hb hs
        refine sx_actB (i := 6) (o := ⟨some 60, _, _, _, _, _⟩) rfl (by kernel_rfl) rfl hX (fun K hK => ?_)
        go_wp2_with fail
        refine (refAlt_any [tx, ty] _ w9 (row_two M9.out X9.out Z9.out LT9.out) HNL.out).mono ?_
        rintro e wx ⟨es, rfl, hes, hb⟩
        go_wp2_with fail
        refine hK _ _ (hb.mono (Nat.le_of_lt P9.out.blk.lt)) ?_
        (try simp only [Act.put, List.setIfInBounds_toArray, List.set_cons_zero, List.set_cons_succ])
        clear hK K
        replace hX := hX.trans (hb.mono (Nat.le_of_lt P9.out.blk.lt))
        have E10 := Lib.hid hes
        have E6 := Lib.hid hes.length
        have E1 := Lib.hid (show es.all (·.oneCell') = true from List.all_eq_true.2 (RxD.one hes))
        have GX := Lib.hid (grownG_trans G9.out (below_grownG g hb))
        have KX := Lib.hid (K9.out.below hb K9.out.lt)
        have PX := Lib.hid (P9.out.below hb)
        have SX := Lib.hid (show w.heap.size < w9.heap.size from K9.out.lt)
        clear hes hb
        refine sx_actB (i := 7) (o := ⟨none, _, _, _, _, _⟩) rfl (by kernel_rfl) rfl hX (fun K hK => ?_)
        refine wp_stBlk 27 _ _ rfl w.heap.size es rfl rfl 27 _ KX.out (size_rx E6.out) (by rw [HZL.out, E6.out]) E1.out (Below.refl w.heap.size wx) (Nat.le_refl _) ?_
        intro w11 hk hb hs ho hbB
        refine hK _ _ (hbB g (Nat.le_of_lt HPK.out.blk.lt)) ?_
        (try simp only [Act.put, List.setIfInBounds_toArray, List.set_cons_zero, List.set_cons_succ])
        clear hK K hX hbB
        have K11 := Lib.hid hk
        have G11 := Lib.hid (grownG_below GX.out hb)
        have P11 := Lib.hid (PX.out.other _ ho HPK.out.blk.lt hb)
        have E11 := Lib.hid (RxD.mono (E10.out.stay (w' := w11) fun k hk => ho k (by have h1 := hk.1; have h2 := SX.out; omega)) (D' := fun k => w.heap.size ≤ k ∧ k < w11.heap.size) fun k hk => ⟨by have h1 := hk.1; have h2 := SX.out; omega, by have h1 := hk.2; omega⟩)
        clear hk hb hs ho
        refine wpAnyH_done (by kernel_rfl) ?_ _
        go_wp2_with fail
        refine bodyPost_ret (results_blk rfl _ _ w.heap.size 27 _ _ rfl K11.out Tryd.underlying27 rfl (size_rx E6.out)) rfl ?_
        exact ⟨es, rfl, by rw [HQ.out]; exact E11.out, G11.out, P11.out⟩
      · go_wp2_with fail
        refine (show Calls Tryd.prog 28 #[.pointer (some ⟨g, 0, none⟩), .int .i64 ((deep : Int) + 1)] wd _ from IH.out (deep + 1) n2 wd (by omega) (by omega) P7.out).mono ?_
        rintro e w8 ⟨ds, rfl, hds, hg, hp⟩
        go_wp2_with fail
        have hbg := grown_belowG hg P7.out.blk.lt
        refine hK _ _ hbg ?_
        (try simp only [Act.put, List.setIfInBounds_toArray, List.set_cons_zero, List.set_cons_succ])
        clear hK K
        replace hX := hX.trans hbg
        have Y8 := Lib.hid hds
        have Y6 := Lib.hid hds.length
        have G8 := Lib.hid (grownG_trans G7.out hg)
        have K8 := Lib.hid (K7.out.grown hg HNE.out)
        have L8 := Lib.hid (L7.out.grown hg NX.out)
        have P8 := Lib.hid hp
        have S8 := Lib.hid hg.size
        have D8 := Lib.hid (D7.out.stay (w' := w8) fun k hk => hg.block k (Nat.lt_of_lt_of_le hk.2 S7.out) (fun he => by have h1 := Option.some.inj he; have h2 := GL3.out; have h3 := hk.1; have h4 := S3.out; omega))
        rw [← HTY.out] at Y8
        rw [← HM.out] at P8
        clear hds hg hp hbg
        refine sx_actB (i := 0) (o := ⟨some 54, _, _, _, _, _⟩) rfl (by kernel_rfl) rfl hX (fun K hK => ?_)
        refine wp_of_run (ld_blk 27 _ rfl w4.heap.size rfl 27 _ _ L8.out L8.out.lt Tryd.underlying27 rfl (size_rx C6.out) w8 (Below.refl _ _)) ?_
        refine hK _ _ (Below.refl _ _) ?_
        (try simp only [Act.put, List.setIfInBounds_toArray, List.set_cons_zero, List.set_cons_succ])
        clear hK K
        refine sx_actB (i := 5) (o := ⟨some 59, _, _, _, _, _⟩) rfl (by kernel_rfl) rfl hX (fun K hK => ?_)
        refine wp_bldT2 25 27 (.tmp 54) (.tmp 58) rfl i0 Tryd.underlying25 hi0 HZ1.out hz1 cs ds C6.out Y6.out rfl rfl ?_
        intro w9 hk hb hs
        refine hK _ _ (hb.mono (Nat.le_of_lt P8.out.blk.lt)) ?_
        (try simp only [Act.put, List.setIfInBounds_toArray, List.set_cons_zero, List.set_cons_succ])
        clear hK K
        replace hX := hX.trans (hb.mono (Nat.le_of_lt P8.out.blk.lt))
        have M9 := Lib.hid hk
        have G9 := Lib.hid (grownG_trans G8.out (below_grownG g hb))
        have K9 := Lib.hid (K8.out.below hb K8.out.lt)
        have P9 := Lib.hid (P8.out.below hb)
        have X9 := Lib.hid (show RxV w9.heap.size w9 cs tx from RxD.mono (D8.out.stay (w' := w9) fun k hk => hb.block k (Nat.lt_of_lt_of_le hk.2 (Nat.le_trans S7.out S8.out))) fun k hk => by have h1 := S7.out; have h2 := S8.out; have h3 := hk.2; have h4 := hb.size; omega)
        have Z9 := Lib.hid (show RxV w9.heap.size w9 ds ty from RxD.mono (Y8.out.stay (w' := w9) fun k hk => hb.block k hk.2) fun k hk => by have h3 := hk.2; have h4 := hb.size; omega)
        have LT9 := Lib.hid (show w8.heap.size < w9.heap.size by rw [hs]; omega)
        clear hk hb hs
        refine sx_actB (i := 6) (o := ⟨some 60, _, _, _, _, _⟩) rfl (by kernel_rfl) rfl hX (fun K hK => ?_)
        go_wp2_with fail
        refine (refAlt_any [tx, ty] _ w9 (row_two M9.out X9.out Z9.out LT9.out) HNL.out).mono ?_
        rintro e wx ⟨es, rfl, hes, hb⟩
        go_wp2_with fail
        refine hK _ _ (hb.mono (Nat.le_of_lt P9.out.blk.lt)) ?_
        (try simp only [Act.put, List.setIfInBounds_toArray, List.set_cons_zero, List.set_cons_succ])
        clear hK K
        replace hX := hX.trans (hb.mono (Nat.le_of_lt P9.out.blk.lt))
        have E10 := Lib.hid hes
        have E6 := Lib.hid hes.length
        have E1 := Lib.hid (show es.all (·.oneCell') = true from List.all_eq_true.2 (RxD.one hes))
        have GX := Lib.hid (grownG_trans G9.out (below_grownG g hb))
        have KX := Lib.hid (K9.out.below hb K9.out.lt)
        have PX := Lib.hid (P9.out.below hb)
        have SX := Lib.hid (show w.heap.size < w9.heap.size from K9.out.lt)
        clear hes hb
        refine sx_actB (i := 7) (o := ⟨none, _, _, _, _, _⟩) rfl (by kernel_rfl) rfl hX (fun K hK => ?_)
        refine wp_stBlk 27 _ _ rfl w.heap.size es rfl rfl 27 _ KX.out (size_rx E6.out) (by rw [HZL.out, E6.out]) E1.out (Below.refl w.heap.size wx) (Nat.le_refl _) ?_
        intro w11 hk hb hs ho hbB
        refine hK _ _ (hbB g (Nat.le_of_lt HPK.out.blk.lt)) ?_
        (try simp only [Act.put, List.setIfInBounds_toArray, List.set_cons_zero, List.set_cons_succ])
        clear hK K hX hbB
        have K11 := Lib.hid hk
        have G11 := Lib.hid (grownG_below GX.out hb)
        have P11 := Lib.hid (PX.out.other _ ho HPK.out.blk.lt hb)
        have E11 := Lib.hid (RxD.mono (E10.out.stay (w' := w11) fun k hk => ho k (by have h1 := hk.1; have h2 := SX.out; omega)) (D' := fun k => w.heap.size ≤ k ∧ k < w11.heap.size) fun k hk => ⟨by have h1 := hk.1; have h2 := SX.out; omega, by have h1 := hk.2; omega⟩)
        clear hk hb hs ho
        refine wpAnyH_done (by kernel_rfl) ?_ _
        go_wp2_with fail
        refine bodyPost_ret (results_blk rfl _ _ w.heap.size 27 _ _ rfl K11.out Tryd.underlying27 rfl (size_rx E6.out)) rfl ?_
        exact ⟨es, rfl, by rw [HQ.out]; exact E11.out, G11.out, P11.out⟩
    have z6 : ((x0 : Int) == 6) = false := by rw [beq_eq_false_iff_ne]; omega
    by_cases hx7 : x0 = 7
    · have z7 : ((x0 : Int) == 7) = true := by rw [hx7]; rfl
      rw [if_neg (by omega), if_pos (by omega), ← hty] at hq
      rw [if_neg (by omega), if_pos (by omega)] at hm
      have HQ := Lib.hid (show q = altT [tx, ty] from hq)
      have HM := Lib.hid (show m = (rxP ps N (deep + 1) n2).2 from hm)
      clear hq hm hty hl9 hx7 hx3 hx4 hx5 hx6
      go_enter Tryd.func28, Tryd.ntmps28
      go_wp2_with ((with_reducible refine atDst 4 ?_); refine wpList_new rfl 27 rfl i0 _ z hi0 HZ0.out rfl (Below.refl w.heap.size w) (Nat.le_refl _) ?_; intro w1 hk1 hb1 hs1 _; have K1 := Lib.hid hk1; have G1 := Lib.hid (below_grownG g hb1); have P1 := Lib.hid (HPK.out.below hb1); clear hk1 hb1 hs1; (try simp only [Act.put, List.setIfInBounds_toArray, List.set_cons_zero, List.set_cons_succ]))
      refine (num_any w1 g V ps n 9 P1.out (by omega) (by omega)).mono ?_
      rintro e w2 ⟨rfl, hg, hp⟩
      have G2 := Lib.hid (grownG_trans G1.out hg)
      have K2 := Lib.hid (K1.out.grown hg HNE.out)
      have P2 := Lib.hid hp
      rw [← HX0.out]
      rw [← HN1.out] at P2
      clear hg hp
      go_wp2_with fail
      refine (over_any w2 g V ps n1 P2.out).mono ?_
      rintro e w3 ⟨rfl, hb⟩
      rw [HOV.out]
      have G3 := Lib.hid (grownG_trans G2.out (below_grownG g hb))
      have K3 := Lib.hid (K2.out.below hb K2.out.lt)
      have P3 := Lib.hid (P2.out.below hb)
      clear hb
      go_wp2_with fail
      refine (show Calls Tryd.prog 28 #[.pointer (some ⟨g, 0, none⟩), .int .i64 ((deep : Int) + 1)] w3 _ from IH.out (deep + 1) n1 w3 (by omega) (by omega) P3.out).mono ?_
      rintro e w4 ⟨cs, rfl, hcs, hg, hp⟩
      have D4 := Lib.hid hcs
      have C6 := Lib.hid hcs.length
      have C1 := Lib.hid (show cs.all (·.oneCell') = true from List.all_eq_true.2 (RxD.one hcs))
      have G4 := Lib.hid (grownG_trans G3.out hg)
      have K4 := Lib.hid (K3.out.grown hg HNE.out)
      have P4 := Lib.hid hp
      have S3 := Lib.hid G3.out.size
      have S4 := Lib.hid hg.size
      rw [← HTX.out] at D4
      rw [← HN2.out] at P4
      clear hcs hg hp
      go_wp2_with (first
        | ((with_reducible refine atDst 6 ?_); refine wpList_new rfl 27 rfl i0 _ z hi0 HZ0.out rfl (Below.refl w4.heap.size w4) (Nat.le_refl _) ?_; intro w5 hk hb hs ho; have L5 := Lib.hid hk; have B5 := Lib.hid hb; clear hk hb hs ho; (try simp only [Act.put, List.setIfInBounds_toArray, List.set_cons_zero, List.set_cons_succ]))
        | ((with_reducible refine atStore 27 6 38 ?_); refine wpList_stBlk rfl 27 _ _ rfl w4.heap.size cs rfl rfl 27 _ L5.out (size_rx C6.out) (by rw [HZL.out, C6.out]) C1.out B5.out (Nat.le_refl _) ?_; intro w6 hk hb hs ho; have L6 := Lib.hid hk; have B6 := Lib.hid hb; clear hk hb hs ho; (try simp only [Act.put, List.setIfInBounds_toArray, List.set_cons_zero, List.set_cons_succ])))
      have G6 := Lib.hid (grownG_trans G4.out (below_grownG g B6.out))
      have K6 := Lib.hid (K4.out.below B6.out K4.out.lt)
      have P6 := Lib.hid (P4.out.below B6.out)
      have D6 := Lib.hid (D4.out.stay (w' := w6) fun k hk => B6.out.block k hk.2)
      have NX := Lib.hid (show some w4.heap.size ≠ some g from fun he => by have h1 := Option.some.inj he; have h2 := P4.out.blk.lt; omega)
      have GL := Lib.hid P4.out.blk.lt
      refine sx_startB (B := g) (w0 := w6) (by kernel_rfl) (Below.refl _ _) (fun wd hwd hX => ?_)
      have hbd := (Below.refl w6.heap.size w6).drew
      rw [← hwd] at hbd
      have G7 := Lib.hid (grownG_trans G6.out (below_grownG g hbd))
      have K7 := Lib.hid (K6.out.below hbd K6.out.lt)
      have L7 := Lib.hid (L6.out.below hbd L6.out.lt)
      have P7 := Lib.hid (P6.out.below hbd)
      have S7 := Lib.hid (Nat.le_trans B6.out.size hbd.size)
      have D7 := Lib.hid (D6.out.stay (w' := wd) fun k hk => hbd.block k (Nat.lt_of_lt_of_le hk.2 B6.out.size))
      clear hwd hbd
      refine sx_take (i := 1) (oi := ⟨some 55, _, _, _, _, _⟩) (v := ?_) rfl (by kernel_rfl) (by kernel_rfl) (by kernel_rfl) (fun _ _ _ h => h) rfl hX ?_ ?_; rotate_left; (intro W hW; go_simp; try with_reducible rfl); simp only [Act.put, List.setIfInBounds_toArray, List.set_cons_zero, List.set_cons_succ]
      refine sx_take (i := 2) (oi := ⟨some 56, _, _, _, _, _⟩) (v := ?_) rfl (by kernel_rfl) (by kernel_rfl) (by kernel_rfl) (fun _ _ _ h => h) rfl hX ?_ ?_; rotate_left; (intro W hW; go_simp; try with_reducible rfl); simp only [Act.put, List.setIfInBounds_toArray, List.set_cons_zero, List.set_cons_succ]
      refine sx_take (i := 3) (oi := ⟨some 57, _, _, _, _, _⟩) (v := ?_) rfl (by kernel_rfl) (by kernel_rfl) (by kernel_rfl) (fun _ _ _ h => h) rfl hX ?_ ?_; rotate_left; (intro W hW; go_simp; try with_reducible rfl); simp only [Act.put, List.setIfInBounds_toArray, List.set_cons_zero, List.set_cons_succ]
      refine sx_two (i := 0) (j := 4) (oi := ⟨some 54, _, _, _, _, _⟩) (oj := ⟨some 58, _, _, _, _, _⟩) rfl rfl (by kernel_rfl) rfl rfl hX (fun K hK => ?_) (fun K hK => ?_)
      · refine wp_of_run (ld_blk 27 _ rfl w4.heap.size rfl 27 _ _ L7.out L7.out.lt Tryd.underlying27 rfl (size_rx C6.out) wd (Below.refl _ _)) ?_
        refine hK _ _ (Below.refl _ _) ?_
        (try simp only [Act.put, List.setIfInBounds_toArray, List.set_cons_zero, List.set_cons_succ])
        clear hK K
        refine sx_actB (i := 4) (o := ⟨some 58, _, _, _, _, _⟩) rfl (by kernel_rfl) rfl hX (fun K hK => ?_)
        go_wp2_with fail
        refine (show Calls Tryd.prog 28 #[.pointer (some ⟨g, 0, none⟩), .int .i64 ((deep : Int) + 1)] wd _ from IH.out (deep + 1) n2 wd (by omega) (by omega) P7.out).mono ?_
        rintro e w8 ⟨ds, rfl, hds, hg, hp⟩
        go_wp2_with fail
        have hbg := grown_belowG hg P7.out.blk.lt
        refine hK _ _ hbg ?_
        (try simp only [Act.put, List.setIfInBounds_toArray, List.set_cons_zero, List.set_cons_succ])
        clear hK K
        replace hX := hX.trans hbg
        have Y8 := Lib.hid hds
        have Y6 := Lib.hid hds.length
        have G8 := Lib.hid (grownG_trans G7.out hg)
        have K8 := Lib.hid (K7.out.grown hg HNE.out)
        have L8 := Lib.hid (L7.out.grown hg NX.out)
        have P8 := Lib.hid hp
        have S8 := Lib.hid hg.size
        have D8 := Lib.hid (D7.out.stay (w' := w8) fun k hk => hg.block k (Nat.lt_of_lt_of_le hk.2 S7.out) (fun he => by have h1 := Option.some.inj he; have h2 := GL3.out; have h3 := hk.1; have h4 := S3.out; omega))
        rw [← HTY.out] at Y8
        rw [← HM.out] at P8
        clear hds hg hp hbg
        refine sx_actB (i := 5) (o := ⟨some 59, _, _, _, _, _⟩) rfl (by kernel_rfl) rfl hX (fun K hK => ?_)
        refine wp_bldT2 25 27 (.tmp 54) (.tmp 58) rfl i0 Tryd.underlying25 hi0 HZ1.out hz1 cs ds C6.out Y6.out rfl rfl ?_
        intro w9 hk hb hs
        refine hK _ _ (hb.mono (Nat.le_of_lt P8.out.blk.lt)) ?_
        (try simp only [Act.put, List.setIfInBounds_toArray, List.set_cons_zero, List.set_cons_succ])
        clear hK K
        replace hX := hX.trans (hb.mono (Nat.le_of_lt P8.out.blk.lt))
        have M9 := Lib.hid hk
        have G9 := Lib.hid (grownG_trans G8.out (below_grownG g hb))
        have K9 := Lib.hid (K8.out.below hb K8.out.lt)
        have P9 := Lib.hid (P8.out.below hb)
        have X9 := Lib.hid (show RxV w9.heap.size w9 cs tx from RxD.mono (D8.out.stay (w' := w9) fun k hk => hb.block k (Nat.lt_of_lt_of_le hk.2 (Nat.le_trans S7.out S8.out))) fun k hk => by have h1 := S7.out; have h2 := S8.out; have h3 := hk.2; have h4 := hb.size; omega)
        have Z9 := Lib.hid (show RxV w9.heap.size w9 ds ty from RxD.mono (Y8.out.stay (w' := w9) fun k hk => hb.block k hk.2) fun k hk => by have h3 := hk.2; have h4 := hb.size; omega)
        have LT9 := Lib.hid (show w8.heap.size < w9.heap.size by rw [hs]; omega)
        clear hk hb hs
        refine sx_actB (i := 6) (o := ⟨some 60, _, _, _, _, _⟩) rfl (by kernel_rfl) rfl hX (fun K hK => ?_)
        go_wp2_with fail
        refine (refAlt_any [tx, ty] _ w9 (row_two M9.out X9.out Z9.out LT9.out) HNL.out).mono ?_
        rintro e wx ⟨es, rfl, hes, hb⟩
        go_wp2_with fail
        refine hK _ _ (hb.mono (Nat.le_of_lt P9.out.blk.lt)) ?_
        (try simp only [Act.put, List.setIfInBounds_toArray, List.set_cons_zero, List.set_cons_succ])
        clear hK K
        replace hX := hX.trans (hb.mono (Nat.le_of_lt P9.out.blk.lt))
        have E10 := Lib.hid hes
        have E6 := Lib.hid hes.length
        have E1 := Lib.hid (show es.all (·.oneCell') = true from List.all_eq_true.2 (RxD.one hes))
        have GX := Lib.hid (grownG_trans G9.out (below_grownG g hb))
        have KX := Lib.hid (K9.out.below hb K9.out.lt)
        have PX := Lib.hid (P9.out.below hb)
        have SX := Lib.hid (show w.heap.size < w9.heap.size from K9.out.lt)
        clear hes hb
        refine sx_actB (i := 7) (o := ⟨none, _, _, _, _, _⟩) rfl (by kernel_rfl) rfl hX (fun K hK => ?_)
        refine wp_stBlk 27 _ _ rfl w.heap.size es rfl rfl 27 _ KX.out (size_rx E6.out) (by rw [HZL.out, E6.out]) E1.out (Below.refl w.heap.size wx) (Nat.le_refl _) ?_
        intro w11 hk hb hs ho hbB
        refine hK _ _ (hbB g (Nat.le_of_lt HPK.out.blk.lt)) ?_
        (try simp only [Act.put, List.setIfInBounds_toArray, List.set_cons_zero, List.set_cons_succ])
        clear hK K hX hbB
        have K11 := Lib.hid hk
        have G11 := Lib.hid (grownG_below GX.out hb)
        have P11 := Lib.hid (PX.out.other _ ho HPK.out.blk.lt hb)
        have E11 := Lib.hid (RxD.mono (E10.out.stay (w' := w11) fun k hk => ho k (by have h1 := hk.1; have h2 := SX.out; omega)) (D' := fun k => w.heap.size ≤ k ∧ k < w11.heap.size) fun k hk => ⟨by have h1 := hk.1; have h2 := SX.out; omega, by have h1 := hk.2; omega⟩)
        clear hk hb hs ho
        refine wpAnyH_done (by kernel_rfl) ?_ _
        go_wp2_with fail
        refine bodyPost_ret (results_blk rfl _ _ w.heap.size 27 _ _ rfl K11.out Tryd.underlying27 rfl (size_rx E6.out)) rfl ?_
        exact ⟨es, rfl, by rw [HQ.out]; exact E11.out, G11.out, P11.out⟩
      · go_wp2_with fail
        refine (show Calls Tryd.prog 28 #[.pointer (some ⟨g, 0, none⟩), .int .i64 ((deep : Int) + 1)] wd _ from IH.out (deep + 1) n2 wd (by omega) (by omega) P7.out).mono ?_
        rintro e w8 ⟨ds, rfl, hds, hg, hp⟩
        go_wp2_with fail
        have hbg := grown_belowG hg P7.out.blk.lt
        refine hK _ _ hbg ?_
        (try simp only [Act.put, List.setIfInBounds_toArray, List.set_cons_zero, List.set_cons_succ])
        clear hK K
        replace hX := hX.trans hbg
        have Y8 := Lib.hid hds
        have Y6 := Lib.hid hds.length
        have G8 := Lib.hid (grownG_trans G7.out hg)
        have K8 := Lib.hid (K7.out.grown hg HNE.out)
        have L8 := Lib.hid (L7.out.grown hg NX.out)
        have P8 := Lib.hid hp
        have S8 := Lib.hid hg.size
        have D8 := Lib.hid (D7.out.stay (w' := w8) fun k hk => hg.block k (Nat.lt_of_lt_of_le hk.2 S7.out) (fun he => by have h1 := Option.some.inj he; have h2 := GL3.out; have h3 := hk.1; have h4 := S3.out; omega))
        rw [← HTY.out] at Y8
        rw [← HM.out] at P8
        clear hds hg hp hbg
        refine sx_actB (i := 0) (o := ⟨some 54, _, _, _, _, _⟩) rfl (by kernel_rfl) rfl hX (fun K hK => ?_)
        refine wp_of_run (ld_blk 27 _ rfl w4.heap.size rfl 27 _ _ L8.out L8.out.lt Tryd.underlying27 rfl (size_rx C6.out) w8 (Below.refl _ _)) ?_
        refine hK _ _ (Below.refl _ _) ?_
        (try simp only [Act.put, List.setIfInBounds_toArray, List.set_cons_zero, List.set_cons_succ])
        clear hK K
        refine sx_actB (i := 5) (o := ⟨some 59, _, _, _, _, _⟩) rfl (by kernel_rfl) rfl hX (fun K hK => ?_)
        refine wp_bldT2 25 27 (.tmp 54) (.tmp 58) rfl i0 Tryd.underlying25 hi0 HZ1.out hz1 cs ds C6.out Y6.out rfl rfl ?_
        intro w9 hk hb hs
        refine hK _ _ (hb.mono (Nat.le_of_lt P8.out.blk.lt)) ?_
        (try simp only [Act.put, List.setIfInBounds_toArray, List.set_cons_zero, List.set_cons_succ])
        clear hK K
        replace hX := hX.trans (hb.mono (Nat.le_of_lt P8.out.blk.lt))
        have M9 := Lib.hid hk
        have G9 := Lib.hid (grownG_trans G8.out (below_grownG g hb))
        have K9 := Lib.hid (K8.out.below hb K8.out.lt)
        have P9 := Lib.hid (P8.out.below hb)
        have X9 := Lib.hid (show RxV w9.heap.size w9 cs tx from RxD.mono (D8.out.stay (w' := w9) fun k hk => hb.block k (Nat.lt_of_lt_of_le hk.2 (Nat.le_trans S7.out S8.out))) fun k hk => by have h1 := S7.out; have h2 := S8.out; have h3 := hk.2; have h4 := hb.size; omega)
        have Z9 := Lib.hid (show RxV w9.heap.size w9 ds ty from RxD.mono (Y8.out.stay (w' := w9) fun k hk => hb.block k hk.2) fun k hk => by have h3 := hk.2; have h4 := hb.size; omega)
        have LT9 := Lib.hid (show w8.heap.size < w9.heap.size by rw [hs]; omega)
        clear hk hb hs
        refine sx_actB (i := 6) (o := ⟨some 60, _, _, _, _, _⟩) rfl (by kernel_rfl) rfl hX (fun K hK => ?_)
        go_wp2_with fail
        refine (refAlt_any [tx, ty] _ w9 (row_two M9.out X9.out Z9.out LT9.out) HNL.out).mono ?_
        rintro e wx ⟨es, rfl, hes, hb⟩
        go_wp2_with fail
        refine hK _ _ (hb.mono (Nat.le_of_lt P9.out.blk.lt)) ?_
        (try simp only [Act.put, List.setIfInBounds_toArray, List.set_cons_zero, List.set_cons_succ])
        clear hK K
        replace hX := hX.trans (hb.mono (Nat.le_of_lt P9.out.blk.lt))
        have E10 := Lib.hid hes
        have E6 := Lib.hid hes.length
        have E1 := Lib.hid (show es.all (·.oneCell') = true from List.all_eq_true.2 (RxD.one hes))
        have GX := Lib.hid (grownG_trans G9.out (below_grownG g hb))
        have KX := Lib.hid (K9.out.below hb K9.out.lt)
        have PX := Lib.hid (P9.out.below hb)
        have SX := Lib.hid (show w.heap.size < w9.heap.size from K9.out.lt)
        clear hes hb
        refine sx_actB (i := 7) (o := ⟨none, _, _, _, _, _⟩) rfl (by kernel_rfl) rfl hX (fun K hK => ?_)
        refine wp_stBlk 27 _ _ rfl w.heap.size es rfl rfl 27 _ KX.out (size_rx E6.out) (by rw [HZL.out, E6.out]) E1.out (Below.refl w.heap.size wx) (Nat.le_refl _) ?_
        intro w11 hk hb hs ho hbB
        refine hK _ _ (hbB g (Nat.le_of_lt HPK.out.blk.lt)) ?_
        (try simp only [Act.put, List.setIfInBounds_toArray, List.set_cons_zero, List.set_cons_succ])
        clear hK K hX hbB
        have K11 := Lib.hid hk
        have G11 := Lib.hid (grownG_below GX.out hb)
        have P11 := Lib.hid (PX.out.other _ ho HPK.out.blk.lt hb)
        have E11 := Lib.hid (RxD.mono (E10.out.stay (w' := w11) fun k hk => ho k (by have h1 := hk.1; have h2 := SX.out; omega)) (D' := fun k => w.heap.size ≤ k ∧ k < w11.heap.size) fun k hk => ⟨by have h1 := hk.1; have h2 := SX.out; omega, by have h1 := hk.2; omega⟩)
        clear hk hb hs ho
        refine wpAnyH_done (by kernel_rfl) ?_ _
        go_wp2_with fail
        refine bodyPost_ret (results_blk rfl _ _ w.heap.size 27 _ _ rfl K11.out Tryd.underlying27 rfl (size_rx E6.out)) rfl ?_
        exact ⟨es, rfl, by rw [HQ.out]; exact E11.out, G11.out, P11.out⟩
    have z7 : ((x0 : Int) == 7) = false := by rw [beq_eq_false_iff_ne]; omega
    rw [if_neg (by omega), if_neg (by omega)] at hq hm
    have HQ := Lib.hid (show q = starT tx from hq)
    have HM := Lib.hid (show m = n2 from hm)
    clear hq hm hty hl9 hx3 hx4 hx5 hx6 hx7
    go_enter Tryd.func28, Tryd.ntmps28
    go_wp2_with ((with_reducible refine atDst 4 ?_); refine wpList_new rfl 27 rfl i0 _ z hi0 HZ0.out rfl (Below.refl w.heap.size w) (Nat.le_refl _) ?_; intro w1 hk1 hb1 hs1 _; have K1 := Lib.hid hk1; have G1 := Lib.hid (below_grownG g hb1); have P1 := Lib.hid (HPK.out.below hb1); clear hk1 hb1 hs1; (try simp only [Act.put, List.setIfInBounds_toArray, List.set_cons_zero, List.set_cons_succ]))
    refine (num_any w1 g V ps n 9 P1.out (by omega) (by omega)).mono ?_
    rintro e w2 ⟨rfl, hg, hp⟩
    have G2 := Lib.hid (grownG_trans G1.out hg)
    have K2 := Lib.hid (K1.out.grown hg HNE.out)
    have P2 := Lib.hid hp
    rw [← HX0.out]
    rw [← HN1.out] at P2
    clear hg hp
    go_wp2_with fail
    refine (over_any w2 g V ps n1 P2.out).mono ?_
    rintro e w3 ⟨rfl, hb⟩
    rw [HOV.out]
    have G3 := Lib.hid (grownG_trans G2.out (below_grownG g hb))
    have K3 := Lib.hid (K2.out.below hb K2.out.lt)
    have P3 := Lib.hid (P2.out.below hb)
    clear hb
    go_wp2_with fail
    refine (show Calls Tryd.prog 28 #[.pointer (some ⟨g, 0, none⟩), .int .i64 ((deep : Int) + 1)] w3 _ from IH.out (deep + 1) n1 w3 (by omega) (by omega) P3.out).mono ?_
    rintro e w4 ⟨cs, rfl, hcs, hg, hp⟩
    have D4 := Lib.hid hcs
    have C6 := Lib.hid hcs.length
    have C1 := Lib.hid (show cs.all (·.oneCell') = true from List.all_eq_true.2 (RxD.one hcs))
    have G4 := Lib.hid (grownG_trans G3.out hg)
    have K4 := Lib.hid (K3.out.grown hg HNE.out)
    have P4 := Lib.hid hp
    have S3 := Lib.hid G3.out.size
    have S4 := Lib.hid hg.size
    rw [← HTX.out] at D4
    rw [← HN2.out] at P4
    clear hcs hg hp
    go_wp2_with (first
      | ((with_reducible refine atDst 6 ?_); refine wpList_new rfl 27 rfl i0 _ z hi0 HZ0.out rfl (Below.refl w4.heap.size w4) (Nat.le_refl _) ?_; intro w5 hk hb hs ho; have L5 := Lib.hid hk; have B5 := Lib.hid hb; clear hk hb hs ho; (try simp only [Act.put, List.setIfInBounds_toArray, List.set_cons_zero, List.set_cons_succ]))
      | ((with_reducible refine atStore 27 6 38 ?_); refine wpList_stBlk rfl 27 _ _ rfl w4.heap.size cs rfl rfl 27 _ L5.out (size_rx C6.out) (by rw [HZL.out, C6.out]) C1.out B5.out (Nat.le_refl _) ?_; intro w6 hk hb hs ho; have L6 := Lib.hid hk; have B6 := Lib.hid hb; clear hk hb hs ho; (try simp only [Act.put, List.setIfInBounds_toArray, List.set_cons_zero, List.set_cons_succ]))
      | ((with_reducible refine atDst 61 ?_); refine wpList_ldArr rfl 27 _ rfl w4.heap.size rfl 27 _ _ L6.out Tryd.underlying27 rfl (size_rx C6.out) ?_; (try simp only [Act.put, List.setIfInBounds_toArray, List.set_cons_zero, List.set_cons_succ])))
    have G6 := Lib.hid (grownG_trans G4.out (below_grownG g B6.out))
    have K6 := Lib.hid (K4.out.below B6.out K4.out.lt)
    have P6 := Lib.hid (P4.out.below B6.out)
    have D6 := Lib.hid (D4.out.stay (w' := w6) fun k hk => B6.out.block k hk.2)
    have NX := Lib.hid (show some w4.heap.size ≠ some g from fun he => by have h1 := Option.some.inj he; have h2 := P4.out.blk.lt; omega)
    have GL := Lib.hid P4.out.blk.lt
    refine (refStar_any tx cs w6 (D := fun k => w3.heap.size ≤ k ∧ k < w4.heap.size) (fun k hk => Nat.lt_of_lt_of_le hk.2 B6.out.size) D6.out (by have := HNX.out; omega) HGX.out).mono ?_
    rintro e wx ⟨es, rfl, hes, hb⟩
    have E10 := Lib.hid hes
    have E6 := Lib.hid hes.length
    have E1 := Lib.hid (show es.all (·.oneCell') = true from List.all_eq_true.2 (RxD.one hes))
    have GX := Lib.hid (grownG_trans G6.out (below_grownG g hb))
    have KX := Lib.hid (K6.out.below hb K6.out.lt)
    have PX := Lib.hid (P6.out.below hb)
    have SX := Lib.hid (show w.heap.size < w6.heap.size from K6.out.lt)
    clear hes hb
    go_wp2_with ((with_reducible refine atStore 27 4 62 ?_); refine wpList_stBlk rfl 27 _ _ rfl w.heap.size es rfl rfl 27 _ KX.out (size_rx E6.out) (by rw [HZL.out, E6.out]) E1.out (Below.refl w.heap.size wx) (Nat.le_refl _) ?_; intro w11 hk hb hs ho; have K11 := Lib.hid hk; have G11 := Lib.hid (grownG_below GX.out hb); have P11 := Lib.hid (PX.out.other _ ho HPK.out.blk.lt hb); have E11 := Lib.hid (RxD.mono (E10.out.stay (w' := w11) fun k hk => ho k (by have h1 := hk.1; have h2 := SX.out; omega)) (D' := fun k => w.heap.size ≤ k ∧ k < w11.heap.size) fun k hk => ⟨by have h1 := hk.1; have h2 := SX.out; omega, by have h1 := hk.2; omega⟩); clear hk hb hs ho; (try simp only [Act.put, List.setIfInBounds_toArray, List.set_cons_zero, List.set_cons_succ]))
    refine bodyPost_ret (results_blk rfl _ _ w.heap.size 27 _ _ rfl K11.out Tryd.underlying27 rfl (size_rx E6.out)) rfl ?_
    exact ⟨es, rfl, by rw [HQ.out]; exact E11.out, G11.out, by rw [HM.out]; exact P11.out⟩
end Go.Proofs.YtmlojjgddmnbmaaDoor
namespace Go.Proofs.YtmlojjgddmnbmaaDoor
open Go.RowKit
set_option linter.unusedSimpArgs false
set_option linter.unusedVariables false

/-- The expression that numbers make. -/
def madeT (ps : List UInt8) : T := (rxP ps 10 0 0).1
theorem madeT_good (ps : List UInt8) : good (madeT ps) := rxP_good ps 10 0 0
theorem madeT_nodes (ps : List UInt8) : (madeT ps).nodes ≤ 6139 := by
  have := rxP_nodes ps 10 0 0
  show (rxP ps 10 0 0).1.nodes ≤ 6139
  omega
theorem built_picks (A : Option Addr) (n c : Nat) : Tryd.prog.built 52 [(0, .slice A n c)] = some #[.slice A n c, .int .i64 0] := by kernel_rfl
set_option maxHeartbeats 4000000 in
set_option maxRecDepth 1000000 in
theorem made_any (V : Value) (ps : List UInt8) (w : World) (hr : Row w V (bvs ps)) (hl : ps.length ≤ 1048576) :
    Calls Tryd.prog 15 #[V] w fun e w' => e = .returned (.pointer (some ⟨w.heap.size, 0, none⟩)) ∧ Below w.heap.size w w' ∧ Pk w' w.heap.size V ps 0 := by
  have R := Lib.hid hr
  obtain ⟨A, cap, rfl, _⟩ := hr
  obtain ⟨n, hn⟩ : ∃ n, n = (bvs ps).length := ⟨_, rfl⟩
  rw [← hn] at R ⊢
  obtain ⟨cs, hcs⟩ : ∃ cs, cs = [Value.slice A n cap, .int .i64 0] := ⟨_, rfl⟩
  have HB := Lib.hid (show Tryd.prog.built 52 [(0, .slice A n cap)] = some cs.toArray by rw [hcs]; exact built_picks A n cap)
  have HC := Lib.hid hcs
  clear hn hcs
  go_enter Tryd.func15, Tryd.ntmps15
  go_wp2_with (first
    | ((with_reducible refine atDst 4 ?_); refine wpList_bld rfl 52 _ rfl cs HB.out ?_; (try simp only [Act.put, List.setIfInBounds_toArray, List.set_cons_zero, List.set_cons_succ]))
    | ((with_reducible refine atDst 5 ?_); refine wpList_box rfl 52 _ rfl cs rfl (Below.refl w.heap.size w) (Nat.le_refl _) ?_; intro w1 hk1 hb1 hs1 _; have K1 := Lib.hid hk1; have B1 := Lib.hid hb1; clear hk1 hb1 hs1; (try simp only [Act.put, List.setIfInBounds_toArray, List.set_cons_zero, List.set_cons_succ])))
  go_ret
  have hk := K1.out
  rw [HC.out] at hk
  exact ⟨rfl, B1.out, ⟨hk, R.out.toB.below B1.out, Nat.zero_le _, hl⟩⟩
set_option maxHeartbeats 4000000 in
set_option maxRecDepth 1000000 in
theorem pickRx_any (g : Nat) (V : Value) (ps : List UInt8) (w : World) (h : Pk w g V ps 0) :
    Calls Tryd.prog 16 #[.pointer (some ⟨g, 0, none⟩)] w fun e w' => ∃ ds, e = .returned (.agg ds.toArray) ∧ RxD (fun k => w.heap.size ≤ k ∧ k < w'.heap.size) w' ds (madeT ps) ∧ w.grownBy w' (some g) := by
  have HPK := Lib.hid h
  have HNE := Lib.hid (show some w.heap.size ≠ some g from fun he => by have h1 := Option.some.inj he; have h2 := h.blk.lt; omega)
  obtain ⟨i0, hi0, hz0, hz1, hz2⟩ := inf_rx'
  obtain ⟨z, hz⟩ : ∃ z, z = rxc 0 zeroS (.slice none 0 0) := ⟨_, rfl⟩
  have HZL := Lib.hid (show z.length = 6 by rw [hz]; rfl)
  have HZ0 := Lib.hid (show i0.zero = some (.agg z.toArray) by rw [hz]; exact hz0)
  clear hz hz0 h
  go_enter Tryd.func16, Tryd.ntmps16
  go_wp2_with ((with_reducible refine atDst 2 ?_); refine wpList_new rfl 27 rfl i0 _ z hi0 HZ0.out rfl (Below.refl w.heap.size w) (Nat.le_refl _) ?_; intro w1 hk1 hb1 hs1 _; have K1 := Lib.hid hk1; have G1 := Lib.hid (below_grownG g hb1); have P1 := Lib.hid (HPK.out.below hb1); clear hk1 hb1 hs1; (try simp only [Act.put, List.setIfInBounds_toArray, List.set_cons_zero, List.set_cons_succ]))
  refine (rx_any g V ps 10 0 0 w1 (by omega) (by omega) P1.out).mono ?_
  rintro e w2 ⟨es, rfl, hes, hg, hp⟩
  have E10 := Lib.hid hes
  have E6 := Lib.hid hes.length
  have E1 := Lib.hid (show es.all (·.oneCell') = true from List.all_eq_true.2 (RxD.one hes))
  have GX := Lib.hid (grownG_trans G1.out hg)
  have KX := Lib.hid (K1.out.grown hg HNE.out)
  have SX := Lib.hid (show w.heap.size < w1.heap.size from K1.out.lt)
  clear hes hg hp
  go_wp2_with ((with_reducible refine atStore 27 2 4 ?_); refine wpList_stBlk rfl 27 _ _ rfl w.heap.size es rfl rfl 27 _ KX.out (size_rx E6.out) (by rw [HZL.out, E6.out]) E1.out (Below.refl w.heap.size w2) (Nat.le_refl _) ?_; intro w11 hk hb hs ho; have K11 := Lib.hid hk; have G11 := Lib.hid (grownG_below GX.out hb); have E11 := Lib.hid (RxD.mono (E10.out.stay (w' := w11) fun k hk => ho k (by have h1 := hk.1; have h2 := SX.out; omega)) (D' := fun k => w.heap.size ≤ k ∧ k < w11.heap.size) fun k hk => ⟨by have h1 := hk.1; have h2 := SX.out; omega, by have h1 := hk.2; omega⟩); clear hk hb hs ho; (try simp only [Act.put, List.setIfInBounds_toArray, List.set_cons_zero, List.set_cons_succ]))
  refine bodyPost_ret (results_blk rfl _ _ w.heap.size 27 _ _ rfl K11.out Tryd.underlying27 rfl (size_rx E6.out)) rfl ?_
  exact ⟨es, rfl, E11.out, G11.out⟩
end Go.Proofs.YtmlojjgddmnbmaaDoor
