/-
  Sets of bytes, compared. No statement is proved here.
-/
import Derived.Test.YtaobeconjdeenaaDoorSetS
namespace Go.Proofs.YtaobeconjdeenaaDoor
open Go.RowKit
set_option linter.unusedSimpArgs false
set_option linter.unusedVariables false

theorem all_range_int : ∀ (xs ys : List Int), xs.length = ys.length → ((List.range xs.length).all fun i => xs.getD i 0 == ys.getD i 0) = (xs == ys)
  | [], [], _ => rfl
  | x :: xs, y :: ys, h => by
    have ih := all_range_int xs ys (by simpa using h)
    rw [List.length_cons, List.range_succ_eq_map, List.all_cons, List.all_map]
    simp only [List.getD_cons_zero, Function.comp_def, List.getD_cons_succ, ih]
    simp [List.cons_beq_cons]
  | [], _ :: _, h => by simp at h
  | _ :: _, [], h => by simp at h

section
variable {P : Program} (w : World)
theorem run_equalIn_nums (d : Nat) (t e : TypeId) (n : Nat) (k : IntKind) (ht : P.underlying t = some (.array n e)) (he : P.underlying e = some (.int k)) (hsz : ∀ w, (sizeOf e).run P w = .ok 1 w)
    (xs ys : List Int) (hx : xs.length = n) (hy : ys.length = n) :
    (Op.equalIn (d + 2) t (.agg (nums k xs).toArray) (.agg (nums k ys).toArray)).run P w = .ok (xs == ys) w := by
  rw [← all_range_int xs ys (hx.trans hy.symm), hx, List.range_eq_range', Op.equalIn]
  simp only [Sem.run_bind, run_underlying ht, Result.andThen_ok, hsz, Std.Legacy.Range.forIn_eq_forIn_range', Std.Legacy.Range.size, Nat.sub_zero, Nat.add_sub_cancel, Nat.div_one]
  have hl : ∀ i ∈ List.range' 0 n 1, i < n := fun i hi => by simpa using (List.mem_range'_1.1 hi).2
  generalize List.range' 0 n 1 = l at hl ⊢
  induction l with
  | nil => simp
  | cons i l ih =>
    have hi : i < n := hl i (by simp)
    have px : (part e (nums k xs).toArray (i * 1)).run P w = .ok (.int k (xs.getD i 0)) w := by
      simp [part, isAgg, run_underlying he, List.getD, nums, List.getElem?_eq_getElem (show i < xs.length by omega)]
    have py : (part e (nums k ys).toArray (i * 1)).run P w = .ok (.int k (ys.getD i 0)) w := by
      simp [part, isAgg, run_underlying he, List.getD, nums, List.getElem?_eq_getElem (show i < ys.length by omega)]
    have pe : (Op.equalIn (d + 1) e (.int k (xs.getD i 0)) (.int k (ys.getD i 0))).run P w = .ok (xs.getD i 0 == ys.getD i 0) w := run_equalIn_int w d e k k _ _ he
    simp only [List.forIn_cons, Sem.run_bind, px, py, pe, Result.andThen_ok, List.all_cons]
    cases hb : (xs.getD i 0 == ys.getD i 0)
    · simp
    · simp only [Bool.not_true, Bool.false_eq_true, if_false, Sem.run_pure, Result.andThen_ok, Bool.true_and]
      exact ih fun j hj => hl j (by simp [hj])

/-- Are two sets the same? -/
def eqS (p q : Nat → Bool) : Bool := [(word p 0 : Int), (word p 1 : Int), (word p 2 : Int), (word p 3 : Int)] == [(word q 0 : Int), (word q 1 : Int), (word q 2 : Int), (word q 3 : Int)]
theorem eqS_self (p : Nat → Bool) : eqS p p = true := by simp [eqS]
theorem eqS_iff (p q : Nat → Bool) : eqS p q = true ↔ ∀ b, b < 256 → p b = q b := by
  constructor
  · intro h
    have h' : [(word p 0 : Int), (word p 1 : Int), (word p 2 : Int), (word p 3 : Int)] = [(word q 0 : Int), (word q 1 : Int), (word q 2 : Int), (word q 3 : Int)] := by simpa [eqS] using h
    refine wds_inj ?_
    unfold wds
    simp only [List.cons.injEq, and_true] at h'
    rw [h'.1, h'.2.1, h'.2.2.1, h'.2.2.2]
  · intro h
    unfold eqS
    rw [word_congr h 0 (by omega), word_congr h 1 (by omega), word_congr h 2 (by omega), word_congr h 3 (by omega)]
    simp
theorem eqS_of_wds {p q : Nat → Bool} (h : wds p = wds q) : eqS p q = true := (eqS_iff p q).2 (wds_inj h)
section
variable (t e : TypeId) (ht : P.underlying t = some (.array 4 e)) (he : P.underlying e = some (.int .u64)) (hsz : ∀ w, (sizeOf e).run P w = .ok 1 w) (p q : Nat → Bool)
include ht he hsz
theorem run_eql_sets : (binOp .eql t (.agg (wds p).toArray) (.agg (wds q).toArray)).run P w = .ok (.bool (eqS p q)) w := by
  have := run_equalIn_nums (P := P) w 9998 t e 4 .u64 ht he hsz [(word p 0 : Int), (word p 1 : Int), (word p 2 : Int), (word p 3 : Int)] [(word q 0 : Int), (word q 1 : Int), (word q 2 : Int), (word q 3 : Int)] rfl rfl
  rw [run_eql_struct]
  have e1 : (wds p).toArray = (nums .u64 [(word p 0 : Int), (word p 1 : Int), (word p 2 : Int), (word p 3 : Int)]).toArray := rfl
  have e2 : (wds q).toArray = (nums .u64 [(word q 0 : Int), (word q 1 : Int), (word q 2 : Int), (word q 3 : Int)]).toArray := rfl
  rw [e1, e2, this]
  rfl
theorem run_neq_sets : (binOp .neq t (.agg (wds p).toArray) (.agg (wds q).toArray)).run P w = .ok (.bool (!eqS p q)) w := by
  have := run_equalIn_nums (P := P) w 9998 t e 4 .u64 ht he hsz [(word p 0 : Int), (word p 1 : Int), (word p 2 : Int), (word p 3 : Int)] [(word q 0 : Int), (word q 1 : Int), (word q 2 : Int), (word q 3 : Int)] rfl rfl
  rw [run_neq_struct]
  have e1 : (wds p).toArray = (nums .u64 [(word p 0 : Int), (word p 1 : Int), (word p 2 : Int), (word p 3 : Int)]).toArray := rfl
  have e2 : (wds q).toArray = (nums .u64 [(word q 0 : Int), (word q 1 : Int), (word q 2 : Int), (word q 3 : Int)]).toArray := rfl
  rw [e1, e2, this]
  rfl
end
end
section
variable {P : Program} {w : World} {ops : Array Oper} {rest : List Oper} {o : Oper} {a : Act} {Q : Exit → Act → World → Prop}
theorem wpList_eqSet (hgd : Region.wanted o (yielded ops a.tmps) = true) (t e : TypeId) (x y : Operand) (oT : TypeId) (ho : o.op = .binOp .eql t x y oT) (hm : P.eqGuardType P.depth t = false)
    (ht : P.underlying t = some (.array 4 e)) (he : P.underlying e = some (.int .u64)) (hsz : ∀ w, (sizeOf e).run P w = .ok 1 w)
    (p q : Nat → Bool) (ex : a.eval x = .agg (wds p).toArray) (ey : a.eval y = .agg (wds q).toArray)
    (h : wpList P ops Q rest (a.put o.dst (.bool (eqS p q))) w) : wpList P ops Q (o :: rest) a w := by
  refine BigFrame.wpList_want hgd fun K hK => ?_
  unfold Oper.wp
  simp only [execOp, ho, ex, ey, Sem.run_bind, run_eqGuard_agg w .eql t x y _ _ hm, Result.andThen_ok, run_eql_sets w t e ht he hsz p q, Sem.run_pure]
  exact hK _ _ h
theorem wpList_eqSet_is (hgd : Region.wanted o (yielded ops a.tmps) = true) {b : Bool} {p q : Nat → Bool} (hb : eqS p q = b) (t e : TypeId) (x y : Operand) (oT : TypeId) (ho : o.op = .binOp .eql t x y oT) (hm : P.eqGuardType P.depth t = false)
    (ht : P.underlying t = some (.array 4 e)) (he : P.underlying e = some (.int .u64)) (hsz : ∀ w, (sizeOf e).run P w = .ok 1 w)
    (ex : a.eval x = .agg (wds p).toArray) (ey : a.eval y = .agg (wds q).toArray)
    (h : wpList P ops Q rest (a.put o.dst (.bool b)) w) : wpList P ops Q (o :: rest) a w :=
  wpList_eqSet hgd t e x y oT ho hm ht he hsz p q ex ey (hb ▸ h)
/-- Sets compared, at one operation of a region, in whatever world. -/
theorem eq_any {oi : Oper} (t e : TypeId) (x y : Operand) (oT : TypeId) (ho : oi.op = .binOp .eql t x y oT) (hm : P.eqGuardType P.depth t = false)
    (ht : P.underlying t = some (.array 4 e)) (he : P.underlying e = some (.int .u64)) (hsz : ∀ w, (sizeOf e).run P w = .ok 1 w)
    (p q : Nat → Bool) (ex : a.eval x = .agg (wds p).toArray) (ey : a.eval y = .agg (wds q).toArray) {S : World → Prop} :
    ∀ W, S W → (execOp a.eval oi).run P W = .ok (.value (.bool (eqS p q))) W := by
  intro W _
  simp only [execOp, ho, ex, ey, Sem.run_bind, run_eqGuard_agg W .eql t x y _ _ hm, Result.andThen_ok, run_eql_sets W t e ht he hsz p q, Sem.run_pure]
theorem ne_any {oi : Oper} (t e : TypeId) (x y : Operand) (oT : TypeId) (ho : oi.op = .binOp .neq t x y oT) (hm : P.eqGuardType P.depth t = false)
    (ht : P.underlying t = some (.array 4 e)) (he : P.underlying e = some (.int .u64)) (hsz : ∀ w, (sizeOf e).run P w = .ok 1 w)
    (p q : Nat → Bool) (ex : a.eval x = .agg (wds p).toArray) (ey : a.eval y = .agg (wds q).toArray) {S : World → Prop} :
    ∀ W, S W → (execOp a.eval oi).run P W = .ok (.value (.bool (!eqS p q))) W := by
  intro W _
  simp only [execOp, ho, ex, ey, Sem.run_bind, run_eqGuard_agg W .neq t x y _ _ hm, Result.andThen_ok, run_neq_sets W t e ht he hsz p q, Sem.run_pure]
theorem eq_is {b : Bool} {p q : Nat → Bool} (hb : (eqS p q) = b) {oi : Oper} (t e : TypeId) (x y : Operand) (oT : TypeId) (ho : oi.op = .binOp .eql t x y oT) (hm : P.eqGuardType P.depth t = false)
    (ht : P.underlying t = some (.array 4 e)) (he : P.underlying e = some (.int .u64)) (hsz : ∀ w, (sizeOf e).run P w = .ok 1 w)
    (ex : a.eval x = .agg (wds p).toArray) (ey : a.eval y = .agg (wds q).toArray) {S : World → Prop} :
    ∀ W, S W → (execOp a.eval oi).run P W = .ok (.value (.bool b)) W := hb ▸ eq_any t e x y oT ho hm ht he hsz p q ex ey
theorem ne_is {b : Bool} {p q : Nat → Bool} (hb : (!eqS p q) = b) {oi : Oper} (t e : TypeId) (x y : Operand) (oT : TypeId) (ho : oi.op = .binOp .neq t x y oT) (hm : P.eqGuardType P.depth t = false)
    (ht : P.underlying t = some (.array 4 e)) (he : P.underlying e = some (.int .u64)) (hsz : ∀ w, (sizeOf e).run P w = .ok 1 w)
    (ex : a.eval x = .agg (wds p).toArray) (ey : a.eval y = .agg (wds q).toArray) {S : World → Prop} :
    ∀ W, S W → (execOp a.eval oi).run P W = .ok (.value (.bool b)) W := hb ▸ ne_any t e x y oT ho hm ht he hsz p q ex ey
end
end Go.Proofs.YtaobeconjdeenaaDoor
