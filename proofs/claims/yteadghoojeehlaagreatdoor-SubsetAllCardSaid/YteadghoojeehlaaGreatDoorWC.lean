/-
  Texts of this proof, put together: DoorS, Tie, Cards, SetS, SetQ, RxT, RxN, RxO, RxSb, RxEp, RxIp, RxW. No statement is proved here.
-/
import Derived.Test.YteadghoojeehlaaGreatDoorWA
import Derived.Test.YteadghoojeehlaaGreatDoorWB
import Derived.ChangeSame
import Derived.ChangeVars
import Derived.JoinedOf
import Derived.RowKit
import Derived.RowKitTokens
import Derived.LaidLaws
import Derived.LaidHandle
import Derived.LaidMore
import Derived.LaidOnce
import Derived.Stop.Joined
import Derived.Lib.LaidTab
import Derived.Test.YteadghoojeehlaaGreatDoorRows
import Derived.LaidByTextLater
import Derived.SevenTiedAt
import Derived.LaidSub
import GoSem.ClaimSeven
import Derived.Laws.MakeOwn
import Derived.Laws.IdiomCopy
import Derived.Test.YteadghoojeehlaaGreatDoorProg
namespace Go.Proofs.YteadghoojeehlaaGreatDoor
open Go.ChangeShapes Go.WideShapes Go.ChangeAt Go.RowKit
set_option linter.unusedVariables false
def laidL : List (String × DataW Unit) := [("math/bits.deBruijn64tab", Rows.laid_math_bits_deBruijn64tab)]
abbrev doorSteps : Nat := 14
theorem gT : Tryz.prog.globalNamed "math/bits.deBruijn64tab" = some 0 := by kernel_rfl
theorem gTType : (Tryz.prog.globals[0]?).map (·.type) = some 127 := by kernel_rfl
def tabZ : List Int := Lib.deBruijn64tab.map fun (n : Nat) => (n : Int)
theorem tab_same : (Rows.laid_math_bits_deBruijn64tab : DataW Unit) = Lib.tabData .u8 tabZ := by kernel_rfl
theorem of_laid {W : World} (h : laidMetH Tryz.prog laidL W) : Tb W := by
 have h' : laidMet Tryz.prog [("math/bits.deBruijn64tab", Rows.laid_math_bits_deBruijn64tab)] W := h
 rw [tab_same] at h'
 have ht := Lib.tabIs_of_head gT gTType Tryz.underlying127 Tryz.underlying5 (by kernel_rfl) (by kernel_rfl) h'
 intro j hj
 have := ht.cell gT j (by unfold tabZ; rw [List.length_map]; exact hj)
 rw [this]
 congr 2
 unfold tabZ
 rw [List.getD_eq_getElem?_getD, List.getElem?_map, List.getD_eq_getElem?_getD, List.getElem?_eq_getElem hj]
 rfl
theorem door_met (os : Os) (args : Array Value) : laidMetH Tryz.prog laidL ((World.doorLaid Tryz.prog doorSteps os).forCall (fun _ _ => 0) ⟨#[], args, []⟩).memory :=
 laidMetH_of_parts3 (fuel := 8) (laidMet_of_run' 8 (by kernel_rfl) (by kernel_rfl)) (by kernel_rfl) (by kernel_rfl)
open Go
set_option maxRecDepth 100000
theorem seatTie1 : Tryz.prog.laidByTextLater [("math/bits.deBruijn64tab", Rows.laid_math_bits_deBruijn64tab)] [.data] true :=
 Program.laidByTextLater_by_one 14 8 65 (by kernel_rfl) (by kernel_rfl) (by kernel_rfl) (by kernel_rfl) (by kernel_rfl) (by kernel_rfl) (fun _ _ => by kernel_rfl)
theorem noOwnUnsafe : Tryz.pinned.checked.prog.headLifts.contains "ownunsafe" = false := by kernel_rfl
theorem tie : Tryz.prog.laidByTextLater [("math/bits.deBruijn64tab", Rows.laid_math_bits_deBruijn64tab)] [.data] true :=
 Program.laidByTextLater.sub seatTie1 ["math/bits.deBruijn64tab"] (by kernel_rfl) (by kernel_rfl)
theorem subsetAll_row_tie : Rows.subsetAllRow.laidByTextAt .later Tryz.pinned [.data] true :=
 OpenClaim.laidByTextAt_later rfl rfl tie noOwnUnsafe
namespace Rows
def subsetAllCard : Claim7 := { stood := { row := subsetAllRow, standIns := [], harness := (true, "46e0a2a5466cfcc0c514b1e1fcb0cd1d1a3e5bec625e9c8228d1570d79a6c6b9"), looks := false }, kinds := [], alts := [], laidByText := true, laidKinds := [.data], laidTests := true, laidLooks := .later }
def SubsetAllCardSaid : Prop := Claim7.holds Tryz.pinned (.plain (OpenSpec.ofChange subsetAllSpec)) subsetAllCard
end Rows
open Go.RowKit
set_option linter.unusedSimpArgs false
def sets (qs : List (Nat → Bool)) : List Value := qs.flatMap wds
theorem sets_cons (q : Nat → Bool) (qs : List (Nat → Bool)) : sets (q :: qs) = wds q ++ sets qs := rfl
theorem sets_append (ps qs : List (Nat → Bool)) : sets (ps ++ qs) = sets ps ++ sets qs := by simp [sets]
theorem sets_length : ∀ qs : List (Nat → Bool), (sets qs).length = qs.length * 4
 | [] => rfl
 | q :: r => by rw [sets_cons, List.length_append, wds_length, sets_length r, List.length_cons]; omega
theorem sets_get : ∀ {qs : List (Nat → Bool)} {k : Nat} {q : Nat → Bool}, qs[k]? = some q → ∀ i, i < 4 → (sets qs)[k * 4 + i]? = (wds q)[i]?
 | [], k, q, h, _, _ => by simp at h
 | p :: r, 0, q, h, i, hi => by
  have : p = q := by simpa using h
  subst this
  rw [sets_cons, List.getElem?_append_left (by rw [wds_length]; omega), Nat.zero_mul, Nat.zero_add]
 | p :: r, k + 1, q, h, i, hi => by
  have h' : r[k]? = some q := by simpa using h
  rw [sets_cons, List.getElem?_append_right (by rw [wds_length]; omega), wds_length, show (k + 1) * 4 + i - 4 = k * 4 + i from by omega]
  exact sets_get h' i hi
theorem sets_one (qs : List (Nat → Bool)) : ∀ u ∈ sets qs, u.oneCell' = true := by
 intro u hu
 obtain ⟨q, _, hq⟩ := List.mem_flatMap.1 hu
 exact List.all_eq_true.1 (wds_all q) u hq
theorem Blk.range {w : World} {g : Nat} {t : TypeId} {qs : List (Nat → Bool)} (h : Blk w g t (sets qs)) {k : Nat} {q : Nat → Bool} (hq : qs[k]? = some q) : w.rangeAt g (k * 4) (wds q) := by
 intro j v hv
 have hj : j < 4 := by
  have := (List.getElem?_eq_some_iff.1 hv).1
  rwa [wds_length] at this
 rw [h.cell, sets_get hq j hj, hv]
theorem Blk.there {w : World} {g o n : Nat} {t : TypeId} {cs : List Value} (h : Blk w g t cs) (ho : o + n ≤ cs.length) : w.there g o n := by
 intro j hj
 refine ⟨?_, h.frozen _⟩
 rw [h.cell, List.getElem?_eq_getElem (by omega)]
 rfl
theorem splice_cons {cs : List Value} {o : Nat} {v : Value} {r : List Value} (h : o + (r.length + 1) ≤ cs.length) : splice (cs.set o v) (o + 1) r = splice cs o (v :: r) := by
 unfold splice
 rw [List.take_set, List.drop_set, if_pos (by omega), List.length_cons]
 have ho : o < cs.length := by omega
 rw [List.take_succ_eq_append_getElem ho, List.set_append_right _ _ (by simp; omega)]
 simp only [List.length_take, Nat.min_eq_left (Nat.le_of_lt ho), Nat.sub_self, List.set_cons_zero, List.append_assoc, List.cons_append, List.nil_append]
 rw [show o + 1 + r.length = o + (r.length + 1) from by omega]
theorem Blk.setCells {g : Nat} {t : TypeId} : ∀ {vs : List Value} {w : World} {cs : List Value} {o : Nat}, Blk w g t cs → o + vs.length ≤ cs.length → Blk (w.setCells g o vs) g t (splice cs o vs)
 | [], w, cs, o, h, _ => by simpa [World.setCells, splice] using h
 | v :: r, w, cs, o, h, hl => by
  have hl' : o + (r.length + 1) ≤ cs.length := by simpa using hl
  have := Blk.setCells (vs := r) (o := o + 1) (h.set o v) (by rw [List.length_set]; omega)
  rw [splice_cons hl'] at this
  exact this
theorem below_setCells {B g : Nat} {w0 : World} (hB : B ≤ g) : ∀ {vs : List Value} {w : World} {o : Nat}, Below B w0 w → Below B w0 (w.setCells g o vs)
 | [], _, _, h => h
 | v :: r, w, o, h => below_setCells (vs := r) hB (h.setCell (p := ⟨g, o, none⟩) hB v)
theorem setCells_size (g : Nat) : ∀ (vs : List Value) (w : World) (o : Nat), (w.setCells g o vs).heap.size = w.heap.size
 | [], _, _ => rfl
 | v :: r, w, o => by rw [World.setCells, setCells_size g r]; simp
theorem setCells_other (g k : Nat) (hk : k ≠ g) : ∀ (vs : List Value) (w : World) (o : Nat), (w.setCells g o vs).heap[k]? = w.heap[k]?
 | [], _, _ => rfl
 | v :: r, w, o => by rw [World.setCells, setCells_other g k hk r]; exact Below.heap_setCell w ⟨g, o, none⟩ v k hk
section
variable {P : Program} {w : World} {ops : Array Oper} {rest : List Oper} {o : Oper} {a : Act} {Q : Exit → Act → World → Prop}
end
theorem all_range_int : ∀ (xs ys : List Int), xs.length = ys.length → ((List.range xs.length).all fun i => xs.getD i 0 == ys.getD i 0) = (xs == ys)
 | [], [], _ => rfl
 | x :: xs, y :: ys, h => by
  have ih := all_range_int xs ys (by simpa using h)
  rw [List.length_cons, List.range_succ_eq_map, List.all_cons, List.all_map]
  simp only [List.getD_cons_zero, Function.comp_def, List.getD_cons_succ, ih]
  simp [List.cons_beq_cons]
 | [], _ :: _, h => by simp at h
 | _ :: _, [], h => by simp at h
section
variable {P : Program} (w : World)
theorem run_equalIn_nums (d : Nat) (t e : TypeId) (n : Nat) (k : IntKind) (ht : P.underlying t = some (.array n e)) (he : P.underlying e = some (.int k)) (hsz : ∀ w, (sizeOf e).run P w = .ok 1 w)
  (xs ys : List Int) (hx : xs.length = n) (hy : ys.length = n) :
  (Op.equalIn (d + 2) t (.agg (nums k xs).toArray) (.agg (nums k ys).toArray)).run P w = .ok (xs == ys) w := by
 rw [← all_range_int xs ys (hx.trans hy.symm), hx, List.range_eq_range', Op.equalIn]
 simp only [Sem.run_bind, run_underlying ht, Result.andThen_ok, hsz, Std.Legacy.Range.forIn_eq_forIn_range', Std.Legacy.Range.size, Nat.sub_zero, Nat.add_sub_cancel, Nat.div_one]
 have hl : ∀ i ∈ List.range' 0 n 1, i < n := fun i hi => by simpa using (List.mem_range'_1.1 hi).2
 generalize List.range' 0 n 1 = l at hl ⊢
 induction l with
 | nil => simp
 | cons i l ih =>
  have hi : i < n := hl i (by simp)
  have px : (part e (nums k xs).toArray (i * 1)).run P w = .ok (.int k (xs.getD i 0)) w := by
   simp [part, isAgg, run_underlying he, List.getD, nums, List.getElem?_eq_getElem (show i < xs.length by omega)]
  have py : (part e (nums k ys).toArray (i * 1)).run P w = .ok (.int k (ys.getD i 0)) w := by
   simp [part, isAgg, run_underlying he, List.getD, nums, List.getElem?_eq_getElem (show i < ys.length by omega)]
  have pe : (Op.equalIn (d + 1) e (.int k (xs.getD i 0)) (.int k (ys.getD i 0))).run P w = .ok (xs.getD i 0 == ys.getD i 0) w := run_equalIn_int w d e k k _ _ he
  simp only [List.forIn_cons, Sem.run_bind, px, py, pe, Result.andThen_ok, List.all_cons]
  cases hb : (xs.getD i 0 == ys.getD i 0)
  ·simp
  ·simp only [Bool.not_true, Bool.false_eq_true, if_false, Sem.run_pure, Result.andThen_ok, Bool.true_and]
   exact ih fun j hj => hl j (by simp [hj])
def eqS (p q : Nat → Bool) : Bool := [(word p 0 : Int), (word p 1 : Int), (word p 2 : Int), (word p 3 : Int)] == [(word q 0 : Int), (word q 1 : Int), (word q 2 : Int), (word q 3 : Int)]
theorem eqS_iff (p q : Nat → Bool) : eqS p q = true ↔ ∀ b, b < 256 → p b = q b := by
 constructor
 ·intro h
  have h' : [(word p 0 : Int), (word p 1 : Int), (word p 2 : Int), (word p 3 : Int)] = [(word q 0 : Int), (word q 1 : Int), (word q 2 : Int), (word q 3 : Int)] := by simpa [eqS] using h
  refine wds_inj ?_
  unfold wds
  simp only [List.cons.injEq, and_true] at h'
  rw [h'.1, h'.2.1, h'.2.2.1, h'.2.2.2]
 ·intro h
  unfold eqS
  rw [word_congr h 0 (by omega), word_congr h 1 (by omega), word_congr h 2 (by omega), word_congr h 3 (by omega)]
  simp
section
variable (t e : TypeId) (ht : P.underlying t = some (.array 4 e)) (he : P.underlying e = some (.int .u64)) (hsz : ∀ w, (sizeOf e).run P w = .ok 1 w) (p q : Nat → Bool)
include ht he hsz
theorem run_eql_sets : (binOp .eql t (.agg (wds p).toArray) (.agg (wds q).toArray)).run P w = .ok (.bool (eqS p q)) w := by
 have := run_equalIn_nums (P := P) w 9998 t e 4 .u64 ht he hsz [(word p 0 : Int), (word p 1 : Int), (word p 2 : Int), (word p 3 : Int)] [(word q 0 : Int), (word q 1 : Int), (word q 2 : Int), (word q 3 : Int)] rfl rfl
 rw [run_eql_struct]
 have e1 : (wds p).toArray = (nums .u64 [(word p 0 : Int), (word p 1 : Int), (word p 2 : Int), (word p 3 : Int)]).toArray := rfl
 have e2 : (wds q).toArray = (nums .u64 [(word q 0 : Int), (word q 1 : Int), (word q 2 : Int), (word q 3 : Int)]).toArray := rfl
 rw [e1, e2, this]
 rfl
theorem run_neq_sets : (binOp .neq t (.agg (wds p).toArray) (.agg (wds q).toArray)).run P w = .ok (.bool (!eqS p q)) w := by
 have := run_equalIn_nums (P := P) w 9998 t e 4 .u64 ht he hsz [(word p 0 : Int), (word p 1 : Int), (word p 2 : Int), (word p 3 : Int)] [(word q 0 : Int), (word q 1 : Int), (word q 2 : Int), (word q 3 : Int)] rfl rfl
 rw [run_neq_struct]
 have e1 : (wds p).toArray = (nums .u64 [(word p 0 : Int), (word p 1 : Int), (word p 2 : Int), (word p 3 : Int)]).toArray := rfl
 have e2 : (wds q).toArray = (nums .u64 [(word q 0 : Int), (word q 1 : Int), (word q 2 : Int), (word q 3 : Int)]).toArray := rfl
 rw [e1, e2, this]
 rfl
end
end
section
variable {P : Program} {w : World} {ops : Array Oper} {rest : List Oper} {o : Oper} {a : Act} {Q : Exit → Act → World → Prop}
theorem wpList_eqSet (hgd : Region.wanted o (yielded ops a.tmps) = true) (t e : TypeId) (x y : Operand) (oT : TypeId) (ho : o.op = .binOp .eql t x y oT) (hm : P.eqGuardType P.depth t = false)
  (ht : P.underlying t = some (.array 4 e)) (he : P.underlying e = some (.int .u64)) (hsz : ∀ w, (sizeOf e).run P w = .ok 1 w)
  (p q : Nat → Bool) (ex : a.eval x = .agg (wds p).toArray) (ey : a.eval y = .agg (wds q).toArray)
  (h : wpList P ops Q rest (a.put o.dst (.bool (eqS p q))) w) : wpList P ops Q (o :: rest) a w := by
 refine BigFrame.wpList_want hgd fun K hK => ?_
 unfold Oper.wp
 simp only [execOp, ho, ex, ey, Sem.run_bind, run_eqGuard_agg w .eql t x y _ _ hm, Result.andThen_ok, run_eql_sets w t e ht he hsz p q, Sem.run_pure]
 exact hK _ _ h
theorem wpList_eqSet_is (hgd : Region.wanted o (yielded ops a.tmps) = true) {b : Bool} {p q : Nat → Bool} (hb : eqS p q = b) (t e : TypeId) (x y : Operand) (oT : TypeId) (ho : o.op = .binOp .eql t x y oT) (hm : P.eqGuardType P.depth t = false)
  (ht : P.underlying t = some (.array 4 e)) (he : P.underlying e = some (.int .u64)) (hsz : ∀ w, (sizeOf e).run P w = .ok 1 w)
  (ex : a.eval x = .agg (wds p).toArray) (ey : a.eval y = .agg (wds q).toArray)
  (h : wpList P ops Q rest (a.put o.dst (.bool b)) w) : wpList P ops Q (o :: rest) a w :=
 wpList_eqSet hgd t e x y oT ho hm ht he hsz p q ex ey (hb ▸ h)
end
inductive T where
 | node (k : Int) (s : Nat → Bool) (l : List T)
def T.kind : T → Int | .node k _ _ => k
def T.set : T → (Nat → Bool) | .node _ s _ => s
def T.args : T → List T | .node _ _ l => l
mutual
def T.nodes : T → Nat
 | .node _ _ l => 1 + nodesL l
def nodesL : List T → Nat
 | [] => 0
 | t :: r => t.nodes + nodesL r
end
mutual
def T.depth : T → Nat
 | .node _ _ l => depthL l + 1
def depthL : List T → Nat
 | [] => 0
 | t :: r => max t.depth (depthL r)
end
theorem nodes_pos (t : T) : 0 < t.nodes := by
 cases t with
 | node k s l => simp only [T.nodes]; omega
theorem depthL_append : ∀ a b : List T, depthL (a ++ b) = max (depthL a) (depthL b)
 | [], b => by simp [depthL]
 | t :: r, b => by
  have := depthL_append r b
  simp only [List.cons_append, depthL, this]
  omega
theorem depthL_next (l : List T) (i : Nat) (t : T) (h : l[i]? = some t) : depthL (l.take (i + 1)) = max (depthL (l.take i)) t.depth := by
 obtain ⟨hi, rfl⟩ := List.getElem?_eq_some_iff.1 h
 rw [List.take_succ_eq_append_getElem hi, depthL_append]
 simp [depthL]
theorem nodes_mem : ∀ {l : List T} {t : T}, t ∈ l → t.nodes ≤ nodesL l
 | a :: r, t, h => by
  rcases List.mem_cons.1 h with rfl | h
  ·simp only [nodesL]; omega
  ·have := nodes_mem h
   simp only [nodesL]; omega
theorem len_nodes : ∀ l : List T, l.length ≤ nodesL l
 | [] => Nat.le_refl _
 | t :: r => by
  have h1 := len_nodes r
  have h2 := nodes_pos t
  simp only [nodesL, List.length_cons]; omega
/-! ### how two compare -/
mutual
def cmpT : T → T → Int
 | .node k s l, .node k' s' l' => if k = k' then (if k = 3 ∧ eqS s s' = false then (if lessS s s' then -1 else 1) else cmpL l l') else if k < k' then -1 else 1
def cmpL : List T → List T → Int
 | [], [] => 0
 | [], _ :: _ => -1
 | _ :: _, [] => 1
 | a :: r, b :: r' => if cmpT a b = 0 then cmpL r r' else cmpT a b
end
/-! ### how they lie -/
inductive RxD (D : Nat → Prop) (w : World) : List Value → T → Prop
 | node {k : Int} {s : Nat → Bool} {l : List T} {A : Option Addr} {cap : Nat} (f : Nat → List Value) (h1 : l.length ≤ cap) (h2 : cap ≤ maxLen) (h0 : A = none → cap = 0)
   (h3 : l ≠ [] → ∃ b off, A = some ⟨b, off, none⟩ ∧ D b ∧ ∀ i, i < l.length → w.rangeAt b (off + i * 6) (f i))
   (h4 : ∀ i t, l[i]? = some t → RxD D w (f i) t) : RxD D w (.int .i64 k :: (wds s ++ [.slice A l.length cap])) (.node k s l)
theorem range_heap {w w' : World} {b o : Nat} {cs : List Value} (h : w.rangeAt b o cs) (hb : w'.heap[b]? = w.heap[b]?) : w'.rangeAt b o cs := fun j v hv => by
 have := h j v hv
 unfold World.cell? at this ⊢
 simp only [hb]
 exact this
theorem RxD.stay {D : Nat → Prop} {w w' : World} {cs : List Value} {t : T} (h : RxD D w cs t) (hb : ∀ k, D k → w'.heap[k]? = w.heap[k]?) : RxD D w' cs t := by
 induction h with
 | node f h1 h2 h0 h3 h4 ih =>
  refine .node f h1 h2 h0 (fun hne => ?_) ih
  obtain ⟨b, off, hA, hlt, hc⟩ := h3 hne
  exact ⟨b, off, hA, hlt, fun i hi => range_heap (hc i hi) (hb b hlt)⟩
theorem RxD.mono {D D' : Nat → Prop} {w : World} {cs : List Value} {t : T} (h : RxD D w cs t) (hb : ∀ k, D k → D' k) : RxD D' w cs t := by
 induction h with
 | node f h1 h2 h0 h3 h4 ih =>
  refine .node f h1 h2 h0 (fun hne => ?_) ih
  obtain ⟨b, off, hA, hlt, hc⟩ := h3 hne
  exact ⟨b, off, hA, hb b hlt, hc⟩
theorem RxD.length {D : Nat → Prop} {w : World} {cs : List Value} {t : T} (h : RxD D w cs t) : cs.length = 6 := by
 cases h
 rfl
theorem RxD.opened {D : Nat → Prop} {w : World} {cs : List Value} {k : Int} {s : Nat → Bool} {l : List T} (h : RxD D w cs (.node k s l)) :
  ∃ (A : Option Addr) (cap : Nat) (f : Nat → List Value), cs = .int .i64 k :: (wds s ++ [.slice A l.length cap]) ∧ l.length ≤ cap ∧ cap ≤ maxLen ∧ (A = none → cap = 0) ∧ (l ≠ [] → ∃ b off, A = some ⟨b, off, none⟩ ∧ D b ∧ ∀ i, i < l.length → w.rangeAt b (off + i * 6) (f i)) ∧ ∀ i t, l[i]? = some t → RxD D w (f i) t := by
 cases h with
 | node f h1 h2 h0 h3 h4 => exact ⟨_, _, f, rfl, h1, h2, h0, h3, h4⟩
theorem RxD.one {D : Nat → Prop} {w : World} {cs : List Value} {t : T} (h : RxD D w cs t) : ∀ u ∈ cs, u.oneCell' = true := by
 cases h with
 | node f h1 h2 h0 h3 h4 =>
  intro u hu
  rcases List.mem_cons.1 hu with rfl | hu
  ·rfl
  ·rcases List.mem_append.1 hu with hu | hu
   ·exact List.all_eq_true.1 (wds_all _) u hu
   ·obtain rfl := List.mem_singleton.1 hu
    rfl
def RxV (B : Nat) (w : World) (cs : List Value) (t : T) : Prop := RxD (fun k => k < B) w cs t
theorem RxV.stay {B : Nat} {w w' : World} {cs : List Value} {t : T} (h : RxV B w cs t) (hb : Below B w w') : RxV B w' cs t := RxD.stay h fun k hk => hb.block k hk
theorem RxV.mono {B B' : Nat} {w : World} {cs : List Value} {t : T} (h : RxV B w cs t) (hb : B ≤ B') : RxV B' w cs t := RxD.mono h fun k hk => Nat.lt_of_lt_of_le hk hb
theorem RxV.length {B : Nat} {w : World} {cs : List Value} {t : T} (h : RxV B w cs t) : cs.length = 6 := RxD.length h
theorem RxV.opened {B : Nat} {w : World} {cs : List Value} {k : Int} {s : Nat → Bool} {l : List T} (h : RxV B w cs (.node k s l)) :
  ∃ (A : Option Addr) (cap : Nat) (f : Nat → List Value), cs = .int .i64 k :: (wds s ++ [.slice A l.length cap]) ∧ l.length ≤ cap ∧ cap ≤ maxLen ∧ (A = none → cap = 0) ∧ (l ≠ [] → ∃ b off, A = some ⟨b, off, none⟩ ∧ b < B ∧ ∀ i, i < l.length → w.rangeAt b (off + i * 6) (f i)) ∧ ∀ i t, l[i]? = some t → RxV B w (f i) t := RxD.opened h
def RowT (B : Nat) (w : World) (v : Value) (l : List T) : Prop :=
 ∃ (A : Option Addr) (cap : Nat) (f : Nat → List Value), v = .slice A l.length cap ∧ l.length ≤ cap ∧ cap ≤ maxLen ∧ (A = none → cap = 0) ∧ (l ≠ [] → ∃ b off, A = some ⟨b, off, none⟩ ∧ b < B ∧ ∀ i, i < l.length → w.rangeAt b (off + i * 6) (f i)) ∧ ∀ i t, l[i]? = some t → RxV B w (f i) t
theorem RowT.below {B : Nat} {w w' : World} {v : Value} {l : List T} (h : RowT B w v l) (hb : Below B w w') : RowT B w' v l := by
 obtain ⟨A, cap, f, hv, h1, h2, h0, h3, h4⟩ := h
 refine ⟨A, cap, f, hv, h1, h2, h0, fun hne => ?_, fun i t ht => (h4 i t ht).stay hb⟩
 obtain ⟨b, off, hA, hlt, hc⟩ := h3 hne
 exact ⟨b, off, hA, hlt, fun i hi => range_below (hc i hi) hb hlt⟩
theorem RxV.row {B : Nat} {w : World} {k : Int} {s : Nat → Bool} {l : List T} {cs : List Value} (h : RxV B w cs (.node k s l)) : ∃ v, cs = .int .i64 k :: (wds s ++ [v]) ∧ RowT B w v l := by
 obtain ⟨A, cap, f, hcs, h⟩ := h.opened
 exact ⟨_, hcs, A, cap, f, rfl, h⟩
theorem RowT.rx {B : Nat} {w : World} {v : Value} {l : List T} (h : RowT B w v l) (k : Int) (s : Nat → Bool) : RxV B w (.int .i64 k :: (wds s ++ [v])) (.node k s l) := by
 obtain ⟨A, cap, f, rfl, h1, h2, h0, h3, h4⟩ := h
 exact RxD.node f h1 h2 h0 h3 h4
theorem RowT.at_ {B : Nat} {w : World} {A : Option Addr} {n cap : Nat} {l : List T} (h : RowT B w (.slice A n cap) l) (hne : 0 < l.length) :
  ∃ (b off : Nat) (f : Nat → List Value), A = some ⟨b, off, none⟩ ∧ b < B ∧ (∀ i, i < l.length → w.rangeAt b (off + i * 6) (f i)) ∧ ∀ i t, l[i]? = some t → RxV B w (f i) t := by
 obtain ⟨A', cap', f, he, _, _, _, h3, h4⟩ := h
 injection he with hA _ _
 subst hA
 obtain ⟨b, off, h5, h6, h7⟩ := h3 (by rintro rfl; simp at hne)
 exact ⟨b, off, f, h5, h6, h7, h4⟩
def RowD (D : Nat → Prop) (w : World) (v : Value) (l : List T) : Prop :=
 ∃ (A : Option Addr) (cap : Nat) (f : Nat → List Value), v = .slice A l.length cap ∧ l.length ≤ cap ∧ cap ≤ maxLen ∧ (A = none → cap = 0) ∧ (l ≠ [] → ∃ b off, A = some ⟨b, off, none⟩ ∧ D b ∧ ∀ i, i < l.length → w.rangeAt b (off + i * 6) (f i)) ∧ ∀ i t, l[i]? = some t → RxD D w (f i) t
theorem RowD.stay {D : Nat → Prop} {w w' : World} {v : Value} {l : List T} (h : RowD D w v l) (hb : ∀ k, D k → w'.heap[k]? = w.heap[k]?) : RowD D w' v l := by
 obtain ⟨A, cap, f, hv, h1, h2, h0, h3, h4⟩ := h
 refine ⟨A, cap, f, hv, h1, h2, h0, fun hne => ?_, fun i t ht => (h4 i t ht).stay hb⟩
 obtain ⟨b, off, hA, hlt, hc⟩ := h3 hne
 exact ⟨b, off, hA, hlt, fun i hi => range_heap (hc i hi) (hb b hlt)⟩
theorem RowD.mono {D D' : Nat → Prop} {w : World} {v : Value} {l : List T} (h : RowD D w v l) (hD : ∀ k, D k → D' k) : RowD D' w v l := by
 obtain ⟨A, cap, f, hv, h1, h2, h0, h3, h4⟩ := h
 refine ⟨A, cap, f, hv, h1, h2, h0, fun hne => ?_, fun i t ht => (h4 i t ht).mono hD⟩
 obtain ⟨b, off, hA, hlt, hc⟩ := h3 hne
 exact ⟨b, off, hA, hD b hlt, hc⟩
theorem RxD.row {D : Nat → Prop} {w : World} {k : Int} {s : Nat → Bool} {l : List T} {cs : List Value} (h : RxD D w cs (.node k s l)) : ∃ v, cs = .int .i64 k :: (wds s ++ [v]) ∧ RowD D w v l := by
 obtain ⟨A, cap, f, hcs, h⟩ := h.opened
 exact ⟨_, hcs, A, cap, f, rfl, h⟩
theorem RowD.rx {D : Nat → Prop} {w : World} {v : Value} {l : List T} (h : RowD D w v l) (k : Int) (s : Nat → Bool) : RxD D w (.int .i64 k :: (wds s ++ [v])) (.node k s l) := by
 obtain ⟨A, cap, f, rfl, h1, h2, h0, h3, h4⟩ := h
 exact RxD.node f h1 h2 h0 h3 h4
theorem RowD.keep {D : Nat → Prop} {B : Nat} {w w' : World} {v : Value} {l : List T} (h : RowD D w v l) (hb : Below B w w') (hD : ∀ k, D k → k < B) : RowD D w' v l := h.stay fun k hk => hb.block k (hD k hk)
theorem RxD.keep {D : Nat → Prop} {B : Nat} {w w' : World} {cs : List Value} {t : T} (h : RxD D w cs t) (hb : Below B w w') (hD : ∀ k, D k → k < B) : RxD D w' cs t := h.stay fun k hk => hb.block k (hD k hk)
theorem size_rx {cs : List Value} (h : cs.length = 6) : (Tryz.prog.info? 46).map (·.size) = some cs.length := by
 rw [h]
 kernel_rfl
theorem wrap_one (j : Nat) (h : j ≤ 4611686018427387904) : wrap64 ((j : Int) + 1) = ((j + 1 : Nat) : Int) := by
 rw [show (j : Int) + 1 = ((j + 1 : Nat) : Int) from rfl]
 exact IntWalk.wrap64_in _ (by omega)
theorem wrap_one' (j : Nat) (h : j ≤ 4611686018427387904) : IntKind.i64.wrap ((j : Int) + 1) = ((j + 1 : Nat) : Int) := by
 rw [show (j : Int) + 1 = ((j + 1 : Nat) : Int) from rfl]
 exact IntWalk.i64_in _ (by omega)
theorem wrap_len {j len cap : Nat} (h : j < len) (h1 : len ≤ cap) (h2 : cap ≤ maxLen) : wrap64 ((j : Int) + 1) = ((j + 1 : Nat) : Int) := IntWalk.wrap64_in _ (by unfold maxLen at h2; omega)
theorem wrap_len' {j len cap : Nat} (h : j < len) (h1 : len ≤ cap) (h2 : cap ≤ maxLen) : IntKind.i64.wrap ((j : Int) + 1) = ((j + 1 : Nat) : Int) := IntWalk.i64_in _ (by unfold maxLen at h2; omega)
theorem RxV.part {B : Nat} {w w' : World} {l : List T} {f : Nat → List Value} (h : ∀ i t, l[i]? = some t → RxV B w (f i) t) (hb : Below B w w') (hB : B ≤ w'.heap.size) {i : Nat} {t : T} (ht : l[i]? = some t) : RxV w'.heap.size w' (f i) t :=
 ((h i t ht).stay hb).mono hB
theorem flat6_get : ∀ {cs : List (List Value)} (_ : ∀ c ∈ cs, c.length = 6) {i : Nat} {c : List Value}, cs[i]? = some c → ∀ j, j < 6 → cs.flatten[i * 6 + j]? = c[j]?
 | [], _, i, c, h, _, _ => by simp at h
 | a :: r, hl, 0, c, h, j, hj => by
  have : a = c := by simpa using h
  subst this
  have h6 := hl a (by simp)
  rw [List.flatten_cons, Nat.zero_mul, Nat.zero_add, List.getElem?_append_left (by omega)]
 | a :: r, hl, i + 1, c, h, j, hj => by
  have h6 := hl a (by simp)
  have ih := flat6_get (cs := r) (fun d hd => hl d (List.mem_cons_of_mem _ hd)) (i := i) (c := c) (by simpa using h) j hj
  rw [List.flatten_cons, List.getElem?_append_right (by omega), ← ih]
  congr 1
  omega
theorem flat6_len : ∀ {cs : List (List Value)}, (∀ c ∈ cs, c.length = 6) → cs.flatten.length = cs.length * 6
 | [], _ => rfl
 | a :: r, hl => by
  have h6 := hl a (by simp)
  have ih := flat6_len (cs := r) fun c hc => hl c (by simp [hc])
  rw [List.flatten_cons, List.length_append, List.length_cons, ih, h6]
  omega
theorem append_where {P : Program} {w : World} (base : Nat) (t ty e : TypeId) (i : TypeInfo) (z : Value) (size bytes : Nat) (ht : P.underlying t = some (.slice e)) (hi : P.info? e = some i) (hz : i.zero = some z)
  (hsize : i.size = size) (hby : i.bytes = bytes) (hsz : 0 < size)
  (v : Value) (n : Nat) (xs : List Value) (hown : w.ownsRow base e size v n xs)
  (a : Addr) (m c : Nat) (news : List Value) (hl : news.length = m * size) (hnews : ∀ j u, news[j]? = some u → w.cell? (a.add j) = some u) (h1 : ∀ u ∈ news, u.oneCell' = true)
  (h63 : n + m ≤ maxLen) (hbytes : (n + m) * bytes ≤ 140737488355328) {v' : Value} {w' : World} (hrun : (Builtin.append_ #[t, t] ty #[v, .slice (some a) m c]).run P w = .ok v' w') :
  ∀ k, v'.ownBlock = some k → v.ownBlock = some k ∨ w.heap.size ≤ k := by
 subst hsize
 subst hby
 have hsmall : n + m ≤ 9223372036854775807 := by simp only [maxLen] at h63; omega
 intro k hk
 rcases hown.2 with ⟨rfl, rfl⟩ | ⟨g, cap, cur, rfl, hbg, hg, hnc, hcm, hcs, htake⟩
 ·have hx : xs = [] := List.eq_nil_of_length_eq_zero (by simpa using hown.1)
  subst hx
  by_cases hm : m = 0
  ·subst hm
   have hn : news = [] := List.eq_nil_of_length_eq_zero (by simpa using hl)
   subst hn
   have hr : (Builtin.append_ #[t, t] ty #[.slice none 0 0, .slice (some a) 0 c]).run P w = .ok (.slice none 0 0) w := by
    simp [Builtin.append_, run_underlying ht, sizeOf, typeInfo, hi, Builtin.lenOf, Builtin.firstCells, loadCells, loadCellsFrom]
   rw [hr] at hrun
   injection hrun with e1 e2
   subst e1
   cases hk
  ·have hr := run_append_nil (P := P) w t ty e i z ht hi hz a m c news hl hnews (by omega) (by omega) (by have hb := hbytes; simp only [Nat.zero_add] at hb; omega)
   rw [hr] at hrun
   injection hrun with e1 e2
   subst e1
   have : w.heap.size = k := Option.some.inj hk
   exact .inr (by omega)
 ·by_cases hroom : n + m ≤ cap
  ·obtain ⟨w2, hr, _, _⟩ := run_append_fits (P := P) w base t ty e i i.size ht hi rfl g n cap xs hown a m c news hl hnews h1 hroom
   rw [hr] at hrun
   injection hrun with e1 e2
   subst e1
   exact .inl hk
  ·have holds : ∀ j u, xs[j]? = some u → w.cell? ((⟨g, 0, none⟩ : Addr).add j) = some u := hown.cells (g := g) rfl
   have hr := run_append_grow (P := P) w t ty e i z ht hi hz ⟨g, 0, none⟩ n cap xs hown.1 holds a m c news hl hnews (by omega) (by omega) (growslice_fits (by omega) hbytes)
   rw [hr] at hrun
   injection hrun with e1 e2
   subst e1
   have : w.heap.size = k := Option.some.inj hk
   exact .inr (by omega)
def OwnT (D : Nat → Prop) (base : Nat) (w : World) (v : Value) (l : List T) : Prop :=
 ∃ cells : List (List Value), cells.length = l.length ∧ (∀ c ∈ cells, c.length = 6) ∧ w.ownsRow base 46 6 v l.length cells.flatten ∧
  ∀ (i : Nat) (c : List Value) (t : T), cells[i]? = some c → l[i]? = some t → RxD (fun k => D k ∧ k < w.heap.size ∧ some k ≠ v.ownBlock) w c t
theorem OwnT.nil (D : Nat → Prop) (base : Nat) (w : World) : OwnT D base w (.slice none 0 0) [] := ⟨[], rfl, by simp, ⟨by simp, .inl ⟨rfl, rfl⟩⟩, fun i c t h => by simp at h⟩
theorem own6_stay {w w' : World} {base n k : Nat} {e : TypeId} {v : Value} {xs : List Value} (h : w.ownsRow base e k v n xs) (hb : ∀ j, v.ownBlock = some j → w'.heap[j]? = w.heap[j]?) : w'.ownsRow base e k v n xs := by
 refine ⟨h.1, ?_⟩
 rcases h.2 with h0 | ⟨g, cap, cur, rfl, hb2, hg, h3⟩
 ·exact .inl h0
 ·exact .inr ⟨g, cap, cur, rfl, hb2, (hb g rfl).trans hg, h3⟩
theorem own6_lt {w : World} {base n k : Nat} {e : TypeId} {v : Value} {xs : List Value} (h : w.ownsRow base e k v n xs) : ∀ j, v.ownBlock = some j → j < w.heap.size ∧ base ≤ j := by
 intro j hj
 rcases h.2 with ⟨rfl, h0⟩ | ⟨g, cap, cur, rfl, hb, hg, _⟩
 ·cases hj
 ·have hk' : some g = some j := hj
  injection hk' with hk'
  subst hk'
  exact ⟨(Array.getElem?_eq_some_iff.1 hg).1, hb⟩
theorem OwnT.stay {D : Nat → Prop} {base : Nat} {w w' : World} {v : Value} {l : List T} (h : OwnT D base w v l) (hb : Below w.heap.size w w') : OwnT D base w' v l := by
 obtain ⟨cells, h1, h2, h3, h4⟩ := h
 refine ⟨cells, h1, h2, own6_stay h3 fun j hj => hb.block j (own6_lt h3 j hj).1, fun i c t hc ht => ?_⟩
 exact ((h4 i c t hc ht).stay fun k hk => hb.block k hk.2.1).mono fun k hk => ⟨hk.1, Nat.lt_of_lt_of_le hk.2.1 hb.size, hk.2.2⟩
theorem OwnT.slice {D : Nat → Prop} {base : Nat} {w : World} {v : Value} {l : List T} (h : OwnT D base w v l) : ∃ A c, v = .slice A l.length c := by
 obtain ⟨_, _, _, h3, _⟩ := h
 rcases h3.2 with ⟨rfl, h0⟩ | ⟨g, cap, cur, rfl, _⟩
 ·exact ⟨none, 0, by rw [h0]⟩
 ·exact ⟨_, _, rfl⟩
theorem OwnT.lt {D : Nat → Prop} {base : Nat} {w : World} {v : Value} {l : List T} (h : OwnT D base w v l) (j : Nat) (hj : v.ownBlock = some j) : j < w.heap.size := by
 obtain ⟨_, _, _, h3, _⟩ := h
 exact (own6_lt h3 j hj).1
theorem OwnT.ge {D : Nat → Prop} {base : Nat} {w : World} {v : Value} {l : List T} (h : OwnT D base w v l) (j : Nat) (hj : v.ownBlock = some j) : base ≤ j := by
 obtain ⟨_, _, _, h3, _⟩ := h
 exact (own6_lt h3 j hj).2
theorem OwnT.rx {D : Nat → Prop} {base : Nat} {w : World} {v : Value} {l : List T} (h : OwnT D base w v l) (k : Int) (s : Nat → Bool) : RxD (fun b => (D b ∨ base ≤ b) ∧ b < w.heap.size) w (.int .i64 k :: (wds s ++ [v])) (.node k s l) := by
 obtain ⟨cells, h1, h2, h3, h4⟩ := h
 rcases h3.2 with ⟨rfl, h0⟩ | ⟨g, cap, cur, rfl, hb, hg, hn, hm, hs, ht⟩
 ·obtain rfl : l = [] := List.eq_nil_of_length_eq_zero h0
  exact .node (fun _ => []) (Nat.le_refl _) (Nat.zero_le _) (fun _ => rfl) (fun h => absurd rfl h) (fun i t h => by simp at h)
 ·refine .node (fun i => cells.getD i []) hn hm (fun h => by cases h) (fun hne => ⟨g, 0, rfl, ⟨.inr hb, (Array.getElem?_eq_some_iff.1 hg).1⟩, fun i hi j u hu => ?_⟩) (fun i t hti => ?_)
  ·have hic : i < cells.length := by omega
   have hci : cells[i]? = some cells[i] := List.getElem?_eq_getElem hic
   have e0 : cells.getD i [] = cells[i] := by simp [List.getD, hci]
   rw [e0] at hu
   have hj : j < 6 := by rw [← h2 cells[i] (List.getElem_mem hic)]; exact (List.getElem?_eq_some_iff.1 hu).1
   have e1 := flat6_get h2 hci j hj
   rw [hu, ← ht, List.getElem?_take, if_pos (by omega), Array.getElem?_toList] at e1
   rw [cell_of_row w g _ cur _ (0, 0) hg, Nat.zero_add, e1]
  ·have hic : i < cells.length := by rw [h1]; exact (List.getElem?_eq_some_iff.1 hti).1
   have hci : cells[i]? = some cells[i] := List.getElem?_eq_getElem hic
   have e0 : cells.getD i [] = cells[i] := by simp [List.getD, hci]
   rw [e0]
   exact (h4 i cells[i] t hci hti).mono fun k hk => ⟨.inl hk.1, hk.2.1⟩
theorem inf_rx : (Tryz.prog.info? 46).map (fun i => (i.zero, i.size, i.bytes)) = some (some (.agg (Value.int .i64 0 :: (wds (fun _ => false) ++ [.slice none 0 0])).toArray), 6, 64) := by kernel_rfl
section
variable {w : World} {ops : Array Oper} {rest : List Oper} {o : Oper} {a : Act} {Q : Exit → Act → World → Prop}
end
section
variable {P : Program} {w : World} {ops : Array Oper} {rest : List Oper} {o : Oper} {a : Act} {Q : Exit → Act → World → Prop}
theorem wpList_ldMidG (hgd : Region.wanted o (yielded ops a.tmps) = true) (ty : TypeId) (x : Operand) (ho : o.op = .load ty x) (b off : Nat) (hx : a.eval x = .pointer (some ⟨b, off, none⟩)) (cs : List Value) (d : TypeDesc)
  (hg : w.rangeAt b off cs) (hu : P.underlying ty = some d) (hd : d.isRow = true) (hi : (P.info? ty).map (·.size) = some cs.length)
  (h : wpList P ops Q rest (a.put o.dst (.agg cs.toArray)) w) : wpList P ops Q (o :: rest) a w := by
 refine BigFrame.wpList_want hgd fun K hK => ?_
 exact wp_load_mid ty x ho b off hx cs d hg hu hd hi (hK _ _ h)
theorem wpList_neSetG (hgd : Region.wanted o (yielded ops a.tmps) = true) {b : Bool} {p q : Nat → Bool} (hb : (!eqS p q) = b) (t e : TypeId) (x y : Operand) (oT : TypeId) (ho : o.op = .binOp .neq t x y oT) (hm : P.eqGuardType P.depth t = false)
  (ht : P.underlying t = some (.array 4 e)) (he : P.underlying e = some (.int .u64)) (hsz : ∀ w, (sizeOf e).run P w = .ok 1 w)
  (ex : a.eval x = .agg (wds p).toArray) (ey : a.eval y = .agg (wds q).toArray)
  (h : wpList P ops Q rest (a.put o.dst (.bool b)) w) : wpList P ops Q (o :: rest) a w := by
 refine BigFrame.wpList_want hgd fun K hK => ?_
 unfold Oper.wp
 simp only [execOp, ho, ex, ey, Sem.run_bind, run_eqGuard_agg w .neq t x y _ _ hm, Result.andThen_ok, run_neq_sets w t e ht he hsz p q, Sem.run_pure, hb]
 exact hK _ _ h
end
theorem guardSet : Tryz.prog.eqGuardType Tryz.prog.depth 43 = false := by kernel_rfl
theorem sizeU64 : ∀ w, (sizeOf 41).run Tryz.prog w = .ok 1 w := by
 intro w
 have h : (Tryz.prog.info? 41).map (·.size) = some 1 := by kernel_rfl
 cases hi : Tryz.prog.info? 41 with
 | none => rw [hi] at h; cases h
 | some i =>
  rw [hi] at h
  have h' : i.size = 1 := by simpa using h
  simp [sizeOf, typeInfo, hi, h']
theorem set_range {w : World} {g : Nat} {t : TypeId} {k : Int} {s : Nat → Bool} {v : Value} (h : Blk w g t (.int .i64 k :: (wds s ++ [v]))) : w.rangeAt g 1 (wds s) := by
 intro j u hu
 have hj : j < 4 := by simpa [wds_length] using (List.getElem?_eq_some_iff.1 hu).1
 rw [h.cell, Nat.add_comm 1 j, List.getElem?_cons_succ, List.getElem?_append_left (by rw [wds_length]; exact hj)]
 exact hu
theorem set_range' {w : World} {g : Nat} {t : TypeId} {k : Int} {s : Nat → Bool} {v : Value} {cs : List Value} (hc : cs = .int .i64 k :: (wds s ++ [v])) (h : Blk w g t cs) : w.rangeAt g 1 (wds s) :=
 set_range (hc ▸ h)
def zeroS : Nat → Bool := fun _ => false
def rxc (k : Int) (s : Nat → Bool) (v : Value) : List Value := Value.int .i64 k :: (wds s ++ [v])
theorem rx_leaf (D : Nat → Prop) (w : World) (k : Int) (s : Nat → Bool) : RxD D w (rxc k s (.slice none 0 0)) (.node k s []) :=
 .node (l := []) (fun _ => []) (Nat.le_refl _) (Nat.zero_le _) (fun _ => rfl) (fun h => absurd rfl h) (fun i t h => by simp at h)
def noneT : T := .node 1 zeroS []
def bytesT (s : Nat → Bool) : T := if eqS s zeroS then noneT else .node 3 s []
theorem inf_rx' : ∃ i, Tryz.prog.info? 46 = some i ∧ i.zero = some (.agg (rxc 0 zeroS (.slice none 0 0)).toArray) ∧ i.size = 6 ∧ i.bytes = 64 := infoP inf_rx
theorem built0 (k : Int) : Tryz.prog.built 46 [(0, .int .i64 k)] = some (rxc k zeroS (.slice none 0 0)).toArray := by kernel_rfl
theorem built01 (k : Int) (s : Nat → Bool) : Tryz.prog.built 46 [(0, .int .i64 k), (1, .agg (wds s).toArray)] = some (rxc k s (.slice none 0 0)).toArray := by kernel_rfl
theorem builtS : Tryz.prog.built 43 [] = some (wds zeroS).toArray := by kernel_rfl
set_option maxHeartbeats 2000000 in
set_option maxRecDepth 100000 in
theorem refNone_any (w : World) : Calls Tryz.prog 36 #[] w fun e w' => ∃ ds, e = .returned (.agg ds.toArray) ∧ (∀ D, RxD D w' ds noneT) ∧ Below w.heap.size w w' := by
 obtain ⟨i0, hi0, hz0, hz1, hz2⟩ := inf_rx'
 obtain ⟨z, hz⟩ : ∃ z, z = rxc 0 zeroS (.slice none 0 0) := ⟨_, rfl⟩
 have HZL := qH (show z.length = 6 by rw [hz]; rfl)
 have HZ0 := qH (show i0.zero = some (.agg z.toArray) by rw [hz]; exact hz0)
 obtain ⟨c, hc⟩ : ∃ c, c = rxc 1 zeroS (.slice none 0 0) := ⟨_, rfl⟩
 have HCB := qH (show Tryz.prog.built 46 [(0, .int .i64 1)] = some c.toArray by rw [hc]; exact built0 1)
 have HC6 := qH (show c.length = 6 by rw [hc]; rfl)
 have HC1 := qH (show c.all (·.oneCell') = true by rw [hc]; rfl)
 have HC := qH hc
 clear hz hz0 hz1 hz2 hc
 go_enter Tryz.func36, Tryz.ntmps36
 go_wp2_with (first
  | ((with_reducible refine atDst 0 ?_); refine wpList_new rfl 46 rfl i0 _ z hi0 HZ0.out rfl (Below.refl w.heap.size w) (Nat.le_refl _) ?_; intro w1 hk1 hb1 hs1 _; have K1 := qH hk1; have B1 := qH hb1; clear hk1 hb1 hs1)
  | ((with_reducible refine atDst 1 ?_); refine wpList_bld rfl 46 _ rfl c HCB.out ?_)
  | ((with_reducible refine atStore 46 0 1 ?_); refine wpList_stBlk rfl 46 _ _ rfl w.heap.size c rfl rfl 46 _ K1.out (size_rx HC6.out) (by rw [HZL.out, HC6.out]) HC1.out B1.out (Nat.le_refl _) ?_; intro w2 hk2 hb2 hs2 _; have K2 := qH hk2; have B2 := qH hb2; clear hk2 hb2 hs2))
 refine bodyPost_ret (results_blk rfl _ _ w.heap.size 46 _ _ rfl K2.out Tryz.underlying46 rfl (size_rx HC6.out)) rfl ?_
 exact ⟨c, rfl, fun D => by rw [HC.out]; exact rx_leaf D _ _ _, B2.out⟩
set_option maxHeartbeats 2000000 in
set_option maxRecDepth 100000 in
theorem refBytes_any (s : Nat → Bool) (w : World) : Calls Tryz.prog 15 #[.agg (wds s).toArray] w fun e w' => ∃ ds, e = .returned (.agg ds.toArray) ∧ (∀ D, RxD D w' ds (bytesT s)) ∧ Below w.heap.size w w' := by
 obtain ⟨i0, hi0, hz0, hz1, hz2⟩ := inf_rx'
 obtain ⟨z, hz⟩ : ∃ z, z = rxc 0 zeroS (.slice none 0 0) := ⟨_, rfl⟩
 have HZL := qH (show z.length = 6 by rw [hz]; rfl)
 have HZ0 := qH (show i0.zero = some (.agg z.toArray) by rw [hz]; exact hz0)
 obtain ⟨c, hc⟩ : ∃ c, c = rxc 3 s (.slice none 0 0) := ⟨_, rfl⟩
 have HCB := qH (show Tryz.prog.built 46 [(0, .int .i64 3), (1, .agg (wds s).toArray)] = some c.toArray by rw [hc]; exact built01 3 s)
 have HC6 := qH (show c.length = 6 by rw [hc]; rfl)
 have HC1 := qH (show c.all (·.oneCell') = true by rw [hc]; rfl)
 have HC := qH hc
 have HBS := qH builtS
 obtain ⟨zs, hzs⟩ : ∃ zs, zs = zeroS := ⟨_, rfl⟩
 have HZS := qH hzs
 rw [← hzs] at HBS
 clear hz hz0 hz1 hz2 hc hzs
 cases hs : eqS s zs with
 | true =>
  have HEQ := qH hs
  have HF := qH (show bytesT s = noneT by unfold bytesT; rw [← HZS.out, hs]; rfl)
  clear hs
  go_enter Tryz.func15, Tryz.ntmps15
  go_wp2_with (first
   | ((with_reducible refine atDst 1 ?_); refine wpList_box rfl 43 _ rfl (wds s) rfl (Below.refl w.heap.size w) (Nat.le_refl _) ?_; intro w1 hk1 hb1 hs1 _; have K1 := qH hk1; have B1 := qH hb1; clear hk1 hb1 hs1)
   | ((with_reducible refine atDst 2 ?_); refine wpList_new rfl 46 rfl i0 _ z hi0 HZ0.out rfl B1.out B1.out.size ?_; intro w2 hk2 hb2 hs2 ho2; have L2 := qH hk2; have B2 := qH hb2; have K2 := qH (show Blk w2 w.heap.size 43 (wds s) from (ho2 _ K1.out.lt).trans K1.out); have G12 := qH K1.out.lt; clear hk2 hb2 hs2 ho2)
   | ((with_reducible refine atDst 3 ?_); refine wpList_ldArr rfl 43 _ rfl w.heap.size rfl 43 _ _ K2.out Tryz.underlying43 rfl (size_set s) ?_; (try simp only [Act.put, qA, qB, qC]))
   | ((with_reducible refine atDst 4 ?_); refine wpList_bld rfl 43 _ rfl (wds zs) HBS.out ?_; (try simp only [Act.put, qA, qB, qC]))
   | ((with_reducible refine atDst 5 ?_); refine wpList_eqSet_is rfl HEQ.out 43 41 (.tmp 3) (.tmp 4) 43 rfl guardSet Tryz.underlying43 Tryz.underlying41 sizeU64 rfl rfl ?_; (try simp only [Act.put, qA, qB, qC])))
  refine (refNone_any w2).mono ?_
  rintro e w3 ⟨ds, rfl, hds, hb3⟩
  have D6 := qH (hds (fun _ => False)).length
  have DA := qH hds
  have D1 := qH (show ds.all (·.oneCell') = true from List.all_eq_true.2 (hds (fun _ => False)).one)
  have L3 := qH (L2.out.below hb3 L2.out.lt)
  have B3 := qH (B2.out.trans (hb3.mono B2.out.size))
  clear hds hb3
  go_wp2_with ((with_reducible refine atStore 46 2 6 ?_); refine wpList_stBlk rfl 46 _ _ rfl w1.heap.size ds rfl rfl 46 _ L3.out (size_rx D6.out) (by rw [HZL.out, D6.out]) D1.out B3.out (Nat.le_of_lt G12.out) ?_; intro w4 hk4 hb4 hs4 ho4; have K4 := qH hk4; have B4 := qH hb4; have D4 := qH (fun D => ((DA.out (fun _ => False)).stay (w' := w4) fun k hk => absurd hk id).mono (D' := D) fun k hk => absurd hk id); clear hk4 hb4 hs4 ho4)
  refine bodyPost_ret (results_blk rfl _ _ w1.heap.size 46 _ _ rfl K4.out Tryz.underlying46 rfl (size_rx D6.out)) rfl ?_
  exact ⟨ds, rfl, by rw [HF.out]; exact D4.out, B4.out⟩
 | false =>
  have HEQ := qH hs
  have HF := qH (show bytesT s = .node 3 s [] by unfold bytesT; rw [← HZS.out, hs]; rfl)
  clear hs
  go_enter Tryz.func15, Tryz.ntmps15
  go_wp2_with (first
   | ((with_reducible refine atDst 1 ?_); refine wpList_box rfl 43 _ rfl (wds s) rfl (Below.refl w.heap.size w) (Nat.le_refl _) ?_; intro w1 hk1 hb1 hs1 _; have K1 := qH hk1; have B1 := qH hb1; clear hk1 hb1 hs1)
   | ((with_reducible refine atDst 2 ?_); refine wpList_new rfl 46 rfl i0 _ z hi0 HZ0.out rfl B1.out B1.out.size ?_; intro w2 hk2 hb2 hs2 ho2; have L2 := qH hk2; have B2 := qH hb2; have K2 := qH (show Blk w2 w.heap.size 43 (wds s) from (ho2 _ K1.out.lt).trans K1.out); have G12 := qH K1.out.lt; clear hk2 hb2 hs2 ho2)
   | ((with_reducible refine atDst 3 ?_); refine wpList_ldArr rfl 43 _ rfl w.heap.size rfl 43 _ _ K2.out Tryz.underlying43 rfl (size_set s) ?_; (try simp only [Act.put, qA, qB, qC]))
   | ((with_reducible refine atDst 4 ?_); refine wpList_bld rfl 43 _ rfl (wds zs) HBS.out ?_; (try simp only [Act.put, qA, qB, qC]))
   | ((with_reducible refine atDst 5 ?_); refine wpList_eqSet_is rfl HEQ.out 43 41 (.tmp 3) (.tmp 4) 43 rfl guardSet Tryz.underlying43 Tryz.underlying41 sizeU64 rfl rfl ?_; (try simp only [Act.put, qA, qB, qC]))
   | ((with_reducible refine atDst 7 ?_); refine wpList_ldArr rfl 43 _ rfl w.heap.size rfl 43 _ _ K2.out Tryz.underlying43 rfl (size_set s) ?_; (try simp only [Act.put, qA, qB, qC]))
   | ((with_reducible refine atDst 8 ?_); refine wpList_bld rfl 46 _ rfl c HCB.out ?_; (try simp only [Act.put, qA, qB, qC]))
   | ((with_reducible refine atStore 46 2 8 ?_); refine wpList_stBlk rfl 46 _ _ rfl w1.heap.size c rfl rfl 46 _ L2.out (size_rx HC6.out) (by rw [HZL.out, HC6.out]) HC1.out B2.out (Nat.le_of_lt G12.out) ?_; intro w4 hk4 hb4 hs4 ho4; have K4 := qH hk4; have B4 := qH hb4; clear hk4 hb4 hs4 ho4))
  refine bodyPost_ret (results_blk rfl _ _ w1.heap.size 46 _ _ rfl K4.out Tryz.underlying46 rfl (size_rx HC6.out)) rfl ?_
  exact ⟨c, rfl, fun D => by rw [HF.out, HC.out]; exact rx_leaf D _ _ _, B4.out⟩
theorem RxD.split {D : Nat → Prop} {w : World} {cs : List Value} {t : T} (h : RxD D w cs t) : ∃ A cap, cs = rxc t.kind t.set (.slice A t.args.length cap) ∧ RowD D w (.slice A t.args.length cap) t.args := by
 cases t with
 | node k s l =>
  obtain ⟨v, rfl, hr⟩ := RxD.row h
  have hr' := hr
  obtain ⟨A, cap, f, rfl, _⟩ := hr
  exact ⟨A, cap, rfl, hr'⟩
section
variable {w : World} {o : Oper} {a : Act} {K : Act → World → Prop} {Q : Exit → Act → World → Prop}
end
section
variable {P : Program} {w : World} {o : Oper} {a : Act} {K : Act → World → Prop} {Q : Exit → Act → World → Prop}
end
section
variable {w : World} {o : Oper} {a : Act} {K : Act → World → Prop} {Q : Exit → Act → World → Prop}
end
theorem RowD.take {D : Nat → Prop} {w : World} {A : Option Addr} {n cap : Nat} {l : List T} (h : RowD D w (.slice A n cap) l) (k : Nat) (hk : k ≤ l.length) : RowD D w (.slice A k cap) (l.take k) := by
 obtain ⟨A', cap', f, he, h1, h2, h0, h3, h4⟩ := h
 injection he with hA hn hc
 subst hA
 subst hc
 have hl : (l.take k).length = k := by rw [List.length_take]; omega
 refine ⟨A, cap, f, by rw [hl], by omega, h2, h0, fun hne => ?_, fun i t ht => ?_⟩
 ·obtain ⟨b, off, hA, hb, hr⟩ := h3 (fun e => hne (by rw [e]; simp))
  exact ⟨b, off, hA, hb, fun i hi => hr i (by omega)⟩
 ·have hi : i < k := by have := (List.getElem?_eq_some_iff.1 ht).1; omega
  rw [List.getElem?_take, if_pos hi] at ht
  exact h4 i t ht
theorem RowD.drop {D : Nat → Prop} {w : World} {A : Option Addr} {n cap : Nat} {l : List T} (h : RowD D w (.slice A n cap) l) (k : Nat) (hk : k < l.length) :
  ∃ b off, A = some ⟨b, off, none⟩ ∧ RowD D w (.slice (some ⟨b, off + k * 6, none⟩) (n - k) (cap - k)) (l.drop k) := by
 obtain ⟨A', cap', f, he, h1, h2, h0, h3, h4⟩ := h
 injection he with hA hn hc
 subst hA
 subst hc
 subst hn
 obtain ⟨b, off, rfl, hb, hr⟩ := h3 (fun e => by rw [e] at hk; simp at hk)
 refine ⟨b, off, rfl, some ⟨b, off + k * 6, none⟩, cap - k, fun i => f (k + i), by rw [List.length_drop], by rw [List.length_drop]; omega, by omega, (fun h => by cases h), fun _ => ⟨b, off + k * 6, rfl, hb, fun i hi => ?_⟩, fun i t ht => ?_⟩
 ·rw [List.length_drop] at hi
  have := hr (k + i) (by omega)
  rw [show off + k * 6 + i * 6 = off + (k + i) * 6 by omega]
  exact this
 ·rw [List.getElem?_drop] at ht
  exact h4 (k + i) t ht
end Go.Proofs.YteadghoojeehlaaGreatDoor
