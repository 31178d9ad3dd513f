/-
  Texts of this proof, put together: SetQ, RxT, RxN, RxO, RxSb. No statement is proved here.
-/
import Derived.Test.YtopnpdobcagcgaaGreatMB
import Derived.Test.YtopnpdobcagcgaaGreatMA
import Derived.Test.YtopnpdobcagcgaaGreatProg
namespace Go.Proofs.YtopnpdobcagcgaaGreat
open Go.RowKit
set_option linter.unusedSimpArgs false
set_option linter.unusedVariables false
theorem all_range_int : ∀ (xs ys : List Int), xs.length = ys.length → ((List.range xs.length).all fun i => xs.getD i 0 == ys.getD i 0) = (xs == ys)
 | [], [], _ => rfl
 | x :: xs, y :: ys, h => by
  have ih := all_range_int xs ys (by simpa using h)
  rw [List.length_cons, List.range_succ_eq_map, List.all_cons, List.all_map]
  simp only [List.getD_cons_zero, Function.comp_def, List.getD_cons_succ, ih]
  simp [List.cons_beq_cons]
 | [], _ :: _, h => by simp at h
 | _ :: _, [], h => by simp at h
section
variable {P : Program} (w : World)
theorem run_equalIn_nums (d : Nat) (t e : TypeId) (n : Nat) (k : IntKind) (ht : P.underlying t = some (.array n e)) (he : P.underlying e = some (.int k)) (hsz : ∀ w, (sizeOf e).run P w = .ok 1 w)
  (xs ys : List Int) (hx : xs.length = n) (hy : ys.length = n) :
  (Op.equalIn (d + 2) t (.agg (nums k xs).toArray) (.agg (nums k ys).toArray)).run P w = .ok (xs == ys) w := by
 rw [← all_range_int xs ys (hx.trans hy.symm), hx, List.range_eq_range', Op.equalIn]
 simp only [Sem.run_bind, run_underlying ht, Result.andThen_ok, hsz, Std.Legacy.Range.forIn_eq_forIn_range', Std.Legacy.Range.size, Nat.sub_zero, Nat.add_sub_cancel, Nat.div_one]
 have hl : ∀ i ∈ List.range' 0 n 1, i < n := fun i hi => by simpa using (List.mem_range'_1.1 hi).2
 generalize List.range' 0 n 1 = l at hl ⊢
 induction l with
 | nil => simp
 | cons i l ih =>
  have hi : i < n := hl i (by simp)
  have px : (part e (nums k xs).toArray (i * 1)).run P w = .ok (.int k (xs.getD i 0)) w := by
   simp [part, isAgg, run_underlying he, List.getD, nums, List.getElem?_eq_getElem (show i < xs.length by omega)]
  have py : (part e (nums k ys).toArray (i * 1)).run P w = .ok (.int k (ys.getD i 0)) w := by
   simp [part, isAgg, run_underlying he, List.getD, nums, List.getElem?_eq_getElem (show i < ys.length by omega)]
  have pe : (Op.equalIn (d + 1) e (.int k (xs.getD i 0)) (.int k (ys.getD i 0))).run P w = .ok (xs.getD i 0 == ys.getD i 0) w := run_equalIn_int w d e k k _ _ he
  simp only [List.forIn_cons, Sem.run_bind, px, py, pe, Result.andThen_ok, List.all_cons]
  cases hb : (xs.getD i 0 == ys.getD i 0)
  ·simp
  ·simp only [Bool.not_true, Bool.false_eq_true, if_false, Sem.run_pure, Result.andThen_ok, Bool.true_and]
   exact ih fun j hj => hl j (by simp [hj])
def eqS (p q : Nat → Bool) : Bool := [(word p 0 : Int), (word p 1 : Int), (word p 2 : Int), (word p 3 : Int)] == [(word q 0 : Int), (word q 1 : Int), (word q 2 : Int), (word q 3 : Int)]
theorem eqS_self (p : Nat → Bool) : eqS p p = true := by simp [eqS]
theorem eqS_iff (p q : Nat → Bool) : eqS p q = true ↔ ∀ b, b < 256 → p b = q b := by
 constructor
 ·intro h
  have h' : [(word p 0 : Int), (word p 1 : Int), (word p 2 : Int), (word p 3 : Int)] = [(word q 0 : Int), (word q 1 : Int), (word q 2 : Int), (word q 3 : Int)] := by simpa [eqS] using h
  refine wds_inj ?_
  unfold wds
  simp only [List.cons.injEq, and_true] at h'
  rw [h'.1, h'.2.1, h'.2.2.1, h'.2.2.2]
 ·intro h
  unfold eqS
  rw [word_congr h 0 (by omega), word_congr h 1 (by omega), word_congr h 2 (by omega), word_congr h 3 (by omega)]
  simp
section
variable (t e : TypeId) (ht : P.underlying t = some (.array 4 e)) (he : P.underlying e = some (.int .u64)) (hsz : ∀ w, (sizeOf e).run P w = .ok 1 w) (p q : Nat → Bool)
include ht he hsz
theorem run_eql_sets : (binOp .eql t (.agg (wds p).toArray) (.agg (wds q).toArray)).run P w = .ok (.bool (eqS p q)) w := by
 have := run_equalIn_nums (P := P) w 9998 t e 4 .u64 ht he hsz [(word p 0 : Int), (word p 1 : Int), (word p 2 : Int), (word p 3 : Int)] [(word q 0 : Int), (word q 1 : Int), (word q 2 : Int), (word q 3 : Int)] rfl rfl
 rw [run_eql_struct]
 have e1 : (wds p).toArray = (nums .u64 [(word p 0 : Int), (word p 1 : Int), (word p 2 : Int), (word p 3 : Int)]).toArray := rfl
 have e2 : (wds q).toArray = (nums .u64 [(word q 0 : Int), (word q 1 : Int), (word q 2 : Int), (word q 3 : Int)]).toArray := rfl
 rw [e1, e2, this]
 rfl
theorem run_neq_sets : (binOp .neq t (.agg (wds p).toArray) (.agg (wds q).toArray)).run P w = .ok (.bool (!eqS p q)) w := by
 have := run_equalIn_nums (P := P) w 9998 t e 4 .u64 ht he hsz [(word p 0 : Int), (word p 1 : Int), (word p 2 : Int), (word p 3 : Int)] [(word q 0 : Int), (word q 1 : Int), (word q 2 : Int), (word q 3 : Int)] rfl rfl
 rw [run_neq_struct]
 have e1 : (wds p).toArray = (nums .u64 [(word p 0 : Int), (word p 1 : Int), (word p 2 : Int), (word p 3 : Int)]).toArray := rfl
 have e2 : (wds q).toArray = (nums .u64 [(word q 0 : Int), (word q 1 : Int), (word q 2 : Int), (word q 3 : Int)]).toArray := rfl
 rw [e1, e2, this]
 rfl
end
end
section
variable {P : Program} {w : World} {ops : Array Oper} {rest : List Oper} {o : Oper} {a : Act} {Q : Exit → Act → World → Prop}
theorem wpList_eqSet (hgd : Region.wanted o (yielded ops a.tmps) = true) (t e : TypeId) (x y : Operand) (oT : TypeId) (ho : o.op = .binOp .eql t x y oT) (hm : P.eqGuardType P.depth t = false)
  (ht : P.underlying t = some (.array 4 e)) (he : P.underlying e = some (.int .u64)) (hsz : ∀ w, (sizeOf e).run P w = .ok 1 w)
  (p q : Nat → Bool) (ex : a.eval x = .agg (wds p).toArray) (ey : a.eval y = .agg (wds q).toArray)
  (h : wpList P ops Q rest (a.put o.dst (.bool (eqS p q))) w) : wpList P ops Q (o :: rest) a w := by
 refine BigFrame.wpList_want hgd fun K hK => ?_
 unfold Oper.wp
 simp only [execOp, ho, ex, ey, Sem.run_bind, run_eqGuard_agg w .eql t x y _ _ hm, Result.andThen_ok, run_eql_sets w t e ht he hsz p q, Sem.run_pure]
 exact hK _ _ h
theorem wpList_eqSet_is (hgd : Region.wanted o (yielded ops a.tmps) = true) {b : Bool} {p q : Nat → Bool} (hb : eqS p q = b) (t e : TypeId) (x y : Operand) (oT : TypeId) (ho : o.op = .binOp .eql t x y oT) (hm : P.eqGuardType P.depth t = false)
  (ht : P.underlying t = some (.array 4 e)) (he : P.underlying e = some (.int .u64)) (hsz : ∀ w, (sizeOf e).run P w = .ok 1 w)
  (ex : a.eval x = .agg (wds p).toArray) (ey : a.eval y = .agg (wds q).toArray)
  (h : wpList P ops Q rest (a.put o.dst (.bool b)) w) : wpList P ops Q (o :: rest) a w :=
 wpList_eqSet hgd t e x y oT ho hm ht he hsz p q ex ey (hb ▸ h)
theorem eq_any {oi : Oper} (t e : TypeId) (x y : Operand) (oT : TypeId) (ho : oi.op = .binOp .eql t x y oT) (hm : P.eqGuardType P.depth t = false)
  (ht : P.underlying t = some (.array 4 e)) (he : P.underlying e = some (.int .u64)) (hsz : ∀ w, (sizeOf e).run P w = .ok 1 w)
  (p q : Nat → Bool) (ex : a.eval x = .agg (wds p).toArray) (ey : a.eval y = .agg (wds q).toArray) {S : World → Prop} :
  ∀ W, S W → (execOp a.eval oi).run P W = .ok (.value (.bool (eqS p q))) W := by
 intro W _
 simp only [execOp, ho, ex, ey, Sem.run_bind, run_eqGuard_agg W .eql t x y _ _ hm, Result.andThen_ok, run_eql_sets W t e ht he hsz p q, Sem.run_pure]
theorem eq_is {b : Bool} {p q : Nat → Bool} (hb : (eqS p q) = b) {oi : Oper} (t e : TypeId) (x y : Operand) (oT : TypeId) (ho : oi.op = .binOp .eql t x y oT) (hm : P.eqGuardType P.depth t = false)
  (ht : P.underlying t = some (.array 4 e)) (he : P.underlying e = some (.int .u64)) (hsz : ∀ w, (sizeOf e).run P w = .ok 1 w)
  (ex : a.eval x = .agg (wds p).toArray) (ey : a.eval y = .agg (wds q).toArray) {S : World → Prop} :
  ∀ W, S W → (execOp a.eval oi).run P W = .ok (.value (.bool b)) W := hb ▸ eq_any t e x y oT ho hm ht he hsz p q ex ey
end
inductive T where
 | node (k : Int) (s : Nat → Bool) (l : List T)
def T.kind : T → Int | .node k _ _ => k
def T.set : T → (Nat → Bool) | .node _ s _ => s
def T.args : T → List T | .node _ _ l => l
mutual
def T.nodes : T → Nat
 | .node _ _ l => 1 + nodesL l
def nodesL : List T → Nat
 | [] => 0
 | t :: r => t.nodes + nodesL r
end
mutual
def T.depth : T → Nat
 | .node _ _ l => depthL l + 1
def depthL : List T → Nat
 | [] => 0
 | t :: r => max t.depth (depthL r)
end
theorem nodes_pos (t : T) : 0 < t.nodes := by
 cases t with
 | node k s l => simp only [T.nodes]; omega
theorem nodesL_append : ∀ a b : List T, nodesL (a ++ b) = nodesL a + nodesL b
 | [], b => by simp [nodesL]
 | t :: r, b => by
  have := nodesL_append r b
  simp only [List.cons_append, nodesL, this]
  omega
theorem depthL_append : ∀ a b : List T, depthL (a ++ b) = max (depthL a) (depthL b)
 | [], b => by simp [depthL]
 | t :: r, b => by
  have := depthL_append r b
  simp only [List.cons_append, depthL, this]
  omega
theorem nodesL_next (l : List T) (i : Nat) (t : T) (h : l[i]? = some t) : nodesL (l.take (i + 1)) = nodesL (l.take i) + t.nodes := by
 obtain ⟨hi, rfl⟩ := List.getElem?_eq_some_iff.1 h
 rw [List.take_succ_eq_append_getElem hi, nodesL_append]
 simp [nodesL]
theorem depthL_next (l : List T) (i : Nat) (t : T) (h : l[i]? = some t) : depthL (l.take (i + 1)) = max (depthL (l.take i)) t.depth := by
 obtain ⟨hi, rfl⟩ := List.getElem?_eq_some_iff.1 h
 rw [List.take_succ_eq_append_getElem hi, depthL_append]
 simp [depthL]
theorem nodes_mem : ∀ {l : List T} {t : T}, t ∈ l → t.nodes ≤ nodesL l
 | a :: r, t, h => by
  rcases List.mem_cons.1 h with rfl | h
  ·simp only [nodesL]; omega
  ·have := nodes_mem h
   simp only [nodesL]; omega
theorem len_nodes : ∀ l : List T, l.length ≤ nodesL l
 | [] => Nat.le_refl _
 | t :: r => by
  have h1 := len_nodes r
  have h2 := nodes_pos t
  simp only [nodesL, List.length_cons]; omega
/-! ### how two compare -/
mutual
def cmpT : T → T → Int
 | .node k s l, .node k' s' l' => if k = k' then (if k = 3 ∧ eqS s s' = false then (if lessS s s' then -1 else 1) else cmpL l l') else if k < k' then -1 else 1
def cmpL : List T → List T → Int
 | [], [] => 0
 | [], _ :: _ => -1
 | _ :: _, [] => 1
 | a :: r, b :: r' => if cmpT a b = 0 then cmpL r r' else cmpT a b
end
mutual
def sameT : T → T → Bool
 | .node k s l, .node k' s' l' => decide (k = k') && eqS s s' && sameL l l'
def sameL : List T → List T → Bool
 | [], [] => true
 | [], _ :: _ => false
 | _ :: _, [] => false
 | a :: r, b :: r' => sameT a b && sameL r r'
end
/-! ### how they lie -/
inductive RxD (D : Nat → Prop) (w : World) : List Value → T → Prop
 | node {k : Int} {s : Nat → Bool} {l : List T} {A : Option Addr} {cap : Nat} (f : Nat → List Value) (h1 : l.length ≤ cap) (h2 : cap ≤ maxLen) (h0 : A = none → cap = 0)
   (h3 : l ≠ [] → ∃ b off, A = some ⟨b, off, none⟩ ∧ D b ∧ ∀ i, i < l.length → w.rangeAt b (off + i * 6) (f i))
   (h4 : ∀ i t, l[i]? = some t → RxD D w (f i) t) : RxD D w (.int .i64 k :: (wds s ++ [.slice A l.length cap])) (.node k s l)
theorem range_heap {w w' : World} {b o : Nat} {cs : List Value} (h : w.rangeAt b o cs) (hb : w'.heap[b]? = w.heap[b]?) : w'.rangeAt b o cs := fun j v hv => by
 have := h j v hv
 unfold World.cell? at this ⊢
 simp only [hb]
 exact this
theorem RxD.stay {D : Nat → Prop} {w w' : World} {cs : List Value} {t : T} (h : RxD D w cs t) (hb : ∀ k, D k → w'.heap[k]? = w.heap[k]?) : RxD D w' cs t := by
 induction h with
 | node f h1 h2 h0 h3 h4 ih =>
  refine .node f h1 h2 h0 (fun hne => ?_) ih
  obtain ⟨b, off, hA, hlt, hc⟩ := h3 hne
  exact ⟨b, off, hA, hlt, fun i hi => range_heap (hc i hi) (hb b hlt)⟩
theorem RxD.mono {D D' : Nat → Prop} {w : World} {cs : List Value} {t : T} (h : RxD D w cs t) (hb : ∀ k, D k → D' k) : RxD D' w cs t := by
 induction h with
 | node f h1 h2 h0 h3 h4 ih =>
  refine .node f h1 h2 h0 (fun hne => ?_) ih
  obtain ⟨b, off, hA, hlt, hc⟩ := h3 hne
  exact ⟨b, off, hA, hb b hlt, hc⟩
theorem RxD.length {D : Nat → Prop} {w : World} {cs : List Value} {t : T} (h : RxD D w cs t) : cs.length = 6 := by
 cases h
 rfl
theorem RxD.opened {D : Nat → Prop} {w : World} {cs : List Value} {k : Int} {s : Nat → Bool} {l : List T} (h : RxD D w cs (.node k s l)) :
  ∃ (A : Option Addr) (cap : Nat) (f : Nat → List Value), cs = .int .i64 k :: (wds s ++ [.slice A l.length cap]) ∧ l.length ≤ cap ∧ cap ≤ maxLen ∧ (A = none → cap = 0) ∧ (l ≠ [] → ∃ b off, A = some ⟨b, off, none⟩ ∧ D b ∧ ∀ i, i < l.length → w.rangeAt b (off + i * 6) (f i)) ∧ ∀ i t, l[i]? = some t → RxD D w (f i) t := by
 cases h with
 | node f h1 h2 h0 h3 h4 => exact ⟨_, _, f, rfl, h1, h2, h0, h3, h4⟩
theorem RxD.one {D : Nat → Prop} {w : World} {cs : List Value} {t : T} (h : RxD D w cs t) : ∀ u ∈ cs, u.oneCell' = true := by
 cases h with
 | node f h1 h2 h0 h3 h4 =>
  intro u hu
  rcases List.mem_cons.1 hu with rfl | hu
  ·rfl
  ·rcases List.mem_append.1 hu with hu | hu
   ·exact List.all_eq_true.1 (wds_all _) u hu
   ·obtain rfl := List.mem_singleton.1 hu
    rfl
def RxV (B : Nat) (w : World) (cs : List Value) (t : T) : Prop := RxD (fun k => k < B) w cs t
theorem RxV.stay {B : Nat} {w w' : World} {cs : List Value} {t : T} (h : RxV B w cs t) (hb : Below B w w') : RxV B w' cs t := RxD.stay h fun k hk => hb.block k hk
theorem RxV.mono {B B' : Nat} {w : World} {cs : List Value} {t : T} (h : RxV B w cs t) (hb : B ≤ B') : RxV B' w cs t := RxD.mono h fun k hk => Nat.lt_of_lt_of_le hk hb
theorem RxV.length {B : Nat} {w : World} {cs : List Value} {t : T} (h : RxV B w cs t) : cs.length = 6 := RxD.length h
theorem RxV.opened {B : Nat} {w : World} {cs : List Value} {k : Int} {s : Nat → Bool} {l : List T} (h : RxV B w cs (.node k s l)) :
  ∃ (A : Option Addr) (cap : Nat) (f : Nat → List Value), cs = .int .i64 k :: (wds s ++ [.slice A l.length cap]) ∧ l.length ≤ cap ∧ cap ≤ maxLen ∧ (A = none → cap = 0) ∧ (l ≠ [] → ∃ b off, A = some ⟨b, off, none⟩ ∧ b < B ∧ ∀ i, i < l.length → w.rangeAt b (off + i * 6) (f i)) ∧ ∀ i t, l[i]? = some t → RxV B w (f i) t := RxD.opened h
def RowT (B : Nat) (w : World) (v : Value) (l : List T) : Prop :=
 ∃ (A : Option Addr) (cap : Nat) (f : Nat → List Value), v = .slice A l.length cap ∧ l.length ≤ cap ∧ cap ≤ maxLen ∧ (A = none → cap = 0) ∧ (l ≠ [] → ∃ b off, A = some ⟨b, off, none⟩ ∧ b < B ∧ ∀ i, i < l.length → w.rangeAt b (off + i * 6) (f i)) ∧ ∀ i t, l[i]? = some t → RxV B w (f i) t
theorem RowT.below {B : Nat} {w w' : World} {v : Value} {l : List T} (h : RowT B w v l) (hb : Below B w w') : RowT B w' v l := by
 obtain ⟨A, cap, f, hv, h1, h2, h0, h3, h4⟩ := h
 refine ⟨A, cap, f, hv, h1, h2, h0, fun hne => ?_, fun i t ht => (h4 i t ht).stay hb⟩
 obtain ⟨b, off, hA, hlt, hc⟩ := h3 hne
 exact ⟨b, off, hA, hlt, fun i hi => range_below (hc i hi) hb hlt⟩
theorem RxV.row {B : Nat} {w : World} {k : Int} {s : Nat → Bool} {l : List T} {cs : List Value} (h : RxV B w cs (.node k s l)) : ∃ v, cs = .int .i64 k :: (wds s ++ [v]) ∧ RowT B w v l := by
 obtain ⟨A, cap, f, hcs, h⟩ := h.opened
 exact ⟨_, hcs, A, cap, f, rfl, h⟩
theorem RowT.rx {B : Nat} {w : World} {v : Value} {l : List T} (h : RowT B w v l) (k : Int) (s : Nat → Bool) : RxV B w (.int .i64 k :: (wds s ++ [v])) (.node k s l) := by
 obtain ⟨A, cap, f, rfl, h1, h2, h0, h3, h4⟩ := h
 exact RxD.node f h1 h2 h0 h3 h4
theorem RowT.at_ {B : Nat} {w : World} {A : Option Addr} {n cap : Nat} {l : List T} (h : RowT B w (.slice A n cap) l) (hne : 0 < l.length) :
  ∃ (b off : Nat) (f : Nat → List Value), A = some ⟨b, off, none⟩ ∧ b < B ∧ (∀ i, i < l.length → w.rangeAt b (off + i * 6) (f i)) ∧ ∀ i t, l[i]? = some t → RxV B w (f i) t := by
 obtain ⟨A', cap', f, he, _, _, _, h3, h4⟩ := h
 injection he with hA _ _
 subst hA
 obtain ⟨b, off, h5, h6, h7⟩ := h3 (by rintro rfl; simp at hne)
 exact ⟨b, off, f, h5, h6, h7, h4⟩
def RowD (D : Nat → Prop) (w : World) (v : Value) (l : List T) : Prop :=
 ∃ (A : Option Addr) (cap : Nat) (f : Nat → List Value), v = .slice A l.length cap ∧ l.length ≤ cap ∧ cap ≤ maxLen ∧ (A = none → cap = 0) ∧ (l ≠ [] → ∃ b off, A = some ⟨b, off, none⟩ ∧ D b ∧ ∀ i, i < l.length → w.rangeAt b (off + i * 6) (f i)) ∧ ∀ i t, l[i]? = some t → RxD D w (f i) t
theorem RowT.rowD {B : Nat} {w : World} {v : Value} {l : List T} (h : RowT B w v l) : RowD (fun k => k < B) w v l := h
theorem RowD.rowT {B : Nat} {w : World} {v : Value} {l : List T} (h : RowD (fun k => k < B) w v l) : RowT B w v l := h
theorem RowD.stay {D : Nat → Prop} {w w' : World} {v : Value} {l : List T} (h : RowD D w v l) (hb : ∀ k, D k → w'.heap[k]? = w.heap[k]?) : RowD D w' v l := by
 obtain ⟨A, cap, f, hv, h1, h2, h0, h3, h4⟩ := h
 refine ⟨A, cap, f, hv, h1, h2, h0, fun hne => ?_, fun i t ht => (h4 i t ht).stay hb⟩
 obtain ⟨b, off, hA, hlt, hc⟩ := h3 hne
 exact ⟨b, off, hA, hlt, fun i hi => range_heap (hc i hi) (hb b hlt)⟩
theorem RowD.mono {D D' : Nat → Prop} {w : World} {v : Value} {l : List T} (h : RowD D w v l) (hD : ∀ k, D k → D' k) : RowD D' w v l := by
 obtain ⟨A, cap, f, hv, h1, h2, h0, h3, h4⟩ := h
 refine ⟨A, cap, f, hv, h1, h2, h0, fun hne => ?_, fun i t ht => (h4 i t ht).mono hD⟩
 obtain ⟨b, off, hA, hlt, hc⟩ := h3 hne
 exact ⟨b, off, hA, hD b hlt, hc⟩
theorem RxD.row {D : Nat → Prop} {w : World} {k : Int} {s : Nat → Bool} {l : List T} {cs : List Value} (h : RxD D w cs (.node k s l)) : ∃ v, cs = .int .i64 k :: (wds s ++ [v]) ∧ RowD D w v l := by
 obtain ⟨A, cap, f, hcs, h⟩ := h.opened
 exact ⟨_, hcs, A, cap, f, rfl, h⟩
theorem RowD.rx {D : Nat → Prop} {w : World} {v : Value} {l : List T} (h : RowD D w v l) (k : Int) (s : Nat → Bool) : RxD D w (.int .i64 k :: (wds s ++ [v])) (.node k s l) := by
 obtain ⟨A, cap, f, rfl, h1, h2, h0, h3, h4⟩ := h
 exact RxD.node f h1 h2 h0 h3 h4
theorem RowD.keep {D : Nat → Prop} {B : Nat} {w w' : World} {v : Value} {l : List T} (h : RowD D w v l) (hb : Below B w w') (hD : ∀ k, D k → k < B) : RowD D w' v l := h.stay fun k hk => hb.block k (hD k hk)
theorem RxD.keep {D : Nat → Prop} {B : Nat} {w w' : World} {cs : List Value} {t : T} (h : RxD D w cs t) (hb : Below B w w') (hD : ∀ k, D k → k < B) : RxD D w' cs t := h.stay fun k hk => hb.block k (hD k hk)
theorem size_rx {cs : List Value} (h : cs.length = 6) : (Tryz.prog.info? 29).map (·.size) = some cs.length := by
 rw [h]
 kernel_rfl
theorem wrap_sum (a b : Nat) (h : a + b ≤ 4611686018427387904) : IntKind.i64.wrap ((a : Int) + (b : Int)) = ((a + b : Nat) : Int) := by
 rw [← Int.natCast_add]
 exact IntWalk.i64_in _ (by omega)
theorem wrap_sum' (a b : Nat) (h : a + b ≤ 4611686018427387904) : wrap64 ((a : Int) + (b : Int)) = ((a + b : Nat) : Int) := by
 rw [← Int.natCast_add]
 exact IntWalk.wrap64_in _ (by omega)
theorem wrap_one (j : Nat) (h : j ≤ 4611686018427387904) : wrap64 ((j : Int) + 1) = ((j + 1 : Nat) : Int) := by
 rw [show (j : Int) + 1 = ((j + 1 : Nat) : Int) from rfl]
 exact IntWalk.wrap64_in _ (by omega)
theorem wrap_one' (j : Nat) (h : j ≤ 4611686018427387904) : IntKind.i64.wrap ((j : Int) + 1) = ((j + 1 : Nat) : Int) := by
 rw [show (j : Int) + 1 = ((j + 1 : Nat) : Int) from rfl]
 exact IntWalk.i64_in _ (by omega)
theorem nodesL_take (l : List T) (j : Nat) : nodesL (l.take j) ≤ nodesL l := by
 have h := nodesL_append (l.take j) (l.drop j)
 rw [List.take_append_drop] at h
 omega
theorem RxV.part {B : Nat} {w w' : World} {l : List T} {f : Nat → List Value} (h : ∀ i t, l[i]? = some t → RxV B w (f i) t) (hb : Below B w w') (hB : B ≤ w'.heap.size) {i : Nat} {t : T} (ht : l[i]? = some t) : RxV w'.heap.size w' (f i) t :=
 ((h i t ht).stay hb).mono hB
set_option maxHeartbeats 2000000 in
set_option maxRecDepth 100000 in
theorem refNodes_any : ∀ (N : Nat) (t : T), t.nodes ≤ N → t.nodes ≤ 1099511627776 → ∀ (cs : List Value) (w : World), RxV w.heap.size w cs t →
  Calls Tryz.prog 26 #[.agg cs.toArray] w fun e w' => e = .returned (.int .i64 (t.nodes : Int)) ∧ Below w.heap.size w w' := by
 intro N
 induction N with
 | zero => intro t h; have := nodes_pos t; omega
 | succ N ih =>
  rintro ⟨k, s, l⟩ hN hM cs w hv
  have IH := qH ih
  clear ih
  obtain ⟨A, cap, f, rfl, h1, h2, h0, h3, h4⟩ := hv.opened
  have H3 := qH h3
  have H4 := qH h4
  have HNN := qH (show T.nodes (.node k s l) = 1 + nodesL l by simp only [T.nodes])
  rw [HNN.out] at hN hM ⊢
  have HN := qH hN
  have HM := qH hM
  obtain ⟨cs, hcs⟩ : ∃ cs, cs = Value.int .i64 k :: (wds s ++ [.slice A l.length cap]) := ⟨_, rfl⟩
  have HCL := qH (show cs.length = 6 by rw [hcs]; rfl)
  have HC5 := qH (show cs[5]? = some (.slice A l.length cap) by rw [hcs]; rfl)
  have HLL := qH (len_nodes l)
  rw [← hcs]
  clear hv h1 h2 h0 h3 h4 hcs hN hM
  go_enter Tryz.func26, Tryz.ntmps26
  go_wp2_with ((with_reducible refine atDst 1 ?_); refine wpList_box rfl 29 _ rfl cs rfl (Below.refl w.heap.size w) (Nat.le_refl _) ?_; intro w1 hk1 hb1 hs1 _; have K1 := qH hk1; have B1 := qH hb1; clear hk1 hb1 hs1)
  go_loopw [3, 4] (fun n i wl => ∃ j : Nat, j ≤ l.length ∧ i = .int .i64 (j : Int) ∧ n = .int .i64 ((1 + nodesL (l.take j) : Nat) : Int) ∧ Below w1.heap.size w1 wl) (fun _ i _ => l.length - (intOf i).toNat)
  case atStart => exact ⟨0, by omega, by simp, by simp [nodesL], Below.refl _ _⟩
  case round =>
   obtain ⟨j, hj, rfl, rfl, hb⟩ := hrel
   have HB := qH hb
   clear hb
   have KR := qH (K1.out.below HB.out K1.out.lt)
   have c5 := KR.out.cell 5
   rw [HC5.out] at c5
   by_cases hjl : j < l.length
   ·have j1 : (j : Int) < (l.length : Int) := Int.ofNat_lt.2 hjl
    obtain ⟨b, off, rfl, hb, hrng⟩ := H3.out (by rintro rfl; simp at hjl)
    have BW := qH (B1.out.trans (HB.out.mono B1.out.size))
    obtain ⟨u, hu⟩ : ∃ u, l[j]? = some u := ⟨_, List.getElem?_eq_getElem hjl⟩
    have HV := qH (RxV.part H4.out BW.out BW.out.size hu)
    have HRG := qH (range_below (hrng j hjl) BW.out hb)
    have hnx := nodesL_next l j u hu
    have htk := nodesL_take l (j + 1)
    have hmem := nodes_mem (List.mem_of_getElem? hu)
    have HU := qH hu
    have HNX := qH hnx
    have hle1 : (1 + nodesL (l.take j)) + u.nodes ≤ 4611686018427387904 := by have := HM.out; omega
    have HUN := qH (show u.nodes ≤ N by have := HN.out; omega)
    have HUM := qH (show u.nodes ≤ 1099511627776 by have := HM.out; omega)
    have e1 := wrap_sum _ _ hle1
    have e2 := wrap_sum' _ _ hle1
    have hj62 : j ≤ 4611686018427387904 := by have := HM.out; have := HLL.out; omega
    have e3 := wrap_one j hj62
    have e4 := wrap_one' j hj62
    have HEX := qH (show (1 + nodesL (l.take j)) + u.nodes = 1 + nodesL (l.take (j + 1)) by rw [hnx]; omega)
    obtain ⟨a, ha⟩ : ∃ a, a = 1 + nodesL (l.take j) := ⟨_, rfl⟩
    obtain ⟨c, hc⟩ : ∃ c, c = u.nodes := ⟨_, rfl⟩
    have HCU := qH hc
    rw [← ha, ← hc] at e1 e2 HEX
    rw [← ha]
    clear hrng hu hnx htk hmem hle1 ha hc hj62
    go_wp2_with ((with_reducible refine atDst 17 ?_); refine wpList_load_mid rfl 29 _ rfl b (off + j * 6) rfl (f j) _ HRG.out Tryz.underlying29 rfl (size_rx HV.out.length) ?_)
    refine (IH.out u HUN.out HUM.out (f j) wr HV.out).mono ?_
    rintro e w2 ⟨rfl, hb2⟩
    rw [← HCU.out]
    have B2 := qH (HB.out.trans (hb2.mono HB.out.size))
    clear hb2
    go_wp2_with fail
    exact ⟨⟨j + 1, by omega, by congr 1, by rw [← HEX.out, Int.natCast_add], B2.out⟩, by simp [intOf] <;> omega⟩
   ·obtain rfl : j = l.length := by omega
    have j1 : ¬ ((l.length : Int) < (l.length : Int)) := by omega
    have B9 := qH (B1.out.trans (HB.out.mono B1.out.size))
    rw [List.take_length]
    go_wp2_with fail
    go_ret
    exact ⟨rfl, B9.out⟩
mutual
theorem depth_le : ∀ t : T, t.depth ≤ t.nodes
 | .node k s l => by
  have := depthL_le l
  simp only [T.depth, T.nodes]
  omega
theorem depthL_le : ∀ l : List T, depthL l ≤ nodesL l
 | [] => Nat.le_refl _
 | t :: r => by
  have h1 := depth_le t
  have h2 := depthL_le r
  simp only [depthL, nodesL]
  omega
end
theorem max_int (a c : Nat) : Value.int .i64 (if a < c then (c : Int) else (a : Int)) = Value.int .i64 ((max a c : Nat) : Int) := by
 congr 1
 split <;> omega
set_option maxHeartbeats 2000000 in
set_option maxRecDepth 100000 in
theorem refDepth_any : ∀ (N : Nat) (t : T), t.nodes ≤ N → t.nodes ≤ 1099511627776 → ∀ (cs : List Value) (w : World), RxV w.heap.size w cs t →
  Calls Tryz.prog 27 #[.agg cs.toArray] w fun e w' => e = .returned (.int .i64 (t.depth : Int)) ∧ Below w.heap.size w w' := by
 intro N
 induction N with
 | zero => intro t h; have := nodes_pos t; omega
 | succ N ih =>
  rintro ⟨k, s, l⟩ hN hM cs w hv
  have IH := qH ih
  clear ih
  obtain ⟨A, cap, f, rfl, h1, h2, h0, h3, h4⟩ := hv.opened
  have H3 := qH h3
  have H4 := qH h4
  have HNN := qH (show T.nodes (.node k s l) = 1 + nodesL l by simp only [T.nodes])
  have HDD := qH (show T.depth (.node k s l) = depthL l + 1 by simp only [T.depth])
  have HDL := qH (depthL_le l)
  rw [HNN.out] at hN hM
  rw [HDD.out]
  have HN := qH hN
  have HM := qH hM
  obtain ⟨cs, hcs⟩ : ∃ cs, cs = Value.int .i64 k :: (wds s ++ [.slice A l.length cap]) := ⟨_, rfl⟩
  have HCL := qH (show cs.length = 6 by rw [hcs]; rfl)
  have HC5 := qH (show cs[5]? = some (.slice A l.length cap) by rw [hcs]; rfl)
  have HLL := qH (len_nodes l)
  rw [← hcs]
  clear hv h1 h2 h0 h3 h4 hcs hN hM
  go_enter Tryz.func27, Tryz.ntmps27
  go_wp2_with ((with_reducible refine atDst 1 ?_); refine wpList_box rfl 29 _ rfl cs rfl (Below.refl w.heap.size w) (Nat.le_refl _) ?_; intro w1 hk1 hb1 hs1 _; have K1 := qH hk1; have B1 := qH hb1; clear hk1 hb1 hs1)
  go_loopw [3, 4] (fun n i wl => ∃ j : Nat, j ≤ l.length ∧ i = .int .i64 (j : Int) ∧ n = .int .i64 ((depthL (l.take j) : Nat) : Int) ∧ Below w1.heap.size w1 wl) (fun _ i _ => l.length - (intOf i).toNat)
  case atStart => exact ⟨0, by omega, by simp, by simp [depthL], Below.refl _ _⟩
  case round =>
   obtain ⟨j, hj, rfl, rfl, hb⟩ := hrel
   have HB := qH hb
   clear hb
   have KR := qH (K1.out.below HB.out K1.out.lt)
   have c5 := KR.out.cell 5
   rw [HC5.out] at c5
   by_cases hjl : j < l.length
   ·have j1 : (j : Int) < (l.length : Int) := Int.ofNat_lt.2 hjl
    obtain ⟨b, off, rfl, hb, hrng⟩ := H3.out (by rintro rfl; simp at hjl)
    have BW := qH (B1.out.trans (HB.out.mono B1.out.size))
    obtain ⟨u, hu⟩ : ∃ u, l[j]? = some u := ⟨_, List.getElem?_eq_getElem hjl⟩
    have HV := qH (RxV.part H4.out BW.out BW.out.size hu)
    have HRG := qH (range_below (hrng j hjl) BW.out hb)
    have hnx := depthL_next l j u hu
    have hmem := nodes_mem (List.mem_of_getElem? hu)
    have HU := qH hu
    have HNX := qH hnx
    have HUN := qH (show u.nodes ≤ N by have := HN.out; omega)
    have HUM := qH (show u.nodes ≤ 1099511627776 by have := HM.out; omega)
    have hj62 : j ≤ 4611686018427387904 := by have := HM.out; have := HLL.out; omega
    have e3 := wrap_one j hj62
    have e4 := wrap_one' j hj62
    obtain ⟨a, ha⟩ : ∃ a, a = depthL (l.take j) := ⟨_, rfl⟩
    obtain ⟨c, hc⟩ : ∃ c, c = u.depth := ⟨_, rfl⟩
    have HCU := qH hc
    have HEX := qH (show max a c = depthL (l.take (j + 1)) by rw [hnx, ha, hc])
    rw [← ha]
    clear hrng hu hnx hmem ha hc hj62
    go_wp2_with ((with_reducible refine atDst 17 ?_); refine wpList_load_mid rfl 29 _ rfl b (off + j * 6) rfl (f j) _ HRG.out Tryz.underlying29 rfl (size_rx HV.out.length) ?_)
    refine (IH.out u HUN.out HUM.out (f j) wr HV.out).mono ?_
    rintro e w2 ⟨rfl, hb2⟩
    rw [← HCU.out]
    have B2 := qH (HB.out.trans (hb2.mono HB.out.size))
    clear hb2
    go_wp2_with fail
    exact ⟨⟨j + 1, by omega, by congr 1, by rw [← HEX.out]; exact max_int a c, B2.out⟩, by simp [intOf] <;> omega⟩
   ·obtain rfl : j = l.length := by omega
    have j1 : ¬ ((l.length : Int) < (l.length : Int)) := by omega
    have B9 := qH (B1.out.trans (HB.out.mono B1.out.size))
    rw [List.take_length]
    obtain ⟨a, ha⟩ : ∃ a, a = depthL l := ⟨_, rfl⟩
    have hle : a ≤ 4611686018427387904 := by rw [ha]; have := HDL.out; have := HM.out; omega
    rw [← ha]
    have e3 := wrap_one a hle
    have e4 := wrap_one' a hle
    have HA := qH ha
    clear ha hle
    go_wp2_with fail
    go_ret
    rw [← HA.out]
    exact ⟨rfl, B9.out⟩
theorem flat6_get : ∀ {cs : List (List Value)} (_ : ∀ c ∈ cs, c.length = 6) {i : Nat} {c : List Value}, cs[i]? = some c → ∀ j, j < 6 → cs.flatten[i * 6 + j]? = c[j]?
 | [], _, i, c, h, _, _ => by simp at h
 | a :: r, hl, 0, c, h, j, hj => by
  have : a = c := by simpa using h
  subst this
  have h6 := hl a (by simp)
  rw [List.flatten_cons, Nat.zero_mul, Nat.zero_add, List.getElem?_append_left (by omega)]
 | a :: r, hl, i + 1, c, h, j, hj => by
  have h6 := hl a (by simp)
  have ih := flat6_get (cs := r) (fun d hd => hl d (List.mem_cons_of_mem _ hd)) (i := i) (c := c) (by simpa using h) j hj
  rw [List.flatten_cons, List.getElem?_append_right (by omega), ← ih]
  congr 1
  omega
theorem flat6_len : ∀ {cs : List (List Value)}, (∀ c ∈ cs, c.length = 6) → cs.flatten.length = cs.length * 6
 | [], _ => rfl
 | a :: r, hl => by
  have h6 := hl a (by simp)
  have ih := flat6_len (cs := r) fun c hc => hl c (by simp [hc])
  rw [List.flatten_cons, List.length_append, List.length_cons, ih, h6]
  omega
theorem append_where {P : Program} {w : World} (base : Nat) (t ty e : TypeId) (i : TypeInfo) (z : Value) (size bytes : Nat) (ht : P.underlying t = some (.slice e)) (hi : P.info? e = some i) (hz : i.zero = some z)
  (hsize : i.size = size) (hby : i.bytes = bytes) (hsz : 0 < size)
  (v : Value) (n : Nat) (xs : List Value) (hown : w.ownsRow base e size v n xs)
  (a : Addr) (m c : Nat) (news : List Value) (hl : news.length = m * size) (hnews : ∀ j u, news[j]? = some u → w.cell? (a.add j) = some u) (h1 : ∀ u ∈ news, u.oneCell' = true)
  (h63 : n + m ≤ maxLen) (hbytes : (n + m) * bytes ≤ 140737488355328) {v' : Value} {w' : World} (hrun : (Builtin.append_ #[t, t] ty #[v, .slice (some a) m c]).run P w = .ok v' w') :
  ∀ k, v'.ownBlock = some k → v.ownBlock = some k ∨ w.heap.size ≤ k := by
 subst hsize
 subst hby
 have hsmall : n + m ≤ 9223372036854775807 := by simp only [maxLen] at h63; omega
 intro k hk
 rcases hown.2 with ⟨rfl, rfl⟩ | ⟨g, cap, cur, rfl, hbg, hg, hnc, hcm, hcs, htake⟩
 ·have hx : xs = [] := List.eq_nil_of_length_eq_zero (by simpa using hown.1)
  subst hx
  by_cases hm : m = 0
  ·subst hm
   have hn : news = [] := List.eq_nil_of_length_eq_zero (by simpa using hl)
   subst hn
   have hr : (Builtin.append_ #[t, t] ty #[.slice none 0 0, .slice (some a) 0 c]).run P w = .ok (.slice none 0 0) w := by
    simp [Builtin.append_, run_underlying ht, sizeOf, typeInfo, hi, Builtin.lenOf, Builtin.firstCells, loadCells, loadCellsFrom]
   rw [hr] at hrun
   injection hrun with e1 e2
   subst e1
   cases hk
  ·have hr := run_append_nil (P := P) w t ty e i z ht hi hz a m c news hl hnews (by omega) (by omega) (by have hb := hbytes; simp only [Nat.zero_add] at hb; omega)
   rw [hr] at hrun
   injection hrun with e1 e2
   subst e1
   have : w.heap.size = k := Option.some.inj hk
   exact .inr (by omega)
 ·by_cases hroom : n + m ≤ cap
  ·obtain ⟨w2, hr, _, _⟩ := run_append_fits (P := P) w base t ty e i i.size ht hi rfl g n cap xs hown a m c news hl hnews h1 hroom
   rw [hr] at hrun
   injection hrun with e1 e2
   subst e1
   exact .inl hk
  ·have holds : ∀ j u, xs[j]? = some u → w.cell? ((⟨g, 0, none⟩ : Addr).add j) = some u := hown.cells (g := g) rfl
   have hr := run_append_grow (P := P) w t ty e i z ht hi hz ⟨g, 0, none⟩ n cap xs hown.1 holds a m c news hl hnews (by omega) (by omega) (growslice_fits (by omega) hbytes)
   rw [hr] at hrun
   injection hrun with e1 e2
   subst e1
   have : w.heap.size = k := Option.some.inj hk
   exact .inr (by omega)
def OwnT (D : Nat → Prop) (base : Nat) (w : World) (v : Value) (l : List T) : Prop :=
 ∃ cells : List (List Value), cells.length = l.length ∧ (∀ c ∈ cells, c.length = 6) ∧ w.ownsRow base 29 6 v l.length cells.flatten ∧
  ∀ (i : Nat) (c : List Value) (t : T), cells[i]? = some c → l[i]? = some t → RxD (fun k => D k ∧ k < w.heap.size ∧ some k ≠ v.ownBlock) w c t
theorem OwnT.nil (D : Nat → Prop) (base : Nat) (w : World) : OwnT D base w (.slice none 0 0) [] := ⟨[], rfl, by simp, ⟨by simp, .inl ⟨rfl, rfl⟩⟩, fun i c t h => by simp at h⟩
theorem own6_stay {w w' : World} {base n k : Nat} {e : TypeId} {v : Value} {xs : List Value} (h : w.ownsRow base e k v n xs) (hb : ∀ j, v.ownBlock = some j → w'.heap[j]? = w.heap[j]?) : w'.ownsRow base e k v n xs := by
 refine ⟨h.1, ?_⟩
 rcases h.2 with h0 | ⟨g, cap, cur, rfl, hb2, hg, h3⟩
 ·exact .inl h0
 ·exact .inr ⟨g, cap, cur, rfl, hb2, (hb g rfl).trans hg, h3⟩
theorem own6_lt {w : World} {base n k : Nat} {e : TypeId} {v : Value} {xs : List Value} (h : w.ownsRow base e k v n xs) : ∀ j, v.ownBlock = some j → j < w.heap.size ∧ base ≤ j := by
 intro j hj
 rcases h.2 with ⟨rfl, h0⟩ | ⟨g, cap, cur, rfl, hb, hg, _⟩
 ·cases hj
 ·have hk' : some g = some j := hj
  injection hk' with hk'
  subst hk'
  exact ⟨(Array.getElem?_eq_some_iff.1 hg).1, hb⟩
theorem OwnT.stay {D : Nat → Prop} {base : Nat} {w w' : World} {v : Value} {l : List T} (h : OwnT D base w v l) (hb : Below w.heap.size w w') : OwnT D base w' v l := by
 obtain ⟨cells, h1, h2, h3, h4⟩ := h
 refine ⟨cells, h1, h2, own6_stay h3 fun j hj => hb.block j (own6_lt h3 j hj).1, fun i c t hc ht => ?_⟩
 exact ((h4 i c t hc ht).stay fun k hk => hb.block k hk.2.1).mono fun k hk => ⟨hk.1, Nat.lt_of_lt_of_le hk.2.1 hb.size, hk.2.2⟩
theorem OwnT.slice {D : Nat → Prop} {base : Nat} {w : World} {v : Value} {l : List T} (h : OwnT D base w v l) : ∃ A c, v = .slice A l.length c := by
 obtain ⟨_, _, _, h3, _⟩ := h
 rcases h3.2 with ⟨rfl, h0⟩ | ⟨g, cap, cur, rfl, _⟩
 ·exact ⟨none, 0, by rw [h0]⟩
 ·exact ⟨_, _, rfl⟩
theorem OwnT.lt {D : Nat → Prop} {base : Nat} {w : World} {v : Value} {l : List T} (h : OwnT D base w v l) (j : Nat) (hj : v.ownBlock = some j) : j < w.heap.size := by
 obtain ⟨_, _, _, h3, _⟩ := h
 exact (own6_lt h3 j hj).1
theorem OwnT.ge {D : Nat → Prop} {base : Nat} {w : World} {v : Value} {l : List T} (h : OwnT D base w v l) (j : Nat) (hj : v.ownBlock = some j) : base ≤ j := by
 obtain ⟨_, _, _, h3, _⟩ := h
 exact (own6_lt h3 j hj).2
theorem OwnT.rx {D : Nat → Prop} {base : Nat} {w : World} {v : Value} {l : List T} (h : OwnT D base w v l) (k : Int) (s : Nat → Bool) : RxD (fun b => (D b ∨ base ≤ b) ∧ b < w.heap.size) w (.int .i64 k :: (wds s ++ [v])) (.node k s l) := by
 obtain ⟨cells, h1, h2, h3, h4⟩ := h
 rcases h3.2 with ⟨rfl, h0⟩ | ⟨g, cap, cur, rfl, hb, hg, hn, hm, hs, ht⟩
 ·obtain rfl : l = [] := List.eq_nil_of_length_eq_zero h0
  exact .node (fun _ => []) (Nat.le_refl _) (Nat.zero_le _) (fun _ => rfl) (fun h => absurd rfl h) (fun i t h => by simp at h)
 ·refine .node (fun i => cells.getD i []) hn hm (fun h => by cases h) (fun hne => ⟨g, 0, rfl, ⟨.inr hb, (Array.getElem?_eq_some_iff.1 hg).1⟩, fun i hi j u hu => ?_⟩) (fun i t hti => ?_)
  ·have hic : i < cells.length := by omega
   have hci : cells[i]? = some cells[i] := List.getElem?_eq_getElem hic
   have e0 : cells.getD i [] = cells[i] := by simp [List.getD, hci]
   rw [e0] at hu
   have hj : j < 6 := by rw [← h2 cells[i] (List.getElem_mem hic)]; exact (List.getElem?_eq_some_iff.1 hu).1
   have e1 := flat6_get h2 hci j hj
   rw [hu, ← ht, List.getElem?_take, if_pos (by omega), Array.getElem?_toList] at e1
   rw [cell_of_row w g _ cur _ (0, 0) hg, Nat.zero_add, e1]
  ·have hic : i < cells.length := by rw [h1]; exact (List.getElem?_eq_some_iff.1 hti).1
   have hci : cells[i]? = some cells[i] := List.getElem?_eq_getElem hic
   have e0 : cells.getD i [] = cells[i] := by simp [List.getD, hci]
   rw [e0]
   exact (h4 i cells[i] t hci hti).mono fun k hk => ⟨.inl hk.1, hk.2.1⟩
theorem inf_rx : (Tryz.prog.info? 29).map (fun i => (i.zero, i.size, i.bytes)) = some (some (.agg (Value.int .i64 0 :: (wds (fun _ => false) ++ [.slice none 0 0])).toArray), 6, 64) := by kernel_rfl
section
variable {w : World} {ops : Array Oper} {rest : List Oper} {o : Oper} {a : Act} {Q : Exit → Act → World → Prop}
theorem wpList_appT {D : Nat → Prop} {base : Nat} (hgd : o.guard = none) (s x : Operand)
  (ho : o.op = .call { callee := .builtin .append, args := #[s, x], argTypes := #[27, 27] })
  (i : TypeInfo) (hi : Tryz.prog.info? 29 = some i) (hz : i.zero = some (.agg (Value.int .i64 0 :: (wds (fun _ => false) ++ [.slice none 0 0])).toArray))
  (hsize : i.size = 6) (hby : i.bytes = 64)
  (v : Value) (l : List T) (hs : a.eval s = v) (hown : OwnT D base w v l)
  (g cap : Nat) (tg : TypeId) (c : List Value) (t : T) (hx : a.eval x = .slice (some ⟨g, 0, none⟩) 1 cap) (hr : Blk w g tg c) (hel : RxD (fun k => D k ∧ k < w.heap.size ∧ some k ≠ v.ownBlock) w c t)
  (hlen : l.length + 1 ≤ 1099511627776) (hb : base ≤ w.heap.size)
  (h : ∀ v' w', OwnT D base w' v' (l ++ [t]) → w.grownBy w' v.ownBlock → wpList Tryz.prog ops Q rest (a.put o.dst v') w') : wpList Tryz.prog ops Q (o :: rest) a w := by
 obtain ⟨cells, h1, h2, h3, h4⟩ := hown
 have hc6 : c.length = 6 := hel.length
 have hnews : ∀ j u, c[j]? = some u → w.cell? ((⟨g, 0, none⟩ : Addr).add j) = some u := fun j u hj => by
  rw [Addr.add_lit, Nat.zero_add, hr.cell j]
  exact hj
 obtain ⟨v', w', hrun, hown', hgr, _⟩ := run_append_own (P := Tryz.prog) w base 27 o.type 29 i _ 6 64 Tryz.underlying27 hi hz hsize hby (by simp [Value.cells, wds]) (by omega) v l.length cells.flatten h3 ⟨g, 0, none⟩ 1 cap c (by omega) hnews hel.one (by unfold maxLen; omega) (by omega) hb
 have hwh := append_where (P := Tryz.prog) (w := w) base 27 o.type 29 i _ 6 64 Tryz.underlying27 hi hz hsize hby (by omega) v l.length cells.flatten h3 ⟨g, 0, none⟩ 1 cap c (by omega) hnews hel.one (by unfold maxLen; omega) (by omega) hrun
 refine wpList_plain hgd fun K hK => ?_
 unfold Oper.wp execOp
 simp only [ho, resolve, invoke, builtin, Sem.run_bind, Sem.run_pure, Result.andThen_ok, List.map_toArray, List.map_cons, List.map_nil, hs, hx, hrun]
 refine hK _ _ (h v' w' ⟨cells ++ [c], by simp [h1], fun d hd => ?_, ?_, fun j d u hd hu => ?_⟩ hgr)
 ·rcases List.mem_append.1 hd with hd | hd
  ·exact h2 d hd
  ·obtain rfl := List.mem_singleton.1 hd
   exact hc6
 ·rw [List.flatten_append, List.length_append]
  simpa using hown'
 ·have key : RxD (fun k => D k ∧ k < w.heap.size ∧ some k ≠ v.ownBlock) w d u := by
   by_cases hj : j < l.length
   ·rw [List.getElem?_append_left (by omega)] at hd hu
    exact h4 j d u hd hu
   ·have hjl : j = l.length := by
     have := (List.getElem?_eq_some_iff.1 hu).1
     simp at this
     omega
    subst hjl
    rw [List.getElem?_append_right (by omega)] at hd hu
    simp [h1] at hd hu
    rw [← hd, ← hu]
    exact hel
  refine (key.stay fun k hk => hgr.block k hk.2.1 hk.2.2).mono fun k hk => ⟨hk.1, Nat.lt_of_lt_of_le hk.2.1 hgr.size, fun he => ?_⟩
  rcases hwh k he.symm with h | h
  ·exact hk.2.2 h.symm
  ·have := hk.2.1
   omega
end
section
variable {P : Program} {w : World} {ops : Array Oper} {rest : List Oper} {o : Oper} {a : Act} {Q : Exit → Act → World → Prop}
theorem wpList_ldMidG (hgd : Region.wanted o (yielded ops a.tmps) = true) (ty : TypeId) (x : Operand) (ho : o.op = .load ty x) (b off : Nat) (hx : a.eval x = .pointer (some ⟨b, off, none⟩)) (cs : List Value) (d : TypeDesc)
  (hg : w.rangeAt b off cs) (hu : P.underlying ty = some d) (hd : d.isRow = true) (hi : (P.info? ty).map (·.size) = some cs.length)
  (h : wpList P ops Q rest (a.put o.dst (.agg cs.toArray)) w) : wpList P ops Q (o :: rest) a w := by
 refine BigFrame.wpList_want hgd fun K hK => ?_
 exact wp_load_mid ty x ho b off hx cs d hg hu hd hi (hK _ _ h)
theorem wpList_neSetG (hgd : Region.wanted o (yielded ops a.tmps) = true) {b : Bool} {p q : Nat → Bool} (hb : (!eqS p q) = b) (t e : TypeId) (x y : Operand) (oT : TypeId) (ho : o.op = .binOp .neq t x y oT) (hm : P.eqGuardType P.depth t = false)
  (ht : P.underlying t = some (.array 4 e)) (he : P.underlying e = some (.int .u64)) (hsz : ∀ w, (sizeOf e).run P w = .ok 1 w)
  (ex : a.eval x = .agg (wds p).toArray) (ey : a.eval y = .agg (wds q).toArray)
  (h : wpList P ops Q rest (a.put o.dst (.bool b)) w) : wpList P ops Q (o :: rest) a w := by
 refine BigFrame.wpList_want hgd fun K hK => ?_
 unfold Oper.wp
 simp only [execOp, ho, ex, ey, Sem.run_bind, run_eqGuard_agg w .neq t x y _ _ hm, Result.andThen_ok, run_neq_sets w t e ht he hsz p q, Sem.run_pure, hb]
 exact hK _ _ h
end
theorem guardSet : Tryz.prog.eqGuardType Tryz.prog.depth 26 = false := by kernel_rfl
theorem sizeU64 : ∀ w, (sizeOf 24).run Tryz.prog w = .ok 1 w := by
 intro w
 have h : (Tryz.prog.info? 24).map (·.size) = some 1 := by kernel_rfl
 cases hi : Tryz.prog.info? 24 with
 | none => rw [hi] at h; cases h
 | some i =>
  rw [hi] at h
  have h' : i.size = 1 := by simpa using h
  simp [sizeOf, typeInfo, hi, h']
theorem sameL_iff : ∀ {l m : List T}, sameL l m = true ↔ l.length = m.length ∧ ∀ (i : Nat) (a b : T), l[i]? = some a → m[i]? = some b → sameT a b = true
 | [], [] => by simp [sameL]
 | [], _ :: _ => by simp [sameL]
 | _ :: _, [] => by simp [sameL]
 | a :: r, b :: s => by
  have ih := @sameL_iff r s
  simp only [sameL, Bool.and_eq_true, ih, List.length_cons]
  constructor
  ·rintro ⟨h1, h2, h3⟩
   refine ⟨by omega, fun i x y hx hy => ?_⟩
   cases i with
   | zero => simp at hx hy; rw [← hx, ← hy]; exact h1
   | succ i => exact h3 i x y (by simpa using hx) (by simpa using hy)
  ·rintro ⟨h1, h2⟩
   exact ⟨h2 0 a b rfl rfl, by omega, fun i x y hx hy => h2 (i + 1) x y (by simpa using hx) (by simpa using hy)⟩
theorem set_range {w : World} {g : Nat} {t : TypeId} {k : Int} {s : Nat → Bool} {v : Value} (h : Blk w g t (.int .i64 k :: (wds s ++ [v]))) : w.rangeAt g 1 (wds s) := by
 intro j u hu
 have hj : j < 4 := by simpa [wds_length] using (List.getElem?_eq_some_iff.1 hu).1
 rw [h.cell, Nat.add_comm 1 j, List.getElem?_cons_succ, List.getElem?_append_left (by rw [wds_length]; exact hj)]
 exact hu
theorem set_range' {w : World} {g : Nat} {t : TypeId} {k : Int} {s : Nat → Bool} {v : Value} {cs : List Value} (hc : cs = .int .i64 k :: (wds s ++ [v])) (h : Blk w g t cs) : w.rangeAt g 1 (wds s) :=
 set_range (hc ▸ h)
end Go.Proofs.YtopnpdobcagcgaaGreat
