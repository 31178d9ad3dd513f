/-
  Texts of this proof, put together: SetQ, RxT, SetO, RxA, RxN. No statement is proved here.
-/
import Derived.Test.YtmcpfaaakmehdaaRB
import Derived.Test.YtmcpfaaakmehdaaRA
import Derived.Test.YtmcpfaaakmehdaaProg
namespace Go.Proofs.Ytmcpfaaakmehdaa
open Go.RowKit
set_option linter.unusedSimpArgs false
set_option linter.unusedVariables false
theorem all_range_int : ∀ (xs ys : List Int), xs.length = ys.length → ((List.range xs.length).all fun i => xs.getD i 0 == ys.getD i 0) = (xs == ys)
 | [], [], _ => rfl
 | x :: xs, y :: ys, h => by
  have ih := all_range_int xs ys (by simpa using h)
  rw [List.length_cons, List.range_succ_eq_map, List.all_cons, List.all_map]
  simp only [List.getD_cons_zero, Function.comp_def, List.getD_cons_succ, ih]
  simp [List.cons_beq_cons]
 | [], _ :: _, h => by simp at h
 | _ :: _, [], h => by simp at h
section
variable {P : Program} (w : World)
theorem run_equalIn_nums (d : Nat) (t e : TypeId) (n : Nat) (k : IntKind) (ht : P.underlying t = some (.array n e)) (he : P.underlying e = some (.int k)) (hsz : ∀ w, (sizeOf e).run P w = .ok 1 w)
  (xs ys : List Int) (hx : xs.length = n) (hy : ys.length = n) :
  (Op.equalIn (d + 2) t (.agg (nums k xs).toArray) (.agg (nums k ys).toArray)).run P w = .ok (xs == ys) w := by
 rw [← all_range_int xs ys (hx.trans hy.symm), hx, List.range_eq_range', Op.equalIn]
 simp only [Sem.run_bind, run_underlying ht, Result.andThen_ok, hsz, Std.Legacy.Range.forIn_eq_forIn_range', Std.Legacy.Range.size, Nat.sub_zero, Nat.add_sub_cancel, Nat.div_one]
 have hl : ∀ i ∈ List.range' 0 n 1, i < n := fun i hi => by simpa using (List.mem_range'_1.1 hi).2
 generalize List.range' 0 n 1 = l at hl ⊢
 induction l with
 | nil => simp
 | cons i l ih =>
  have hi : i < n := hl i (by simp)
  have px : (part e (nums k xs).toArray (i * 1)).run P w = .ok (.int k (xs.getD i 0)) w := by
   simp [part, isAgg, run_underlying he, List.getD, nums, List.getElem?_eq_getElem (show i < xs.length by omega)]
  have py : (part e (nums k ys).toArray (i * 1)).run P w = .ok (.int k (ys.getD i 0)) w := by
   simp [part, isAgg, run_underlying he, List.getD, nums, List.getElem?_eq_getElem (show i < ys.length by omega)]
  have pe : (Op.equalIn (d + 1) e (.int k (xs.getD i 0)) (.int k (ys.getD i 0))).run P w = .ok (xs.getD i 0 == ys.getD i 0) w := run_equalIn_int w d e k k _ _ he
  simp only [List.forIn_cons, Sem.run_bind, px, py, pe, Result.andThen_ok, List.all_cons]
  cases hb : (xs.getD i 0 == ys.getD i 0)
  ·simp
  ·simp only [Bool.not_true, Bool.false_eq_true, if_false, Sem.run_pure, Result.andThen_ok, Bool.true_and]
   exact ih fun j hj => hl j (by simp [hj])
def eqS (p q : Nat → Bool) : Bool := [(word p 0 : Int), (word p 1 : Int), (word p 2 : Int), (word p 3 : Int)] == [(word q 0 : Int), (word q 1 : Int), (word q 2 : Int), (word q 3 : Int)]
theorem eqS_self (p : Nat → Bool) : eqS p p = true := by simp [eqS]
theorem eqS_iff (p q : Nat → Bool) : eqS p q = true ↔ ∀ b, b < 256 → p b = q b := by
 constructor
 ·intro h
  have h' : [(word p 0 : Int), (word p 1 : Int), (word p 2 : Int), (word p 3 : Int)] = [(word q 0 : Int), (word q 1 : Int), (word q 2 : Int), (word q 3 : Int)] := by simpa [eqS] using h
  refine wds_inj ?_
  unfold wds
  simp only [List.cons.injEq, and_true] at h'
  rw [h'.1, h'.2.1, h'.2.2.1, h'.2.2.2]
 ·intro h
  unfold eqS
  rw [word_congr h 0 (by omega), word_congr h 1 (by omega), word_congr h 2 (by omega), word_congr h 3 (by omega)]
  simp
section
variable (t e : TypeId) (ht : P.underlying t = some (.array 4 e)) (he : P.underlying e = some (.int .u64)) (hsz : ∀ w, (sizeOf e).run P w = .ok 1 w) (p q : Nat → Bool)
include ht he hsz
theorem run_eql_sets : (binOp .eql t (.agg (wds p).toArray) (.agg (wds q).toArray)).run P w = .ok (.bool (eqS p q)) w := by
 have := run_equalIn_nums (P := P) w 9998 t e 4 .u64 ht he hsz [(word p 0 : Int), (word p 1 : Int), (word p 2 : Int), (word p 3 : Int)] [(word q 0 : Int), (word q 1 : Int), (word q 2 : Int), (word q 3 : Int)] rfl rfl
 rw [run_eql_struct]
 have e1 : (wds p).toArray = (nums .u64 [(word p 0 : Int), (word p 1 : Int), (word p 2 : Int), (word p 3 : Int)]).toArray := rfl
 have e2 : (wds q).toArray = (nums .u64 [(word q 0 : Int), (word q 1 : Int), (word q 2 : Int), (word q 3 : Int)]).toArray := rfl
 rw [e1, e2, this]
 rfl
theorem run_neq_sets : (binOp .neq t (.agg (wds p).toArray) (.agg (wds q).toArray)).run P w = .ok (.bool (!eqS p q)) w := by
 have := run_equalIn_nums (P := P) w 9998 t e 4 .u64 ht he hsz [(word p 0 : Int), (word p 1 : Int), (word p 2 : Int), (word p 3 : Int)] [(word q 0 : Int), (word q 1 : Int), (word q 2 : Int), (word q 3 : Int)] rfl rfl
 rw [run_neq_struct]
 have e1 : (wds p).toArray = (nums .u64 [(word p 0 : Int), (word p 1 : Int), (word p 2 : Int), (word p 3 : Int)]).toArray := rfl
 have e2 : (wds q).toArray = (nums .u64 [(word q 0 : Int), (word q 1 : Int), (word q 2 : Int), (word q 3 : Int)]).toArray := rfl
 rw [e1, e2, this]
 rfl
end
end
section
variable {P : Program} {w : World} {ops : Array Oper} {rest : List Oper} {o : Oper} {a : Act} {Q : Exit → Act → World → Prop}
theorem wpList_eqSet (hgd : Region.wanted o (yielded ops a.tmps) = true) (t e : TypeId) (x y : Operand) (oT : TypeId) (ho : o.op = .binOp .eql t x y oT) (hm : P.eqGuardType P.depth t = false)
  (ht : P.underlying t = some (.array 4 e)) (he : P.underlying e = some (.int .u64)) (hsz : ∀ w, (sizeOf e).run P w = .ok 1 w)
  (p q : Nat → Bool) (ex : a.eval x = .agg (wds p).toArray) (ey : a.eval y = .agg (wds q).toArray)
  (h : wpList P ops Q rest (a.put o.dst (.bool (eqS p q))) w) : wpList P ops Q (o :: rest) a w := by
 refine BigFrame.wpList_want hgd fun K hK => ?_
 unfold Oper.wp
 simp only [execOp, ho, ex, ey, Sem.run_bind, run_eqGuard_agg w .eql t x y _ _ hm, Result.andThen_ok, run_eql_sets w t e ht he hsz p q, Sem.run_pure]
 exact hK _ _ h
theorem wpList_eqSet_is (hgd : Region.wanted o (yielded ops a.tmps) = true) {b : Bool} {p q : Nat → Bool} (hb : eqS p q = b) (t e : TypeId) (x y : Operand) (oT : TypeId) (ho : o.op = .binOp .eql t x y oT) (hm : P.eqGuardType P.depth t = false)
  (ht : P.underlying t = some (.array 4 e)) (he : P.underlying e = some (.int .u64)) (hsz : ∀ w, (sizeOf e).run P w = .ok 1 w)
  (ex : a.eval x = .agg (wds p).toArray) (ey : a.eval y = .agg (wds q).toArray)
  (h : wpList P ops Q rest (a.put o.dst (.bool b)) w) : wpList P ops Q (o :: rest) a w :=
 wpList_eqSet hgd t e x y oT ho hm ht he hsz p q ex ey (hb ▸ h)
theorem eq_any {oi : Oper} (t e : TypeId) (x y : Operand) (oT : TypeId) (ho : oi.op = .binOp .eql t x y oT) (hm : P.eqGuardType P.depth t = false)
  (ht : P.underlying t = some (.array 4 e)) (he : P.underlying e = some (.int .u64)) (hsz : ∀ w, (sizeOf e).run P w = .ok 1 w)
  (p q : Nat → Bool) (ex : a.eval x = .agg (wds p).toArray) (ey : a.eval y = .agg (wds q).toArray) {S : World → Prop} :
  ∀ W, S W → (execOp a.eval oi).run P W = .ok (.value (.bool (eqS p q))) W := by
 intro W _
 simp only [execOp, ho, ex, ey, Sem.run_bind, run_eqGuard_agg W .eql t x y _ _ hm, Result.andThen_ok, run_eql_sets W t e ht he hsz p q, Sem.run_pure]
theorem eq_is {b : Bool} {p q : Nat → Bool} (hb : (eqS p q) = b) {oi : Oper} (t e : TypeId) (x y : Operand) (oT : TypeId) (ho : oi.op = .binOp .eql t x y oT) (hm : P.eqGuardType P.depth t = false)
  (ht : P.underlying t = some (.array 4 e)) (he : P.underlying e = some (.int .u64)) (hsz : ∀ w, (sizeOf e).run P w = .ok 1 w)
  (ex : a.eval x = .agg (wds p).toArray) (ey : a.eval y = .agg (wds q).toArray) {S : World → Prop} :
  ∀ W, S W → (execOp a.eval oi).run P W = .ok (.value (.bool b)) W := hb ▸ eq_any t e x y oT ho hm ht he hsz p q ex ey
end
inductive T where
 | node (k : Int) (s : Nat → Bool) (l : List T)
def T.kind : T → Int | .node k _ _ => k
def T.set : T → (Nat → Bool) | .node _ s _ => s
def T.args : T → List T | .node _ _ l => l
mutual
def T.nodes : T → Nat
 | .node _ _ l => 1 + nodesL l
def nodesL : List T → Nat
 | [] => 0
 | t :: r => t.nodes + nodesL r
end
mutual
def T.depth : T → Nat
 | .node _ _ l => depthL l + 1
def depthL : List T → Nat
 | [] => 0
 | t :: r => max t.depth (depthL r)
end
theorem nodes_pos (t : T) : 0 < t.nodes := by
 cases t with
 | node k s l => simp only [T.nodes]; omega
theorem nodesL_append : ∀ a b : List T, nodesL (a ++ b) = nodesL a + nodesL b
 | [], b => by simp [nodesL]
 | t :: r, b => by
  have := nodesL_append r b
  simp only [List.cons_append, nodesL, this]
  omega
theorem depthL_append : ∀ a b : List T, depthL (a ++ b) = max (depthL a) (depthL b)
 | [], b => by simp [depthL]
 | t :: r, b => by
  have := depthL_append r b
  simp only [List.cons_append, depthL, this]
  omega
theorem nodesL_next (l : List T) (i : Nat) (t : T) (h : l[i]? = some t) : nodesL (l.take (i + 1)) = nodesL (l.take i) + t.nodes := by
 obtain ⟨hi, rfl⟩ := List.getElem?_eq_some_iff.1 h
 rw [List.take_succ_eq_append_getElem hi, nodesL_append]
 simp [nodesL]
theorem depthL_next (l : List T) (i : Nat) (t : T) (h : l[i]? = some t) : depthL (l.take (i + 1)) = max (depthL (l.take i)) t.depth := by
 obtain ⟨hi, rfl⟩ := List.getElem?_eq_some_iff.1 h
 rw [List.take_succ_eq_append_getElem hi, depthL_append]
 simp [depthL]
theorem nodes_mem : ∀ {l : List T} {t : T}, t ∈ l → t.nodes ≤ nodesL l
 | a :: r, t, h => by
  rcases List.mem_cons.1 h with rfl | h
  ·simp only [nodesL]; omega
  ·have := nodes_mem h
   simp only [nodesL]; omega
theorem len_nodes : ∀ l : List T, l.length ≤ nodesL l
 | [] => Nat.le_refl _
 | t :: r => by
  have h1 := len_nodes r
  have h2 := nodes_pos t
  simp only [nodesL, List.length_cons]; omega
/-! ### how two compare -/
mutual
def cmpT : T → T → Int
 | .node k s l, .node k' s' l' => if k = k' then (if k = 3 ∧ eqS s s' = false then (if lessS s s' then -1 else 1) else cmpL l l') else if k < k' then -1 else 1
def cmpL : List T → List T → Int
 | [], [] => 0
 | [], _ :: _ => -1
 | _ :: _, [] => 1
 | a :: r, b :: r' => if cmpT a b = 0 then cmpL r r' else cmpT a b
end
mutual
def sameT : T → T → Bool
 | .node k s l, .node k' s' l' => decide (k = k') && eqS s s' && sameL l l'
def sameL : List T → List T → Bool
 | [], [] => true
 | [], _ :: _ => false
 | _ :: _, [] => false
 | a :: r, b :: r' => sameT a b && sameL r r'
end
/-! ### how they lie -/
inductive RxD (D : Nat → Prop) (w : World) : List Value → T → Prop
 | node {k : Int} {s : Nat → Bool} {l : List T} {A : Option Addr} {cap : Nat} (f : Nat → List Value) (h1 : l.length ≤ cap) (h2 : cap ≤ maxLen) (h0 : A = none → cap = 0)
   (h3 : l ≠ [] → ∃ b off, A = some ⟨b, off, none⟩ ∧ D b ∧ ∀ i, i < l.length → w.rangeAt b (off + i * 6) (f i))
   (h4 : ∀ i t, l[i]? = some t → RxD D w (f i) t) : RxD D w (.int .i64 k :: (wds s ++ [.slice A l.length cap])) (.node k s l)
theorem range_heap {w w' : World} {b o : Nat} {cs : List Value} (h : w.rangeAt b o cs) (hb : w'.heap[b]? = w.heap[b]?) : w'.rangeAt b o cs := fun j v hv => by
 have := h j v hv
 unfold World.cell? at this ⊢
 simp only [hb]
 exact this
theorem RxD.stay {D : Nat → Prop} {w w' : World} {cs : List Value} {t : T} (h : RxD D w cs t) (hb : ∀ k, D k → w'.heap[k]? = w.heap[k]?) : RxD D w' cs t := by
 induction h with
 | node f h1 h2 h0 h3 h4 ih =>
  refine .node f h1 h2 h0 (fun hne => ?_) ih
  obtain ⟨b, off, hA, hlt, hc⟩ := h3 hne
  exact ⟨b, off, hA, hlt, fun i hi => range_heap (hc i hi) (hb b hlt)⟩
theorem RxD.mono {D D' : Nat → Prop} {w : World} {cs : List Value} {t : T} (h : RxD D w cs t) (hb : ∀ k, D k → D' k) : RxD D' w cs t := by
 induction h with
 | node f h1 h2 h0 h3 h4 ih =>
  refine .node f h1 h2 h0 (fun hne => ?_) ih
  obtain ⟨b, off, hA, hlt, hc⟩ := h3 hne
  exact ⟨b, off, hA, hb b hlt, hc⟩
theorem RxD.length {D : Nat → Prop} {w : World} {cs : List Value} {t : T} (h : RxD D w cs t) : cs.length = 6 := by
 cases h
 rfl
theorem RxD.opened {D : Nat → Prop} {w : World} {cs : List Value} {k : Int} {s : Nat → Bool} {l : List T} (h : RxD D w cs (.node k s l)) :
  ∃ (A : Option Addr) (cap : Nat) (f : Nat → List Value), cs = .int .i64 k :: (wds s ++ [.slice A l.length cap]) ∧ l.length ≤ cap ∧ cap ≤ maxLen ∧ (A = none → cap = 0) ∧ (l ≠ [] → ∃ b off, A = some ⟨b, off, none⟩ ∧ D b ∧ ∀ i, i < l.length → w.rangeAt b (off + i * 6) (f i)) ∧ ∀ i t, l[i]? = some t → RxD D w (f i) t := by
 cases h with
 | node f h1 h2 h0 h3 h4 => exact ⟨_, _, f, rfl, h1, h2, h0, h3, h4⟩
theorem RxD.one {D : Nat → Prop} {w : World} {cs : List Value} {t : T} (h : RxD D w cs t) : ∀ u ∈ cs, u.oneCell' = true := by
 cases h with
 | node f h1 h2 h0 h3 h4 =>
  intro u hu
  rcases List.mem_cons.1 hu with rfl | hu
  ·rfl
  ·rcases List.mem_append.1 hu with hu | hu
   ·exact List.all_eq_true.1 (wds_all _) u hu
   ·obtain rfl := List.mem_singleton.1 hu
    rfl
def RxV (B : Nat) (w : World) (cs : List Value) (t : T) : Prop := RxD (fun k => k < B) w cs t
theorem RxV.stay {B : Nat} {w w' : World} {cs : List Value} {t : T} (h : RxV B w cs t) (hb : Below B w w') : RxV B w' cs t := RxD.stay h fun k hk => hb.block k hk
theorem RxV.mono {B B' : Nat} {w : World} {cs : List Value} {t : T} (h : RxV B w cs t) (hb : B ≤ B') : RxV B' w cs t := RxD.mono h fun k hk => Nat.lt_of_lt_of_le hk hb
theorem RxV.length {B : Nat} {w : World} {cs : List Value} {t : T} (h : RxV B w cs t) : cs.length = 6 := RxD.length h
theorem RxV.opened {B : Nat} {w : World} {cs : List Value} {k : Int} {s : Nat → Bool} {l : List T} (h : RxV B w cs (.node k s l)) :
  ∃ (A : Option Addr) (cap : Nat) (f : Nat → List Value), cs = .int .i64 k :: (wds s ++ [.slice A l.length cap]) ∧ l.length ≤ cap ∧ cap ≤ maxLen ∧ (A = none → cap = 0) ∧ (l ≠ [] → ∃ b off, A = some ⟨b, off, none⟩ ∧ b < B ∧ ∀ i, i < l.length → w.rangeAt b (off + i * 6) (f i)) ∧ ∀ i t, l[i]? = some t → RxV B w (f i) t := RxD.opened h
def RowT (B : Nat) (w : World) (v : Value) (l : List T) : Prop :=
 ∃ (A : Option Addr) (cap : Nat) (f : Nat → List Value), v = .slice A l.length cap ∧ l.length ≤ cap ∧ cap ≤ maxLen ∧ (A = none → cap = 0) ∧ (l ≠ [] → ∃ b off, A = some ⟨b, off, none⟩ ∧ b < B ∧ ∀ i, i < l.length → w.rangeAt b (off + i * 6) (f i)) ∧ ∀ i t, l[i]? = some t → RxV B w (f i) t
theorem RowT.below {B : Nat} {w w' : World} {v : Value} {l : List T} (h : RowT B w v l) (hb : Below B w w') : RowT B w' v l := by
 obtain ⟨A, cap, f, hv, h1, h2, h0, h3, h4⟩ := h
 refine ⟨A, cap, f, hv, h1, h2, h0, fun hne => ?_, fun i t ht => (h4 i t ht).stay hb⟩
 obtain ⟨b, off, hA, hlt, hc⟩ := h3 hne
 exact ⟨b, off, hA, hlt, fun i hi => range_below (hc i hi) hb hlt⟩
theorem RxV.row {B : Nat} {w : World} {k : Int} {s : Nat → Bool} {l : List T} {cs : List Value} (h : RxV B w cs (.node k s l)) : ∃ v, cs = .int .i64 k :: (wds s ++ [v]) ∧ RowT B w v l := by
 obtain ⟨A, cap, f, hcs, h⟩ := h.opened
 exact ⟨_, hcs, A, cap, f, rfl, h⟩
theorem RowT.rx {B : Nat} {w : World} {v : Value} {l : List T} (h : RowT B w v l) (k : Int) (s : Nat → Bool) : RxV B w (.int .i64 k :: (wds s ++ [v])) (.node k s l) := by
 obtain ⟨A, cap, f, rfl, h1, h2, h0, h3, h4⟩ := h
 exact RxD.node f h1 h2 h0 h3 h4
theorem RowT.at_ {B : Nat} {w : World} {A : Option Addr} {n cap : Nat} {l : List T} (h : RowT B w (.slice A n cap) l) (hne : 0 < l.length) :
  ∃ (b off : Nat) (f : Nat → List Value), A = some ⟨b, off, none⟩ ∧ b < B ∧ (∀ i, i < l.length → w.rangeAt b (off + i * 6) (f i)) ∧ ∀ i t, l[i]? = some t → RxV B w (f i) t := by
 obtain ⟨A', cap', f, he, _, _, _, h3, h4⟩ := h
 injection he with hA _ _
 subst hA
 obtain ⟨b, off, h5, h6, h7⟩ := h3 (by rintro rfl; simp at hne)
 exact ⟨b, off, f, h5, h6, h7, h4⟩
def RowD (D : Nat → Prop) (w : World) (v : Value) (l : List T) : Prop :=
 ∃ (A : Option Addr) (cap : Nat) (f : Nat → List Value), v = .slice A l.length cap ∧ l.length ≤ cap ∧ cap ≤ maxLen ∧ (A = none → cap = 0) ∧ (l ≠ [] → ∃ b off, A = some ⟨b, off, none⟩ ∧ D b ∧ ∀ i, i < l.length → w.rangeAt b (off + i * 6) (f i)) ∧ ∀ i t, l[i]? = some t → RxD D w (f i) t
theorem RowT.rowD {B : Nat} {w : World} {v : Value} {l : List T} (h : RowT B w v l) : RowD (fun k => k < B) w v l := h
theorem RowD.stay {D : Nat → Prop} {w w' : World} {v : Value} {l : List T} (h : RowD D w v l) (hb : ∀ k, D k → w'.heap[k]? = w.heap[k]?) : RowD D w' v l := by
 obtain ⟨A, cap, f, hv, h1, h2, h0, h3, h4⟩ := h
 refine ⟨A, cap, f, hv, h1, h2, h0, fun hne => ?_, fun i t ht => (h4 i t ht).stay hb⟩
 obtain ⟨b, off, hA, hlt, hc⟩ := h3 hne
 exact ⟨b, off, hA, hlt, fun i hi => range_heap (hc i hi) (hb b hlt)⟩
theorem RowD.mono {D D' : Nat → Prop} {w : World} {v : Value} {l : List T} (h : RowD D w v l) (hD : ∀ k, D k → D' k) : RowD D' w v l := by
 obtain ⟨A, cap, f, hv, h1, h2, h0, h3, h4⟩ := h
 refine ⟨A, cap, f, hv, h1, h2, h0, fun hne => ?_, fun i t ht => (h4 i t ht).mono hD⟩
 obtain ⟨b, off, hA, hlt, hc⟩ := h3 hne
 exact ⟨b, off, hA, hD b hlt, hc⟩
theorem RxD.row {D : Nat → Prop} {w : World} {k : Int} {s : Nat → Bool} {l : List T} {cs : List Value} (h : RxD D w cs (.node k s l)) : ∃ v, cs = .int .i64 k :: (wds s ++ [v]) ∧ RowD D w v l := by
 obtain ⟨A, cap, f, hcs, h⟩ := h.opened
 exact ⟨_, hcs, A, cap, f, rfl, h⟩
theorem RowD.rx {D : Nat → Prop} {w : World} {v : Value} {l : List T} (h : RowD D w v l) (k : Int) (s : Nat → Bool) : RxD D w (.int .i64 k :: (wds s ++ [v])) (.node k s l) := by
 obtain ⟨A, cap, f, rfl, h1, h2, h0, h3, h4⟩ := h
 exact RxD.node f h1 h2 h0 h3 h4
theorem RowD.keep {D : Nat → Prop} {B : Nat} {w w' : World} {v : Value} {l : List T} (h : RowD D w v l) (hb : Below B w w') (hD : ∀ k, D k → k < B) : RowD D w' v l := h.stay fun k hk => hb.block k (hD k hk)
theorem RxD.keep {D : Nat → Prop} {B : Nat} {w w' : World} {cs : List Value} {t : T} (h : RxD D w cs t) (hb : Below B w w') (hD : ∀ k, D k → k < B) : RxD D w' cs t := h.stay fun k hk => hb.block k (hD k hk)
theorem lessS_iff (p q : Nat → Bool) : lessS p q = true ↔ ∃ j, j < 256 ∧ (∀ b, b < j → p b = q b) ∧ p j = true ∧ q j = false := by
 constructor
 ·intro h
  unfold lessS at h
  cases hf : (List.range 256).find? fun b => p b != q b with
  | none => rw [hf] at h; cases h
  | some j =>
   rw [hf] at h
   obtain ⟨h1, h2, h3⟩ := List.find?_range_eq_some.1 hf
   have hp : p j = true := h
   refine ⟨j, List.mem_range.1 h2, fun b hb => by simpa using h3 b hb, hp, ?_⟩
   rw [hp] at h1
   simpa using h1
 ·rintro ⟨j, hj, h1, h2, h3⟩
  rw [lessS_at hj h1 (by rw [h2, h3]; decide)]
  exact h2
theorem lessS_trans {p q r : Nat → Bool} (h : lessS p q = true) (k : lessS q r = true) : lessS p r = true := by
 obtain ⟨i, hi, a1, a2, a3⟩ := (lessS_iff p q).1 h
 obtain ⟨j, hj, b1, b2, b3⟩ := (lessS_iff q r).1 k
 rcases Nat.lt_trichotomy i j with hl | rfl | hl
 ·exact (lessS_iff p r).2 ⟨i, hi, fun b hb => (a1 b hb).trans (b1 b (by omega)), a2, by rw [← b1 i hl]; exact a3⟩
 ·rw [a3] at b2; cases b2
 ·exact (lessS_iff p r).2 ⟨j, hj, fun b hb => (a1 b (by omega)).trans (b1 b hb), by rw [a1 j hl]; exact b2, b3⟩
theorem lessS_ne {p q : Nat → Bool} (h : lessS p q = true) : eqS p q = false := by
 obtain ⟨i, hi, a1, a2, a3⟩ := (lessS_iff p q).1 h
 rw [Bool.eq_false_iff]
 intro he
 have := (eqS_iff p q).1 he i hi
 rw [a2, a3] at this
 cases this
theorem lessS_not {p q : Nat → Bool} (h : lessS p q = false) : eqS p q = !lessS q p := by
 cases hk : lessS q p with
 | true =>
  obtain ⟨i, hi, a1, a2, a3⟩ := (lessS_iff q p).1 hk
  rw [Bool.not_true, Bool.eq_false_iff]
  intro he
  have := (eqS_iff p q).1 he i hi
  rw [a2, a3] at this
  cases this
 | false =>
  rw [Bool.not_false]
  refine (eqS_iff p q).2 ?_
  have : ∀ j, j ≤ 256 → ∀ b, b < j → p b = q b := by
   intro j
   induction j with
   | zero => intro _ b hb; omega
   | succ j ih =>
    intro hj b hb
    rcases Nat.lt_or_ge b j with h' | h'
    ·exact ih (by omega) b h'
    ·obtain rfl : b = j := by omega
     by_cases hne : p b = q b
     ·exact hne
     ·have e1 := lessS_at (p := p) (q := q) (by omega) (ih (by omega)) hne
      have e2 := lessS_at (p := q) (q := p) (by omega) (fun c hc => (ih (by omega) c hc).symm) (fun e => hne e.symm)
      rw [← e1, ← e2, h, hk]
  exact this 256 (Nat.le_refl _)
theorem lessS_irrefl (p : Nat → Bool) : lessS p p = false := lessS_none fun _ _ => rfl
theorem lessS_congr {p p' q q' : Nat → Bool} (h : ∀ b, b < 256 → p b = p' b) (k : ∀ b, b < 256 → q b = q' b) : lessS p q = lessS p' q' := by
 rw [Bool.eq_iff_iff, lessS_iff, lessS_iff]
 constructor
 ·rintro ⟨j, hj, h1, h2, h3⟩
  exact ⟨j, hj, fun b hb => by rw [← h b (by omega), ← k b (by omega)]; exact h1 b hb, by rw [← h j hj]; exact h2, by rw [← k j hj]; exact h3⟩
 ·rintro ⟨j, hj, h1, h2, h3⟩
  exact ⟨j, hj, fun b hb => by rw [h b (by omega), k b (by omega)]; exact h1 b hb, by rw [h j hj]; exact h2, by rw [k j hj]; exact h3⟩
/-! ### their line -/
theorem eqS_comm (p q : Nat → Bool) : eqS q p = eqS p q := by
 rw [Bool.eq_iff_iff, eqS_iff, eqS_iff]
 exact ⟨fun h b hb => (h b hb).symm, fun h b hb => (h b hb).symm⟩
mutual
theorem cmpT_self : ∀ t : T, cmpT t t = 0
 | .node k s l => by
  simp only [cmpT, eqS_self, cmpL_self l]
  simp
theorem cmpL_self : ∀ l : List T, cmpL l l = 0
 | [] => rfl
 | t :: r => by simp only [cmpL, cmpT_self t, cmpL_self r, if_true]
end
mutual
theorem cmpT_flip : ∀ t u : T, cmpT u t = - cmpT t u
 | .node k s l, .node k' s' l' => by
  by_cases hk : k = k'
  ·subst hk
   simp only [cmpT, if_true, eqS_comm s s']
   by_cases h3 : k = 3 ∧ eqS s s' = false
   ·rw [if_pos h3, if_pos h3]
    cases h : lessS s s' with
    | true =>
     have : lessS s' s = false := by
      cases h2 : lessS s' s with
      | false => rfl
      | true =>
       have := lessS_trans h h2
       rw [lessS_irrefl] at this
       cases this
     rw [this]; rfl
    | false =>
     have := lessS_not h
     rw [h3.2] at this
     cases h2 : lessS s' s with
     | true => rfl
     | false => rw [h2] at this; cases this
   ·rw [if_neg h3, if_neg h3]
    exact cmpL_flip l l'
  ·have hk' : ¬ k' = k := fun e => hk e.symm
   simp only [cmpT, if_neg hk, if_neg hk']
   by_cases h1 : k < k'
   ·rw [if_pos h1, if_neg (by omega)]; rfl
   ·rw [if_neg h1, if_pos (by omega)]
theorem cmpL_flip : ∀ l m : List T, cmpL m l = - cmpL l m
 | [], [] => rfl
 | [], _ :: _ => rfl
 | _ :: _, [] => rfl
 | a :: r, b :: s => by
  have h1 := cmpT_flip a b
  have h2 := cmpL_flip r s
  simp only [cmpL, h1, h2]
  by_cases h : cmpT a b = 0
  ·rw [if_pos h, if_pos (by omega)]
  ·rw [if_neg h, if_neg (by omega)]
end
mutual
theorem cmpT_three : ∀ t u : T, cmpT t u = -1 ∨ cmpT t u = 0 ∨ cmpT t u = 1
 | .node k s l, .node k' s' l' => by
  simp only [cmpT]
  by_cases hk : k = k'
  ·rw [if_pos hk]
   by_cases h3 : k = 3 ∧ eqS s s' = false
   ·rw [if_pos h3]
    cases lessS s s' <;> simp
   ·rw [if_neg h3]
    exact cmpL_three l l'
  ·rw [if_neg hk]
   by_cases h1 : k < k'
   ·rw [if_pos h1]; exact .inl rfl
   ·rw [if_neg h1]; exact .inr (.inr rfl)
theorem cmpL_three : ∀ l m : List T, cmpL l m = -1 ∨ cmpL l m = 0 ∨ cmpL l m = 1
 | [], [] => .inr (.inl rfl)
 | [], _ :: _ => .inl rfl
 | _ :: _, [] => .inr (.inr rfl)
 | a :: r, b :: s => by
  simp only [cmpL]
  by_cases h : cmpT a b = 0
  ·rw [if_pos h]; exact cmpL_three r s
  ·rw [if_neg h]; exact cmpT_three a b
end
def Chn (x y z : Int) : Prop := x ≤ 0 → y ≤ 0 → z ≤ 0 ∧ (z = 0 → x = 0 ∧ y = 0)
theorem chn_sets (s s' s'' : Nat → Bool) : Chn (if eqS s s' = false then (if lessS s s' then -1 else 1) else 0) (if eqS s' s'' = false then (if lessS s' s'' then -1 else 1) else 0) (if eqS s s'' = false then (if lessS s s'' then -1 else 1) else 0) := by
 intro hx hy
 cases e1 : eqS s s' with
 | true =>
  have h1 := (eqS_iff s s').1 e1
  have a1 : eqS s s'' = eqS s' s'' := by
   rw [Bool.eq_iff_iff, eqS_iff, eqS_iff]
   exact ⟨fun h b hb => (h1 b hb).symm.trans (h b hb), fun h b hb => (h1 b hb).trans (h b hb)⟩
  have a2 : lessS s s'' = lessS s' s'' := lessS_congr h1 fun _ _ => rfl
  rw [a1, a2]
  exact ⟨hy, fun h => ⟨rfl, h⟩⟩
 | false =>
  rw [e1, if_pos rfl] at hx
  have l1 : lessS s s' = true := by
   cases h : lessS s s' with
   | true => rfl
   | false => rw [h] at hx; simp at hx
  cases e2 : eqS s' s'' with
  | true =>
   have h2 := (eqS_iff s' s'').1 e2
   have a2 : lessS s s'' = true := by rw [← lessS_congr (fun _ _ => rfl) h2]; exact l1
   rw [lessS_ne a2, a2]
   exact ⟨by decide, fun h => by simp at h⟩
  | false =>
   rw [e2, if_pos rfl] at hy
   have l2 : lessS s' s'' = true := by
    cases h : lessS s' s'' with
    | true => rfl
    | false => rw [h] at hy; simp at hy
   have a2 := lessS_trans l1 l2
   rw [lessS_ne a2, a2]
   exact ⟨by decide, fun h => by simp at h⟩
def lex (d l : Int) : Int := if d = 0 then l else d
theorem chn_lex {d1 d2 d3 l1 l2 l3 : Int} (hd : Chn d1 d2 d3) (hl : Chn l1 l2 l3) : Chn (lex d1 l1) (lex d2 l2) (lex d3 l3) := by
 unfold lex
 intro hx hy
 have x0 : d1 ≤ 0 := by
  by_cases e : d1 = 0
  ·omega
  ·rw [if_neg e] at hx; exact hx
 have y0 : d2 ≤ 0 := by
  by_cases e : d2 = 0
  ·omega
  ·rw [if_neg e] at hy; exact hy
 have hz := hd x0 y0
 by_cases ez : d3 = 0
 ·obtain ⟨ex, ey⟩ := hz.2 ez
  rw [if_pos ex] at hx ⊢
  rw [if_pos ey] at hy ⊢
  rw [if_pos ez]
  exact hl hx hy
 ·rw [if_neg ez]
  exact ⟨hz.1, fun h0 => absurd h0 ez⟩
def kindD (k k' : Int) : Int := if k = k' then 0 else if k < k' then -1 else 1
def setD (k : Int) (s s' : Nat → Bool) : Int := if k = 3 then (if eqS s s' = false then (if lessS s s' then -1 else 1) else 0) else 0
theorem chn_kind (a b c : Int) : Chn (kindD a b) (kindD b c) (kindD a c) := by
 intro hx hy
 unfold kindD at *
 have h1 : a ≤ b := by
  by_cases h : a = b
  ·omega
  ·rw [if_neg h] at hx
   by_cases h' : a < b
   ·omega
   ·rw [if_neg h'] at hx; simp at hx
 have h2 : b ≤ c := by
  by_cases h : b = c
  ·omega
  ·rw [if_neg h] at hy
   by_cases h' : b < c
   ·omega
   ·rw [if_neg h'] at hy; simp at hy
 by_cases h : a = c
 ·rw [if_pos h, if_pos (by omega), if_pos (by omega)]
  exact ⟨by decide, fun _ => ⟨rfl, rfl⟩⟩
 ·rw [if_neg h, if_pos (by omega)]
  exact ⟨by decide, fun h0 => by simp at h0⟩
theorem chn_setD (k : Int) (s s' s'' : Nat → Bool) : Chn (setD k s s') (setD k s' s'') (setD k s s'') := by
 unfold setD
 by_cases h : k = 3
 ·rw [if_pos h, if_pos h, if_pos h]
  exact chn_sets s s' s''
 ·rw [if_neg h, if_neg h, if_neg h]
  exact fun _ _ => ⟨by decide, fun _ => ⟨rfl, rfl⟩⟩
theorem lex_zero (l : Int) : lex 0 l = l := rfl
theorem lex_ne {d : Int} (l : Int) (h : d ≠ 0) : lex d l = d := if_neg h
theorem cmpT_lex (k k' : Int) (s s' : Nat → Bool) (l l' : List T) : cmpT (.node k s l) (.node k' s' l') = lex (kindD k k') (lex (setD k s s') (cmpL l l')) := by
 simp only [cmpT]
 by_cases hk : k = k'
 ·have e1 : kindD k k' = 0 := if_pos hk
  rw [if_pos hk, e1, lex_zero]
  by_cases h3 : k = 3
  ·cases e : eqS s s' with
   | true =>
    have e2 : setD k s s' = 0 := by unfold setD; rw [if_pos h3, e]; rfl
    rw [if_neg (by rintro ⟨_, h⟩; cases h), e2, lex_zero]
   | false =>
    have e2 : setD k s s' = if lessS s s' then -1 else 1 := by unfold setD; rw [if_pos h3, e]; rfl
    rw [if_pos ⟨h3, rfl⟩, e2, lex_ne]
    cases lessS s s' <;> decide
  ·have e2 : setD k s s' = 0 := if_neg h3
   rw [if_neg (fun h => h3 h.1), e2, lex_zero]
 ·have e1 : kindD k k' = if k < k' then -1 else 1 := if_neg hk
  rw [if_neg hk, e1, lex_ne]
  by_cases h : k < k'
  ·rw [if_pos h]; decide
  ·rw [if_neg h]; decide
mutual
theorem cmpT_chain : ∀ t u v : T, Chn (cmpT t u) (cmpT u v) (cmpT t v)
 | .node k s l, .node k' s' l', .node k'' s'' l'' => by
  have hl := cmpL_chain l l' l''
  rw [cmpT_lex, cmpT_lex, cmpT_lex]
  intro hx hy
  have hk := chn_kind k k' k''
  by_cases h1 : k = k'
  ·subst h1
   exact chn_lex hk (chn_lex (chn_setD k s s' s'') hl) hx hy
  ·have hx0 : kindD k k' ≠ 0 := by
    unfold kindD
    rw [if_neg h1]
    split <;> decide
   have hx1 : kindD k k' ≤ 0 := by
    unfold lex at hx
    rw [if_neg hx0] at hx
    exact hx
   have hy1 : kindD k' k'' ≤ 0 := by
    unfold lex at hy
    by_cases e : kindD k' k'' = 0
    ·omega
    ·rw [if_neg e] at hy; exact hy
   have hz := hk hx1 hy1
   have ez : kindD k k'' ≠ 0 := fun h => hx0 (hz.2 h).1
   have e : lex (kindD k k'') (lex (setD k s s'') (cmpL l l'')) = kindD k k'' := by unfold lex; rw [if_neg ez]
   rw [e]
   exact ⟨hz.1, fun h => absurd h ez⟩
theorem cmpL_chain : ∀ l m n : List T, Chn (cmpL l m) (cmpL m n) (cmpL l n)
 | [], [], n => fun hx hy => ⟨hy, fun h => ⟨rfl, h⟩⟩
 | [], _ :: _, [] => fun _ hy => by simp [cmpL] at hy
 | [], _ :: _, _ :: _ => fun _ _ => ⟨by simp [cmpL], fun h => by simp [cmpL] at h⟩
 | _ :: _, [], _ => fun hx _ => by simp [cmpL] at hx
 | _ :: _, _ :: _, [] => fun _ hy => by simp [cmpL] at hy
 | a :: r, b :: s, c :: t => by
  have h := cmpT_chain a b c
  have hr := cmpL_chain r s t
  have := chn_lex h hr
  unfold lex at this
  simp only [cmpL]
  exact this
end
theorem cmpT_trans {t u v : T} (h : cmpT t u < 0) (k : cmpT u v ≤ 0) : cmpT t v < 0 := by
 have := cmpT_chain t u v (by omega) k
 rcases cmpT_three t v with h1 | h1 | h1
 ·omega
 ·have := (this.2 h1).1; omega
 ·omega
theorem size_rx {cs : List Value} (h : cs.length = 6) : (Try.prog.info? 40).map (·.size) = some cs.length := by
 rw [h]
 kernel_rfl
theorem wrap_sum (a b : Nat) (h : a + b ≤ 4611686018427387904) : IntKind.i64.wrap ((a : Int) + (b : Int)) = ((a + b : Nat) : Int) := by
 rw [← Int.natCast_add]
 exact IntWalk.i64_in _ (by omega)
theorem wrap_sum' (a b : Nat) (h : a + b ≤ 4611686018427387904) : wrap64 ((a : Int) + (b : Int)) = ((a + b : Nat) : Int) := by
 rw [← Int.natCast_add]
 exact IntWalk.wrap64_in _ (by omega)
theorem wrap_one (j : Nat) (h : j ≤ 4611686018427387904) : wrap64 ((j : Int) + 1) = ((j + 1 : Nat) : Int) := by
 rw [show (j : Int) + 1 = ((j + 1 : Nat) : Int) from rfl]
 exact IntWalk.wrap64_in _ (by omega)
theorem wrap_one' (j : Nat) (h : j ≤ 4611686018427387904) : IntKind.i64.wrap ((j : Int) + 1) = ((j + 1 : Nat) : Int) := by
 rw [show (j : Int) + 1 = ((j + 1 : Nat) : Int) from rfl]
 exact IntWalk.i64_in _ (by omega)
theorem wrap_len {j len cap : Nat} (h : j < len) (h1 : len ≤ cap) (h2 : cap ≤ maxLen) : wrap64 ((j : Int) + 1) = ((j + 1 : Nat) : Int) := IntWalk.wrap64_in _ (by unfold maxLen at h2; omega)
theorem wrap_len' {j len cap : Nat} (h : j < len) (h1 : len ≤ cap) (h2 : cap ≤ maxLen) : IntKind.i64.wrap ((j : Int) + 1) = ((j + 1 : Nat) : Int) := IntWalk.i64_in _ (by unfold maxLen at h2; omega)
theorem nodesL_take (l : List T) (j : Nat) : nodesL (l.take j) ≤ nodesL l := by
 have h := nodesL_append (l.take j) (l.drop j)
 rw [List.take_append_drop] at h
 omega
theorem RxV.part {B : Nat} {w w' : World} {l : List T} {f : Nat → List Value} (h : ∀ i t, l[i]? = some t → RxV B w (f i) t) (hb : Below B w w') (hB : B ≤ w'.heap.size) {i : Nat} {t : T} (ht : l[i]? = some t) : RxV w'.heap.size w' (f i) t :=
 ((h i t ht).stay hb).mono hB
set_option maxHeartbeats 2000000 in
set_option maxRecDepth 100000 in
theorem refNodes_any : ∀ (N : Nat) (t : T), t.nodes ≤ N → t.nodes ≤ 1099511627776 → ∀ (cs : List Value) (w : World), RxV w.heap.size w cs t →
  Calls Try.prog 27 #[.agg cs.toArray] w fun e w' => e = .returned (.int .i64 (t.nodes : Int)) ∧ Below w.heap.size w w' := by
 intro N
 induction N with
 | zero => intro t h; have := nodes_pos t; omega
 | succ N ih =>
  rintro ⟨k, s, l⟩ hN hM cs w hv
  have IH := qH ih
  clear ih
  obtain ⟨A, cap, f, rfl, h1, h2, h0, h3, h4⟩ := hv.opened
  have H3 := qH h3
  have H4 := qH h4
  have HNN := qH (show T.nodes (.node k s l) = 1 + nodesL l by simp only [T.nodes])
  rw [HNN.out] at hN hM ⊢
  have HN := qH hN
  have HM := qH hM
  obtain ⟨cs, hcs⟩ : ∃ cs, cs = Value.int .i64 k :: (wds s ++ [.slice A l.length cap]) := ⟨_, rfl⟩
  have HCL := qH (show cs.length = 6 by rw [hcs]; rfl)
  have HC5 := qH (show cs[5]? = some (.slice A l.length cap) by rw [hcs]; rfl)
  have HLL := qH (len_nodes l)
  rw [← hcs]
  clear hv h1 h2 h0 h3 h4 hcs hN hM
  go_enter Try.func27, Try.ntmps27
  go_wp2_with ((with_reducible refine atDst 1 ?_); refine wpList_box rfl 40 _ rfl cs rfl (Below.refl w.heap.size w) (Nat.le_refl _) ?_; intro w1 hk1 hb1 hs1 _; have K1 := qH hk1; have B1 := qH hb1; clear hk1 hb1 hs1)
  go_loopw [3, 4] (fun n i wl => ∃ j : Nat, j ≤ l.length ∧ i = .int .i64 (j : Int) ∧ n = .int .i64 ((1 + nodesL (l.take j) : Nat) : Int) ∧ Below w1.heap.size w1 wl) (fun _ i _ => l.length - (intOf i).toNat)
  case atStart => exact ⟨0, by omega, by simp, by simp [nodesL], Below.refl _ _⟩
  case round =>
   obtain ⟨j, hj, rfl, rfl, hb⟩ := hrel
   have HB := qH hb
   clear hb
   have KR := qH (K1.out.below HB.out K1.out.lt)
   have c5 := KR.out.cell 5
   rw [HC5.out] at c5
   by_cases hjl : j < l.length
   ·have j1 : (j : Int) < (l.length : Int) := Int.ofNat_lt.2 hjl
    obtain ⟨b, off, rfl, hb, hrng⟩ := H3.out (by rintro rfl; simp at hjl)
    have BW := qH (B1.out.trans (HB.out.mono B1.out.size))
    obtain ⟨u, hu⟩ : ∃ u, l[j]? = some u := ⟨_, List.getElem?_eq_getElem hjl⟩
    have HV := qH (RxV.part H4.out BW.out BW.out.size hu)
    have HRG := qH (range_below (hrng j hjl) BW.out hb)
    have hnx := nodesL_next l j u hu
    have htk := nodesL_take l (j + 1)
    have hmem := nodes_mem (List.mem_of_getElem? hu)
    have HU := qH hu
    have HNX := qH hnx
    have hle1 : (1 + nodesL (l.take j)) + u.nodes ≤ 4611686018427387904 := by have := HM.out; omega
    have HUN := qH (show u.nodes ≤ N by have := HN.out; omega)
    have HUM := qH (show u.nodes ≤ 1099511627776 by have := HM.out; omega)
    have e1 := wrap_sum _ _ hle1
    have e2 := wrap_sum' _ _ hle1
    have hj62 : j ≤ 4611686018427387904 := by have := HM.out; have := HLL.out; omega
    have e3 := wrap_one j hj62
    have e4 := wrap_one' j hj62
    have HEX := qH (show (1 + nodesL (l.take j)) + u.nodes = 1 + nodesL (l.take (j + 1)) by rw [hnx]; omega)
    obtain ⟨a, ha⟩ : ∃ a, a = 1 + nodesL (l.take j) := ⟨_, rfl⟩
    obtain ⟨c, hc⟩ : ∃ c, c = u.nodes := ⟨_, rfl⟩
    have HCU := qH hc
    rw [← ha, ← hc] at e1 e2 HEX
    rw [← ha]
    clear hrng hu hnx htk hmem hle1 ha hc hj62
    go_wp2_with ((with_reducible refine atDst 17 ?_); refine wpList_load_mid rfl 40 _ rfl b (off + j * 6) rfl (f j) _ HRG.out Try.underlying40 rfl (size_rx HV.out.length) ?_)
    refine (IH.out u HUN.out HUM.out (f j) wr HV.out).mono ?_
    rintro e w2 ⟨rfl, hb2⟩
    rw [← HCU.out]
    have B2 := qH (HB.out.trans (hb2.mono HB.out.size))
    clear hb2
    go_wp2_with fail
    exact ⟨⟨j + 1, by omega, by congr 1, by rw [← HEX.out, Int.natCast_add], B2.out⟩, by simp [intOf] <;> omega⟩
   ·obtain rfl : j = l.length := by omega
    have j1 : ¬ ((l.length : Int) < (l.length : Int)) := by omega
    have B9 := qH (B1.out.trans (HB.out.mono B1.out.size))
    rw [List.take_length]
    go_wp2_with fail
    go_ret
    exact ⟨rfl, B9.out⟩
mutual
theorem depth_le : ∀ t : T, t.depth ≤ t.nodes
 | .node k s l => by
  have := depthL_le l
  simp only [T.depth, T.nodes]
  omega
theorem depthL_le : ∀ l : List T, depthL l ≤ nodesL l
 | [] => Nat.le_refl _
 | t :: r => by
  have h1 := depth_le t
  have h2 := depthL_le r
  simp only [depthL, nodesL]
  omega
end
theorem max_int (a c : Nat) : Value.int .i64 (if a < c then (c : Int) else (a : Int)) = Value.int .i64 ((max a c : Nat) : Int) := by
 congr 1
 split <;> omega
set_option maxHeartbeats 2000000 in
set_option maxRecDepth 100000 in
theorem refDepth_any : ∀ (N : Nat) (t : T), t.nodes ≤ N → t.nodes ≤ 1099511627776 → ∀ (cs : List Value) (w : World), RxV w.heap.size w cs t →
  Calls Try.prog 48 #[.agg cs.toArray] w fun e w' => e = .returned (.int .i64 (t.depth : Int)) ∧ Below w.heap.size w w' := by
 intro N
 induction N with
 | zero => intro t h; have := nodes_pos t; omega
 | succ N ih =>
  rintro ⟨k, s, l⟩ hN hM cs w hv
  have IH := qH ih
  clear ih
  obtain ⟨A, cap, f, rfl, h1, h2, h0, h3, h4⟩ := hv.opened
  have H3 := qH h3
  have H4 := qH h4
  have HNN := qH (show T.nodes (.node k s l) = 1 + nodesL l by simp only [T.nodes])
  have HDD := qH (show T.depth (.node k s l) = depthL l + 1 by simp only [T.depth])
  have HDL := qH (depthL_le l)
  rw [HNN.out] at hN hM
  rw [HDD.out]
  have HN := qH hN
  have HM := qH hM
  obtain ⟨cs, hcs⟩ : ∃ cs, cs = Value.int .i64 k :: (wds s ++ [.slice A l.length cap]) := ⟨_, rfl⟩
  have HCL := qH (show cs.length = 6 by rw [hcs]; rfl)
  have HC5 := qH (show cs[5]? = some (.slice A l.length cap) by rw [hcs]; rfl)
  have HLL := qH (len_nodes l)
  rw [← hcs]
  clear hv h1 h2 h0 h3 h4 hcs hN hM
  go_enter Try.func48, Try.ntmps48
  go_wp2_with ((with_reducible refine atDst 1 ?_); refine wpList_box rfl 40 _ rfl cs rfl (Below.refl w.heap.size w) (Nat.le_refl _) ?_; intro w1 hk1 hb1 hs1 _; have K1 := qH hk1; have B1 := qH hb1; clear hk1 hb1 hs1)
  go_loopw [3, 4] (fun n i wl => ∃ j : Nat, j ≤ l.length ∧ i = .int .i64 (j : Int) ∧ n = .int .i64 ((depthL (l.take j) : Nat) : Int) ∧ Below w1.heap.size w1 wl) (fun _ i _ => l.length - (intOf i).toNat)
  case atStart => exact ⟨0, by omega, by simp, by simp [depthL], Below.refl _ _⟩
  case round =>
   obtain ⟨j, hj, rfl, rfl, hb⟩ := hrel
   have HB := qH hb
   clear hb
   have KR := qH (K1.out.below HB.out K1.out.lt)
   have c5 := KR.out.cell 5
   rw [HC5.out] at c5
   by_cases hjl : j < l.length
   ·have j1 : (j : Int) < (l.length : Int) := Int.ofNat_lt.2 hjl
    obtain ⟨b, off, rfl, hb, hrng⟩ := H3.out (by rintro rfl; simp at hjl)
    have BW := qH (B1.out.trans (HB.out.mono B1.out.size))
    obtain ⟨u, hu⟩ : ∃ u, l[j]? = some u := ⟨_, List.getElem?_eq_getElem hjl⟩
    have HV := qH (RxV.part H4.out BW.out BW.out.size hu)
    have HRG := qH (range_below (hrng j hjl) BW.out hb)
    have hnx := depthL_next l j u hu
    have hmem := nodes_mem (List.mem_of_getElem? hu)
    have HU := qH hu
    have HNX := qH hnx
    have HUN := qH (show u.nodes ≤ N by have := HN.out; omega)
    have HUM := qH (show u.nodes ≤ 1099511627776 by have := HM.out; omega)
    have hj62 : j ≤ 4611686018427387904 := by have := HM.out; have := HLL.out; omega
    have e3 := wrap_one j hj62
    have e4 := wrap_one' j hj62
    obtain ⟨a, ha⟩ : ∃ a, a = depthL (l.take j) := ⟨_, rfl⟩
    obtain ⟨c, hc⟩ : ∃ c, c = u.depth := ⟨_, rfl⟩
    have HCU := qH hc
    have HEX := qH (show max a c = depthL (l.take (j + 1)) by rw [hnx, ha, hc])
    rw [← ha]
    clear hrng hu hnx hmem ha hc hj62
    go_wp2_with ((with_reducible refine atDst 17 ?_); refine wpList_load_mid rfl 40 _ rfl b (off + j * 6) rfl (f j) _ HRG.out Try.underlying40 rfl (size_rx HV.out.length) ?_)
    refine (IH.out u HUN.out HUM.out (f j) wr HV.out).mono ?_
    rintro e w2 ⟨rfl, hb2⟩
    rw [← HCU.out]
    have B2 := qH (HB.out.trans (hb2.mono HB.out.size))
    clear hb2
    go_wp2_with fail
    exact ⟨⟨j + 1, by omega, by congr 1, by rw [← HEX.out]; exact max_int a c, B2.out⟩, by simp [intOf] <;> omega⟩
   ·obtain rfl : j = l.length := by omega
    have j1 : ¬ ((l.length : Int) < (l.length : Int)) := by omega
    have B9 := qH (B1.out.trans (HB.out.mono B1.out.size))
    rw [List.take_length]
    obtain ⟨a, ha⟩ : ∃ a, a = depthL l := ⟨_, rfl⟩
    have hle : a ≤ 4611686018427387904 := by rw [ha]; have := HDL.out; have := HM.out; omega
    rw [← ha]
    have e3 := wrap_one a hle
    have e4 := wrap_one' a hle
    have HA := qH ha
    clear ha hle
    go_wp2_with fail
    go_ret
    rw [← HA.out]
    exact ⟨rfl, B9.out⟩
end Go.Proofs.Ytmcpfaaakmehdaa
