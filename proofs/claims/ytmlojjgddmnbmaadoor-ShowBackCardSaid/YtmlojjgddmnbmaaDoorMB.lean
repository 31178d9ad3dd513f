/-
  Texts of this proof, put together: (RxT) Expressions as trees: how they lie, how great they are, how two compare. No statement is proved here. (RxN) What the document's answer to rx (Nodes, Depth) answers and leaves. No statement is proved here. (RxS) What the document's answer to rx (Same) answers and leaves. No statement is proved here. (RxC) What the document's answer to rx (Compare) answers and leaves. No statement is proved here. (RxO) Rows of expressions of the call's own: how they lie, how they grow. No statement is proved here. (RxK) What the document's answer to rx (Copy) answers and leaves. No statement is proved here. (RxF) Rows of expressions put behind each other; what the document's answer to rx (flat) answers and leaves. No statement is proved here. (RxA) Facts of expressions as trees: their line, what is plain, what is made of plain ones. No statement is proved here. (RxEp) What the document's answer to rx (None, Empty, Bytes) answers and leaves. No statement is proved here. (RxIp) Plain facts of rows of expressions: flat, without. No statement is proved here. (RxJp) Plain facts of rows of expressions: cat. No statement is proved here. (RxMp) Rows of expressions whose cells may be written; those that are not level with the one ahead. No statement is proved here. (RxB) Facts of expressions as trees: what is plain; rising lists; what alternatives come to. No statement is proved here. (RxPp) Plain facts of rows of expressions: alternatives. No statement is proved here. (RxW) Laws of rows of expressions at single operations. No statement is proved here. (RxG) What package rx (Compare) answers and leaves, with the library's functions that it calls: draws and blocks of its own alone. No statement is proved here.
-/
import Derived.Test.YtmlojjgddmnbmaaDoorMA
import Derived.Test.YtmlojjgddmnbmaaDoorProg
import Derived.Deep.MidRow
namespace Go.Proofs.YtmlojjgddmnbmaaDoor
open Go.RowKit
set_option linter.unusedSimpArgs false
set_option linter.unusedVariables false

/-- An expression. -/
inductive T where
  | node (k : Int) (s : Nat → Bool) (l : List T)
def T.kind : T → Int | .node k _ _ => k
def T.set : T → (Nat → Bool) | .node _ s _ => s
def T.args : T → List T | .node _ _ l => l
mutual
def T.nodes : T → Nat
  | .node _ _ l => 1 + nodesL l
def nodesL : List T → Nat
  | [] => 0
  | t :: r => t.nodes + nodesL r
end
mutual
def T.depth : T → Nat
  | .node _ _ l => depthL l + 1
def depthL : List T → Nat
  | [] => 0
  | t :: r => max t.depth (depthL r)
end
theorem nodes_pos (t : T) : 0 < t.nodes := by
  cases t with
  | node k s l => simp only [T.nodes]; omega
theorem depth_pos (t : T) : 0 < t.depth := by
  cases t with
  | node k s l => simp only [T.depth]; omega
theorem nodesL_append : ∀ a b : List T, nodesL (a ++ b) = nodesL a + nodesL b
  | [], b => by simp [nodesL]
  | t :: r, b => by
    have := nodesL_append r b
    simp only [List.cons_append, nodesL, this]
    omega
theorem depthL_append : ∀ a b : List T, depthL (a ++ b) = max (depthL a) (depthL b)
  | [], b => by simp [depthL]
  | t :: r, b => by
    have := depthL_append r b
    simp only [List.cons_append, depthL, this]
    omega
theorem nodesL_next (l : List T) (i : Nat) (t : T) (h : l[i]? = some t) : nodesL (l.take (i + 1)) = nodesL (l.take i) + t.nodes := by
  obtain ⟨hi, rfl⟩ := List.getElem?_eq_some_iff.1 h
  rw [List.take_succ_eq_append_getElem hi, nodesL_append]
  simp [nodesL]
theorem depthL_next (l : List T) (i : Nat) (t : T) (h : l[i]? = some t) : depthL (l.take (i + 1)) = max (depthL (l.take i)) t.depth := by
  obtain ⟨hi, rfl⟩ := List.getElem?_eq_some_iff.1 h
  rw [List.take_succ_eq_append_getElem hi, depthL_append]
  simp [depthL]
theorem nodes_mem : ∀ {l : List T} {t : T}, t ∈ l → t.nodes ≤ nodesL l
  | a :: r, t, h => by
    rcases List.mem_cons.1 h with rfl | h
    · simp only [nodesL]; omega
    · have := nodes_mem h
      simp only [nodesL]; omega
theorem depth_mem : ∀ {l : List T} {t : T}, t ∈ l → t.depth ≤ depthL l
  | a :: r, t, h => by
    rcases List.mem_cons.1 h with rfl | h
    · simp only [depthL]; omega
    · have := depth_mem h
      simp only [depthL]; omega
theorem len_nodes : ∀ l : List T, l.length ≤ nodesL l
  | [] => Nat.le_refl _
  | t :: r => by
    have h1 := len_nodes r
    have h2 := nodes_pos t
    simp only [nodesL, List.length_cons]; omega

/-! ### how two compare -/
mutual
/-- Kinds, then sets, then parts. -/
def cmpT : T → T → Int
  | .node k s l, .node k' s' l' => if k = k' then (if k = 3 ∧ eqS s s' = false then (if lessS s s' then -1 else 1) else cmpL l l') else if k < k' then -1 else 1
def cmpL : List T → List T → Int
  | [], [] => 0
  | [], _ :: _ => -1
  | _ :: _, [] => 1
  | a :: r, b :: r' => if cmpT a b = 0 then cmpL r r' else cmpT a b
end
mutual
/-- Alike in all fields. -/
def sameT : T → T → Bool
  | .node k s l, .node k' s' l' => decide (k = k') && eqS s s' && sameL l l'
def sameL : List T → List T → Bool
  | [], [] => true
  | [], _ :: _ => false
  | _ :: _, [] => false
  | a :: r, b :: r' => sameT a b && sameL r r'
end

/-! ### how they lie -/
/-- The cells cs read as the expression t; what it points to lies in blocks of D. -/
inductive RxD (D : Nat → Prop) (w : World) : List Value → T → Prop
  | node {k : Int} {s : Nat → Bool} {l : List T} {A : Option Addr} {cap : Nat} (f : Nat → List Value) (h1 : l.length ≤ cap) (h2 : cap ≤ maxLen) (h0 : A = none → cap = 0)
      (h3 : l ≠ [] → ∃ b off, A = some ⟨b, off, none⟩ ∧ D b ∧ ∀ i, i < l.length → w.rangeAt b (off + i * 6) (f i))
      (h4 : ∀ i t, l[i]? = some t → RxD D w (f i) t) : RxD D w (.int .i64 k :: (wds s ++ [.slice A l.length cap])) (.node k s l)
theorem range_heap {w w' : World} {b o : Nat} {cs : List Value} (h : w.rangeAt b o cs) (hb : w'.heap[b]? = w.heap[b]?) : w'.rangeAt b o cs := fun j v hv => by
  have := h j v hv
  unfold World.cell? at this ⊢
  simp only [hb]
  exact this
theorem RxD.stay {D : Nat → Prop} {w w' : World} {cs : List Value} {t : T} (h : RxD D w cs t) (hb : ∀ k, D k → w'.heap[k]? = w.heap[k]?) : RxD D w' cs t := by
  induction h with
  | node f h1 h2 h0 h3 h4 ih =>
    refine .node f h1 h2 h0 (fun hne => ?_) ih
    obtain ⟨b, off, hA, hlt, hc⟩ := h3 hne
    exact ⟨b, off, hA, hlt, fun i hi => range_heap (hc i hi) (hb b hlt)⟩
theorem RxD.mono {D D' : Nat → Prop} {w : World} {cs : List Value} {t : T} (h : RxD D w cs t) (hb : ∀ k, D k → D' k) : RxD D' w cs t := by
  induction h with
  | node f h1 h2 h0 h3 h4 ih =>
    refine .node f h1 h2 h0 (fun hne => ?_) ih
    obtain ⟨b, off, hA, hlt, hc⟩ := h3 hne
    exact ⟨b, off, hA, hb b hlt, hc⟩
theorem RxD.length {D : Nat → Prop} {w : World} {cs : List Value} {t : T} (h : RxD D w cs t) : cs.length = 6 := by
  cases h
  rfl
/-- What the value is, and where its parts lie. -/
theorem RxD.opened {D : Nat → Prop} {w : World} {cs : List Value} {k : Int} {s : Nat → Bool} {l : List T} (h : RxD D w cs (.node k s l)) :
    ∃ (A : Option Addr) (cap : Nat) (f : Nat → List Value), cs = .int .i64 k :: (wds s ++ [.slice A l.length cap]) ∧ l.length ≤ cap ∧ cap ≤ maxLen ∧ (A = none → cap = 0) ∧ (l ≠ [] → ∃ b off, A = some ⟨b, off, none⟩ ∧ D b ∧ ∀ i, i < l.length → w.rangeAt b (off + i * 6) (f i)) ∧ ∀ i t, l[i]? = some t → RxD D w (f i) t := by
  cases h with
  | node f h1 h2 h0 h3 h4 => exact ⟨_, _, f, rfl, h1, h2, h0, h3, h4⟩
theorem RxD.one {D : Nat → Prop} {w : World} {cs : List Value} {t : T} (h : RxD D w cs t) : ∀ u ∈ cs, u.oneCell' = true := by
  cases h with
  | node f h1 h2 h0 h3 h4 =>
    intro u hu
    rcases List.mem_cons.1 hu with rfl | hu
    · rfl
    · rcases List.mem_append.1 hu with hu | hu
      · exact List.all_eq_true.1 (wds_all _) u hu
      · obtain rfl := List.mem_singleton.1 hu
        rfl
/-- .. in blocks below B. -/
def RxV (B : Nat) (w : World) (cs : List Value) (t : T) : Prop := RxD (fun k => k < B) w cs t
theorem RxV.stay {B : Nat} {w w' : World} {cs : List Value} {t : T} (h : RxV B w cs t) (hb : Below B w w') : RxV B w' cs t := RxD.stay h fun k hk => hb.block k hk
theorem RxV.mono {B B' : Nat} {w : World} {cs : List Value} {t : T} (h : RxV B w cs t) (hb : B ≤ B') : RxV B' w cs t := RxD.mono h fun k hk => Nat.lt_of_lt_of_le hk hb
theorem RxV.length {B : Nat} {w : World} {cs : List Value} {t : T} (h : RxV B w cs t) : cs.length = 6 := RxD.length h
theorem RxV.opened {B : Nat} {w : World} {cs : List Value} {k : Int} {s : Nat → Bool} {l : List T} (h : RxV B w cs (.node k s l)) :
    ∃ (A : Option Addr) (cap : Nat) (f : Nat → List Value), cs = .int .i64 k :: (wds s ++ [.slice A l.length cap]) ∧ l.length ≤ cap ∧ cap ≤ maxLen ∧ (A = none → cap = 0) ∧ (l ≠ [] → ∃ b off, A = some ⟨b, off, none⟩ ∧ b < B ∧ ∀ i, i < l.length → w.rangeAt b (off + i * 6) (f i)) ∧ ∀ i t, l[i]? = some t → RxV B w (f i) t := RxD.opened h
/-- A slice of expressions. -/
def RowT (B : Nat) (w : World) (v : Value) (l : List T) : Prop :=
  ∃ (A : Option Addr) (cap : Nat) (f : Nat → List Value), v = .slice A l.length cap ∧ l.length ≤ cap ∧ cap ≤ maxLen ∧ (A = none → cap = 0) ∧ (l ≠ [] → ∃ b off, A = some ⟨b, off, none⟩ ∧ b < B ∧ ∀ i, i < l.length → w.rangeAt b (off + i * 6) (f i)) ∧ ∀ i t, l[i]? = some t → RxV B w (f i) t
theorem RowT.below {B : Nat} {w w' : World} {v : Value} {l : List T} (h : RowT B w v l) (hb : Below B w w') : RowT B w' v l := by
  obtain ⟨A, cap, f, hv, h1, h2, h0, h3, h4⟩ := h
  refine ⟨A, cap, f, hv, h1, h2, h0, fun hne => ?_, fun i t ht => (h4 i t ht).stay hb⟩
  obtain ⟨b, off, hA, hlt, hc⟩ := h3 hne
  exact ⟨b, off, hA, hlt, fun i hi => range_below (hc i hi) hb hlt⟩
theorem RxV.row {B : Nat} {w : World} {k : Int} {s : Nat → Bool} {l : List T} {cs : List Value} (h : RxV B w cs (.node k s l)) : ∃ v, cs = .int .i64 k :: (wds s ++ [v]) ∧ RowT B w v l := by
  obtain ⟨A, cap, f, hcs, h⟩ := h.opened
  exact ⟨_, hcs, A, cap, f, rfl, h⟩
theorem RowT.rx {B : Nat} {w : World} {v : Value} {l : List T} (h : RowT B w v l) (k : Int) (s : Nat → Bool) : RxV B w (.int .i64 k :: (wds s ++ [v])) (.node k s l) := by
  obtain ⟨A, cap, f, rfl, h1, h2, h0, h3, h4⟩ := h
  exact RxD.node f h1 h2 h0 h3 h4
theorem RowT.at_ {B : Nat} {w : World} {A : Option Addr} {n cap : Nat} {l : List T} (h : RowT B w (.slice A n cap) l) (hne : 0 < l.length) :
    ∃ (b off : Nat) (f : Nat → List Value), A = some ⟨b, off, none⟩ ∧ b < B ∧ (∀ i, i < l.length → w.rangeAt b (off + i * 6) (f i)) ∧ ∀ i t, l[i]? = some t → RxV B w (f i) t := by
  obtain ⟨A', cap', f, he, _, _, _, h3, h4⟩ := h
  injection he with hA _ _
  subst hA
  obtain ⟨b, off, h5, h6, h7⟩ := h3 (by rintro rfl; simp at hne)
  exact ⟨b, off, f, h5, h6, h7, h4⟩
/-- A slice of expressions whose parts, and whose own cells, lie in blocks of D. -/
def RowD (D : Nat → Prop) (w : World) (v : Value) (l : List T) : Prop :=
  ∃ (A : Option Addr) (cap : Nat) (f : Nat → List Value), v = .slice A l.length cap ∧ l.length ≤ cap ∧ cap ≤ maxLen ∧ (A = none → cap = 0) ∧ (l ≠ [] → ∃ b off, A = some ⟨b, off, none⟩ ∧ D b ∧ ∀ i, i < l.length → w.rangeAt b (off + i * 6) (f i)) ∧ ∀ i t, l[i]? = some t → RxD D w (f i) t
theorem RowT.rowD {B : Nat} {w : World} {v : Value} {l : List T} (h : RowT B w v l) : RowD (fun k => k < B) w v l := h
theorem RowD.rowT {B : Nat} {w : World} {v : Value} {l : List T} (h : RowD (fun k => k < B) w v l) : RowT B w v l := h
theorem RowD.stay {D : Nat → Prop} {w w' : World} {v : Value} {l : List T} (h : RowD D w v l) (hb : ∀ k, D k → w'.heap[k]? = w.heap[k]?) : RowD D w' v l := by
  obtain ⟨A, cap, f, hv, h1, h2, h0, h3, h4⟩ := h
  refine ⟨A, cap, f, hv, h1, h2, h0, fun hne => ?_, fun i t ht => (h4 i t ht).stay hb⟩
  obtain ⟨b, off, hA, hlt, hc⟩ := h3 hne
  exact ⟨b, off, hA, hlt, fun i hi => range_heap (hc i hi) (hb b hlt)⟩
theorem RowD.mono {D D' : Nat → Prop} {w : World} {v : Value} {l : List T} (h : RowD D w v l) (hD : ∀ k, D k → D' k) : RowD D' w v l := by
  obtain ⟨A, cap, f, hv, h1, h2, h0, h3, h4⟩ := h
  refine ⟨A, cap, f, hv, h1, h2, h0, fun hne => ?_, fun i t ht => (h4 i t ht).mono hD⟩
  obtain ⟨b, off, hA, hlt, hc⟩ := h3 hne
  exact ⟨b, off, hA, hD b hlt, hc⟩
theorem RxD.row {D : Nat → Prop} {w : World} {k : Int} {s : Nat → Bool} {l : List T} {cs : List Value} (h : RxD D w cs (.node k s l)) : ∃ v, cs = .int .i64 k :: (wds s ++ [v]) ∧ RowD D w v l := by
  obtain ⟨A, cap, f, hcs, h⟩ := h.opened
  exact ⟨_, hcs, A, cap, f, rfl, h⟩
theorem RowD.rx {D : Nat → Prop} {w : World} {v : Value} {l : List T} (h : RowD D w v l) (k : Int) (s : Nat → Bool) : RxD D w (.int .i64 k :: (wds s ++ [v])) (.node k s l) := by
  obtain ⟨A, cap, f, rfl, h1, h2, h0, h3, h4⟩ := h
  exact RxD.node f h1 h2 h0 h3 h4
/-- Above, and not in one block. -/
theorem RowD.keep {D : Nat → Prop} {B : Nat} {w w' : World} {v : Value} {l : List T} (h : RowD D w v l) (hb : Below B w w') (hD : ∀ k, D k → k < B) : RowD D w' v l := h.stay fun k hk => hb.block k (hD k hk)
theorem RxD.keep {D : Nat → Prop} {B : Nat} {w w' : World} {cs : List Value} {t : T} (h : RxD D w cs t) (hb : Below B w w') (hD : ∀ k, D k → k < B) : RxD D w' cs t := h.stay fun k hk => hb.block k (hD k hk)
end Go.Proofs.YtmlojjgddmnbmaaDoor
namespace Go.Proofs.YtmlojjgddmnbmaaDoor
open Go.RowKit
set_option linter.unusedSimpArgs false
set_option linter.unusedVariables false

theorem size_rx {cs : List Value} (h : cs.length = 6) : (Tryd.prog.info? 27).map (·.size) = some cs.length := by
  rw [h]
  kernel_rfl
theorem wrap_sum (a b : Nat) (h : a + b ≤ 4611686018427387904) : IntKind.i64.wrap ((a : Int) + (b : Int)) = ((a + b : Nat) : Int) := by
  rw [← Int.natCast_add]
  exact IntWalk.i64_in _ (by omega)
theorem wrap_sum' (a b : Nat) (h : a + b ≤ 4611686018427387904) : wrap64 ((a : Int) + (b : Int)) = ((a + b : Nat) : Int) := by
  rw [← Int.natCast_add]
  exact IntWalk.wrap64_in _ (by omega)
theorem wrap_one (j : Nat) (h : j ≤ 4611686018427387904) : wrap64 ((j : Int) + 1) = ((j + 1 : Nat) : Int) := by
  rw [show (j : Int) + 1 = ((j + 1 : Nat) : Int) from rfl]
  exact IntWalk.wrap64_in _ (by omega)
theorem wrap_one' (j : Nat) (h : j ≤ 4611686018427387904) : IntKind.i64.wrap ((j : Int) + 1) = ((j + 1 : Nat) : Int) := by
  rw [show (j : Int) + 1 = ((j + 1 : Nat) : Int) from rfl]
  exact IntWalk.i64_in _ (by omega)
theorem nodesL_take (l : List T) (j : Nat) : nodesL (l.take j) ≤ nodesL l := by
  have h := nodesL_append (l.take j) (l.drop j)
  rw [List.take_append_drop] at h
  omega
/-- An expression's own cells, and its parts in whatever world extends the one in which it lies. -/
theorem RxV.part {B : Nat} {w w' : World} {l : List T} {f : Nat → List Value} (h : ∀ i t, l[i]? = some t → RxV B w (f i) t) (hb : Below B w w') (hB : B ≤ w'.heap.size) {i : Nat} {t : T} (ht : l[i]? = some t) : RxV w'.heap.size w' (f i) t :=
  ((h i t ht).stay hb).mono hB

set_option maxHeartbeats 2000000 in
set_option maxRecDepth 100000 in
theorem refNodes_any : ∀ (N : Nat) (t : T), t.nodes ≤ N → t.nodes ≤ 1099511627776 → ∀ (cs : List Value) (w : World), RxV w.heap.size w cs t →
    Calls Tryd.prog 23 #[.agg cs.toArray] w fun e w' => e = .returned (.int .i64 (t.nodes : Int)) ∧ Below w.heap.size w w' := by
  intro N
  induction N with
  | zero => intro t h; have := nodes_pos t; omega
  | succ N ih =>
    rintro ⟨k, s, l⟩ hN hM cs w hv
    have IH := Lib.hid ih
    clear ih
    obtain ⟨A, cap, f, rfl, h1, h2, h0, h3, h4⟩ := hv.opened
    have H3 := Lib.hid h3
    have H4 := Lib.hid h4
    have HNN := Lib.hid (show T.nodes (.node k s l) = 1 + nodesL l by simp only [T.nodes])
    rw [HNN.out] at hN hM ⊢
    have HN := Lib.hid hN
    have HM := Lib.hid hM
    obtain ⟨cs, hcs⟩ : ∃ cs, cs = Value.int .i64 k :: (wds s ++ [.slice A l.length cap]) := ⟨_, rfl⟩
    have HCL := Lib.hid (show cs.length = 6 by rw [hcs]; rfl)
    have HC5 := Lib.hid (show cs[5]? = some (.slice A l.length cap) by rw [hcs]; rfl)
    have HLL := Lib.hid (len_nodes l)
    rw [← hcs]
    clear hv h1 h2 h0 h3 h4 hcs hN hM
    go_enter Tryd.func23, Tryd.ntmps23
    go_wp2_with ((with_reducible refine atDst 1 ?_); refine wpList_box rfl 27 _ rfl cs rfl (Below.refl w.heap.size w) (Nat.le_refl _) ?_; intro w1 hk1 hb1 hs1 _; have K1 := Lib.hid hk1; have B1 := Lib.hid hb1; clear hk1 hb1 hs1)
    go_loopw [3, 4] (fun n i wl => ∃ j : Nat, j ≤ l.length ∧ i = .int .i64 (j : Int) ∧ n = .int .i64 ((1 + nodesL (l.take j) : Nat) : Int) ∧ Below w1.heap.size w1 wl) (fun _ i _ => l.length - (intOf i).toNat)
    case atStart => exact ⟨0, by omega, by simp, by simp [nodesL], Below.refl _ _⟩
    case round =>
      obtain ⟨j, hj, rfl, rfl, hb⟩ := hrel
      have HB := Lib.hid hb
      clear hb
      have KR := Lib.hid (K1.out.below HB.out K1.out.lt)
      have c5 := KR.out.cell 5
      rw [HC5.out] at c5
      by_cases hjl : j < l.length
      · have j1 : (j : Int) < (l.length : Int) := Int.ofNat_lt.2 hjl
        obtain ⟨b, off, rfl, hb, hrng⟩ := H3.out (by rintro rfl; simp at hjl)
        have BW := Lib.hid (B1.out.trans (HB.out.mono B1.out.size))
        obtain ⟨u, hu⟩ : ∃ u, l[j]? = some u := ⟨_, List.getElem?_eq_getElem hjl⟩
        have HV := Lib.hid (RxV.part H4.out BW.out BW.out.size hu)
        have HRG := Lib.hid (range_below (hrng j hjl) BW.out hb)
        have hnx := nodesL_next l j u hu
        have htk := nodesL_take l (j + 1)
        have hmem := nodes_mem (List.mem_of_getElem? hu)
        have HU := Lib.hid hu
        have HNX := Lib.hid hnx
        have hle1 : (1 + nodesL (l.take j)) + u.nodes ≤ 4611686018427387904 := by have := HM.out; omega
        have HUN := Lib.hid (show u.nodes ≤ N by have := HN.out; omega)
        have HUM := Lib.hid (show u.nodes ≤ 1099511627776 by have := HM.out; omega)
        have e1 := wrap_sum _ _ hle1
        have e2 := wrap_sum' _ _ hle1
        have hj62 : j ≤ 4611686018427387904 := by have := HM.out; have := HLL.out; omega
        have e3 := wrap_one j hj62
        have e4 := wrap_one' j hj62
        have HEX := Lib.hid (show (1 + nodesL (l.take j)) + u.nodes = 1 + nodesL (l.take (j + 1)) by rw [hnx]; omega)
        obtain ⟨a, ha⟩ : ∃ a, a = 1 + nodesL (l.take j) := ⟨_, rfl⟩
        obtain ⟨c, hc⟩ : ∃ c, c = u.nodes := ⟨_, rfl⟩
        have HCU := Lib.hid hc
        rw [← ha, ← hc] at e1 e2 HEX
        rw [← ha]
        clear hrng hu hnx htk hmem hle1 ha hc hj62
        go_wp2_with ((with_reducible refine atDst 17 ?_); refine wpList_load_mid rfl 27 _ rfl b (off + j * 6) rfl (f j) _ HRG.out Tryd.underlying27 rfl (size_rx HV.out.length) ?_)
        refine (IH.out u HUN.out HUM.out (f j) wr HV.out).mono ?_
        rintro e w2 ⟨rfl, hb2⟩
        rw [← HCU.out]
        have B2 := Lib.hid (HB.out.trans (hb2.mono HB.out.size))
        clear hb2
        go_wp2_with fail
        exact ⟨⟨j + 1, by omega, by congr 1, by rw [← HEX.out, Int.natCast_add], B2.out⟩, by simp [intOf] <;> omega⟩
      · obtain rfl : j = l.length := by omega
        have j1 : ¬ ((l.length : Int) < (l.length : Int)) := by omega
        have B9 := Lib.hid (B1.out.trans (HB.out.mono B1.out.size))
        rw [List.take_length]
        go_wp2_with fail
        go_ret
        exact ⟨rfl, B9.out⟩
mutual
theorem depth_le : ∀ t : T, t.depth ≤ t.nodes
  | .node k s l => by
    have := depthL_le l
    simp only [T.depth, T.nodes]
    omega
theorem depthL_le : ∀ l : List T, depthL l ≤ nodesL l
  | [] => Nat.le_refl _
  | t :: r => by
    have h1 := depth_le t
    have h2 := depthL_le r
    simp only [depthL, nodesL]
    omega
end
theorem max_int (a c : Nat) : Value.int .i64 (if a < c then (c : Int) else (a : Int)) = Value.int .i64 ((max a c : Nat) : Int) := by
  congr 1
  split <;> omega
set_option maxHeartbeats 2000000 in
set_option maxRecDepth 100000 in
theorem refDepth_any : ∀ (N : Nat) (t : T), t.nodes ≤ N → t.nodes ≤ 1099511627776 → ∀ (cs : List Value) (w : World), RxV w.heap.size w cs t →
    Calls Tryd.prog 24 #[.agg cs.toArray] w fun e w' => e = .returned (.int .i64 (t.depth : Int)) ∧ Below w.heap.size w w' := by
  intro N
  induction N with
  | zero => intro t h; have := nodes_pos t; omega
  | succ N ih =>
    rintro ⟨k, s, l⟩ hN hM cs w hv
    have IH := Lib.hid ih
    clear ih
    obtain ⟨A, cap, f, rfl, h1, h2, h0, h3, h4⟩ := hv.opened
    have H3 := Lib.hid h3
    have H4 := Lib.hid h4
    have HNN := Lib.hid (show T.nodes (.node k s l) = 1 + nodesL l by simp only [T.nodes])
    have HDD := Lib.hid (show T.depth (.node k s l) = depthL l + 1 by simp only [T.depth])
    have HDL := Lib.hid (depthL_le l)
    rw [HNN.out] at hN hM
    rw [HDD.out]
    have HN := Lib.hid hN
    have HM := Lib.hid hM
    obtain ⟨cs, hcs⟩ : ∃ cs, cs = Value.int .i64 k :: (wds s ++ [.slice A l.length cap]) := ⟨_, rfl⟩
    have HCL := Lib.hid (show cs.length = 6 by rw [hcs]; rfl)
    have HC5 := Lib.hid (show cs[5]? = some (.slice A l.length cap) by rw [hcs]; rfl)
    have HLL := Lib.hid (len_nodes l)
    rw [← hcs]
    clear hv h1 h2 h0 h3 h4 hcs hN hM
    go_enter Tryd.func24, Tryd.ntmps24
    go_wp2_with ((with_reducible refine atDst 1 ?_); refine wpList_box rfl 27 _ rfl cs rfl (Below.refl w.heap.size w) (Nat.le_refl _) ?_; intro w1 hk1 hb1 hs1 _; have K1 := Lib.hid hk1; have B1 := Lib.hid hb1; clear hk1 hb1 hs1)
    go_loopw [3, 4] (fun n i wl => ∃ j : Nat, j ≤ l.length ∧ i = .int .i64 (j : Int) ∧ n = .int .i64 ((depthL (l.take j) : Nat) : Int) ∧ Below w1.heap.size w1 wl) (fun _ i _ => l.length - (intOf i).toNat)
    case atStart => exact ⟨0, by omega, by simp, by simp [depthL], Below.refl _ _⟩
    case round =>
      obtain ⟨j, hj, rfl, rfl, hb⟩ := hrel
      have HB := Lib.hid hb
      clear hb
      have KR := Lib.hid (K1.out.below HB.out K1.out.lt)
      have c5 := KR.out.cell 5
      rw [HC5.out] at c5
      by_cases hjl : j < l.length
      · have j1 : (j : Int) < (l.length : Int) := Int.ofNat_lt.2 hjl
        obtain ⟨b, off, rfl, hb, hrng⟩ := H3.out (by rintro rfl; simp at hjl)
        have BW := Lib.hid (B1.out.trans (HB.out.mono B1.out.size))
        obtain ⟨u, hu⟩ : ∃ u, l[j]? = some u := ⟨_, List.getElem?_eq_getElem hjl⟩
        have HV := Lib.hid (RxV.part H4.out BW.out BW.out.size hu)
        have HRG := Lib.hid (range_below (hrng j hjl) BW.out hb)
        have hnx := depthL_next l j u hu
        have hmem := nodes_mem (List.mem_of_getElem? hu)
        have HU := Lib.hid hu
        have HNX := Lib.hid hnx
        have HUN := Lib.hid (show u.nodes ≤ N by have := HN.out; omega)
        have HUM := Lib.hid (show u.nodes ≤ 1099511627776 by have := HM.out; omega)
        have hj62 : j ≤ 4611686018427387904 := by have := HM.out; have := HLL.out; omega
        have e3 := wrap_one j hj62
        have e4 := wrap_one' j hj62
        obtain ⟨a, ha⟩ : ∃ a, a = depthL (l.take j) := ⟨_, rfl⟩
        obtain ⟨c, hc⟩ : ∃ c, c = u.depth := ⟨_, rfl⟩
        have HCU := Lib.hid hc
        have HEX := Lib.hid (show max a c = depthL (l.take (j + 1)) by rw [hnx, ha, hc])
        rw [← ha]
        clear hrng hu hnx hmem ha hc hj62
        go_wp2_with ((with_reducible refine atDst 17 ?_); refine wpList_load_mid rfl 27 _ rfl b (off + j * 6) rfl (f j) _ HRG.out Tryd.underlying27 rfl (size_rx HV.out.length) ?_)
        refine (IH.out u HUN.out HUM.out (f j) wr HV.out).mono ?_
        rintro e w2 ⟨rfl, hb2⟩
        rw [← HCU.out]
        have B2 := Lib.hid (HB.out.trans (hb2.mono HB.out.size))
        clear hb2
        go_wp2_with fail
        exact ⟨⟨j + 1, by omega, by congr 1, by rw [← HEX.out]; exact max_int a c, B2.out⟩, by simp [intOf] <;> omega⟩
      · obtain rfl : j = l.length := by omega
        have j1 : ¬ ((l.length : Int) < (l.length : Int)) := by omega
        have B9 := Lib.hid (B1.out.trans (HB.out.mono B1.out.size))
        rw [List.take_length]
        obtain ⟨a, ha⟩ : ∃ a, a = depthL l := ⟨_, rfl⟩
        have hle : a ≤ 4611686018427387904 := by rw [ha]; have := HDL.out; have := HM.out; omega
        rw [← ha]
        have e3 := wrap_one a hle
        have e4 := wrap_one' a hle
        have HA := Lib.hid ha
        clear ha hle
        go_wp2_with fail
        go_ret
        rw [← HA.out]
        exact ⟨rfl, B9.out⟩
end Go.Proofs.YtmlojjgddmnbmaaDoor
namespace Go.Proofs.YtmlojjgddmnbmaaDoor
open Go.RowKit
set_option linter.unusedSimpArgs false
set_option linter.unusedVariables false

section
variable {P : Program} {w : World} {ops : Array Oper} {rest : List Oper} {o : Oper} {a : Act} {Q : Exit → Act → World → Prop}
/-- A struct or an array in the midst of a block, loaded (a guarded operation too). -/
theorem wpList_ldMidG (hgd : Region.wanted o (yielded ops a.tmps) = true) (ty : TypeId) (x : Operand) (ho : o.op = .load ty x) (b off : Nat) (hx : a.eval x = .pointer (some ⟨b, off, none⟩)) (cs : List Value) (d : TypeDesc)
    (hg : w.rangeAt b off cs) (hu : P.underlying ty = some d) (hd : d.isRow = true) (hi : (P.info? ty).map (·.size) = some cs.length)
    (h : wpList P ops Q rest (a.put o.dst (.agg cs.toArray)) w) : wpList P ops Q (o :: rest) a w := by
  refine BigFrame.wpList_want hgd fun K hK => ?_
  exact wp_load_mid ty x ho b off hx cs d hg hu hd hi (hK _ _ h)
theorem wpList_neSetG (hgd : Region.wanted o (yielded ops a.tmps) = true) {b : Bool} {p q : Nat → Bool} (hb : (!eqS p q) = b) (t e : TypeId) (x y : Operand) (oT : TypeId) (ho : o.op = .binOp .neq t x y oT) (hm : P.eqGuardType P.depth t = false)
    (ht : P.underlying t = some (.array 4 e)) (he : P.underlying e = some (.int .u64)) (hsz : ∀ w, (sizeOf e).run P w = .ok 1 w)
    (ex : a.eval x = .agg (wds p).toArray) (ey : a.eval y = .agg (wds q).toArray)
    (h : wpList P ops Q rest (a.put o.dst (.bool b)) w) : wpList P ops Q (o :: rest) a w := by
  refine BigFrame.wpList_want hgd fun K hK => ?_
  unfold Oper.wp
  simp only [execOp, ho, ex, ey, Sem.run_bind, run_eqGuard_agg w .neq t x y _ _ hm, Result.andThen_ok, run_neq_sets w t e ht he hsz p q, Sem.run_pure, hb]
  exact hK _ _ h
end
theorem guardSet : Tryd.prog.eqGuardType Tryd.prog.depth 24 = false := by kernel_rfl
theorem sizeU64 : ∀ w, (sizeOf 22).run Tryd.prog w = .ok 1 w := by
  intro w
  have h : (Tryd.prog.info? 22).map (·.size) = some 1 := by kernel_rfl
  cases hi : Tryd.prog.info? 22 with
  | none => rw [hi] at h; cases h
  | some i =>
    rw [hi] at h
    have h' : i.size = 1 := by simpa using h
    simp [sizeOf, typeInfo, hi, h']
theorem sameL_iff : ∀ {l m : List T}, sameL l m = true ↔ l.length = m.length ∧ ∀ (i : Nat) (a b : T), l[i]? = some a → m[i]? = some b → sameT a b = true
  | [], [] => by simp [sameL]
  | [], _ :: _ => by simp [sameL]
  | _ :: _, [] => by simp [sameL]
  | a :: r, b :: s => by
    have ih := @sameL_iff r s
    simp only [sameL, Bool.and_eq_true, ih, List.length_cons]
    constructor
    · rintro ⟨h1, h2, h3⟩
      refine ⟨by omega, fun i x y hx hy => ?_⟩
      cases i with
      | zero => simp at hx hy; rw [← hx, ← hy]; exact h1
      | succ i => exact h3 i x y (by simpa using hx) (by simpa using hy)
    · rintro ⟨h1, h2⟩
      exact ⟨h2 0 a b rfl rfl, by omega, fun i x y hx hy => h2 (i + 1) x y (by simpa using hx) (by simpa using hy)⟩
/-- An expression's set among its cells. -/
theorem set_range {w : World} {g : Nat} {t : TypeId} {k : Int} {s : Nat → Bool} {v : Value} (h : Blk w g t (.int .i64 k :: (wds s ++ [v]))) : w.rangeAt g 1 (wds s) := by
  intro j u hu
  have hj : j < 4 := by simpa [wds_length] using (List.getElem?_eq_some_iff.1 hu).1
  rw [h.cell, Nat.add_comm 1 j, List.getElem?_cons_succ, List.getElem?_append_left (by rw [wds_length]; exact hj)]
  exact hu

theorem set_range' {w : World} {g : Nat} {t : TypeId} {k : Int} {s : Nat → Bool} {v : Value} {cs : List Value} (hc : cs = .int .i64 k :: (wds s ++ [v])) (h : Blk w g t cs) : w.rangeAt g 1 (wds s) :=
  set_range (hc ▸ h)
set_option maxHeartbeats 4000000 in
set_option maxRecDepth 100000 in
theorem refSame_any : ∀ (N : Nat) (t u : T), t.nodes ≤ N → t.nodes ≤ 1099511627776 → ∀ (cs ds : List Value) (w : World), RxV w.heap.size w cs t → RxV w.heap.size w ds u →
    Calls Tryd.prog 14 #[.agg cs.toArray, .agg ds.toArray] w fun e w' => e = .returned (.bool (sameT t u)) ∧ Below w.heap.size w w' := by
  intro N
  induction N with
  | zero => intro t u h; have := nodes_pos t; omega
  | succ N ih =>
    rintro ⟨k, s, l⟩ ⟨k', s', m⟩ hN hM cs ds w hv hv'
    have IH := Lib.hid ih
    clear ih
    obtain ⟨A, cap, f, rfl, h1, h2, h0, h3, h4⟩ := hv.opened
    obtain ⟨A', cap', f', rfl, h1', h2', h0', h3', h4'⟩ := hv'.opened
    have H3 := Lib.hid h3
    have H4 := Lib.hid h4
    have H3' := Lib.hid h3'
    have H4' := Lib.hid h4'
    have HNN := Lib.hid (show T.nodes (.node k s l) = 1 + nodesL l by simp only [T.nodes])
    have HSS := Lib.hid (show sameT (.node k s l) (.node k' s' m) = (decide (k = k') && eqS s s' && sameL l m) by simp only [sameT])
    rw [HNN.out] at hN hM
    rw [HSS.out]
    have HN := Lib.hid hN
    have HM := Lib.hid hM
    have HLL := Lib.hid (len_nodes l)
    obtain ⟨cs, hcs⟩ : ∃ cs, cs = Value.int .i64 k :: (wds s ++ [.slice A l.length cap]) := ⟨_, rfl⟩
    have HCL := Lib.hid (show cs.length = 6 by rw [hcs]; rfl)
    have HC0 := Lib.hid (show cs[0]? = some (.int .i64 k) by rw [hcs]; rfl)
    have HC5 := Lib.hid (show cs[5]? = some (.slice A l.length cap) by rw [hcs]; rfl)
    have HCS := Lib.hid hcs
    obtain ⟨ds, hds⟩ : ∃ ds, ds = Value.int .i64 k' :: (wds s' ++ [.slice A' m.length cap']) := ⟨_, rfl⟩
    have HDL := Lib.hid (show ds.length = 6 by rw [hds]; rfl)
    have HD0 := Lib.hid (show ds[0]? = some (.int .i64 k') by rw [hds]; rfl)
    have HD5 := Lib.hid (show ds[5]? = some (.slice A' m.length cap') by rw [hds]; rfl)
    have HDS := Lib.hid hds
    rw [← hcs, ← hds]
    clear hv h1 h2 h0 h3 h4 hcs hN hM hv' h1' h2' h0' h3' h4' hds
    by_cases hk : k = k'
    · cases hs : eqS s s' with
      | false =>
        have HNE := Lib.hid (show (!eqS s s') = true by rw [hs]; rfl)
        rw [Bool.and_false, Bool.false_and]
        subst hk
        clear hs
        go_enter Tryd.func14, Tryd.ntmps14
        go_wp2_with (first
          | ((with_reducible refine atDst 2 ?_); refine wpList_box rfl 27 _ rfl cs rfl (Below.refl w.heap.size w) (Nat.le_refl _) ?_; intro w1 hk1 hb1 hs1 _; have K1 := Lib.hid hk1; have B1 := Lib.hid hb1; clear hk1 hb1 hs1)
          | ((with_reducible refine atDst 3 ?_); refine wpList_box rfl 27 _ rfl ds rfl (Below.refl w1.heap.size w1) (Nat.le_refl _) ?_; intro w2 hk2 hb2 hs2 _; have L2 := Lib.hid hk2; have B2 := Lib.hid (B1.out.trans (hb2.mono B1.out.size)); have K2 := Lib.hid (K1.out.below hb2 K1.out.lt); have a0 := K2.out.cell 0; rw [HC0.out] at a0; have b0 := L2.out.cell 0; rw [HD0.out] at b0; have a5 := K2.out.cell 5; rw [HC5.out] at a5; have b5 := L2.out.cell 5; rw [HD5.out] at b5; have RS := Lib.hid (set_range' HCS.out K2.out); have RS' := Lib.hid (set_range' HDS.out L2.out); clear hk2 hb2 hs2 K1 B1)
          | ((with_reducible refine atDst 13 ?_); refine wpList_ldMidG rfl 24 _ rfl w.heap.size 1 rfl (wds s) _ RS.out Tryd.underlying24 rfl (size_set s) ?_)
          | ((with_reducible refine atDst 15 ?_); refine wpList_ldMidG rfl 24 _ rfl w1.heap.size 1 rfl (wds s') _ RS'.out Tryd.underlying24 rfl (size_set s') ?_)
          | ((with_reducible refine atDst 16 ?_); refine wpList_neSetG rfl HNE.out 24 22 (.tmp 13) (.tmp 15) 24 rfl guardSet Tryd.underlying24 Tryd.underlying22 sizeU64 rfl rfl ?_))
        go_ret
        exact ⟨rfl, B2.out⟩
      | true =>
        have HNE := Lib.hid (show (!eqS s s') = false by rw [hs]; rfl)
        rw [decide_eq_true hk, Bool.true_and, Bool.true_and]
        subst hk
        clear hs
        by_cases hlen : l.length = m.length
        · have hl1 : ((l.length : Int) != (m.length : Int)) = false := by rw [hlen]; simp
          have HLM := Lib.hid hlen
          have hl2 : (m.length : Int) = (l.length : Int) := by rw [hlen]
          rw [← hlen] at HD5
          clear hlen hl1 hl2
          go_enter Tryd.func14, Tryd.ntmps14
          go_wp2_with (first
            | ((with_reducible refine atDst 2 ?_); refine wpList_box rfl 27 _ rfl cs rfl (Below.refl w.heap.size w) (Nat.le_refl _) ?_; intro w1 hk1 hb1 hs1 _; have K1 := Lib.hid hk1; have B1 := Lib.hid hb1; clear hk1 hb1 hs1)
            | ((with_reducible refine atDst 3 ?_); refine wpList_box rfl 27 _ rfl ds rfl (Below.refl w1.heap.size w1) (Nat.le_refl _) ?_; intro w2 hk2 hb2 hs2 _; have L2 := Lib.hid hk2; have B2 := Lib.hid (B1.out.trans (hb2.mono B1.out.size)); have K2 := Lib.hid (K1.out.below hb2 K1.out.lt); have a0 := K2.out.cell 0; rw [HC0.out] at a0; have b0 := L2.out.cell 0; rw [HD0.out] at b0; have a5 := K2.out.cell 5; rw [HC5.out] at a5; have b5 := L2.out.cell 5; rw [HD5.out] at b5; have RS := Lib.hid (set_range' HCS.out K2.out); have RS' := Lib.hid (set_range' HDS.out L2.out); clear hk2 hb2 hs2 K1 B1)
            | ((with_reducible refine atDst 13 ?_); refine wpList_ldMidG rfl 24 _ rfl w.heap.size 1 rfl (wds s) _ RS.out Tryd.underlying24 rfl (size_set s) ?_)
            | ((with_reducible refine atDst 15 ?_); refine wpList_ldMidG rfl 24 _ rfl w1.heap.size 1 rfl (wds s') _ RS'.out Tryd.underlying24 rfl (size_set s') ?_)
            | ((with_reducible refine atDst 16 ?_); refine wpList_neSetG rfl HNE.out 24 22 (.tmp 13) (.tmp 15) 24 rfl guardSet Tryd.underlying24 Tryd.underlying22 sizeU64 rfl rfl ?_))
          go_loopw [5] (fun i wl => ∃ j : Nat, j ≤ l.length ∧ i = .int .i64 (j : Int) ∧ (∀ (i : Nat) (a b : T), i < j → l[i]? = some a → m[i]? = some b → sameT a b = true) ∧ Below w2.heap.size w2 wl) (fun i _ => l.length - (intOf i).toNat)
          case atStart => exact ⟨0, by omega, by simp, fun i a b h => by omega, Below.refl _ _⟩
          case round =>
            obtain ⟨j, hj, rfl, hsm, hb⟩ := hrel
            have HSM := Lib.hid hsm
            have HB := Lib.hid hb
            clear hsm hb
            have a5r := (K2.out.below HB.out K2.out.lt).cell 5
            rw [HC5.out] at a5r
            by_cases hjl : j < l.length
            · have j1 : (j : Int) < (l.length : Int) := Int.ofNat_lt.2 hjl
              have BW := Lib.hid (B2.out.trans (HB.out.mono B2.out.size))
              have hjm : j < m.length := by rw [← HLM.out]; exact hjl
              obtain ⟨b, off, rfl, hb, hrng⟩ := H3.out (by rintro rfl; simp at hjl)
              obtain ⟨b', off', rfl, hb', hrng'⟩ := H3'.out (by rintro rfl; simp at hjm)
              obtain ⟨a, ha⟩ : ∃ a, l[j]? = some a := ⟨_, List.getElem?_eq_getElem hjl⟩
              obtain ⟨c, hc⟩ : ∃ c, m[j]? = some c := ⟨_, List.getElem?_eq_getElem hjm⟩
              have HV := Lib.hid (RxV.part H4.out BW.out BW.out.size ha)
              have HV' := Lib.hid (RxV.part H4'.out BW.out BW.out.size hc)
              have HRG := Lib.hid (range_below (hrng j hjl) BW.out hb)
              have HRG' := Lib.hid (range_below (hrng' j hjm) BW.out hb')
              have HB1 := Lib.hid (Nat.lt_of_lt_of_le hb BW.out.size)
              have HB2 := Lib.hid (Nat.lt_of_lt_of_le hb' BW.out.size)
              have hmem := nodes_mem (List.mem_of_getElem? ha)
              have HUN := Lib.hid (show a.nodes ≤ N by have := HN.out; omega)
              have HUM := Lib.hid (show a.nodes ≤ 1099511627776 by have := HM.out; omega)
              have HAJ := Lib.hid ha
              have HCJ := Lib.hid hc
              have hj62 : j ≤ 4611686018427387904 := by have := HM.out; have := HLL.out; omega
              have e3 := wrap_one j hj62
              have e4 := wrap_one' j hj62
              have KW := Lib.hid (K2.out.below HB.out K2.out.lt)
              have LW := Lib.hid (L2.out.below HB.out L2.out.lt)
              have aW : ∀ W, Below wr.heap.size wr W → W.cell? ⟨w.heap.size, 5, none⟩ = some (.slice (some ⟨b, off, none⟩) l.length cap) := fun W hW => by
                have := (KW.out.below hW KW.out.lt).cell 5
                rw [HC5.out] at this
                exact this
              have bW : ∀ W, Below wr.heap.size wr W → W.cell? ⟨w1.heap.size, 5, none⟩ = some (.slice (some ⟨b', off', none⟩) l.length cap') := fun W hW => by
                have := (LW.out.below hW LW.out.lt).cell 5
                rw [HD5.out] at this
                exact this
              clear hrng hrng' ha hc hmem hj62 hjm hb hb'
              go_wp2_with fail
              refine sx_startB (B := wr.heap.size) (w0 := wr) (by kernel_rfl) (Below.refl _ _) (fun wd hwd hX => ?_)
              have SZ := Lib.hid hX.size
              have VD := Lib.hid ((HV.out.stay hX).mono SZ.out)
              have VD' := Lib.hid ((HV'.out.stay hX).mono SZ.out)
              clear hwd
              refine sx_take (i := 0) (oi := ⟨some 34, _, _, _, _, _⟩) (v := ?_) rfl (by kernel_rfl) (by kernel_rfl) (by kernel_rfl) (fun _ _ _ h => h) rfl hX ?_ ?_; rotate_left; (intro W hW; go_simp; try with_reducible rfl); simp only [Act.put, List.setIfInBounds_toArray, List.set_cons_zero, List.set_cons_succ]
              refine sx_take (i := 1) (oi := ⟨some 35, _, _, _, _, _⟩) (v := ?_) rfl (by kernel_rfl) (by kernel_rfl) (by kernel_rfl) (fun _ _ _ h => h) rfl hX ?_ ?_; rotate_left; (intro W hW; go_simp; try with_reducible rfl); simp only [Act.put, List.setIfInBounds_toArray, List.set_cons_zero, List.set_cons_succ]
              refine sx_take (i := 2) (oi := ⟨some 36, _, _, _, _, _⟩) (v := ?_) rfl (by kernel_rfl) (by kernel_rfl) (by kernel_rfl) (fun _ _ _ h => h) rfl hX ?_ ?_; rotate_left; (intro W hW; go_simp; try with_reducible rfl); simp only [Act.put, List.setIfInBounds_toArray, List.set_cons_zero, List.set_cons_succ]
              refine sx_take (i := 3) (oi := ⟨some 37, _, _, _, _, _⟩) (v := ?_) rfl (by kernel_rfl) (by kernel_rfl) (by kernel_rfl) (fun _ _ _ h => h) rfl hX ?_ ?_; rotate_left; (intro W hW; go_simp; try with_reducible rfl); simp only [Act.put, List.setIfInBounds_toArray, List.set_cons_zero, List.set_cons_succ]
              refine sx_take (i := 4) (oi := ⟨some 38, _, _, _, _, _⟩) (v := .agg (f j).toArray) rfl (by kernel_rfl) (by kernel_rfl) (by kernel_rfl) (fun _ _ _ h => h) rfl hX (ld_mid 27 _ rfl b (off + j * 6) rfl _ _ HRG.out HB1.out Tryd.underlying27 rfl (size_rx HV.out.length)) ?_; simp only [Act.put, List.setIfInBounds_toArray, List.set_cons_zero, List.set_cons_succ]
              refine sx_take (i := 5) (oi := ⟨some 39, _, _, _, _, _⟩) (v := ?_) rfl (by kernel_rfl) (by kernel_rfl) (by kernel_rfl) (fun _ _ _ h => h) rfl hX ?_ ?_; rotate_left; (intro W hW; go_simp; try with_reducible rfl); simp only [Act.put, List.setIfInBounds_toArray, List.set_cons_zero, List.set_cons_succ]
              refine sx_take (i := 6) (oi := ⟨some 40, _, _, _, _, _⟩) (v := ?_) rfl (by kernel_rfl) (by kernel_rfl) (by kernel_rfl) (fun _ _ _ h => h) rfl hX ?_ ?_; rotate_left; (intro W hW; go_simp; try with_reducible rfl); simp only [Act.put, List.setIfInBounds_toArray, List.set_cons_zero, List.set_cons_succ]
              refine sx_take (i := 7) (oi := ⟨some 41, _, _, _, _, _⟩) (v := ?_) rfl (by kernel_rfl) (by kernel_rfl) (by kernel_rfl) (fun _ _ _ h => h) rfl hX ?_ ?_; rotate_left; (intro W hW; go_simp; try with_reducible rfl); simp only [Act.put, List.setIfInBounds_toArray, List.set_cons_zero, List.set_cons_succ]
              refine sx_take (i := 8) (oi := ⟨some 42, _, _, _, _, _⟩) (v := ?_) rfl (by kernel_rfl) (by kernel_rfl) (by kernel_rfl) (fun _ _ _ h => h) rfl hX ?_ ?_; rotate_left; (intro W hW; go_simp; try with_reducible rfl); simp only [Act.put, List.setIfInBounds_toArray, List.set_cons_zero, List.set_cons_succ]
              refine sx_take (i := 9) (oi := ⟨some 43, _, _, _, _, _⟩) (v := .agg (f' j).toArray) rfl (by kernel_rfl) (by kernel_rfl) (by kernel_rfl) (fun _ _ _ h => h) rfl hX (ld_mid 27 _ rfl b' (off' + j * 6) rfl _ _ HRG'.out HB2.out Tryd.underlying27 rfl (size_rx HV'.out.length)) ?_; simp only [Act.put, List.setIfInBounds_toArray, List.set_cons_zero, List.set_cons_succ]
              refine sx_actB (i := 10) (o := ⟨some 44, _, _, _, _, _⟩) rfl (by kernel_rfl) rfl hX (fun K hK => ?_)
              go_wp2_with fail
              refine (IH.out a c HUN.out HUM.out (f j) (f' j) wd VD.out VD'.out).mono ?_
              rintro e w6 ⟨rfl, hb⟩
              obtain ⟨x, hx⟩ : ∃ x, sameT a c = x := ⟨_, rfl⟩
              rw [hx]
              have HX := Lib.hid hx
              refine hK _ _ (hb.mono SZ.out) ?_
              clear hK K hx
              replace hX := hX.trans (hb.mono SZ.out)
              clear hb
              refine sx_take (i := 11) (oi := ⟨some 45, _, _, _, _, _⟩) (v := ?_) rfl (by kernel_rfl) (by kernel_rfl) (by kernel_rfl) (fun _ _ _ h => h) rfl hX ?_ ?_; rotate_left; (intro W hW; go_simp; try with_reducible rfl); simp only [Act.put, List.setIfInBounds_toArray, List.set_cons_zero, List.set_cons_succ]
              refine wpAnyH_done (by kernel_rfl) ?_ _
              have B6 := Lib.hid (HB.out.trans (hX.mono HB.out.size))
              clear hX SZ
              cases x with
              | true =>
                go_wp2_with fail
                refine ⟨⟨j + 1, by omega, by congr 1, fun i a2 b2 hi ha2 hb2 => ?_, B6.out⟩, by simp [intOf] <;> omega⟩
                by_cases hij : i < j
                · exact HSM.out i a2 b2 hij ha2 hb2
                · obtain rfl : i = j := by omega
                  rw [HAJ.out] at ha2
                  rw [HCJ.out] at hb2
                  obtain rfl := Option.some.inj ha2
                  obtain rfl := Option.some.inj hb2
                  exact HX.out
              | false =>
                have HF := Lib.hid (show sameL l m = false by
                  rw [Bool.eq_false_iff]
                  intro h
                  have := (sameL_iff.1 h).2 j a c HAJ.out HCJ.out
                  rw [HX.out] at this
                  cases this)
                have B9 := Lib.hid (B2.out.trans (B6.out.mono B2.out.size))
                go_wp2_with fail
                go_ret
                rw [HF.out]
                exact ⟨rfl, B9.out⟩
            · obtain rfl : j = l.length := by omega
              have j1 : ¬ ((l.length : Int) < (l.length : Int)) := by omega
              have HF := Lib.hid (show sameL l m = true from sameL_iff.2 ⟨HLM.out, fun i a b ha hb => HSM.out i a b (List.getElem?_eq_some_iff.1 ha).1 ha hb⟩)
              have B9 := Lib.hid (B2.out.trans (HB.out.mono B2.out.size))
              go_wp2_with fail
              go_ret
              rw [HF.out]
              exact ⟨rfl, B9.out⟩
        · have hl1 : ¬ (l.length : Int) = (m.length : Int) := by omega
          have HF := Lib.hid (show sameL l m = false by
            rw [Bool.eq_false_iff]
            intro h
            exact hlen (sameL_iff.1 h).1)
          clear hlen
          go_enter Tryd.func14, Tryd.ntmps14
          go_wp2_with (first
            | ((with_reducible refine atDst 2 ?_); refine wpList_box rfl 27 _ rfl cs rfl (Below.refl w.heap.size w) (Nat.le_refl _) ?_; intro w1 hk1 hb1 hs1 _; have K1 := Lib.hid hk1; have B1 := Lib.hid hb1; clear hk1 hb1 hs1)
            | ((with_reducible refine atDst 3 ?_); refine wpList_box rfl 27 _ rfl ds rfl (Below.refl w1.heap.size w1) (Nat.le_refl _) ?_; intro w2 hk2 hb2 hs2 _; have L2 := Lib.hid hk2; have B2 := Lib.hid (B1.out.trans (hb2.mono B1.out.size)); have K2 := Lib.hid (K1.out.below hb2 K1.out.lt); have a0 := K2.out.cell 0; rw [HC0.out] at a0; have b0 := L2.out.cell 0; rw [HD0.out] at b0; have a5 := K2.out.cell 5; rw [HC5.out] at a5; have b5 := L2.out.cell 5; rw [HD5.out] at b5; have RS := Lib.hid (set_range' HCS.out K2.out); have RS' := Lib.hid (set_range' HDS.out L2.out); clear hk2 hb2 hs2 K1 B1)
            | ((with_reducible refine atDst 13 ?_); refine wpList_ldMidG rfl 24 _ rfl w.heap.size 1 rfl (wds s) _ RS.out Tryd.underlying24 rfl (size_set s) ?_)
            | ((with_reducible refine atDst 15 ?_); refine wpList_ldMidG rfl 24 _ rfl w1.heap.size 1 rfl (wds s') _ RS'.out Tryd.underlying24 rfl (size_set s') ?_)
            | ((with_reducible refine atDst 16 ?_); refine wpList_neSetG rfl HNE.out 24 22 (.tmp 13) (.tmp 15) 24 rfl guardSet Tryd.underlying24 Tryd.underlying22 sizeU64 rfl rfl ?_))
          go_ret
          rw [HF.out]
          exact ⟨rfl, B2.out⟩
    · have hk1 : (k != k') = true := by simpa using hk
      have hk2 : decide (k = k') = false := by simpa using hk
      rw [hk2, Bool.false_and, Bool.false_and]
      have HNE := Lib.hid (rfl : (0 : Nat) = 0)
      go_enter Tryd.func14, Tryd.ntmps14
      go_wp2_with (first
        | ((with_reducible refine atDst 2 ?_); refine wpList_box rfl 27 _ rfl cs rfl (Below.refl w.heap.size w) (Nat.le_refl _) ?_; intro w1 hk1 hb1 hs1 _; have K1 := Lib.hid hk1; have B1 := Lib.hid hb1; clear hk1 hb1 hs1)
        | ((with_reducible refine atDst 3 ?_); refine wpList_box rfl 27 _ rfl ds rfl (Below.refl w1.heap.size w1) (Nat.le_refl _) ?_; intro w2 hk2 hb2 hs2 _; have L2 := Lib.hid hk2; have B2 := Lib.hid (B1.out.trans (hb2.mono B1.out.size)); have K2 := Lib.hid (K1.out.below hb2 K1.out.lt); have a0 := K2.out.cell 0; rw [HC0.out] at a0; have b0 := L2.out.cell 0; rw [HD0.out] at b0; have a5 := K2.out.cell 5; rw [HC5.out] at a5; have b5 := L2.out.cell 5; rw [HD5.out] at b5; have RS := Lib.hid (set_range' HCS.out K2.out); have RS' := Lib.hid (set_range' HDS.out L2.out); clear hk2 hb2 hs2 K1 B1)
        | ((with_reducible refine atDst 13 ?_); refine wpList_ldMidG rfl 24 _ rfl w.heap.size 1 rfl (wds s) _ RS.out Tryd.underlying24 rfl (size_set s) ?_)
        | ((with_reducible refine atDst 15 ?_); refine wpList_ldMidG rfl 24 _ rfl w1.heap.size 1 rfl (wds s') _ RS'.out Tryd.underlying24 rfl (size_set s') ?_)
        | ((with_reducible refine atDst 16 ?_); refine wpList_neSetG rfl HNE.out 24 22 (.tmp 13) (.tmp 15) 24 rfl guardSet Tryd.underlying24 Tryd.underlying22 sizeU64 rfl rfl ?_))
      go_ret
      exact ⟨rfl, B2.out⟩
end Go.Proofs.YtmlojjgddmnbmaaDoor
namespace Go.Proofs.YtmlojjgddmnbmaaDoor
open Go.RowKit
set_option linter.unusedSimpArgs false
set_option linter.unusedVariables false

theorem cmpL_at : ∀ (l m : List T) (j : Nat) (a b : T), (∀ (i : Nat) (x y : T), i < j → l[i]? = some x → m[i]? = some y → cmpT x y = 0) → l[j]? = some a → m[j]? = some b → cmpT a b ≠ 0 → cmpL l m = cmpT a b
  | [], _, j, a, b, _, ha, _, _ => by simp at ha
  | _ :: _, [], j, a, b, _, _, hb, _ => by simp at hb
  | x :: r, y :: s, 0, a, b, _, ha, hb, hne => by
    simp at ha hb
    subst ha
    subst hb
    simp only [cmpL]
    rw [if_neg hne]
  | x :: r, y :: s, j + 1, a, b, h, ha, hb, hne => by
    have h0 := h 0 x y (by omega) rfl rfl
    simp only [cmpL]
    rw [if_pos h0]
    exact cmpL_at r s j a b (fun i p q hi hp hq => h (i + 1) p q (by omega) (by simpa using hp) (by simpa using hq)) (by simpa using ha) (by simpa using hb) hne
theorem cmpL_end : ∀ (l m : List T), (∀ (i : Nat) (x y : T), l[i]? = some x → m[i]? = some y → cmpT x y = 0) → cmpL l m = if l.length < m.length then -1 else if m.length < l.length then 1 else 0
  | [], [], _ => rfl
  | [], _ :: _, _ => by simp [cmpL]
  | _ :: _, [], _ => by simp [cmpL]
  | x :: r, y :: s, h => by
    have h0 := h 0 x y rfl rfl
    have ih := cmpL_end r s fun i p q hp hq => h (i + 1) p q (by simpa using hp) (by simpa using hq)
    simp only [cmpL]
    rw [if_pos h0, ih]
    simp only [List.length_cons, Nat.add_lt_add_iff_right]
set_option maxHeartbeats 8000000 in
set_option maxRecDepth 100000 in
theorem refCompare_any : ∀ (N : Nat) (t u : T), t.nodes ≤ N → t.nodes ≤ 1099511627776 → ∀ (cs ds : List Value) (w : World), RxV w.heap.size w cs t → RxV w.heap.size w ds u →
    Calls Tryd.prog 61 #[.agg cs.toArray, .agg ds.toArray] w fun e w' => e = .returned (.int .i64 (cmpT t u)) ∧ Below w.heap.size w w' := by
  intro N
  induction N with
  | zero => intro t u h; have := nodes_pos t; omega
  | succ N ih =>
    rintro ⟨k, s, l⟩ ⟨k', s', m⟩ hN hM cs ds w hv hv'
    have IH := Lib.hid ih
    clear ih
    obtain ⟨A, cap, f, rfl, h1, h2, h0, h3, h4⟩ := hv.opened
    obtain ⟨A', cap', f', rfl, h1', h2', h0', h3', h4'⟩ := hv'.opened
    have H3 := Lib.hid h3
    have H4 := Lib.hid h4
    have H3' := Lib.hid h3'
    have H4' := Lib.hid h4'
    have HNN := Lib.hid (show T.nodes (.node k s l) = 1 + nodesL l by simp only [T.nodes])
    have HSS := Lib.hid (show cmpT (.node k s l) (.node k' s' m) = if k = k' then (if k = 3 ∧ eqS s s' = false then (if lessS s s' then -1 else 1) else cmpL l m) else if k < k' then -1 else 1 by simp only [cmpT])
    rw [HNN.out] at hN hM
    rw [HSS.out]
    have HN := Lib.hid hN
    have HM := Lib.hid hM
    have HLL := Lib.hid (len_nodes l)
    obtain ⟨cs, hcs⟩ : ∃ cs, cs = Value.int .i64 k :: (wds s ++ [.slice A l.length cap]) := ⟨_, rfl⟩
    have HCL := Lib.hid (show cs.length = 6 by rw [hcs]; rfl)
    have HC0 := Lib.hid (show cs[0]? = some (.int .i64 k) by rw [hcs]; rfl)
    have HC5 := Lib.hid (show cs[5]? = some (.slice A l.length cap) by rw [hcs]; rfl)
    have HCS := Lib.hid hcs
    obtain ⟨ds, hds⟩ : ∃ ds, ds = Value.int .i64 k' :: (wds s' ++ [.slice A' m.length cap']) := ⟨_, rfl⟩
    have HDL := Lib.hid (show ds.length = 6 by rw [hds]; rfl)
    have HD0 := Lib.hid (show ds[0]? = some (.int .i64 k') by rw [hds]; rfl)
    have HD5 := Lib.hid (show ds[5]? = some (.slice A' m.length cap') by rw [hds]; rfl)
    have HDS := Lib.hid hds
    rw [← hcs, ← hds]
    clear hv h1 h2 h0 h3 h4 hcs hN hM hv' h1' h2' h0' h3' h4' hds
    by_cases hk : k = k'
    · subst hk
      rw [if_pos rfl]
      by_cases h3k : k = 3
      · cases hs : eqS s s' with
        | false =>
          have HNE := Lib.hid (show (!eqS s s') = true by rw [hs]; rfl)
          rw [if_pos ⟨h3k, rfl⟩]
          subst h3k
          clear hs
          cases hl : lessS s s' with
          | true =>
            rw [if_pos rfl]
            have HL := Lib.hid hl
            clear hl
            go_enter Tryd.func61, Tryd.ntmps61
            go_wp2_with (first
              | ((with_reducible refine atDst 2 ?_); refine wpList_box rfl 27 _ rfl cs rfl (Below.refl w.heap.size w) (Nat.le_refl _) ?_; intro w1 hk1 hb1 hs1 _; have K1 := Lib.hid hk1; have B1 := Lib.hid hb1; clear hk1 hb1 hs1)
              | ((with_reducible refine atDst 3 ?_); refine wpList_box rfl 27 _ rfl ds rfl (Below.refl w1.heap.size w1) (Nat.le_refl _) ?_; intro w2 hk2 hb2 hs2 _; have L2 := Lib.hid hk2; have B2 := Lib.hid (B1.out.trans (hb2.mono B1.out.size)); have K2 := Lib.hid (K1.out.below hb2 K1.out.lt); have a0 := K2.out.cell 0; rw [HC0.out] at a0; have b0 := L2.out.cell 0; rw [HD0.out] at b0; have a5 := K2.out.cell 5; rw [HC5.out] at a5; have b5 := L2.out.cell 5; rw [HD5.out] at b5; have RS := Lib.hid (set_range' HCS.out K2.out); have RS' := Lib.hid (set_range' HDS.out L2.out); clear hk2 hb2 hs2 K1 B1)
              | ((with_reducible refine atDst 22 ?_); refine wpList_ldMidG rfl 24 _ rfl w.heap.size 1 rfl (wds s) _ RS.out Tryd.underlying24 rfl (size_set s) ?_)
              | ((with_reducible refine atDst 24 ?_); refine wpList_ldMidG rfl 24 _ rfl w1.heap.size 1 rfl (wds s') _ RS'.out Tryd.underlying24 rfl (size_set s') ?_)
              | ((with_reducible refine atDst 25 ?_); refine wpList_neSetG rfl HNE.out 24 22 (.tmp 22) (.tmp 24) 24 rfl guardSet Tryd.underlying24 Tryd.underlying22 sizeU64 rfl rfl ?_)
              | ((with_reducible refine atDst 28 ?_); refine wpList_ldMidG rfl 24 _ rfl w.heap.size 1 rfl (wds s) _ RS.out Tryd.underlying24 rfl (size_set s) ?_)
              | ((with_reducible refine atDst 30 ?_); refine wpList_ldMidG rfl 24 _ rfl w1.heap.size 1 rfl (wds s') _ RS'.out Tryd.underlying24 rfl (size_set s') ?_))
            refine (refSetLess_any s s' w2).mono ?_
            rintro e w3 ⟨rfl, hb⟩
            rw [HL.out]
            have B3 := Lib.hid (B2.out.trans (hb.mono B2.out.size))
            clear hb
            go_wp2_with fail
            go_ret
            exact ⟨rfl, B3.out⟩
          | false =>
            rw [if_neg (by decide)]
            have HL := Lib.hid hl
            clear hl
            go_enter Tryd.func61, Tryd.ntmps61
            go_wp2_with (first
              | ((with_reducible refine atDst 2 ?_); refine wpList_box rfl 27 _ rfl cs rfl (Below.refl w.heap.size w) (Nat.le_refl _) ?_; intro w1 hk1 hb1 hs1 _; have K1 := Lib.hid hk1; have B1 := Lib.hid hb1; clear hk1 hb1 hs1)
              | ((with_reducible refine atDst 3 ?_); refine wpList_box rfl 27 _ rfl ds rfl (Below.refl w1.heap.size w1) (Nat.le_refl _) ?_; intro w2 hk2 hb2 hs2 _; have L2 := Lib.hid hk2; have B2 := Lib.hid (B1.out.trans (hb2.mono B1.out.size)); have K2 := Lib.hid (K1.out.below hb2 K1.out.lt); have a0 := K2.out.cell 0; rw [HC0.out] at a0; have b0 := L2.out.cell 0; rw [HD0.out] at b0; have a5 := K2.out.cell 5; rw [HC5.out] at a5; have b5 := L2.out.cell 5; rw [HD5.out] at b5; have RS := Lib.hid (set_range' HCS.out K2.out); have RS' := Lib.hid (set_range' HDS.out L2.out); clear hk2 hb2 hs2 K1 B1)
              | ((with_reducible refine atDst 22 ?_); refine wpList_ldMidG rfl 24 _ rfl w.heap.size 1 rfl (wds s) _ RS.out Tryd.underlying24 rfl (size_set s) ?_)
              | ((with_reducible refine atDst 24 ?_); refine wpList_ldMidG rfl 24 _ rfl w1.heap.size 1 rfl (wds s') _ RS'.out Tryd.underlying24 rfl (size_set s') ?_)
              | ((with_reducible refine atDst 25 ?_); refine wpList_neSetG rfl HNE.out 24 22 (.tmp 22) (.tmp 24) 24 rfl guardSet Tryd.underlying24 Tryd.underlying22 sizeU64 rfl rfl ?_)
              | ((with_reducible refine atDst 28 ?_); refine wpList_ldMidG rfl 24 _ rfl w.heap.size 1 rfl (wds s) _ RS.out Tryd.underlying24 rfl (size_set s) ?_)
              | ((with_reducible refine atDst 30 ?_); refine wpList_ldMidG rfl 24 _ rfl w1.heap.size 1 rfl (wds s') _ RS'.out Tryd.underlying24 rfl (size_set s') ?_))
            refine (refSetLess_any s s' w2).mono ?_
            rintro e w3 ⟨rfl, hb⟩
            rw [HL.out]
            have B3 := Lib.hid (B2.out.trans (hb.mono B2.out.size))
            clear hb
            go_wp2_with fail
            go_ret
            exact ⟨rfl, B3.out⟩
        | true =>
          have HNE := Lib.hid (show (!eqS s s') = false by rw [hs]; rfl)
          rw [if_neg (by rintro ⟨_, h⟩; cases h)]
          subst h3k
          clear hs
          go_enter Tryd.func61, Tryd.ntmps61
          go_wp2_with (first
            | ((with_reducible refine atDst 2 ?_); refine wpList_box rfl 27 _ rfl cs rfl (Below.refl w.heap.size w) (Nat.le_refl _) ?_; intro w1 hk1 hb1 hs1 _; have K1 := Lib.hid hk1; have B1 := Lib.hid hb1; clear hk1 hb1 hs1)
            | ((with_reducible refine atDst 3 ?_); refine wpList_box rfl 27 _ rfl ds rfl (Below.refl w1.heap.size w1) (Nat.le_refl _) ?_; intro w2 hk2 hb2 hs2 _; have L2 := Lib.hid hk2; have B2 := Lib.hid (B1.out.trans (hb2.mono B1.out.size)); have K2 := Lib.hid (K1.out.below hb2 K1.out.lt); have a0 := K2.out.cell 0; rw [HC0.out] at a0; have b0 := L2.out.cell 0; rw [HD0.out] at b0; have a5 := K2.out.cell 5; rw [HC5.out] at a5; have b5 := L2.out.cell 5; rw [HD5.out] at b5; have RS := Lib.hid (set_range' HCS.out K2.out); have RS' := Lib.hid (set_range' HDS.out L2.out); clear hk2 hb2 hs2 K1 B1)
            | ((with_reducible refine atDst 22 ?_); refine wpList_ldMidG rfl 24 _ rfl w.heap.size 1 rfl (wds s) _ RS.out Tryd.underlying24 rfl (size_set s) ?_)
            | ((with_reducible refine atDst 24 ?_); refine wpList_ldMidG rfl 24 _ rfl w1.heap.size 1 rfl (wds s') _ RS'.out Tryd.underlying24 rfl (size_set s') ?_)
            | ((with_reducible refine atDst 25 ?_); refine wpList_neSetG rfl HNE.out 24 22 (.tmp 22) (.tmp 24) 24 rfl guardSet Tryd.underlying24 Tryd.underlying22 sizeU64 rfl rfl ?_)
            | ((with_reducible refine atDst 28 ?_); refine wpList_ldMidG rfl 24 _ rfl w.heap.size 1 rfl (wds s) _ RS.out Tryd.underlying24 rfl (size_set s) ?_)
            | ((with_reducible refine atDst 30 ?_); refine wpList_ldMidG rfl 24 _ rfl w1.heap.size 1 rfl (wds s') _ RS'.out Tryd.underlying24 rfl (size_set s') ?_))
          go_loopw [5] (fun i wl => ∃ j : Nat, j ≤ l.length ∧ j ≤ m.length ∧ i = .int .i64 (j : Int) ∧ (∀ (i : Nat) (a b : T), i < j → l[i]? = some a → m[i]? = some b → cmpT a b = 0) ∧ Below w2.heap.size w2 wl) (fun i _ => l.length - (intOf i).toNat)
          case atStart => exact ⟨0, by omega, by omega, by simp, fun i a b h => by omega, Below.refl _ _⟩
          case round =>
            obtain ⟨j, hj, hjm0, rfl, hsm, hb⟩ := hrel
            have HSM := Lib.hid hsm
            have HB := Lib.hid hb
            clear hsm hb
            have a5r := (K2.out.below HB.out K2.out.lt).cell 5
            rw [HC5.out] at a5r
            have b5r := (L2.out.below HB.out L2.out.lt).cell 5
            rw [HD5.out] at b5r
            by_cases hjb : j < l.length ∧ j < m.length
            · obtain ⟨hjl, hjm⟩ := hjb
              have j1 : (j : Int) < (l.length : Int) := Int.ofNat_lt.2 hjl
              have j2 : (j : Int) < (m.length : Int) := Int.ofNat_lt.2 hjm
              have BW := Lib.hid (B2.out.trans (HB.out.mono B2.out.size))
              obtain ⟨b, off, rfl, hb, hrng⟩ := H3.out (by rintro rfl; simp at hjl)
              obtain ⟨b', off', rfl, hb', hrng'⟩ := H3'.out (by rintro rfl; simp at hjm)
              obtain ⟨a, ha⟩ : ∃ a, l[j]? = some a := ⟨_, List.getElem?_eq_getElem hjl⟩
              obtain ⟨c, hc⟩ : ∃ c, m[j]? = some c := ⟨_, List.getElem?_eq_getElem hjm⟩
              have HV := Lib.hid (RxV.part H4.out BW.out BW.out.size ha)
              have HV' := Lib.hid (RxV.part H4'.out BW.out BW.out.size hc)
              have HRG := Lib.hid (range_below (hrng j hjl) BW.out hb)
              have HRG' := Lib.hid (range_below (hrng' j hjm) BW.out hb')
              have HB1 := Lib.hid (Nat.lt_of_lt_of_le hb BW.out.size)
              have HB2 := Lib.hid (Nat.lt_of_lt_of_le hb' BW.out.size)
              have hmem := nodes_mem (List.mem_of_getElem? ha)
              have HUN := Lib.hid (show a.nodes ≤ N by have := HN.out; omega)
              have HUM := Lib.hid (show a.nodes ≤ 1099511627776 by have := HM.out; omega)
              have HAJ := Lib.hid ha
              have HCJ := Lib.hid hc
              have hj62 : j ≤ 4611686018427387904 := by have := HM.out; have := HLL.out; omega
              have e3 := wrap_one j hj62
              have e4 := wrap_one' j hj62
              have KW := Lib.hid (K2.out.below HB.out K2.out.lt)
              have LW := Lib.hid (L2.out.below HB.out L2.out.lt)
              have aW : ∀ W, Below wr.heap.size wr W → W.cell? ⟨w.heap.size, 5, none⟩ = some (.slice (some ⟨b, off, none⟩) l.length cap) := fun W hW => by
                have := (KW.out.below hW KW.out.lt).cell 5
                rw [HC5.out] at this
                exact this
              have bW : ∀ W, Below wr.heap.size wr W → W.cell? ⟨w1.heap.size, 5, none⟩ = some (.slice (some ⟨b', off', none⟩) m.length cap') := fun W hW => by
                have := (LW.out.below hW LW.out.lt).cell 5
                rw [HD5.out] at this
                exact this
              clear hrng hrng' ha hc hmem hj62 hb hb'
              go_wp2_with fail
              refine sx_startB (B := wr.heap.size) (w0 := wr) (by kernel_rfl) (Below.refl _ _) (fun wd hwd hX => ?_)
              have SZ := Lib.hid hX.size
              have VD := Lib.hid ((HV.out.stay hX).mono SZ.out)
              have VD' := Lib.hid ((HV'.out.stay hX).mono SZ.out)
              clear hwd
              refine sx_take (i := 0) (oi := ⟨some 46, _, _, _, _, _⟩) (v := ?_) rfl (by kernel_rfl) (by kernel_rfl) (by kernel_rfl) (fun _ _ _ h => h) rfl hX ?_ ?_; rotate_left; (intro W hW; go_simp; try with_reducible rfl); simp only [Act.put, List.setIfInBounds_toArray, List.set_cons_zero, List.set_cons_succ]
              refine sx_take (i := 1) (oi := ⟨some 47, _, _, _, _, _⟩) (v := ?_) rfl (by kernel_rfl) (by kernel_rfl) (by kernel_rfl) (fun _ _ _ h => h) rfl hX ?_ ?_; rotate_left; (intro W hW; go_simp; try with_reducible rfl); simp only [Act.put, List.setIfInBounds_toArray, List.set_cons_zero, List.set_cons_succ]
              refine sx_take (i := 2) (oi := ⟨some 48, _, _, _, _, _⟩) (v := ?_) rfl (by kernel_rfl) (by kernel_rfl) (by kernel_rfl) (fun _ _ _ h => h) rfl hX ?_ ?_; rotate_left; (intro W hW; go_simp; try with_reducible rfl); simp only [Act.put, List.setIfInBounds_toArray, List.set_cons_zero, List.set_cons_succ]
              refine sx_take (i := 3) (oi := ⟨some 49, _, _, _, _, _⟩) (v := ?_) rfl (by kernel_rfl) (by kernel_rfl) (by kernel_rfl) (fun _ _ _ h => h) rfl hX ?_ ?_; rotate_left; (intro W hW; go_simp; try with_reducible rfl); simp only [Act.put, List.setIfInBounds_toArray, List.set_cons_zero, List.set_cons_succ]
              refine sx_take (i := 4) (oi := ⟨some 50, _, _, _, _, _⟩) (v := .agg (f j).toArray) rfl (by kernel_rfl) (by kernel_rfl) (by kernel_rfl) (fun _ _ _ h => h) rfl hX (ld_mid 27 _ rfl b (off + j * 6) rfl _ _ HRG.out HB1.out Tryd.underlying27 rfl (size_rx HV.out.length)) ?_; simp only [Act.put, List.setIfInBounds_toArray, List.set_cons_zero, List.set_cons_succ]
              refine sx_take (i := 5) (oi := ⟨some 51, _, _, _, _, _⟩) (v := ?_) rfl (by kernel_rfl) (by kernel_rfl) (by kernel_rfl) (fun _ _ _ h => h) rfl hX ?_ ?_; rotate_left; (intro W hW; go_simp; try with_reducible rfl); simp only [Act.put, List.setIfInBounds_toArray, List.set_cons_zero, List.set_cons_succ]
              refine sx_take (i := 6) (oi := ⟨some 52, _, _, _, _, _⟩) (v := ?_) rfl (by kernel_rfl) (by kernel_rfl) (by kernel_rfl) (fun _ _ _ h => h) rfl hX ?_ ?_; rotate_left; (intro W hW; go_simp; try with_reducible rfl); simp only [Act.put, List.setIfInBounds_toArray, List.set_cons_zero, List.set_cons_succ]
              refine sx_take (i := 7) (oi := ⟨some 53, _, _, _, _, _⟩) (v := ?_) rfl (by kernel_rfl) (by kernel_rfl) (by kernel_rfl) (fun _ _ _ h => h) rfl hX ?_ ?_; rotate_left; (intro W hW; go_simp; try with_reducible rfl); simp only [Act.put, List.setIfInBounds_toArray, List.set_cons_zero, List.set_cons_succ]
              refine sx_take (i := 8) (oi := ⟨some 54, _, _, _, _, _⟩) (v := ?_) rfl (by kernel_rfl) (by kernel_rfl) (by kernel_rfl) (fun _ _ _ h => h) rfl hX ?_ ?_; rotate_left; (intro W hW; go_simp; try with_reducible rfl); simp only [Act.put, List.setIfInBounds_toArray, List.set_cons_zero, List.set_cons_succ]
              refine sx_take (i := 9) (oi := ⟨some 55, _, _, _, _, _⟩) (v := .agg (f' j).toArray) rfl (by kernel_rfl) (by kernel_rfl) (by kernel_rfl) (fun _ _ _ h => h) rfl hX (ld_mid 27 _ rfl b' (off' + j * 6) rfl _ _ HRG'.out HB2.out Tryd.underlying27 rfl (size_rx HV'.out.length)) ?_; simp only [Act.put, List.setIfInBounds_toArray, List.set_cons_zero, List.set_cons_succ]
              refine sx_actB (i := 10) (o := ⟨some 56, _, _, _, _, _⟩) rfl (by kernel_rfl) rfl hX (fun K hK => ?_)
              go_wp2_with fail
              refine (IH.out a c HUN.out HUM.out (f j) (f' j) wd VD.out VD'.out).mono ?_
              rintro e w6 ⟨rfl, hb⟩
              obtain ⟨x, hx⟩ : ∃ x, cmpT a c = x := ⟨_, rfl⟩
              rw [hx]
              have HX := Lib.hid hx
              refine hK _ _ (hb.mono SZ.out) ?_
              clear hK K hx
              replace hX := hX.trans (hb.mono SZ.out)
              clear hb
              refine sx_take (i := 11) (oi := ⟨some 6, _, _, _, _, _⟩) (v := ?_) rfl (by kernel_rfl) (by kernel_rfl) (by kernel_rfl) (fun _ _ _ h => h) rfl hX ?_ ?_; rotate_left; (intro W hW; go_simp; try with_reducible rfl); simp only [Act.put, List.setIfInBounds_toArray, List.set_cons_zero, List.set_cons_succ]
              refine wpAnyH_done (by kernel_rfl) ?_ _
              have B6 := Lib.hid (HB.out.trans (hX.mono HB.out.size))
              clear hX SZ
              by_cases hx0 : x = 0
              · have hx1 : (x != 0) = false := by rw [hx0]; rfl
                have HX0 := Lib.hid hx0
                clear hx0
                go_wp2_with fail
                refine ⟨⟨j + 1, by omega, by omega, by congr 1, fun i a2 b2 hi ha2 hb2 => ?_, B6.out⟩, by simp [intOf] <;> omega⟩
                by_cases hij : i < j
                · exact HSM.out i a2 b2 hij ha2 hb2
                · obtain rfl : i = j := by omega
                  rw [HAJ.out] at ha2
                  rw [HCJ.out] at hb2
                  obtain rfl := Option.some.inj ha2
                  obtain rfl := Option.some.inj hb2
                  rw [HX.out, HX0.out]
              · have hx1 : (x != 0) = true := by simpa using hx0
                have HF := Lib.hid (show cmpL l m = x by rw [cmpL_at l m j a c HSM.out HAJ.out HCJ.out (by rw [HX.out]; exact hx0), HX.out])
                clear hx0
                have B9 := Lib.hid (B2.out.trans (B6.out.mono B2.out.size))
                go_wp2_with fail
                go_ret
                rw [HF.out]
                exact ⟨rfl, B9.out⟩
            · have HE := Lib.hid (cmpL_end l m fun i a b ha hb => HSM.out i a b (by have h1 := (List.getElem?_eq_some_iff.1 ha).1; have h2 := (List.getElem?_eq_some_iff.1 hb).1; omega) ha hb)
              have B9 := Lib.hid (B2.out.trans (HB.out.mono B2.out.size))
              rcases Nat.lt_trichotomy l.length m.length with hlt | hlt | hlt
              · obtain rfl : j = l.length := by omega
                have g1 : ¬ ((l.length : Int) < (l.length : Int)) := by omega
                have g2 : (l.length : Int) < (m.length : Int) := Int.ofNat_lt.2 hlt
                have HEE := Lib.hid (show cmpL l m = -1 by rw [HE.out, if_pos hlt])
                go_wp2_with fail
                go_ret
                rw [HEE.out]
                exact ⟨rfl, B9.out⟩
              · obtain rfl : j = l.length := by omega
                have g1 : ¬ ((l.length : Int) < (l.length : Int)) := by omega
                have g2 : ¬ (l.length : Int) < (m.length : Int) := by omega
                have g3 : ¬ (m.length : Int) < (l.length : Int) := by omega
                have HEE := Lib.hid (show cmpL l m = 0 by rw [HE.out, if_neg (by omega), if_neg (by omega)])
                go_wp2_with fail
                go_ret
                rw [HEE.out]
                exact ⟨rfl, B9.out⟩
              · obtain rfl : j = m.length := by omega
                have g1 : ¬ ((m.length : Int) < (m.length : Int)) := by omega
                have g2 : (m.length : Int) < (l.length : Int) := Int.ofNat_lt.2 hlt
                have g3 : ¬ (l.length : Int) < (m.length : Int) := by omega
                have HEE := Lib.hid (show cmpL l m = 1 by rw [HE.out, if_neg (by omega), if_pos hlt])
                go_wp2_with fail
                go_ret
                rw [HEE.out]
                exact ⟨rfl, B9.out⟩
      · have hk3 : (k == 3) = false := by simpa using h3k
        have HNE := Lib.hid (rfl : (0 : Nat) = 0)
        rw [if_neg (by rintro ⟨h, _⟩; exact h3k h)]
        go_enter Tryd.func61, Tryd.ntmps61
        go_wp2_with (first
          | ((with_reducible refine atDst 2 ?_); refine wpList_box rfl 27 _ rfl cs rfl (Below.refl w.heap.size w) (Nat.le_refl _) ?_; intro w1 hk1 hb1 hs1 _; have K1 := Lib.hid hk1; have B1 := Lib.hid hb1; clear hk1 hb1 hs1)
          | ((with_reducible refine atDst 3 ?_); refine wpList_box rfl 27 _ rfl ds rfl (Below.refl w1.heap.size w1) (Nat.le_refl _) ?_; intro w2 hk2 hb2 hs2 _; have L2 := Lib.hid hk2; have B2 := Lib.hid (B1.out.trans (hb2.mono B1.out.size)); have K2 := Lib.hid (K1.out.below hb2 K1.out.lt); have a0 := K2.out.cell 0; rw [HC0.out] at a0; have b0 := L2.out.cell 0; rw [HD0.out] at b0; have a5 := K2.out.cell 5; rw [HC5.out] at a5; have b5 := L2.out.cell 5; rw [HD5.out] at b5; have RS := Lib.hid (set_range' HCS.out K2.out); have RS' := Lib.hid (set_range' HDS.out L2.out); clear hk2 hb2 hs2 K1 B1)
          | ((with_reducible refine atDst 22 ?_); refine wpList_ldMidG rfl 24 _ rfl w.heap.size 1 rfl (wds s) _ RS.out Tryd.underlying24 rfl (size_set s) ?_)
          | ((with_reducible refine atDst 24 ?_); refine wpList_ldMidG rfl 24 _ rfl w1.heap.size 1 rfl (wds s') _ RS'.out Tryd.underlying24 rfl (size_set s') ?_)
          | ((with_reducible refine atDst 25 ?_); refine wpList_neSetG rfl HNE.out 24 22 (.tmp 22) (.tmp 24) 24 rfl guardSet Tryd.underlying24 Tryd.underlying22 sizeU64 rfl rfl ?_)
          | ((with_reducible refine atDst 28 ?_); refine wpList_ldMidG rfl 24 _ rfl w.heap.size 1 rfl (wds s) _ RS.out Tryd.underlying24 rfl (size_set s) ?_)
          | ((with_reducible refine atDst 30 ?_); refine wpList_ldMidG rfl 24 _ rfl w1.heap.size 1 rfl (wds s') _ RS'.out Tryd.underlying24 rfl (size_set s') ?_))
        go_loopw [5] (fun i wl => ∃ j : Nat, j ≤ l.length ∧ j ≤ m.length ∧ i = .int .i64 (j : Int) ∧ (∀ (i : Nat) (a b : T), i < j → l[i]? = some a → m[i]? = some b → cmpT a b = 0) ∧ Below w2.heap.size w2 wl) (fun i _ => l.length - (intOf i).toNat)
        case atStart => exact ⟨0, by omega, by omega, by simp, fun i a b h => by omega, Below.refl _ _⟩
        case round =>
          obtain ⟨j, hj, hjm0, rfl, hsm, hb⟩ := hrel
          have HSM := Lib.hid hsm
          have HB := Lib.hid hb
          clear hsm hb
          have a5r := (K2.out.below HB.out K2.out.lt).cell 5
          rw [HC5.out] at a5r
          have b5r := (L2.out.below HB.out L2.out.lt).cell 5
          rw [HD5.out] at b5r
          by_cases hjb : j < l.length ∧ j < m.length
          · obtain ⟨hjl, hjm⟩ := hjb
            have j1 : (j : Int) < (l.length : Int) := Int.ofNat_lt.2 hjl
            have j2 : (j : Int) < (m.length : Int) := Int.ofNat_lt.2 hjm
            have BW := Lib.hid (B2.out.trans (HB.out.mono B2.out.size))
            obtain ⟨b, off, rfl, hb, hrng⟩ := H3.out (by rintro rfl; simp at hjl)
            obtain ⟨b', off', rfl, hb', hrng'⟩ := H3'.out (by rintro rfl; simp at hjm)
            obtain ⟨a, ha⟩ : ∃ a, l[j]? = some a := ⟨_, List.getElem?_eq_getElem hjl⟩
            obtain ⟨c, hc⟩ : ∃ c, m[j]? = some c := ⟨_, List.getElem?_eq_getElem hjm⟩
            have HV := Lib.hid (RxV.part H4.out BW.out BW.out.size ha)
            have HV' := Lib.hid (RxV.part H4'.out BW.out BW.out.size hc)
            have HRG := Lib.hid (range_below (hrng j hjl) BW.out hb)
            have HRG' := Lib.hid (range_below (hrng' j hjm) BW.out hb')
            have HB1 := Lib.hid (Nat.lt_of_lt_of_le hb BW.out.size)
            have HB2 := Lib.hid (Nat.lt_of_lt_of_le hb' BW.out.size)
            have hmem := nodes_mem (List.mem_of_getElem? ha)
            have HUN := Lib.hid (show a.nodes ≤ N by have := HN.out; omega)
            have HUM := Lib.hid (show a.nodes ≤ 1099511627776 by have := HM.out; omega)
            have HAJ := Lib.hid ha
            have HCJ := Lib.hid hc
            have hj62 : j ≤ 4611686018427387904 := by have := HM.out; have := HLL.out; omega
            have e3 := wrap_one j hj62
            have e4 := wrap_one' j hj62
            have KW := Lib.hid (K2.out.below HB.out K2.out.lt)
            have LW := Lib.hid (L2.out.below HB.out L2.out.lt)
            have aW : ∀ W, Below wr.heap.size wr W → W.cell? ⟨w.heap.size, 5, none⟩ = some (.slice (some ⟨b, off, none⟩) l.length cap) := fun W hW => by
              have := (KW.out.below hW KW.out.lt).cell 5
              rw [HC5.out] at this
              exact this
            have bW : ∀ W, Below wr.heap.size wr W → W.cell? ⟨w1.heap.size, 5, none⟩ = some (.slice (some ⟨b', off', none⟩) m.length cap') := fun W hW => by
              have := (LW.out.below hW LW.out.lt).cell 5
              rw [HD5.out] at this
              exact this
            clear hrng hrng' ha hc hmem hj62 hb hb'
            go_wp2_with fail
            refine sx_startB (B := wr.heap.size) (w0 := wr) (by kernel_rfl) (Below.refl _ _) (fun wd hwd hX => ?_)
            have SZ := Lib.hid hX.size
            have VD := Lib.hid ((HV.out.stay hX).mono SZ.out)
            have VD' := Lib.hid ((HV'.out.stay hX).mono SZ.out)
            clear hwd
            refine sx_take (i := 0) (oi := ⟨some 46, _, _, _, _, _⟩) (v := ?_) rfl (by kernel_rfl) (by kernel_rfl) (by kernel_rfl) (fun _ _ _ h => h) rfl hX ?_ ?_; rotate_left; (intro W hW; go_simp; try with_reducible rfl); simp only [Act.put, List.setIfInBounds_toArray, List.set_cons_zero, List.set_cons_succ]
            refine sx_take (i := 1) (oi := ⟨some 47, _, _, _, _, _⟩) (v := ?_) rfl (by kernel_rfl) (by kernel_rfl) (by kernel_rfl) (fun _ _ _ h => h) rfl hX ?_ ?_; rotate_left; (intro W hW; go_simp; try with_reducible rfl); simp only [Act.put, List.setIfInBounds_toArray, List.set_cons_zero, List.set_cons_succ]
            refine sx_take (i := 2) (oi := ⟨some 48, _, _, _, _, _⟩) (v := ?_) rfl (by kernel_rfl) (by kernel_rfl) (by kernel_rfl) (fun _ _ _ h => h) rfl hX ?_ ?_; rotate_left; (intro W hW; go_simp; try with_reducible rfl); simp only [Act.put, List.setIfInBounds_toArray, List.set_cons_zero, List.set_cons_succ]
            refine sx_take (i := 3) (oi := ⟨some 49, _, _, _, _, _⟩) (v := ?_) rfl (by kernel_rfl) (by kernel_rfl) (by kernel_rfl) (fun _ _ _ h => h) rfl hX ?_ ?_; rotate_left; (intro W hW; go_simp; try with_reducible rfl); simp only [Act.put, List.setIfInBounds_toArray, List.set_cons_zero, List.set_cons_succ]
            refine sx_take (i := 4) (oi := ⟨some 50, _, _, _, _, _⟩) (v := .agg (f j).toArray) rfl (by kernel_rfl) (by kernel_rfl) (by kernel_rfl) (fun _ _ _ h => h) rfl hX (ld_mid 27 _ rfl b (off + j * 6) rfl _ _ HRG.out HB1.out Tryd.underlying27 rfl (size_rx HV.out.length)) ?_; simp only [Act.put, List.setIfInBounds_toArray, List.set_cons_zero, List.set_cons_succ]
            refine sx_take (i := 5) (oi := ⟨some 51, _, _, _, _, _⟩) (v := ?_) rfl (by kernel_rfl) (by kernel_rfl) (by kernel_rfl) (fun _ _ _ h => h) rfl hX ?_ ?_; rotate_left; (intro W hW; go_simp; try with_reducible rfl); simp only [Act.put, List.setIfInBounds_toArray, List.set_cons_zero, List.set_cons_succ]
            refine sx_take (i := 6) (oi := ⟨some 52, _, _, _, _, _⟩) (v := ?_) rfl (by kernel_rfl) (by kernel_rfl) (by kernel_rfl) (fun _ _ _ h => h) rfl hX ?_ ?_; rotate_left; (intro W hW; go_simp; try with_reducible rfl); simp only [Act.put, List.setIfInBounds_toArray, List.set_cons_zero, List.set_cons_succ]
            refine sx_take (i := 7) (oi := ⟨some 53, _, _, _, _, _⟩) (v := ?_) rfl (by kernel_rfl) (by kernel_rfl) (by kernel_rfl) (fun _ _ _ h => h) rfl hX ?_ ?_; rotate_left; (intro W hW; go_simp; try with_reducible rfl); simp only [Act.put, List.setIfInBounds_toArray, List.set_cons_zero, List.set_cons_succ]
            refine sx_take (i := 8) (oi := ⟨some 54, _, _, _, _, _⟩) (v := ?_) rfl (by kernel_rfl) (by kernel_rfl) (by kernel_rfl) (fun _ _ _ h => h) rfl hX ?_ ?_; rotate_left; (intro W hW; go_simp; try with_reducible rfl); simp only [Act.put, List.setIfInBounds_toArray, List.set_cons_zero, List.set_cons_succ]
            refine sx_take (i := 9) (oi := ⟨some 55, _, _, _, _, _⟩) (v := .agg (f' j).toArray) rfl (by kernel_rfl) (by kernel_rfl) (by kernel_rfl) (fun _ _ _ h => h) rfl hX (ld_mid 27 _ rfl b' (off' + j * 6) rfl _ _ HRG'.out HB2.out Tryd.underlying27 rfl (size_rx HV'.out.length)) ?_; simp only [Act.put, List.setIfInBounds_toArray, List.set_cons_zero, List.set_cons_succ]
            refine sx_actB (i := 10) (o := ⟨some 56, _, _, _, _, _⟩) rfl (by kernel_rfl) rfl hX (fun K hK => ?_)
            go_wp2_with fail
            refine (IH.out a c HUN.out HUM.out (f j) (f' j) wd VD.out VD'.out).mono ?_
            rintro e w6 ⟨rfl, hb⟩
            obtain ⟨x, hx⟩ : ∃ x, cmpT a c = x := ⟨_, rfl⟩
            rw [hx]
            have HX := Lib.hid hx
            refine hK _ _ (hb.mono SZ.out) ?_
            clear hK K hx
            replace hX := hX.trans (hb.mono SZ.out)
            clear hb
            refine sx_take (i := 11) (oi := ⟨some 6, _, _, _, _, _⟩) (v := ?_) rfl (by kernel_rfl) (by kernel_rfl) (by kernel_rfl) (fun _ _ _ h => h) rfl hX ?_ ?_; rotate_left; (intro W hW; go_simp; try with_reducible rfl); simp only [Act.put, List.setIfInBounds_toArray, List.set_cons_zero, List.set_cons_succ]
            refine wpAnyH_done (by kernel_rfl) ?_ _
            have B6 := Lib.hid (HB.out.trans (hX.mono HB.out.size))
            clear hX SZ
            by_cases hx0 : x = 0
            · have hx1 : (x != 0) = false := by rw [hx0]; rfl
              have HX0 := Lib.hid hx0
              clear hx0
              go_wp2_with fail
              refine ⟨⟨j + 1, by omega, by omega, by congr 1, fun i a2 b2 hi ha2 hb2 => ?_, B6.out⟩, by simp [intOf] <;> omega⟩
              by_cases hij : i < j
              · exact HSM.out i a2 b2 hij ha2 hb2
              · obtain rfl : i = j := by omega
                rw [HAJ.out] at ha2
                rw [HCJ.out] at hb2
                obtain rfl := Option.some.inj ha2
                obtain rfl := Option.some.inj hb2
                rw [HX.out, HX0.out]
            · have hx1 : (x != 0) = true := by simpa using hx0
              have HF := Lib.hid (show cmpL l m = x by rw [cmpL_at l m j a c HSM.out HAJ.out HCJ.out (by rw [HX.out]; exact hx0), HX.out])
              clear hx0
              have B9 := Lib.hid (B2.out.trans (B6.out.mono B2.out.size))
              go_wp2_with fail
              go_ret
              rw [HF.out]
              exact ⟨rfl, B9.out⟩
          · have HE := Lib.hid (cmpL_end l m fun i a b ha hb => HSM.out i a b (by have h1 := (List.getElem?_eq_some_iff.1 ha).1; have h2 := (List.getElem?_eq_some_iff.1 hb).1; omega) ha hb)
            have B9 := Lib.hid (B2.out.trans (HB.out.mono B2.out.size))
            rcases Nat.lt_trichotomy l.length m.length with hlt | hlt | hlt
            · obtain rfl : j = l.length := by omega
              have g1 : ¬ ((l.length : Int) < (l.length : Int)) := by omega
              have g2 : (l.length : Int) < (m.length : Int) := Int.ofNat_lt.2 hlt
              have HEE := Lib.hid (show cmpL l m = -1 by rw [HE.out, if_pos hlt])
              go_wp2_with fail
              go_ret
              rw [HEE.out]
              exact ⟨rfl, B9.out⟩
            · obtain rfl : j = l.length := by omega
              have g1 : ¬ ((l.length : Int) < (l.length : Int)) := by omega
              have g2 : ¬ (l.length : Int) < (m.length : Int) := by omega
              have g3 : ¬ (m.length : Int) < (l.length : Int) := by omega
              have HEE := Lib.hid (show cmpL l m = 0 by rw [HE.out, if_neg (by omega), if_neg (by omega)])
              go_wp2_with fail
              go_ret
              rw [HEE.out]
              exact ⟨rfl, B9.out⟩
            · obtain rfl : j = m.length := by omega
              have g1 : ¬ ((m.length : Int) < (m.length : Int)) := by omega
              have g2 : (m.length : Int) < (l.length : Int) := Int.ofNat_lt.2 hlt
              have g3 : ¬ (l.length : Int) < (m.length : Int) := by omega
              have HEE := Lib.hid (show cmpL l m = 1 by rw [HE.out, if_neg (by omega), if_pos hlt])
              go_wp2_with fail
              go_ret
              rw [HEE.out]
              exact ⟨rfl, B9.out⟩
    · have hk1 : (k != k') = true := by simpa using hk
      have HNE := Lib.hid (rfl : (0 : Nat) = 0)
      rw [if_neg hk]
      by_cases hlt : k < k'
      · rw [if_pos hlt]
        go_enter Tryd.func61, Tryd.ntmps61
        go_wp2_with (first
          | ((with_reducible refine atDst 2 ?_); refine wpList_box rfl 27 _ rfl cs rfl (Below.refl w.heap.size w) (Nat.le_refl _) ?_; intro w1 hk1 hb1 hs1 _; have K1 := Lib.hid hk1; have B1 := Lib.hid hb1; clear hk1 hb1 hs1)
          | ((with_reducible refine atDst 3 ?_); refine wpList_box rfl 27 _ rfl ds rfl (Below.refl w1.heap.size w1) (Nat.le_refl _) ?_; intro w2 hk2 hb2 hs2 _; have L2 := Lib.hid hk2; have B2 := Lib.hid (B1.out.trans (hb2.mono B1.out.size)); have K2 := Lib.hid (K1.out.below hb2 K1.out.lt); have a0 := K2.out.cell 0; rw [HC0.out] at a0; have b0 := L2.out.cell 0; rw [HD0.out] at b0; have a5 := K2.out.cell 5; rw [HC5.out] at a5; have b5 := L2.out.cell 5; rw [HD5.out] at b5; have RS := Lib.hid (set_range' HCS.out K2.out); have RS' := Lib.hid (set_range' HDS.out L2.out); clear hk2 hb2 hs2 K1 B1)
          | ((with_reducible refine atDst 22 ?_); refine wpList_ldMidG rfl 24 _ rfl w.heap.size 1 rfl (wds s) _ RS.out Tryd.underlying24 rfl (size_set s) ?_)
          | ((with_reducible refine atDst 24 ?_); refine wpList_ldMidG rfl 24 _ rfl w1.heap.size 1 rfl (wds s') _ RS'.out Tryd.underlying24 rfl (size_set s') ?_)
          | ((with_reducible refine atDst 25 ?_); refine wpList_neSetG rfl HNE.out 24 22 (.tmp 22) (.tmp 24) 24 rfl guardSet Tryd.underlying24 Tryd.underlying22 sizeU64 rfl rfl ?_)
          | ((with_reducible refine atDst 28 ?_); refine wpList_ldMidG rfl 24 _ rfl w.heap.size 1 rfl (wds s) _ RS.out Tryd.underlying24 rfl (size_set s) ?_)
          | ((with_reducible refine atDst 30 ?_); refine wpList_ldMidG rfl 24 _ rfl w1.heap.size 1 rfl (wds s') _ RS'.out Tryd.underlying24 rfl (size_set s') ?_))
        go_ret
        exact ⟨rfl, B2.out⟩
      · rw [if_neg hlt]
        go_enter Tryd.func61, Tryd.ntmps61
        go_wp2_with (first
          | ((with_reducible refine atDst 2 ?_); refine wpList_box rfl 27 _ rfl cs rfl (Below.refl w.heap.size w) (Nat.le_refl _) ?_; intro w1 hk1 hb1 hs1 _; have K1 := Lib.hid hk1; have B1 := Lib.hid hb1; clear hk1 hb1 hs1)
          | ((with_reducible refine atDst 3 ?_); refine wpList_box rfl 27 _ rfl ds rfl (Below.refl w1.heap.size w1) (Nat.le_refl _) ?_; intro w2 hk2 hb2 hs2 _; have L2 := Lib.hid hk2; have B2 := Lib.hid (B1.out.trans (hb2.mono B1.out.size)); have K2 := Lib.hid (K1.out.below hb2 K1.out.lt); have a0 := K2.out.cell 0; rw [HC0.out] at a0; have b0 := L2.out.cell 0; rw [HD0.out] at b0; have a5 := K2.out.cell 5; rw [HC5.out] at a5; have b5 := L2.out.cell 5; rw [HD5.out] at b5; have RS := Lib.hid (set_range' HCS.out K2.out); have RS' := Lib.hid (set_range' HDS.out L2.out); clear hk2 hb2 hs2 K1 B1)
          | ((with_reducible refine atDst 22 ?_); refine wpList_ldMidG rfl 24 _ rfl w.heap.size 1 rfl (wds s) _ RS.out Tryd.underlying24 rfl (size_set s) ?_)
          | ((with_reducible refine atDst 24 ?_); refine wpList_ldMidG rfl 24 _ rfl w1.heap.size 1 rfl (wds s') _ RS'.out Tryd.underlying24 rfl (size_set s') ?_)
          | ((with_reducible refine atDst 25 ?_); refine wpList_neSetG rfl HNE.out 24 22 (.tmp 22) (.tmp 24) 24 rfl guardSet Tryd.underlying24 Tryd.underlying22 sizeU64 rfl rfl ?_)
          | ((with_reducible refine atDst 28 ?_); refine wpList_ldMidG rfl 24 _ rfl w.heap.size 1 rfl (wds s) _ RS.out Tryd.underlying24 rfl (size_set s) ?_)
          | ((with_reducible refine atDst 30 ?_); refine wpList_ldMidG rfl 24 _ rfl w1.heap.size 1 rfl (wds s') _ RS'.out Tryd.underlying24 rfl (size_set s') ?_))
        go_ret
        exact ⟨rfl, B2.out⟩
end Go.Proofs.YtmlojjgddmnbmaaDoor
namespace Go.Proofs.YtmlojjgddmnbmaaDoor
open Go.RowKit
set_option linter.unusedSimpArgs false
set_option linter.unusedVariables false

theorem flat6_get : ∀ {cs : List (List Value)} (_ : ∀ c ∈ cs, c.length = 6) {i : Nat} {c : List Value}, cs[i]? = some c → ∀ j, j < 6 → cs.flatten[i * 6 + j]? = c[j]?
  | [], _, i, c, h, _, _ => by simp at h
  | a :: r, hl, 0, c, h, j, hj => by
    have : a = c := by simpa using h
    subst this
    have h6 := hl a (by simp)
    rw [List.flatten_cons, Nat.zero_mul, Nat.zero_add, List.getElem?_append_left (by omega)]
  | a :: r, hl, i + 1, c, h, j, hj => by
    have h6 := hl a (by simp)
    have ih := flat6_get (cs := r) (fun d hd => hl d (List.mem_cons_of_mem _ hd)) (i := i) (c := c) (by simpa using h) j hj
    rw [List.flatten_cons, List.getElem?_append_right (by omega), ← ih]
    congr 1
    omega
theorem flat6_len : ∀ {cs : List (List Value)}, (∀ c ∈ cs, c.length = 6) → cs.flatten.length = cs.length * 6
  | [], _ => rfl
  | a :: r, hl => by
    have h6 := hl a (by simp)
    have ih := flat6_len (cs := r) fun c hc => hl c (by simp [hc])
    rw [List.flatten_cons, List.length_append, List.length_cons, ih, h6]
    omega
/-- Where an append leaves the row: in its block, or in a new one. -/
theorem append_where {P : Program} {w : World} (base : Nat) (t ty e : TypeId) (i : TypeInfo) (z : Value) (size bytes : Nat) (ht : P.underlying t = some (.slice e)) (hi : P.info? e = some i) (hz : i.zero = some z)
    (hsize : i.size = size) (hby : i.bytes = bytes) (hsz : 0 < size)
    (v : Value) (n : Nat) (xs : List Value) (hown : w.ownsRow base e size v n xs)
    (a : Addr) (m c : Nat) (news : List Value) (hl : news.length = m * size) (hnews : ∀ j u, news[j]? = some u → w.cell? (a.add j) = some u) (h1 : ∀ u ∈ news, u.oneCell' = true)
    (h63 : n + m ≤ maxLen) (hbytes : (n + m) * bytes ≤ 140737488355328) {v' : Value} {w' : World} (hrun : (Builtin.append_ #[t, t] ty #[v, .slice (some a) m c]).run P w = .ok v' w') :
    ∀ k, v'.ownBlock = some k → v.ownBlock = some k ∨ w.heap.size ≤ k := by
  subst hsize
  subst hby
  have hsmall : n + m ≤ 9223372036854775807 := by simp only [maxLen] at h63; omega
  intro k hk
  rcases hown.2 with ⟨rfl, rfl⟩ | ⟨g, cap, cur, rfl, hbg, hg, hnc, hcm, hcs, htake⟩
  · have hx : xs = [] := List.eq_nil_of_length_eq_zero (by simpa using hown.1)
    subst hx
    by_cases hm : m = 0
    · subst hm
      have hn : news = [] := List.eq_nil_of_length_eq_zero (by simpa using hl)
      subst hn
      have hr : (Builtin.append_ #[t, t] ty #[.slice none 0 0, .slice (some a) 0 c]).run P w = .ok (.slice none 0 0) w := by
        simp [Builtin.append_, run_underlying ht, sizeOf, typeInfo, hi, Builtin.lenOf, Builtin.firstCells, loadCells, loadCellsFrom]
      rw [hr] at hrun
      injection hrun with e1 e2
      subst e1
      cases hk
    · have hr := run_append_nil (P := P) w t ty e i z ht hi hz a m c news hl hnews (by omega) (by omega) (by have hb := hbytes; simp only [Nat.zero_add] at hb; omega)
      rw [hr] at hrun
      injection hrun with e1 e2
      subst e1
      have : w.heap.size = k := Option.some.inj hk
      exact .inr (by omega)
  · by_cases hroom : n + m ≤ cap
    · obtain ⟨w2, hr, _, _⟩ := run_append_fits (P := P) w base t ty e i i.size ht hi rfl g n cap xs hown a m c news hl hnews h1 hroom
      rw [hr] at hrun
      injection hrun with e1 e2
      subst e1
      exact .inl hk
    · have holds : ∀ j u, xs[j]? = some u → w.cell? ((⟨g, 0, none⟩ : Addr).add j) = some u := hown.cells (g := g) rfl
      have hr := run_append_grow (P := P) w t ty e i z ht hi hz ⟨g, 0, none⟩ n cap xs hown.1 holds a m c news hl hnews (by omega) (by omega) (growslice_fits (by omega) hbytes)
      rw [hr] at hrun
      injection hrun with e1 e2
      subst e1
      have : w.heap.size = k := Option.some.inj hk
      exact .inr (by omega)
/-- A row of expressions of the call's own, whose parts lie in blocks of D, elsewhere. -/
def OwnT (D : Nat → Prop) (base : Nat) (w : World) (v : Value) (l : List T) : Prop :=
  ∃ cells : List (List Value), cells.length = l.length ∧ (∀ c ∈ cells, c.length = 6) ∧ w.ownsRow base 27 6 v l.length cells.flatten ∧
    ∀ (i : Nat) (c : List Value) (t : T), cells[i]? = some c → l[i]? = some t → RxD (fun k => D k ∧ k < w.heap.size ∧ some k ≠ v.ownBlock) w c t
theorem OwnT.nil (D : Nat → Prop) (base : Nat) (w : World) : OwnT D base w (.slice none 0 0) [] := ⟨[], rfl, by simp, ⟨by simp, .inl ⟨rfl, rfl⟩⟩, fun i c t h => by simp at h⟩
theorem own6_stay {w w' : World} {base n k : Nat} {e : TypeId} {v : Value} {xs : List Value} (h : w.ownsRow base e k v n xs) (hb : ∀ j, v.ownBlock = some j → w'.heap[j]? = w.heap[j]?) : w'.ownsRow base e k v n xs := by
  refine ⟨h.1, ?_⟩
  rcases h.2 with h0 | ⟨g, cap, cur, rfl, hb2, hg, h3⟩
  · exact .inl h0
  · exact .inr ⟨g, cap, cur, rfl, hb2, (hb g rfl).trans hg, h3⟩
theorem own6_lt {w : World} {base n k : Nat} {e : TypeId} {v : Value} {xs : List Value} (h : w.ownsRow base e k v n xs) : ∀ j, v.ownBlock = some j → j < w.heap.size ∧ base ≤ j := by
  intro j hj
  rcases h.2 with ⟨rfl, h0⟩ | ⟨g, cap, cur, rfl, hb, hg, _⟩
  · cases hj
  · have hk' : some g = some j := hj
    injection hk' with hk'
    subst hk'
    exact ⟨(Array.getElem?_eq_some_iff.1 hg).1, hb⟩
theorem OwnT.stay {D : Nat → Prop} {base : Nat} {w w' : World} {v : Value} {l : List T} (h : OwnT D base w v l) (hb : Below w.heap.size w w') : OwnT D base w' v l := by
  obtain ⟨cells, h1, h2, h3, h4⟩ := h
  refine ⟨cells, h1, h2, own6_stay h3 fun j hj => hb.block j (own6_lt h3 j hj).1, fun i c t hc ht => ?_⟩
  exact ((h4 i c t hc ht).stay fun k hk => hb.block k hk.2.1).mono fun k hk => ⟨hk.1, Nat.lt_of_lt_of_le hk.2.1 hb.size, hk.2.2⟩
theorem OwnT.slice {D : Nat → Prop} {base : Nat} {w : World} {v : Value} {l : List T} (h : OwnT D base w v l) : ∃ A c, v = .slice A l.length c := by
  obtain ⟨_, _, _, h3, _⟩ := h
  rcases h3.2 with ⟨rfl, h0⟩ | ⟨g, cap, cur, rfl, _⟩
  · exact ⟨none, 0, by rw [h0]⟩
  · exact ⟨_, _, rfl⟩
theorem OwnT.lt {D : Nat → Prop} {base : Nat} {w : World} {v : Value} {l : List T} (h : OwnT D base w v l) (j : Nat) (hj : v.ownBlock = some j) : j < w.heap.size := by
  obtain ⟨_, _, _, h3, _⟩ := h
  exact (own6_lt h3 j hj).1
theorem OwnT.ge {D : Nat → Prop} {base : Nat} {w : World} {v : Value} {l : List T} (h : OwnT D base w v l) (j : Nat) (hj : v.ownBlock = some j) : base ≤ j := by
  obtain ⟨_, _, _, h3, _⟩ := h
  exact (own6_lt h3 j hj).2
/-- What the row's own cells say. -/
theorem OwnT.rx {D : Nat → Prop} {base : Nat} {w : World} {v : Value} {l : List T} (h : OwnT D base w v l) (k : Int) (s : Nat → Bool) : RxD (fun b => (D b ∨ base ≤ b) ∧ b < w.heap.size) w (.int .i64 k :: (wds s ++ [v])) (.node k s l) := by
  obtain ⟨cells, h1, h2, h3, h4⟩ := h
  rcases h3.2 with ⟨rfl, h0⟩ | ⟨g, cap, cur, rfl, hb, hg, hn, hm, hs, ht⟩
  · obtain rfl : l = [] := List.eq_nil_of_length_eq_zero h0
    exact .node (fun _ => []) (Nat.le_refl _) (Nat.zero_le _) (fun _ => rfl) (fun h => absurd rfl h) (fun i t h => by simp at h)
  · refine .node (fun i => cells.getD i []) hn hm (fun h => by cases h) (fun hne => ⟨g, 0, rfl, ⟨.inr hb, (Array.getElem?_eq_some_iff.1 hg).1⟩, fun i hi j u hu => ?_⟩) (fun i t hti => ?_)
    · have hic : i < cells.length := by omega
      have hci : cells[i]? = some cells[i] := List.getElem?_eq_getElem hic
      have e0 : cells.getD i [] = cells[i] := by simp [List.getD, hci]
      rw [e0] at hu
      have hj : j < 6 := by rw [← h2 cells[i] (List.getElem_mem hic)]; exact (List.getElem?_eq_some_iff.1 hu).1
      have e1 := flat6_get h2 hci j hj
      rw [hu, ← ht, List.getElem?_take, if_pos (by omega), Array.getElem?_toList] at e1
      rw [cell_of_row w g _ cur _ (0, 0) hg, Nat.zero_add, e1]
    · have hic : i < cells.length := by rw [h1]; exact (List.getElem?_eq_some_iff.1 hti).1
      have hci : cells[i]? = some cells[i] := List.getElem?_eq_getElem hic
      have e0 : cells.getD i [] = cells[i] := by simp [List.getD, hci]
      rw [e0]
      exact (h4 i cells[i] t hci hti).mono fun k hk => ⟨.inl hk.1, hk.2.1⟩
theorem inf_rx : (Tryd.prog.info? 27).map (fun i => (i.zero, i.size, i.bytes)) = some (some (.agg (Value.int .i64 0 :: (wds (fun _ => false) ++ [.slice none 0 0])).toArray), 6, 64) := by kernel_rfl
section
variable {w : World} {ops : Array Oper} {rest : List Oper} {o : Oper} {a : Act} {Q : Exit → Act → World → Prop}
/-- 'append(v, x)': one expression more. -/
theorem wpList_appT {D : Nat → Prop} {base : Nat} (hgd : o.guard = none) (s x : Operand)
    (ho : o.op = .call { callee := .builtin .append, args := #[s, x], argTypes := #[25, 25] })
    (i : TypeInfo) (hi : Tryd.prog.info? 27 = some i) (hz : i.zero = some (.agg (Value.int .i64 0 :: (wds (fun _ => false) ++ [.slice none 0 0])).toArray))
    (hsize : i.size = 6) (hby : i.bytes = 64)
    (v : Value) (l : List T) (hs : a.eval s = v) (hown : OwnT D base w v l)
    (g cap : Nat) (tg : TypeId) (c : List Value) (t : T) (hx : a.eval x = .slice (some ⟨g, 0, none⟩) 1 cap) (hr : Blk w g tg c) (hel : RxD (fun k => D k ∧ k < w.heap.size ∧ some k ≠ v.ownBlock) w c t)
    (hlen : l.length + 1 ≤ 1099511627776) (hb : base ≤ w.heap.size)
    (h : ∀ v' w', OwnT D base w' v' (l ++ [t]) → w.grownBy w' v.ownBlock → wpList Tryd.prog ops Q rest (a.put o.dst v') w') : wpList Tryd.prog ops Q (o :: rest) a w := by
  obtain ⟨cells, h1, h2, h3, h4⟩ := hown
  have hc6 : c.length = 6 := hel.length
  have hnews : ∀ j u, c[j]? = some u → w.cell? ((⟨g, 0, none⟩ : Addr).add j) = some u := fun j u hj => by
    rw [Addr.add_lit, Nat.zero_add, hr.cell j]
    exact hj
  obtain ⟨v', w', hrun, hown', hgr, _⟩ := run_append_own (P := Tryd.prog) w base 25 o.type 27 i _ 6 64 Tryd.underlying25 hi hz hsize hby (by simp [Value.cells, wds]) (by omega) v l.length cells.flatten h3 ⟨g, 0, none⟩ 1 cap c (by omega) hnews hel.one (by unfold maxLen; omega) (by omega) hb
  have hwh := append_where (P := Tryd.prog) (w := w) base 25 o.type 27 i _ 6 64 Tryd.underlying25 hi hz hsize hby (by omega) v l.length cells.flatten h3 ⟨g, 0, none⟩ 1 cap c (by omega) hnews hel.one (by unfold maxLen; omega) (by omega) hrun
  refine wpList_plain hgd fun K hK => ?_
  unfold Oper.wp execOp
  simp only [ho, resolve, invoke, builtin, Sem.run_bind, Sem.run_pure, Result.andThen_ok, List.map_toArray, List.map_cons, List.map_nil, hs, hx, hrun]
  refine hK _ _ (h v' w' ⟨cells ++ [c], by simp [h1], fun d hd => ?_, ?_, fun j d u hd hu => ?_⟩ hgr)
  · rcases List.mem_append.1 hd with hd | hd
    · exact h2 d hd
    · obtain rfl := List.mem_singleton.1 hd
      exact hc6
  · rw [List.flatten_append, List.length_append]
    simpa using hown'
  · have key : RxD (fun k => D k ∧ k < w.heap.size ∧ some k ≠ v.ownBlock) w d u := by
      by_cases hj : j < l.length
      · rw [List.getElem?_append_left (by omega)] at hd hu
        exact h4 j d u hd hu
      · have hjl : j = l.length := by
          have := (List.getElem?_eq_some_iff.1 hu).1
          simp at this
          omega
        subst hjl
        rw [List.getElem?_append_right (by omega)] at hd hu
        simp [h1] at hd hu
        rw [← hd, ← hu]
        exact hel
    refine (key.stay fun k hk => hgr.block k hk.2.1 hk.2.2).mono fun k hk => ⟨hk.1, Nat.lt_of_lt_of_le hk.2.1 hgr.size, fun he => ?_⟩
    rcases hwh k he.symm with h | h
    · exact hk.2.2 h.symm
    · have := hk.2.1
      omega
end
end Go.Proofs.YtmlojjgddmnbmaaDoor
namespace Go.Proofs.YtmlojjgddmnbmaaDoor
open Go.RowKit
set_option linter.unusedSimpArgs false
set_option linter.unusedVariables false

section
variable {P : Program} {w : World} {ops : Array Oper} {rest : List Oper} {o : Oper} {a : Act} {Q : Exit → Act → World → Prop}
theorem run_bldT1 (t e : TypeId) (i : TypeInfo) (ht : P.underlying t = some (.slice e)) (hi : P.info? e = some i) (hz : i.zero = some (.agg (Value.int .i64 0 :: (wds (fun _ => false) ++ [.slice none 0 0])).toArray)) (hs : i.size = 6) (ds : List Value) (hl : ds.length = 6) :
    (Instr.buildSlice t 1 #[(0, .agg ds.toArray)]).run P w = .ok (.slice (some ⟨w.heap.size, 0, none⟩) 1 1) (w.alloc (.cells ds.toArray e)) := by
  have hzv : (zeroValue e).run P w = .ok (.agg (Value.int .i64 0 :: (wds (fun _ => false) ++ [.slice none 0 0])).toArray) w := by simp [zeroValue, typeInfo, hi, hz]
  match ds, hl with
  | [d0, d1, d2, d3, d4, d5], _ =>
    simp [Instr.buildSlice, run_underlying ht, sizeOf, typeInfo, hi, hs, hzv, Value.cells, Instr.fill, wds, Array.range_succ, Array.range_zero', newRow]
theorem wpList_bldT1 (hg : o.guard = none) (t e : TypeId) (x : Operand) (ho : o.op = .buildSlice t 1 #[(0, x)]) (i : TypeInfo) (ht : P.underlying t = some (.slice e)) (hi : P.info? e = some i) (hz : i.zero = some (.agg (Value.int .i64 0 :: (wds (fun _ => false) ++ [.slice none 0 0])).toArray)) (hs : i.size = 6) (ds : List Value) (hl : ds.length = 6)
    (hx : a.eval x = .agg ds.toArray)
    (h : ∀ w', Blk w' w.heap.size e ds → Below w.heap.size w w' → w'.heap.size = w.heap.size + 1 → wpList P ops Q rest (a.put o.dst (.slice (some ⟨w.heap.size, 0, none⟩) 1 1)) w') : wpList P ops Q (o :: rest) a w := by
  refine wpList_plain hg fun K hK => ?_
  have hrun := run_bldT1 (P := P) (w := w) t e i ht hi hz hs ds hl
  unfold Oper.wp
  simp only [execOp, ho, List.map_toArray, List.map_cons, List.map_nil, hx, hrun, Sem.run_bind, Result.andThen_ok, Sem.run_pure]
  exact hK _ _ (h _ (Blk.new w e _) ((Below.refl _ _).alloc (Nat.le_refl _) _) (by simp))
end
set_option maxHeartbeats 4000000 in
set_option maxRecDepth 100000 in
theorem refCopy_any : ∀ (N : Nat) (t : T), t.nodes ≤ N → t.nodes ≤ 1099511627776 → ∀ (cs : List Value) (w : World), RxV w.heap.size w cs t →
    Calls Tryd.prog 11 #[.agg cs.toArray] w fun e w' => ∃ ds, e = .returned (.agg ds.toArray) ∧ RxD (fun k => w.heap.size ≤ k ∧ k < w'.heap.size) w' ds t ∧ Below w.heap.size w w' := by
  intro N
  induction N with
  | zero => intro t h; have := nodes_pos t; omega
  | succ N ih =>
    rintro ⟨k, s, l⟩ hN hM cs w hv
    have IH := Lib.hid ih
    clear ih
    obtain ⟨A, cap, f, rfl, h1, h2, h0, h3, h4⟩ := hv.opened
    have H3 := Lib.hid h3
    have H4 := Lib.hid h4
    have HNN := Lib.hid (show T.nodes (.node k s l) = 1 + nodesL l by simp only [T.nodes])
    rw [HNN.out] at hN hM
    have HN := Lib.hid hN
    have HM := Lib.hid hM
    obtain ⟨cs, hcs⟩ : ∃ cs, cs = Value.int .i64 k :: (wds s ++ [.slice A l.length cap]) := ⟨_, rfl⟩
    have HCL := Lib.hid (show cs.length = 6 by rw [hcs]; rfl)
    have HC5 := Lib.hid (show cs[5]? = some (.slice A l.length cap) by rw [hcs]; rfl)
    have HST := Lib.hid (show ∀ v, cs.set 5 v = Value.int .i64 k :: (wds s ++ [v]) by rw [hcs]; intro v; rfl)
    have HLL := Lib.hid (len_nodes l)
    rw [← hcs]
    obtain ⟨i0, hi0, hz0, hz1, hz2⟩ := infoP inf_rx
    obtain ⟨z, hz⟩ : ∃ z, z = Value.int .i64 0 :: (wds (fun _ => false) ++ [Value.slice none 0 0]) := ⟨_, rfl⟩
    have HZ := Lib.hid hz
    have HZL := Lib.hid (show z.length = 6 by rw [hz]; rfl)
    have HZ0 := Lib.hid (show i0.zero = some (.agg z.toArray) by rw [hz]; exact hz0)
    have HZ1 := Lib.hid hz0
    clear hv h1 h2 h0 h3 h4 hcs hN hM hz hz0
    go_enter Tryd.func11, Tryd.ntmps11
    go_wp2_with (first
      | ((with_reducible refine atDst 1 ?_); refine wpList_box rfl 27 _ rfl cs rfl (Below.refl w.heap.size w) (Nat.le_refl _) ?_; intro w1 hk1 hb1 hs1 _; have K1 := Lib.hid hk1; have B1 := Lib.hid hb1; clear hk1 hb1 hs1)
      | ((with_reducible refine atDst 2 ?_); refine wpList_new rfl 27 rfl i0 _ z hi0 HZ0.out rfl (Below.refl w1.heap.size w1) (Nat.le_refl _) ?_; intro w2 hk2 hb2 hs2 _; have M2 := Lib.hid hk2; have B2 := Lib.hid (B1.out.trans (hb2.mono B1.out.size)); have K2 := Lib.hid (K1.out.below hb2 K1.out.lt); have G12 := Lib.hid K1.out.lt; clear hk2 hb2 hs2 K1 B1))
    go_loopw [3, 4] (fun v i wl => ∃ j : Nat, j ≤ l.length ∧ i = .int .i64 (j : Int) ∧ OwnT (fun q => w2.heap.size ≤ q) w2.heap.size wl v (l.take j) ∧ Below w2.heap.size w2 wl) (fun _ i _ => l.length - (intOf i).toNat)
    case atStart => exact ⟨0, by omega, by simp, OwnT.nil _ _ _, Below.refl _ _⟩
    case round =>
      obtain ⟨j, hj, rfl, ho, hb⟩ := hrel
      have HO := Lib.hid ho
      have HB := Lib.hid hb
      clear ho hb
      have KR := Lib.hid (K2.out.below HB.out K2.out.lt)
      have c5 := KR.out.cell 5
      rw [HC5.out] at c5
      by_cases hjl : j < l.length
      · have j1 : (j : Int) < (l.length : Int) := Int.ofNat_lt.2 hjl
        obtain ⟨b, off, rfl, hb, hrng⟩ := H3.out (by rintro rfl; simp at hjl)
        have BW := Lib.hid (B2.out.trans (HB.out.mono B2.out.size))
        obtain ⟨u, hu⟩ : ∃ u, l[j]? = some u := ⟨_, List.getElem?_eq_getElem hjl⟩
        have HV := Lib.hid (RxV.part H4.out BW.out BW.out.size hu)
        have HRG := Lib.hid (range_below (hrng j hjl) BW.out hb)
        have hmem := nodes_mem (List.mem_of_getElem? hu)
        have HTK := Lib.hid (show l.take (j + 1) = l.take j ++ [u] by
          obtain ⟨hi, rfl⟩ := List.getElem?_eq_some_iff.1 hu
          exact List.take_succ_eq_append_getElem hi)
        have HUN := Lib.hid (show u.nodes ≤ N by have := HN.out; omega)
        have HUM := Lib.hid (show u.nodes ≤ 1099511627776 by have := HM.out; omega)
        have hj62 : j ≤ 4611686018427387904 := by have := HM.out; have := HLL.out; omega
        have e3 := wrap_one j hj62
        have e4 := wrap_one' j hj62
        have HLE := Lib.hid (show (l.take j).length + 1 ≤ 1099511627776 by rw [List.length_take]; have := HM.out; have := HLL.out; omega)
        clear hrng hu hmem hj62 hb
        go_wp2_with ((with_reducible refine atDst 17 ?_); refine wpList_load_mid rfl 27 _ rfl b (off + j * 6) rfl (f j) _ HRG.out Tryd.underlying27 rfl (size_rx HV.out.length) ?_)
        refine (IH.out u HUN.out HUM.out (f j) wr HV.out).mono ?_
        rintro e w3 ⟨ds, rfl, hds, hb3⟩
        have HDS := Lib.hid hds
        have HD6 := Lib.hid hds.length
        have O3 := Lib.hid (HO.out.stay hb3)
        have HLT3 := Lib.hid (fun q hq => (HO.out.lt q hq))
        have B3 := Lib.hid (HB.out.trans (hb3.mono HB.out.size))
        have SR := Lib.hid HB.out.size
        clear hds hb3
        go_wp2_with (first
          | ((with_reducible refine atDst 19 ?_); refine wpList_bldT1 rfl 25 27 (.tmp 18) rfl i0 Tryd.underlying25 hi0 HZ1.out hz1 ds HD6.out rfl ?_; intro w4 hk4 hb4 hs4; have K4 := Lib.hid hk4; have O4 := Lib.hid (O3.out.stay hb4); have B4 := Lib.hid (B3.out.trans (hb4.mono B3.out.size)); have D4 := Lib.hid ((HDS.out.stay (w' := w4) fun q hq => hb4.block q hq.2).mono (D' := fun q => wr.heap.size ≤ q ∧ q < w4.heap.size) fun q hq => ⟨hq.1, Nat.lt_of_lt_of_le hq.2 hb4.size⟩); clear hk4 hb4 hs4)
          | ((with_reducible refine atDst 20 ?_); refine wpList_appT (base := w2.heap.size) rfl (.tmp 12) (.tmp 19) rfl i0 hi0 HZ1.out hz1 hz2 _ (l.take j) rfl O4.out w3.heap.size 1 27 ds u rfl K4.out (D4.out.mono fun q hq => ⟨Nat.le_trans SR.out hq.1, hq.2, fun he => by have h5 := HLT3.out q he.symm; have h6 := hq.1; omega⟩) HLE.out B4.out.size ?_; intro v5 w5 ho5 hg5; have O5 := Lib.hid ho5; have B5 := Lib.hid (B4.out.grown hg5 B4.out.size (fun q hq => O4.out.ge q hq)); clear ho5 hg5))
        refine ⟨⟨j + 1, by omega, by congr 1, by rw [HTK.out]; exact O5.out, B5.out⟩, by simp [intOf] <;> omega⟩
      · obtain rfl : j = l.length := by omega
        have j1 : ¬ ((l.length : Int) < (l.length : Int)) := by omega
        have ho := HO.out
        rw [List.take_length] at ho
        have O9 := Lib.hid ho
        have hfz := KR.out.frozen 5
        have MR := Lib.hid (M2.out.below HB.out M2.out.lt)
        have B9 := Lib.hid (B2.out.trans (HB.out.mono B2.out.size))
        obtain ⟨A3, cap3, rfl⟩ := O9.out.slice
        have KS := Lib.hid (show Blk (wr.setCell ⟨w.heap.size, 5, none⟩ (.slice A3 l.length cap3)) w.heap.size 27 (Value.int .i64 k :: (wds s ++ [.slice A3 l.length cap3])) by
          have := KR.out.set 5 (.slice A3 l.length cap3)
          rw [HST.out] at this
          exact this)
        obtain ⟨ds, hds⟩ : ∃ ds, ds = Value.int .i64 k :: (wds s ++ [.slice A3 l.length cap3]) := ⟨_, rfl⟩
        have HD6 := Lib.hid (show ds.length = 6 by rw [hds]; rfl)
        have KS' := Lib.hid (show Blk (wr.setCell ⟨w.heap.size, 5, none⟩ (.slice A3 l.length cap3)) w.heap.size 27 ds by rw [hds]; exact KS.out)
        have MS := Lib.hid (show Blk (wr.setCell ⟨w.heap.size, 5, none⟩ (.slice A3 l.length cap3)) w1.heap.size 27 z from MR.out.far (by have := G12.out; show w1.heap.size ≠ w.heap.size; omega) _)
        have BS := Lib.hid (show Below w.heap.size w (wr.setCell ⟨w.heap.size, 5, none⟩ (.slice A3 l.length cap3)) from B9.out.setCell (Nat.le_refl _) _)
        have GM := Lib.hid M2.out.lt
        have DS := Lib.hid (show RxD (fun b => w2.heap.size ≤ b ∧ b < wr.heap.size) (wr.setCell ⟨w.heap.size, 5, none⟩ (.slice A3 l.length cap3)) ds (.node k s l) by
          rw [hds]
          refine ((O9.out.rx k s).mono (D' := fun b => w2.heap.size ≤ b ∧ b < wr.heap.size) fun q hq => ⟨hq.1.elim id id, hq.2⟩).stay fun q hq => Below.heap_setCell wr ⟨w.heap.size, 5, none⟩ _ q ?_
          have h1 := hq.1
          have h2 := GM.out
          have h3 := G12.out
          show q ≠ w.heap.size
          omega)
        have HO1 := Lib.hid (show ds.all (·.oneCell') = true from List.all_eq_true.2 DS.out.one)
        have SZ9 := Lib.hid (show (wr.setCell ⟨w.heap.size, 5, none⟩ (.slice A3 l.length cap3)).heap.size = wr.heap.size by simp)
        clear ho HO hds KS
        go_wp2_with (first
          | ((with_reducible refine atDst 23 ?_); refine wpList_ldArr rfl 27 _ rfl w.heap.size rfl 27 _ _ KS'.out Tryd.underlying27 rfl (size_rx HD6.out) ?_)
          | ((with_reducible refine atStore 27 2 23 ?_); refine wpList_stBlk rfl 27 _ _ rfl w1.heap.size ds rfl rfl 27 _ MS.out (size_rx HD6.out) (by rw [HZL.out, HD6.out]) HO1.out BS.out (Nat.le_of_lt G12.out) ?_; intro w6 hk6 hb6 hs6 ho6; have K6 := Lib.hid hk6; have B6 := Lib.hid hb6; have D6 := Lib.hid ((DS.out.stay (w' := w6) fun q hq => ho6 q (by have h1 := hq.1; have h2 := GM.out; omega)).mono (D' := fun q => w.heap.size ≤ q ∧ q < w6.heap.size) fun q hq => ⟨by have h1 := hq.1; have h2 := GM.out; have h3 := G12.out; omega, by have h1 := hq.2; have h2 := SZ9.out; omega⟩); clear hk6 hb6 hs6 ho6))
        refine bodyPost_ret (results_blk rfl _ _ w1.heap.size 27 _ _ rfl K6.out Tryd.underlying27 rfl (size_rx HD6.out)) rfl ?_
        exact ⟨ds, rfl, D6.out, B6.out⟩
end Go.Proofs.YtmlojjgddmnbmaaDoor
namespace Go.Proofs.YtmlojjgddmnbmaaDoor
open Go.RowKit
set_option linter.unusedSimpArgs false
set_option linter.unusedVariables false

section
variable {w : World} {ops : Array Oper} {rest : List Oper} {o : Oper} {a : Act} {Q : Exit → Act → World → Prop}
set_option maxRecDepth 100000 in
/-- 'append(v, row...)': expressions that a row holds. -/
theorem wpList_appTs {D D' : Nat → Prop} {base : Nat} (hgd : o.guard = none) (s x : Operand)
    (ho : o.op = .call { callee := .builtin .append, args := #[s, x], argTypes := #[25, 25] })
    (i : TypeInfo) (hi : Tryd.prog.info? 27 = some i) (hz : i.zero = some (.agg (Value.int .i64 0 :: (wds (fun _ => false) ++ [.slice none 0 0])).toArray))
    (hsize : i.size = 6) (hby : i.bytes = 64)
    (v : Value) (l : List T) (hs : a.eval s = v) (hown : OwnT D base w v l)
    (u : Value) (m : List T) (hx : a.eval x = u) (hr : RowD D' w u m) (hD : ∀ k, D' k → D k ∧ k < w.heap.size ∧ some k ≠ v.ownBlock)
    (hlen : l.length + m.length ≤ 1099511627776) (hb : base ≤ w.heap.size)
    (h : ∀ v' w', OwnT D base w' v' (l ++ m) → w.grownBy w' v.ownBlock → wpList Tryd.prog ops Q rest (a.put o.dst v') w') : wpList Tryd.prog ops Q (o :: rest) a w := by
  obtain ⟨A, cap, f, rfl, r1, r2, r0, r3, r4⟩ := hr
  cases A with
  | none =>
    have hcap : cap = 0 := r0 rfl
    subst hcap
    have hn : m = [] := List.eq_nil_of_length_eq_zero (by omega)
    subst hn
    obtain ⟨cells, h1, h2, h3, h4⟩ := hown
    have hrun := run_append_owned_none (P := Tryd.prog) (w := w) base 25 o.type 27 i 6 Tryd.underlying25 hi v _ _ h3
    refine wpList_plain hgd fun K hK => ?_
    unfold Oper.wp
    simp at hx
    simp [execOp, ho, resolve, invoke, builtin, hs, hx, hrun, Result.andThen]
    exact hK _ _ (h v w (by simpa using ⟨cells, h1, h2, h3, h4⟩) (World.grownBy.refl _ _))
  | some ad =>
    obtain ⟨cells, h1, h2, h3, h4⟩ := hown
    obtain ⟨ms, hms⟩ : ∃ ms, ms = (List.range m.length).map f := ⟨_, rfl⟩
    have hml : ms.length = m.length := by rw [hms]; simp
    have hmi : ∀ (j : Nat) (c : List Value), ms[j]? = some c → j < m.length ∧ c = f j := fun j c hc => by
      have hj : j < m.length := by have := (List.getElem?_eq_some_iff.1 hc).1; omega
      rw [hms, List.getElem?_map, List.getElem?_range hj] at hc
      exact ⟨hj, by simpa using hc.symm⟩
    have hel : ∀ (j : Nat) (c : List Value) (t : T), ms[j]? = some c → m[j]? = some t → RxD D' w c t := fun j c t hc ht => by
      obtain ⟨_, rfl⟩ := hmi j c hc
      exact r4 j t ht
    have hm6 : ∀ c ∈ ms, c.length = 6 := fun c hc => by
      obtain ⟨j, hj⟩ := List.getElem?_of_mem hc
      exact (hel j c (m[j]'((hmi j c hj).1)) hj (List.getElem?_eq_getElem _)).length
    have hone : ∀ x ∈ ms.flatten, x.oneCell' = true := fun x hx => by
      obtain ⟨c, hc, hxc⟩ := List.mem_flatten.1 hx
      obtain ⟨j, hj⟩ := List.getElem?_of_mem hc
      exact RxD.one (hel j c (m[j]'((hmi j c hj).1)) hj (List.getElem?_eq_getElem _)) x hxc
    have hfl := flat6_len hm6
    have hnews : ∀ j x, ms.flatten[j]? = some x → w.cell? (ad.add j) = some x := fun j x hj => by
      have hlt : j < ms.length * 6 := by rw [← hfl]; exact (List.getElem?_eq_some_iff.1 hj).1
      have hk : j / 6 < ms.length := by omega
      have hg := flat6_get hm6 (List.getElem?_eq_getElem hk) (j % 6) (Nat.mod_lt _ (by omega))
      rw [show j / 6 * 6 + j % 6 = j by omega, hj] at hg
      obtain ⟨b, off, hA, _, hcell⟩ := r3 (fun he => by rw [he] at hml; simp only [List.length_nil] at hml; omega)
      injection hA with hA
      subst hA
      have hf := (hmi (j / 6) ms[j / 6] (List.getElem?_eq_getElem hk)).2
      rw [hf] at hg
      have := hcell (j / 6) (by omega) (j % 6) x hg.symm
      rw [show off + j / 6 * 6 + j % 6 = off + j by omega] at this
      rw [Addr.add_lit]
      exact this
    obtain ⟨v', w', hrun, hown', hgr, _⟩ := run_append_own (P := Tryd.prog) w base 25 o.type 27 i _ 6 64 Tryd.underlying25 hi hz hsize hby (by simp [Value.cells, wds]) (by omega) v l.length cells.flatten h3 ad m.length cap ms.flatten (by rw [hfl, hml]) hnews hone (by unfold maxLen; omega) (by omega) hb
    have hwh := append_where (P := Tryd.prog) (w := w) base 25 o.type 27 i _ 6 64 Tryd.underlying25 hi hz hsize hby (by omega) v l.length cells.flatten h3 ad m.length cap ms.flatten (by rw [hfl, hml]) hnews hone (by unfold maxLen; omega) (by omega) hrun
    refine wpList_plain hgd fun K hK => ?_
    unfold Oper.wp execOp
    simp only [ho, resolve, invoke, builtin, Sem.run_bind, Sem.run_pure, Result.andThen_ok, List.map_toArray, List.map_cons, List.map_nil, hs, hx, hrun]
    refine hK _ _ (h v' w' ⟨cells ++ ms, by simp [h1, hml], fun d hd => ?_, ?_, fun j d t hd ht => ?_⟩ hgr)
    · rcases List.mem_append.1 hd with hd | hd
      · exact h2 d hd
      · exact hm6 d hd
    · rw [List.flatten_append, List.length_append]
      exact hown'
    · have key : RxD (fun k => D k ∧ k < w.heap.size ∧ some k ≠ v.ownBlock) w d t := by
        by_cases hj : j < l.length
        · rw [List.getElem?_append_left (by omega)] at hd ht
          exact h4 j d t hd ht
        · rw [List.getElem?_append_right (by omega)] at hd ht
          rw [h1] at hd
          exact RxD.mono (hel _ d t hd ht) fun k hk => hD k hk
      refine (key.stay fun k hk => hgr.block k hk.2.1 hk.2.2).mono fun k hk => ⟨hk.1, Nat.lt_of_lt_of_le hk.2.1 hgr.size, fun he => ?_⟩
      rcases hwh k he.symm with h | h
      · exact hk.2.2 h.symm
      · have := hk.2.1
        omega
end
/-- The parts of those of a kind in their places. -/
def flatT (k : Int) (l : List T) : List T := l.flatMap fun t => if t.kind = k then t.args else [t]
theorem flatT_next (k : Int) (l : List T) (j : Nat) (t : T) (h : l[j]? = some t) : flatT k (l.take (j + 1)) = flatT k (l.take j) ++ if t.kind = k then t.args else [t] := by
  obtain ⟨hi, rfl⟩ := List.getElem?_eq_some_iff.1 h
  unfold flatT
  rw [List.take_succ_eq_append_getElem hi, List.flatMap_append, List.flatMap_cons, List.flatMap_nil, List.append_nil]
theorem flatT_len (k : Int) : ∀ l : List T, (flatT k l).length ≤ nodesL l
  | [] => Nat.le_refl _
  | t :: r => by
    have ih := flatT_len k r
    have e : flatT k (t :: r) = (if t.kind = k then t.args else [t]) ++ flatT k r := by simp [flatT]
    rw [e, List.length_append]
    cases t with
    | node k' s l =>
      have h1 := len_nodes l
      by_cases hk : (T.node k' s l).kind = k
      · rw [if_pos hk]
        simp only [nodesL, T.nodes, T.args]
        omega
      · rw [if_neg hk]
        simp only [nodesL, T.nodes, List.length_cons, List.length_nil]
        omega
end Go.Proofs.YtmlojjgddmnbmaaDoor
namespace Go.Proofs.YtmlojjgddmnbmaaDoor
open Go.RowKit
set_option linter.unusedSimpArgs false
set_option linter.unusedVariables false

/-! ### their line -/
theorem eqS_comm (p q : Nat → Bool) : eqS q p = eqS p q := by
  rw [Bool.eq_iff_iff, eqS_iff, eqS_iff]
  exact ⟨fun h b hb => (h b hb).symm, fun h b hb => (h b hb).symm⟩
mutual
theorem cmpT_self : ∀ t : T, cmpT t t = 0
  | .node k s l => by
    simp only [cmpT, eqS_self, cmpL_self l]
    simp
theorem cmpL_self : ∀ l : List T, cmpL l l = 0
  | [] => rfl
  | t :: r => by simp only [cmpL, cmpT_self t, cmpL_self r, if_true]
end
mutual
theorem cmpT_flip : ∀ t u : T, cmpT u t = - cmpT t u
  | .node k s l, .node k' s' l' => by
    by_cases hk : k = k'
    · subst hk
      simp only [cmpT, if_true, eqS_comm s s']
      by_cases h3 : k = 3 ∧ eqS s s' = false
      · rw [if_pos h3, if_pos h3]
        cases h : lessS s s' with
        | true =>
          have : lessS s' s = false := by
            cases h2 : lessS s' s with
            | false => rfl
            | true =>
              have := lessS_trans h h2
              rw [lessS_irrefl] at this
              cases this
          rw [this]; rfl
        | false =>
          have := lessS_not h
          rw [h3.2] at this
          cases h2 : lessS s' s with
          | true => rfl
          | false => rw [h2] at this; cases this
      · rw [if_neg h3, if_neg h3]
        exact cmpL_flip l l'
    · have hk' : ¬ k' = k := fun e => hk e.symm
      simp only [cmpT, if_neg hk, if_neg hk']
      by_cases h1 : k < k'
      · rw [if_pos h1, if_neg (by omega)]; rfl
      · rw [if_neg h1, if_pos (by omega)]
theorem cmpL_flip : ∀ l m : List T, cmpL m l = - cmpL l m
  | [], [] => rfl
  | [], _ :: _ => rfl
  | _ :: _, [] => rfl
  | a :: r, b :: s => by
    have h1 := cmpT_flip a b
    have h2 := cmpL_flip r s
    simp only [cmpL, h1, h2]
    by_cases h : cmpT a b = 0
    · rw [if_pos h, if_pos (by omega)]
    · rw [if_neg h, if_neg (by omega)]
end
mutual
theorem cmpT_three : ∀ t u : T, cmpT t u = -1 ∨ cmpT t u = 0 ∨ cmpT t u = 1
  | .node k s l, .node k' s' l' => by
    simp only [cmpT]
    by_cases hk : k = k'
    · rw [if_pos hk]
      by_cases h3 : k = 3 ∧ eqS s s' = false
      · rw [if_pos h3]
        cases lessS s s' <;> simp
      · rw [if_neg h3]
        exact cmpL_three l l'
    · rw [if_neg hk]
      by_cases h1 : k < k'
      · rw [if_pos h1]; exact .inl rfl
      · rw [if_neg h1]; exact .inr (.inr rfl)
theorem cmpL_three : ∀ l m : List T, cmpL l m = -1 ∨ cmpL l m = 0 ∨ cmpL l m = 1
  | [], [] => .inr (.inl rfl)
  | [], _ :: _ => .inl rfl
  | _ :: _, [] => .inr (.inr rfl)
  | a :: r, b :: s => by
    simp only [cmpL]
    by_cases h : cmpT a b = 0
    · rw [if_pos h]; exact cmpL_three r s
    · rw [if_neg h]; exact cmpT_three a b
end
/-- Not above and not above is not above, and level only if both are. -/
def Chn (x y z : Int) : Prop := x ≤ 0 → y ≤ 0 → z ≤ 0 ∧ (z = 0 → x = 0 ∧ y = 0)
theorem chn_sets (s s' s'' : Nat → Bool) : Chn (if eqS s s' = false then (if lessS s s' then -1 else 1) else 0) (if eqS s' s'' = false then (if lessS s' s'' then -1 else 1) else 0) (if eqS s s'' = false then (if lessS s s'' then -1 else 1) else 0) := by
  intro hx hy
  cases e1 : eqS s s' with
  | true =>
    have h1 := (eqS_iff s s').1 e1
    have a1 : eqS s s'' = eqS s' s'' := by
      rw [Bool.eq_iff_iff, eqS_iff, eqS_iff]
      exact ⟨fun h b hb => (h1 b hb).symm.trans (h b hb), fun h b hb => (h1 b hb).trans (h b hb)⟩
    have a2 : lessS s s'' = lessS s' s'' := lessS_congr h1 fun _ _ => rfl
    rw [a1, a2]
    exact ⟨hy, fun h => ⟨rfl, h⟩⟩
  | false =>
    rw [e1, if_pos rfl] at hx
    have l1 : lessS s s' = true := by
      cases h : lessS s s' with
      | true => rfl
      | false => rw [h] at hx; simp at hx
    cases e2 : eqS s' s'' with
    | true =>
      have h2 := (eqS_iff s' s'').1 e2
      have a2 : lessS s s'' = true := by rw [← lessS_congr (fun _ _ => rfl) h2]; exact l1
      rw [lessS_ne a2, a2]
      exact ⟨by decide, fun h => by simp at h⟩
    | false =>
      rw [e2, if_pos rfl] at hy
      have l2 : lessS s' s'' = true := by
        cases h : lessS s' s'' with
        | true => rfl
        | false => rw [h] at hy; simp at hy
      have a2 := lessS_trans l1 l2
      rw [lessS_ne a2, a2]
      exact ⟨by decide, fun h => by simp at h⟩
/-- By the first, and where it is level by the second. -/
def lex (d l : Int) : Int := if d = 0 then l else d
theorem chn_lex {d1 d2 d3 l1 l2 l3 : Int} (hd : Chn d1 d2 d3) (hl : Chn l1 l2 l3) : Chn (lex d1 l1) (lex d2 l2) (lex d3 l3) := by
  unfold lex
  intro hx hy
  have x0 : d1 ≤ 0 := by
    by_cases e : d1 = 0
    · omega
    · rw [if_neg e] at hx; exact hx
  have y0 : d2 ≤ 0 := by
    by_cases e : d2 = 0
    · omega
    · rw [if_neg e] at hy; exact hy
  have hz := hd x0 y0
  by_cases ez : d3 = 0
  · obtain ⟨ex, ey⟩ := hz.2 ez
    rw [if_pos ex] at hx ⊢
    rw [if_pos ey] at hy ⊢
    rw [if_pos ez]
    exact hl hx hy
  · rw [if_neg ez]
    exact ⟨hz.1, fun h0 => absurd h0 ez⟩
def kindD (k k' : Int) : Int := if k = k' then 0 else if k < k' then -1 else 1
def setD (k : Int) (s s' : Nat → Bool) : Int := if k = 3 then (if eqS s s' = false then (if lessS s s' then -1 else 1) else 0) else 0
theorem chn_kind (a b c : Int) : Chn (kindD a b) (kindD b c) (kindD a c) := by
  intro hx hy
  unfold kindD at *
  have h1 : a ≤ b := by
    by_cases h : a = b
    · omega
    · rw [if_neg h] at hx
      by_cases h' : a < b
      · omega
      · rw [if_neg h'] at hx; simp at hx
  have h2 : b ≤ c := by
    by_cases h : b = c
    · omega
    · rw [if_neg h] at hy
      by_cases h' : b < c
      · omega
      · rw [if_neg h'] at hy; simp at hy
  by_cases h : a = c
  · rw [if_pos h, if_pos (by omega), if_pos (by omega)]
    exact ⟨by decide, fun _ => ⟨rfl, rfl⟩⟩
  · rw [if_neg h, if_pos (by omega)]
    exact ⟨by decide, fun h0 => by simp at h0⟩
theorem chn_setD (k : Int) (s s' s'' : Nat → Bool) : Chn (setD k s s') (setD k s' s'') (setD k s s'') := by
  unfold setD
  by_cases h : k = 3
  · rw [if_pos h, if_pos h, if_pos h]
    exact chn_sets s s' s''
  · rw [if_neg h, if_neg h, if_neg h]
    exact fun _ _ => ⟨by decide, fun _ => ⟨rfl, rfl⟩⟩
theorem lex_zero (l : Int) : lex 0 l = l := rfl
theorem lex_ne {d : Int} (l : Int) (h : d ≠ 0) : lex d l = d := if_neg h
theorem cmpT_lex (k k' : Int) (s s' : Nat → Bool) (l l' : List T) : cmpT (.node k s l) (.node k' s' l') = lex (kindD k k') (lex (setD k s s') (cmpL l l')) := by
  simp only [cmpT]
  by_cases hk : k = k'
  · have e1 : kindD k k' = 0 := if_pos hk
    rw [if_pos hk, e1, lex_zero]
    by_cases h3 : k = 3
    · cases e : eqS s s' with
      | true =>
        have e2 : setD k s s' = 0 := by unfold setD; rw [if_pos h3, e]; rfl
        rw [if_neg (by rintro ⟨_, h⟩; cases h), e2, lex_zero]
      | false =>
        have e2 : setD k s s' = if lessS s s' then -1 else 1 := by unfold setD; rw [if_pos h3, e]; rfl
        rw [if_pos ⟨h3, rfl⟩, e2, lex_ne]
        cases lessS s s' <;> decide
    · have e2 : setD k s s' = 0 := if_neg h3
      rw [if_neg (fun h => h3 h.1), e2, lex_zero]
  · have e1 : kindD k k' = if k < k' then -1 else 1 := if_neg hk
    rw [if_neg hk, e1, lex_ne]
    by_cases h : k < k'
    · rw [if_pos h]; decide
    · rw [if_neg h]; decide
mutual
theorem cmpT_chain : ∀ t u v : T, Chn (cmpT t u) (cmpT u v) (cmpT t v)
  | .node k s l, .node k' s' l', .node k'' s'' l'' => by
    have hl := cmpL_chain l l' l''
    rw [cmpT_lex, cmpT_lex, cmpT_lex]
    intro hx hy
    have hk := chn_kind k k' k''
    by_cases h1 : k = k'
    · subst h1
      exact chn_lex hk (chn_lex (chn_setD k s s' s'') hl) hx hy
    · have hx0 : kindD k k' ≠ 0 := by
        unfold kindD
        rw [if_neg h1]
        split <;> decide
      have hx1 : kindD k k' ≤ 0 := by
        unfold lex at hx
        rw [if_neg hx0] at hx
        exact hx
      have hy1 : kindD k' k'' ≤ 0 := by
        unfold lex at hy
        by_cases e : kindD k' k'' = 0
        · omega
        · rw [if_neg e] at hy; exact hy
      have hz := hk hx1 hy1
      have ez : kindD k k'' ≠ 0 := fun h => hx0 (hz.2 h).1
      have e : lex (kindD k k'') (lex (setD k s s'') (cmpL l l'')) = kindD k k'' := by unfold lex; rw [if_neg ez]
      rw [e]
      exact ⟨hz.1, fun h => absurd h ez⟩
theorem cmpL_chain : ∀ l m n : List T, Chn (cmpL l m) (cmpL m n) (cmpL l n)
  | [], [], n => fun hx hy => ⟨hy, fun h => ⟨rfl, h⟩⟩
  | [], _ :: _, [] => fun _ hy => by simp [cmpL] at hy
  | [], _ :: _, _ :: _ => fun _ _ => ⟨by simp [cmpL], fun h => by simp [cmpL] at h⟩
  | _ :: _, [], _ => fun hx _ => by simp [cmpL] at hx
  | _ :: _, _ :: _, [] => fun _ hy => by simp [cmpL] at hy
  | a :: r, b :: s, c :: t => by
    have h := cmpT_chain a b c
    have hr := cmpL_chain r s t
    have := chn_lex h hr
    unfold lex at this
    simp only [cmpL]
    exact this
end
theorem cmpT_trans {t u v : T} (h : cmpT t u < 0) (k : cmpT u v ≤ 0) : cmpT t v < 0 := by
  have := cmpT_chain t u v (by omega) k
  rcases cmpT_three t v with h1 | h1 | h1
  · omega
  · have := (this.2 h1).1; omega
  · omega
theorem cmpT_trans' {t u v : T} (h : cmpT t u ≤ 0) (k : cmpT u v < 0) : cmpT t v < 0 := by
  have := cmpT_chain t u v h (by omega)
  rcases cmpT_three t v with h1 | h1 | h1
  · omega
  · have := (this.2 h1).2; omega
  · omega
end Go.Proofs.YtmlojjgddmnbmaaDoor
namespace Go.Proofs.YtmlojjgddmnbmaaDoor
open Go.RowKit
set_option linter.unusedSimpArgs false
set_option linter.unusedVariables false


def zeroS : Nat → Bool := fun _ => false
/-- The cells of an expression. -/
def rxc (k : Int) (s : Nat → Bool) (v : Value) : List Value := Value.int .i64 k :: (wds s ++ [v])
theorem rxc_length (k : Int) (s : Nat → Bool) (v : Value) : (rxc k s v).length = 6 := rfl
theorem rxc_one (k : Int) (s : Nat → Bool) (A : Option Addr) (n c : Nat) : (rxc k s (.slice A n c)).all (·.oneCell') = true := rfl
/-- One that has no parts. -/
theorem rx_leaf (D : Nat → Prop) (w : World) (k : Int) (s : Nat → Bool) : RxD D w (rxc k s (.slice none 0 0)) (.node k s []) :=
  .node (l := []) (fun _ => []) (Nat.le_refl _) (Nat.zero_le _) (fun _ => rfl) (fun h => absurd rfl h) (fun i t h => by simp at h)
def noneT : T := .node 1 zeroS []
def emptyT : T := .node 2 zeroS []
/-- The expression of one byte of a set. -/
def bytesT (s : Nat → Bool) : T := if eqS s zeroS then noneT else .node 3 s []
theorem inf_rx' : ∃ i, Tryd.prog.info? 27 = some i ∧ i.zero = some (.agg (rxc 0 zeroS (.slice none 0 0)).toArray) ∧ i.size = 6 ∧ i.bytes = 64 := infoP inf_rx
theorem built0 (k : Int) : Tryd.prog.built 27 [(0, .int .i64 k)] = some (rxc k zeroS (.slice none 0 0)).toArray := by kernel_rfl
theorem built01 (k : Int) (s : Nat → Bool) : Tryd.prog.built 27 [(0, .int .i64 k), (1, .agg (wds s).toArray)] = some (rxc k s (.slice none 0 0)).toArray := by kernel_rfl
theorem built02 (k : Int) (v : Value) (A : Option Addr) (n c : Nat) (hv : v = .slice A n c) : Tryd.prog.built 27 [(0, .int .i64 k), (2, v)] = some (rxc k zeroS v).toArray := by subst hv; kernel_rfl
theorem builtS : Tryd.prog.built 24 [] = some (wds zeroS).toArray := by kernel_rfl

set_option maxHeartbeats 2000000 in
set_option maxRecDepth 100000 in
theorem refNone_any (w : World) : Calls Tryd.prog 32 #[] w fun e w' => ∃ ds, e = .returned (.agg ds.toArray) ∧ (∀ D, RxD D w' ds noneT) ∧ Below w.heap.size w w' := by
  obtain ⟨i0, hi0, hz0, hz1, hz2⟩ := inf_rx'
  obtain ⟨z, hz⟩ : ∃ z, z = rxc 0 zeroS (.slice none 0 0) := ⟨_, rfl⟩
  have HZL := Lib.hid (show z.length = 6 by rw [hz]; rfl)
  have HZ0 := Lib.hid (show i0.zero = some (.agg z.toArray) by rw [hz]; exact hz0)
  obtain ⟨c, hc⟩ : ∃ c, c = rxc 1 zeroS (.slice none 0 0) := ⟨_, rfl⟩
  have HCB := Lib.hid (show Tryd.prog.built 27 [(0, .int .i64 1)] = some c.toArray by rw [hc]; exact built0 1)
  have HC6 := Lib.hid (show c.length = 6 by rw [hc]; rfl)
  have HC1 := Lib.hid (show c.all (·.oneCell') = true by rw [hc]; rfl)
  have HC := Lib.hid hc
  clear hz hz0 hz1 hz2 hc
  go_enter Tryd.func32, Tryd.ntmps32
  go_wp2_with (first
    | ((with_reducible refine atDst 0 ?_); refine wpList_new rfl 27 rfl i0 _ z hi0 HZ0.out rfl (Below.refl w.heap.size w) (Nat.le_refl _) ?_; intro w1 hk1 hb1 hs1 _; have K1 := Lib.hid hk1; have B1 := Lib.hid hb1; clear hk1 hb1 hs1)
    | ((with_reducible refine atDst 1 ?_); refine wpList_bld rfl 27 _ rfl c HCB.out ?_)
    | ((with_reducible refine atStore 27 0 1 ?_); refine wpList_stBlk rfl 27 _ _ rfl w.heap.size c rfl rfl 27 _ K1.out (size_rx HC6.out) (by rw [HZL.out, HC6.out]) HC1.out B1.out (Nat.le_refl _) ?_; intro w2 hk2 hb2 hs2 _; have K2 := Lib.hid hk2; have B2 := Lib.hid hb2; clear hk2 hb2 hs2))
  refine bodyPost_ret (results_blk rfl _ _ w.heap.size 27 _ _ rfl K2.out Tryd.underlying27 rfl (size_rx HC6.out)) rfl ?_
  exact ⟨c, rfl, fun D => by rw [HC.out]; exact rx_leaf D _ _ _, B2.out⟩
set_option maxHeartbeats 2000000 in
set_option maxRecDepth 100000 in
theorem refEmpty_any (w : World) : Calls Tryd.prog 22 #[] w fun e w' => ∃ ds, e = .returned (.agg ds.toArray) ∧ (∀ D, RxD D w' ds emptyT) ∧ Below w.heap.size w w' := by
  obtain ⟨i0, hi0, hz0, hz1, hz2⟩ := inf_rx'
  obtain ⟨z, hz⟩ : ∃ z, z = rxc 0 zeroS (.slice none 0 0) := ⟨_, rfl⟩
  have HZL := Lib.hid (show z.length = 6 by rw [hz]; rfl)
  have HZ0 := Lib.hid (show i0.zero = some (.agg z.toArray) by rw [hz]; exact hz0)
  obtain ⟨c, hc⟩ : ∃ c, c = rxc 2 zeroS (.slice none 0 0) := ⟨_, rfl⟩
  have HCB := Lib.hid (show Tryd.prog.built 27 [(0, .int .i64 2)] = some c.toArray by rw [hc]; exact built0 2)
  have HC6 := Lib.hid (show c.length = 6 by rw [hc]; rfl)
  have HC1 := Lib.hid (show c.all (·.oneCell') = true by rw [hc]; rfl)
  have HC := Lib.hid hc
  clear hz hz0 hz1 hz2 hc
  go_enter Tryd.func22, Tryd.ntmps22
  go_wp2_with (first
    | ((with_reducible refine atDst 0 ?_); refine wpList_new rfl 27 rfl i0 _ z hi0 HZ0.out rfl (Below.refl w.heap.size w) (Nat.le_refl _) ?_; intro w1 hk1 hb1 hs1 _; have K1 := Lib.hid hk1; have B1 := Lib.hid hb1; clear hk1 hb1 hs1)
    | ((with_reducible refine atDst 1 ?_); refine wpList_bld rfl 27 _ rfl c HCB.out ?_)
    | ((with_reducible refine atStore 27 0 1 ?_); refine wpList_stBlk rfl 27 _ _ rfl w.heap.size c rfl rfl 27 _ K1.out (size_rx HC6.out) (by rw [HZL.out, HC6.out]) HC1.out B1.out (Nat.le_refl _) ?_; intro w2 hk2 hb2 hs2 _; have K2 := Lib.hid hk2; have B2 := Lib.hid hb2; clear hk2 hb2 hs2))
  refine bodyPost_ret (results_blk rfl _ _ w.heap.size 27 _ _ rfl K2.out Tryd.underlying27 rfl (size_rx HC6.out)) rfl ?_
  exact ⟨c, rfl, fun D => by rw [HC.out]; exact rx_leaf D _ _ _, B2.out⟩
set_option maxHeartbeats 2000000 in
set_option maxRecDepth 100000 in
theorem refBytes_any (s : Nat → Bool) (w : World) : Calls Tryd.prog 18 #[.agg (wds s).toArray] w fun e w' => ∃ ds, e = .returned (.agg ds.toArray) ∧ (∀ D, RxD D w' ds (bytesT s)) ∧ Below w.heap.size w w' := by
  obtain ⟨i0, hi0, hz0, hz1, hz2⟩ := inf_rx'
  obtain ⟨z, hz⟩ : ∃ z, z = rxc 0 zeroS (.slice none 0 0) := ⟨_, rfl⟩
  have HZL := Lib.hid (show z.length = 6 by rw [hz]; rfl)
  have HZ0 := Lib.hid (show i0.zero = some (.agg z.toArray) by rw [hz]; exact hz0)
  obtain ⟨c, hc⟩ : ∃ c, c = rxc 3 s (.slice none 0 0) := ⟨_, rfl⟩
  have HCB := Lib.hid (show Tryd.prog.built 27 [(0, .int .i64 3), (1, .agg (wds s).toArray)] = some c.toArray by rw [hc]; exact built01 3 s)
  have HC6 := Lib.hid (show c.length = 6 by rw [hc]; rfl)
  have HC1 := Lib.hid (show c.all (·.oneCell') = true by rw [hc]; rfl)
  have HC := Lib.hid hc
  have HBS := Lib.hid builtS
  obtain ⟨zs, hzs⟩ : ∃ zs, zs = zeroS := ⟨_, rfl⟩
  have HZS := Lib.hid hzs
  rw [← hzs] at HBS
  clear hz hz0 hz1 hz2 hc hzs
  cases hs : eqS s zs with
  | true =>
    have HEQ := Lib.hid hs
    have HF := Lib.hid (show bytesT s = noneT by unfold bytesT; rw [← HZS.out, hs]; rfl)
    clear hs
    go_enter Tryd.func18, Tryd.ntmps18
    go_wp2_with (first
      | ((with_reducible refine atDst 1 ?_); refine wpList_box rfl 24 _ rfl (wds s) rfl (Below.refl w.heap.size w) (Nat.le_refl _) ?_; intro w1 hk1 hb1 hs1 _; have K1 := Lib.hid hk1; have B1 := Lib.hid hb1; clear hk1 hb1 hs1)
      | ((with_reducible refine atDst 2 ?_); refine wpList_new rfl 27 rfl i0 _ z hi0 HZ0.out rfl B1.out B1.out.size ?_; intro w2 hk2 hb2 hs2 ho2; have L2 := Lib.hid hk2; have B2 := Lib.hid hb2; have K2 := Lib.hid (show Blk w2 w.heap.size 24 (wds s) from (ho2 _ K1.out.lt).trans K1.out); have G12 := Lib.hid K1.out.lt; clear hk2 hb2 hs2 ho2)
      | ((with_reducible refine atDst 3 ?_); refine wpList_ldArr rfl 24 _ rfl w.heap.size rfl 24 _ _ K2.out Tryd.underlying24 rfl (size_set s) ?_; (try simp only [Act.put, List.setIfInBounds_toArray, List.set_cons_zero, List.set_cons_succ]))
      | ((with_reducible refine atDst 4 ?_); refine wpList_bld rfl 24 _ rfl (wds zs) HBS.out ?_; (try simp only [Act.put, List.setIfInBounds_toArray, List.set_cons_zero, List.set_cons_succ]))
      | ((with_reducible refine atDst 5 ?_); refine wpList_eqSet_is rfl HEQ.out 24 22 (.tmp 3) (.tmp 4) 24 rfl guardSet Tryd.underlying24 Tryd.underlying22 sizeU64 rfl rfl ?_; (try simp only [Act.put, List.setIfInBounds_toArray, List.set_cons_zero, List.set_cons_succ])))
    refine (refNone_any w2).mono ?_
    rintro e w3 ⟨ds, rfl, hds, hb3⟩
    have D6 := Lib.hid (hds (fun _ => False)).length
    have DA := Lib.hid hds
    have D1 := Lib.hid (show ds.all (·.oneCell') = true from List.all_eq_true.2 (hds (fun _ => False)).one)
    have L3 := Lib.hid (L2.out.below hb3 L2.out.lt)
    have B3 := Lib.hid (B2.out.trans (hb3.mono B2.out.size))
    clear hds hb3
    go_wp2_with ((with_reducible refine atStore 27 2 6 ?_); refine wpList_stBlk rfl 27 _ _ rfl w1.heap.size ds rfl rfl 27 _ L3.out (size_rx D6.out) (by rw [HZL.out, D6.out]) D1.out B3.out (Nat.le_of_lt G12.out) ?_; intro w4 hk4 hb4 hs4 ho4; have K4 := Lib.hid hk4; have B4 := Lib.hid hb4; have D4 := Lib.hid (fun D => ((DA.out (fun _ => False)).stay (w' := w4) fun k hk => absurd hk id).mono (D' := D) fun k hk => absurd hk id); clear hk4 hb4 hs4 ho4)
    refine bodyPost_ret (results_blk rfl _ _ w1.heap.size 27 _ _ rfl K4.out Tryd.underlying27 rfl (size_rx D6.out)) rfl ?_
    exact ⟨ds, rfl, by rw [HF.out]; exact D4.out, B4.out⟩
  | false =>
    have HEQ := Lib.hid hs
    have HF := Lib.hid (show bytesT s = .node 3 s [] by unfold bytesT; rw [← HZS.out, hs]; rfl)
    clear hs
    go_enter Tryd.func18, Tryd.ntmps18
    go_wp2_with (first
      | ((with_reducible refine atDst 1 ?_); refine wpList_box rfl 24 _ rfl (wds s) rfl (Below.refl w.heap.size w) (Nat.le_refl _) ?_; intro w1 hk1 hb1 hs1 _; have K1 := Lib.hid hk1; have B1 := Lib.hid hb1; clear hk1 hb1 hs1)
      | ((with_reducible refine atDst 2 ?_); refine wpList_new rfl 27 rfl i0 _ z hi0 HZ0.out rfl B1.out B1.out.size ?_; intro w2 hk2 hb2 hs2 ho2; have L2 := Lib.hid hk2; have B2 := Lib.hid hb2; have K2 := Lib.hid (show Blk w2 w.heap.size 24 (wds s) from (ho2 _ K1.out.lt).trans K1.out); have G12 := Lib.hid K1.out.lt; clear hk2 hb2 hs2 ho2)
      | ((with_reducible refine atDst 3 ?_); refine wpList_ldArr rfl 24 _ rfl w.heap.size rfl 24 _ _ K2.out Tryd.underlying24 rfl (size_set s) ?_; (try simp only [Act.put, List.setIfInBounds_toArray, List.set_cons_zero, List.set_cons_succ]))
      | ((with_reducible refine atDst 4 ?_); refine wpList_bld rfl 24 _ rfl (wds zs) HBS.out ?_; (try simp only [Act.put, List.setIfInBounds_toArray, List.set_cons_zero, List.set_cons_succ]))
      | ((with_reducible refine atDst 5 ?_); refine wpList_eqSet_is rfl HEQ.out 24 22 (.tmp 3) (.tmp 4) 24 rfl guardSet Tryd.underlying24 Tryd.underlying22 sizeU64 rfl rfl ?_; (try simp only [Act.put, List.setIfInBounds_toArray, List.set_cons_zero, List.set_cons_succ]))
      | ((with_reducible refine atDst 7 ?_); refine wpList_ldArr rfl 24 _ rfl w.heap.size rfl 24 _ _ K2.out Tryd.underlying24 rfl (size_set s) ?_; (try simp only [Act.put, List.setIfInBounds_toArray, List.set_cons_zero, List.set_cons_succ]))
      | ((with_reducible refine atDst 8 ?_); refine wpList_bld rfl 27 _ rfl c HCB.out ?_; (try simp only [Act.put, List.setIfInBounds_toArray, List.set_cons_zero, List.set_cons_succ]))
      | ((with_reducible refine atStore 27 2 8 ?_); refine wpList_stBlk rfl 27 _ _ rfl w1.heap.size c rfl rfl 27 _ L2.out (size_rx HC6.out) (by rw [HZL.out, HC6.out]) HC1.out B2.out (Nat.le_of_lt G12.out) ?_; intro w4 hk4 hb4 hs4 ho4; have K4 := Lib.hid hk4; have B4 := Lib.hid hb4; clear hk4 hb4 hs4 ho4))
    refine bodyPost_ret (results_blk rfl _ _ w1.heap.size 27 _ _ rfl K4.out Tryd.underlying27 rfl (size_rx HC6.out)) rfl ?_
    exact ⟨c, rfl, fun D => by rw [HF.out, HC.out]; exact rx_leaf D _ _ _, B4.out⟩
end Go.Proofs.YtmlojjgddmnbmaaDoor
namespace Go.Proofs.YtmlojjgddmnbmaaDoor
open Go.RowKit
set_option linter.unusedSimpArgs false
set_option linter.unusedVariables false


theorem flatT_take (k : Int) (l : List T) (j : Nat) : (flatT k (l.take j)).length ≤ nodesL l := Nat.le_trans (flatT_len k _) (nodesL_take l j)
/-- What an expression is, and where its parts are. -/
theorem RxD.split {D : Nat → Prop} {w : World} {cs : List Value} {t : T} (h : RxD D w cs t) : ∃ A cap, cs = rxc t.kind t.set (.slice A t.args.length cap) ∧ RowD D w (.slice A t.args.length cap) t.args := by
  cases t with
  | node k s l =>
    obtain ⟨v, rfl, hr⟩ := RxD.row h
    have hr' := hr
    obtain ⟨A, cap, f, rfl, _⟩ := hr
    exact ⟨A, cap, rfl, hr'⟩
theorem rxc_get0 (k : Int) (s : Nat → Bool) (v : Value) : (rxc k s v)[0]? = some (.int .i64 k) := rfl
theorem rxc_get5 (k : Int) (s : Nat → Bool) (v : Value) : (rxc k s v)[5]? = some v := rfl
/-- Those of other kinds. -/
def withoutT (k : Int) (l : List T) : List T := l.filter fun t => decide (t.kind ≠ k)
theorem withoutT_next (k : Int) (l : List T) (j : Nat) (t : T) (h : l[j]? = some t) : withoutT k (l.take (j + 1)) = withoutT k (l.take j) ++ if t.kind = k then [] else [t] := by
  obtain ⟨hi, rfl⟩ := List.getElem?_eq_some_iff.1 h
  unfold withoutT
  rw [List.take_succ_eq_append_getElem hi, List.filter_append]
  congr 1
  by_cases hk : l[j].kind = k
  · rw [if_pos hk]; simp [hk]
  · rw [if_neg hk]; simp [hk]
theorem withoutT_len (k : Int) (l : List T) : (withoutT k l).length ≤ l.length := List.length_filter_le _ _
theorem withoutT_nodes (k : Int) : ∀ l : List T, nodesL (withoutT k l) ≤ nodesL l
  | [] => Nat.le_refl _
  | t :: r => by
    have ih := withoutT_nodes k r
    unfold withoutT at *
    by_cases hk : t.kind = k
    · rw [List.filter_cons_of_neg (by simp [hk])]
      simp only [nodesL]; omega
    · rw [List.filter_cons_of_pos (by simp [hk])]
      simp only [nodesL]; omega
theorem flatT_nodes (k : Int) : ∀ l : List T, nodesL (flatT k l) ≤ nodesL l
  | [] => Nat.le_refl _
  | t :: r => by
    have ih := flatT_nodes k r
    have e : flatT k (t :: r) = (if t.kind = k then t.args else [t]) ++ flatT k r := by simp [flatT]
    rw [e, nodesL_append]
    cases t with
    | node k' s l =>
      by_cases hk : (T.node k' s l).kind = k
      · rw [if_pos hk]
        simp only [nodesL, T.nodes, T.args]
        omega
      · rw [if_neg hk]
        simp only [nodesL, T.nodes]
        omega
end Go.Proofs.YtmlojjgddmnbmaaDoor
namespace Go.Proofs.YtmlojjgddmnbmaaDoor
open Go.RowKit
set_option linter.unusedSimpArgs false
set_option linter.unusedVariables false


theorem OwnT.rowD {D : Nat → Prop} {base : Nat} {w : World} {v : Value} {l : List T} (h : OwnT D base w v l) : RowD (fun b => (D b ∨ base ≤ b) ∧ b < w.heap.size) w v l := by
  obtain ⟨v', he, hr⟩ := (h.rx 0 zeroS).row
  have : v' = v := by
    simp only [List.cons.injEq, true_and] at he
    have := List.append_cancel_left he
    simpa using this.symm
  rwa [this] at hr
/-- One expression of a list: none of them, the one, or all. -/
def wrapT (k : Int) (n : T) : List T → T
  | [] => n
  | [t] => t
  | a :: b :: r => .node k zeroS (a :: b :: r)
theorem wrapT_many (k : Int) (n : T) (l : List T) (h : 2 ≤ l.length) : wrapT k n l = .node k zeroS l := by
  match l, h with
  | a :: b :: r, _ => rfl
def anyK (k : Int) (l : List T) : Bool := l.any fun t => decide (t.kind = k)
def catT (l : List T) : T := if anyK 1 (flatT 4 l) then noneT else wrapT 4 emptyT (withoutT 2 (flatT 4 l))

theorem wrapT_nodes (k : Int) (n : T) : ∀ l : List T, (wrapT k n l).nodes ≤ 1 + n.nodes + nodesL l
  | [] => by simp only [wrapT, nodesL]; omega
  | [t] => by simp only [wrapT, nodesL]; omega
  | a :: b :: r => by
    rw [wrapT_many k n _ (by simp)]
    simp only [T.nodes]
    omega
theorem catT_nodes (l : List T) : (catT l).nodes ≤ 2 + nodesL l := by
  unfold catT
  have h1 := wrapT_nodes 4 emptyT (withoutT 2 (flatT 4 l))
  have h2 := withoutT_nodes 2 (flatT 4 l)
  have h3 := flatT_nodes 4 l
  have h4 : emptyT.nodes = 1 := rfl
  have h5 : noneT.nodes = 1 := rfl
  split <;> omega
end Go.Proofs.YtmlojjgddmnbmaaDoor
namespace Go.Proofs.YtmlojjgddmnbmaaDoor
open Go.RowKit
set_option linter.unusedSimpArgs false
set_option linter.unusedVariables false


/-- The i-th one of a list. -/
def nthT (l : List T) (i : Nat) : T := l.getD i noneT
theorem nthT_some {l : List T} {i : Nat} (h : i < l.length) : l[i]? = some (nthT l i) := by
  unfold nthT
  rw [List.getD_eq_getElem?_getD, List.getElem?_eq_getElem h]
  rfl
/-- Those below i that are not level with the one ahead. -/
def ddU (l : List T) (i : Nat) : List T := (List.range i).filterMap fun j => if j = 0 ∨ cmpT (nthT l j) (nthT l (j - 1)) ≠ 0 then some (nthT l j) else none
theorem ddU_next (l : List T) (i : Nat) : ddU l (i + 1) = ddU l i ++ if i = 0 ∨ cmpT (nthT l i) (nthT l (i - 1)) ≠ 0 then [nthT l i] else [] := by
  unfold ddU
  rw [List.range_succ, List.filterMap_append]
  congr 1
  by_cases h : i = 0 ∨ cmpT (nthT l i) (nthT l (i - 1)) ≠ 0
  · simp only [List.filterMap_cons, if_pos h, List.filterMap_nil]
  · simp only [List.filterMap_cons, if_neg h, List.filterMap_nil]
theorem ddU_len (l : List T) : ∀ i, (ddU l i).length ≤ i
  | 0 => Nat.le_refl _
  | i + 1 => by
    have := ddU_len l i
    rw [ddU_next, List.length_append]
    split <;> simp <;> omega
theorem ddU_all (l : List T) : ∀ i, i ≤ l.length → (∀ j, 0 < j → j < i → cmpT (nthT l j) (nthT l (j - 1)) ≠ 0) → ddU l i = l.take i
  | 0, _, _ => by simp [ddU]
  | i + 1, hi, h => by
    have ih := ddU_all l i (by omega) fun j h0 hj => h j h0 (by omega)
    rw [ddU_next, ih, if_pos, List.take_succ_eq_append_getElem (by omega)]
    · congr 2
      have := nthT_some (l := l) (i := i) (by omega)
      rw [List.getElem?_eq_getElem (by omega)] at this
      exact (Option.some.inj this).symm
    · rcases Nat.eq_zero_or_pos i with h0 | h0
      · exact .inl h0
      · exact .inr (h i h0 (by omega))
/-- The row's cells are there, and may be written. -/
def ThereT (w : World) (g n : Nat) : Prop := ∀ j, j < n → w.there g (j * 6) 6
theorem grown_setCells {w w' : World} {g : Nat} (h : w.grownBy w' (some g)) (o : Nat) (vs : List Value) : w.grownBy (w'.setCells g o vs) (some g) := by
  induction vs generalizing o w' with
  | nil => exact h
  | cons v r ih =>
    refine ih (w' := w'.setCell ⟨g, o, none⟩ v) ⟨h.os, h.tape, h.output, ?_, fun k hk hne => ?_⟩ (o + 1)
    · have := h.size
      simpa [World.setCell] using this
    · rw [← h.block k hk hne]
      exact Below.heap_setCell w' ⟨g, o, none⟩ v k fun e => hne (by rw [e])
theorem there_below {w w' : World} {B g o n : Nat} (h : w.there g o n) (hb : Below B w w') (hg : g < B) : w'.there g o n := fun j hj => by
  have h1 := h j hj
  have e := hb.block g hg
  refine ⟨?_, ?_⟩
  · have : w'.cell? ⟨g, o + j, none⟩ = w.cell? ⟨g, o + j, none⟩ := hb.cell (p := ⟨g, o + j, none⟩) hg
    rw [this]
    exact h1.1
  · have h2 := h1.2
    unfold World.frozen? at h2 ⊢
    simp only [e]
    exact h2
theorem ThereT.all {w : World} {g n : Nat} (h : ThereT w g n) (o m : Nat) (hm : o + m ≤ n * 6) : w.there g o m := fun j hj => by
  have hk : (o + j) / 6 < n := by omega
  have := h ((o + j) / 6) hk ((o + j) % 6) (Nat.mod_lt _ (by omega))
  rw [show (o + j) / 6 * 6 + (o + j) % 6 = o + j by omega] at this
  exact this
theorem grown_below {w w1 w2 : World} {g B : Nat} (h : w.grownBy w1 (some g)) (hb : Below B w1 w2) (hB : w1.heap.size ≤ B) : w.grownBy w2 (some g) :=
  ⟨hb.os.trans h.os, hb.tape.trans h.tape, hb.output.trans h.output, Nat.le_trans h.size hb.size, fun k hk hne => (hb.block k (by have := h.size; omega)).trans (h.block k hk hne)⟩
section
variable {w : World} {ops : Array Oper} {rest : List Oper} {o : Oper} {a : Act} {Q : Exit → Act → World → Prop}
/-- 'clear(row)': its cells are noughts. -/
theorem wpList_clearT (hgd : o.guard = none) (x : Operand) (ho : o.op = .call { callee := .builtin .clear, args := #[x], argTypes := #[25] }) (g off s c : Nat) (hx : a.eval x = .slice (some ⟨g, off, none⟩) s c) (hs : 0 < s) (ht : w.there g off (s * 6))
    (h : ∀ zs : List Value, zs.length = s * 6 → wpList Tryd.prog ops Q rest (a.put o.dst (.tuple #[])) (w.setCells g off zs)) : wpList Tryd.prog ops Q (o :: rest) a w := by
  obtain ⟨i, hi, hz, hsz, hby⟩ := inf_rx'
  obtain ⟨s', rfl⟩ : ∃ s', s = s' + 1 := ⟨s - 1, by omega⟩
  obtain ⟨zs, hzs⟩ : ∃ zs, zs = (Builtin.zeroCells (Value.agg (rxc 0 zeroS (.slice none 0 0)).toArray).cells (s' + 1)).toList := ⟨_, rfl⟩
  have hl : zs.length = (s' + 1) * 6 := by
    have hzc : (Value.agg (rxc 0 zeroS (.slice none 0 0)).toArray).cells.size = 6 := by simp [Value.cells, rxc, wds]
    rw [hzs, Array.length_toList, size_zeroCells, hzc]
  have h1 : ∀ v ∈ zs, v.oneCell' = true := fun v hv => by
    rw [hzs] at hv
    simp only [Builtin.zeroCells, Array.toList_map, List.mem_map] at hv
    obtain ⟨j, _, rfl⟩ := hv
    simp only [Value.cells, rxc, wds]
    match j % (#[Value.int .i64 0, .int .u64 (word zeroS 0 : Int), .int .u64 (word zeroS 1 : Int), .int .u64 (word zeroS 2 : Int), .int .u64 (word zeroS 3 : Int), .slice none 0 0] : Array Value).size, Nat.mod_lt j (show 0 < (#[Value.int .i64 0, .int .u64 (word zeroS 0 : Int), .int .u64 (word zeroS 1 : Int), .int .u64 (word zeroS 2 : Int), .int .u64 (word zeroS 3 : Int), .slice none 0 0] : Array Value).size by decide) with
    | 0, _ => rfl
    | 1, _ => rfl
    | 2, _ => rfl
    | 3, _ => rfl
    | 4, _ => rfl
    | 5, _ => rfl
  have hrun := run_storeCells_cells (P := Tryd.prog) g off zs 0 w (fun j hj => by simpa using (ht j (by omega)).1) (fun j hj => by simpa using (ht j (by omega)).2) h1
  rw [Nat.add_zero] at hrun
  refine wpList_plain hgd fun K hK => ?_
  unfold Oper.wp execOp
  have hc : (Builtin.clear_ #[25] o.type #[.slice (some ⟨g, off, none⟩) (s' + 1) c]).run Tryd.prog w = .ok (.tuple #[]) (w.setCells g off zs) := by
    rw [hzs] at hrun ⊢
    simp [Builtin.clear_, run_underlying Tryd.underlying25, zeroValue, typeInfo, hi, hz, hrun]
  simp only [ho, resolve, invoke, builtin, Sem.run_bind, Sem.run_pure, Result.andThen_ok, List.map_toArray, List.map_cons, List.map_nil, hx, hc]
  exact hK _ _ (h zs hl)
end
theorem atClear (x : Tmp) {P : Program} {w : World} {ops : Array Oper} {rest : List Oper} {t ty : TypeId} {p : String} {af : Array Edge} {g : Option (Tmp × Bool)} {a : Act} {Q : Exit → Act → World → Prop}
    (h : wpList P ops Q (⟨none, .call { callee := .builtin .clear, args := #[.tmp x], argTypes := #[t] }, ty, p, af, g⟩ :: rest) a w) : wpList P ops Q (⟨none, .call { callee := .builtin .clear, args := #[.tmp x], argTypes := #[t] }, ty, p, af, g⟩ :: rest) a w := h
theorem six_apart {j a n : Nat} {cs : List Value} (hc : cs.length = 6) (hn : n = 6) (h : j ≠ a) : j * 6 + cs.length ≤ a * 6 ∨ a * 6 + n ≤ j * 6 := by omega
theorem six_below {j a : Nat} {cs : List Value} (hc : cs.length = 6) (h : j < a) : j * 6 + cs.length ≤ a * 6 := by omega
theorem sub_next {m q : Nat} (h : q < m) : m - (q + 1) < m - q := by omega
theorem pred_add {k q r : Nat} (h : q = r + 1) : k + q - 1 = k + r := by omega
theorem below_n {a k q n : Nat} (h : a + 1 ≤ k + q) (h2 : k + q < n) : a < n := by omega
theorem sum_ne {k q : Nat} (h : 1 ≤ k) : k + q ≠ 0 := by omega
theorem back_one {k q j : Nat} (h : k + (q + 1) ≤ j + 1) : k + q ≤ j + 1 := by omega
theorem not_at {k q j a : Nat} (h : k + (q + 1) ≤ j + 1) (ha : a + 1 ≤ k + q) : j ≠ a := by omega
theorem lt_of_ne {j a : Nat} (h : j < a + 1) (hne : j ≠ a) : j < a := by omega
theorem last_one {j n : Nat} {t : T} {l : List T} (hl : n = l.length) {u : T} (h : (l ++ [u])[j]? = some t) (hne : j ≠ n) : j < l.length := by
  have h3 := (List.getElem?_eq_some_iff.1 h).1
  rw [List.length_append] at h3
  simp at h3
  omega
theorem OwnT.mid {D : Nat → Prop} {base : Nat} {w : World} {v : Value} {l : List T} (h : OwnT D base w v l) (hne : 0 < l.length) :
    ∃ (g cap : Nat) (f : Nat → List Value), v = .slice (some ⟨g, 0, none⟩) l.length cap ∧ base ≤ g ∧ g < w.heap.size ∧ l.length ≤ cap ∧ cap ≤ maxLen ∧ ThereT w g l.length ∧ (∀ i, i < l.length → w.rangeAt g (i * 6) (f i)) ∧
      ∀ i t, l[i]? = some t → RxD (fun k => D k ∧ k < w.heap.size ∧ k ≠ g) w (f i) t := by
  obtain ⟨cells, h1, h2, h3, h4⟩ := h
  rcases h3.2 with ⟨_, h0⟩ | ⟨g, cap, cur, rfl, hb, hg, hn, hm, hs, ht⟩
  · omega
  have hlt : g < w.heap.size := (Array.getElem?_eq_some_iff.1 hg).1
  refine ⟨g, cap, fun i => cells.getD i [], rfl, hb, hlt, hn, hm, fun j hj i hi => ⟨?_, by simp [World.frozen?, hg]⟩, fun i hi j u hu => ?_, fun i t hti => ?_⟩
  · have hji : j * 6 + i < cur.size := by omega
    rw [cell_of_row w g (j * 6 + i) cur _ (0, 0) hg, Array.getElem?_eq_getElem hji]
    rfl
  · have hic : i < cells.length := by omega
    have hci : cells[i]? = some cells[i] := List.getElem?_eq_getElem hic
    have e0 : cells.getD i [] = cells[i] := by simp [List.getD, hci]
    have hu : (cells.getD i [])[j]? = some u := hu
    rw [e0] at hu
    have hj : j < 6 := by rw [← h2 cells[i] (List.getElem_mem hic)]; exact (List.getElem?_eq_some_iff.1 hu).1
    have e1 := flat6_get h2 hci j hj
    rw [hu, ← ht, List.getElem?_take, if_pos (by omega), Array.getElem?_toList] at e1
    rw [cell_of_row w g _ cur _ (0, 0) hg, e1]
  · have hic : i < cells.length := by rw [h1]; exact (List.getElem?_eq_some_iff.1 hti).1
    have hci : cells[i]? = some cells[i] := List.getElem?_eq_getElem hic
    have e0 : cells.getD i [] = cells[i] := by simp [List.getD, hci]
    show RxD _ w (cells.getD i []) t
    rw [e0]
    exact (h4 i cells[i] t hci hti).mono fun k hk => ⟨hk.1, hk.2.1, fun e => hk.2.2 (by rw [e]; rfl)⟩
end Go.Proofs.YtmlojjgddmnbmaaDoor
namespace Go.Proofs.YtmlojjgddmnbmaaDoor
open Go.RowKit
set_option linter.unusedSimpArgs false
set_option linter.unusedVariables false

/-- A set of bytes and of nothing else. -/
def canS (s : Nat → Bool) : Prop := ∀ b, 256 ≤ b → s b = false
mutual
def canT : T → Prop
  | .node _ s l => canS s ∧ canL l
def canL : List T → Prop
  | [] => True
  | t :: r => canT t ∧ canL r
end
/-- May one of kind p be a part of one of kind k? -/
def fitsT (p k : Int) : Bool := if p = 2 then decide (k = 5) else decide (p ≠ 1) && decide (p ≠ k)
/-- Has it as many parts as its kind takes, and a set a byte? -/
def countT (k : Int) (s : Nat → Bool) (n : Nat) : Bool :=
  if k = 3 then !eqS s zeroS && decide (n = 0) else if k = 1 ∨ k = 2 then decide (n = 0) else if k = 4 ∨ k = 5 then decide (2 ≤ n) else decide (k = 6) && decide (n = 1)
/-- May a stand right behind b? -/
def folT (a b : T) : Bool := decide (cmpT b a < 0) && !(decide (a.kind = 3) && decide (b.kind = 3))
def ascF : List T → Bool
  | a :: b :: r => folT b a && ascF (b :: r)
  | _ => true
mutual
def plainT : T → Bool
  | .node k s l => (decide (k = 3) || eqS s zeroS) && countT k s l.length && plainL k l && (decide (k ≠ 5) || ascF l)
def plainL (k : Int) : List T → Bool
  | [] => true
  | a :: r => fitsT a.kind k && plainT a && plainL k r
end
theorem canL_iff : ∀ {l : List T}, canL l ↔ ∀ t ∈ l, canT t
  | [] => by simp [canL]
  | t :: r => by simp [canL, @canL_iff r]
theorem plainL_iff {k : Int} : ∀ {l : List T}, plainL k l = true ↔ ∀ t ∈ l, fitsT t.kind k = true ∧ plainT t = true
  | [] => by simp [plainL]
  | t :: r => by simp [plainL, @plainL_iff k r]
/-- Plain, and its sets have bytes alone. -/
def good (t : T) : Prop := canT t ∧ plainT t = true
theorem good_node {k : Int} {s : Nat → Bool} {l : List T} : good (.node k s l) ↔ canS s ∧ (∀ t ∈ l, good t) ∧ (k = 3 ∨ eqS s zeroS = true) ∧ countT k s l.length = true ∧ (∀ t ∈ l, fitsT t.kind k = true) ∧ (k = 5 → ascF l = true) := by
  unfold good
  simp only [canT, plainT, canL_iff, Bool.and_eq_true, Bool.or_eq_true, decide_eq_true_eq, plainL_iff]
  constructor
  · rintro ⟨⟨h1, h2⟩, ⟨⟨h3, h4⟩, h5⟩, h6⟩
    exact ⟨h1, fun t ht => ⟨h2 t ht, (h5 t ht).2⟩, h3, h4, fun t ht => (h5 t ht).1, fun h => by rcases h6 with h6 | h6; exact absurd h h6; exact h6⟩
  · rintro ⟨h1, h2, h3, h4, h5, h6⟩
    refine ⟨⟨h1, fun t ht => (h2 t ht).1⟩, ⟨⟨h3, h4⟩, fun t ht => ⟨h5 t ht, (h2 t ht).2⟩⟩, ?_⟩
    by_cases h : k = 5
    · exact .inr (h6 h)
    · exact .inl h
theorem can_zero : canS zeroS := fun _ _ => rfl
theorem can_eq {s s' : Nat → Bool} (h : canS s) (h' : canS s') (he : eqS s s' = true) : s = s' := by
  funext b
  by_cases hb : b < 256
  · exact (eqS_iff s s').1 he b hb
  · rw [h b (by omega), h' b (by omega)]
mutual
theorem cmpT_eq : ∀ t u : T, good t → good u → cmpT t u = 0 → t = u
  | .node k s l, .node k' s' l', hg, hg', h => by
    obtain ⟨c1, c2, c3, _⟩ := good_node.1 hg
    obtain ⟨d1, d2, d3, _⟩ := good_node.1 hg'
    rw [cmpT_lex] at h
    have hk : kindD k k' = 0 := by
      by_cases e : kindD k k' = 0
      · exact e
      · rw [lex_ne _ e] at h; exact absurd h e
    have hkk : k = k' := by
      unfold kindD at hk
      by_cases e : k = k'
      · exact e
      · rw [if_neg e] at hk
        split at hk <;> simp at hk
    subst hkk
    rw [hk, lex_zero] at h
    have hs : setD k s s' = 0 := by
      by_cases e : setD k s s' = 0
      · exact e
      · rw [lex_ne _ e] at h; exact absurd h e
    rw [hs, lex_zero] at h
    have hss : s = s' := by
      refine can_eq c1 d1 ?_
      by_cases h3 : k = 3
      · unfold setD at hs
        rw [if_pos h3] at hs
        cases e : eqS s s' with
        | true => rfl
        | false =>
          rw [e, if_pos rfl] at hs
          split at hs <;> simp at hs
      · have e1 := (eqS_iff _ _).1 (c3.resolve_left h3)
        have e2 := (eqS_iff _ _).1 (d3.resolve_left h3)
        exact (eqS_iff _ _).2 fun b hb => (e1 b hb).trans (e2 b hb).symm
    rw [hss, cmpL_eq l l' c2 d2 h]
theorem cmpL_eq : ∀ l m : List T, (∀ t ∈ l, good t) → (∀ t ∈ m, good t) → cmpL l m = 0 → l = m
  | [], [], _, _, _ => rfl
  | [], _ :: _, _, _, h => by simp [cmpL] at h
  | _ :: _, [], _, _, h => by simp [cmpL] at h
  | a :: r, b :: s, hl, hm, h => by
    simp only [cmpL] at h
    have h0 : cmpT a b = 0 := by
      by_cases e : cmpT a b = 0
      · exact e
      · rw [if_neg e] at h; exact h
    rw [if_pos h0] at h
    rw [cmpT_eq a b (hl a (by simp)) (hm b (by simp)) h0, cmpL_eq r s (fun t ht => hl t (by simp [ht])) (fun t ht => hm t (by simp [ht])) h]
end
/-! ### rising lists -/
def Asc (l : List T) : Prop := l.Pairwise fun a b => cmpT a b < 0
theorem asc_ext : ∀ {l m : List T}, Asc l → Asc m → (∀ x, x ∈ l ↔ x ∈ m) → l = m
  | [], [], _, _, _ => rfl
  | [], b :: s, _, _, h => absurd ((h b).2 (by simp)) (by simp)
  | a :: r, [], _, _, h => absurd ((h a).1 (by simp)) (by simp)
  | a :: r, b :: s, hl, hm, h => by
    have hl' := List.pairwise_cons.1 hl
    have hm' := List.pairwise_cons.1 hm
    have hab : a = b := by
      rcases List.mem_cons.1 ((h a).1 (by simp)) with e | e
      · exact e
      · rcases List.mem_cons.1 ((h b).2 (by simp)) with e2 | e2
        · exact e2.symm
        · have h1 := hm'.1 a e
          have h2 := hl'.1 b e2
          have := cmpT_flip a b
          omega
    subst hab
    have hir : ∀ (x : T), cmpT x x < 0 → False := fun x hx => by rw [cmpT_self] at hx; omega
    rw [asc_ext hl'.2 hm'.2 fun x => ⟨fun hx => by
      rcases List.mem_cons.1 ((h x).1 (by simp [hx])) with e | e
      · subst e; exact (hir x (hl'.1 x hx)).elim
      · exact e, fun hx => by
      rcases List.mem_cons.1 ((h x).2 (by simp [hx])) with e | e
      · subst e; exact (hir x (hm'.1 x hx)).elim
      · exact e⟩]
/-- One more in its place, if it is not there. -/
def insT (r : T) : List T → List T
  | [] => [r]
  | a :: l => if cmpT a r < 0 then a :: insT r l else if cmpT a r = 0 then a :: l else r :: a :: l
theorem insT_mem {r : T} (hr : good r) : ∀ {l : List T}, (∀ t ∈ l, good t) → ∀ x, x ∈ insT r l ↔ x = r ∨ x ∈ l
  | [], _, x => by simp [insT]
  | a :: l, hl, x => by
    have ih := insT_mem hr (l := l) (fun t ht => hl t (by simp [ht])) x
    simp only [insT]
    by_cases h1 : cmpT a r < 0
    · rw [if_pos h1, List.mem_cons, ih, List.mem_cons]
      constructor
      · rintro (h | h | h)
        · exact .inr (.inl h)
        · exact .inl h
        · exact .inr (.inr h)
      · rintro (h | h | h)
        · exact .inr (.inl h)
        · exact .inl h
        · exact .inr (.inr h)
    · rw [if_neg h1]
      by_cases h2 : cmpT a r = 0
      · rw [if_pos h2]
        have := cmpT_eq a r (hl a (by simp)) hr h2
        subst this
        simp
      · rw [if_neg h2]
        simp
theorem insT_asc {r : T} : ∀ {l : List T}, Asc l → Asc (insT r l) ∧ ∀ x ∈ insT r l, x = r ∨ x ∈ l
  | [], _ => ⟨by simp [insT, Asc], by simp [insT]⟩
  | a :: l, hl => by
    have hl' := List.pairwise_cons.1 hl
    obtain ⟨i1, i2⟩ := insT_asc (r := r) hl'.2
    simp only [insT]
    by_cases h1 : cmpT a r < 0
    · rw [if_pos h1]
      refine ⟨List.pairwise_cons.2 ⟨fun x hx => ?_, i1⟩, fun x hx => ?_⟩
      · rcases i2 x hx with e | e
        · subst e; exact h1
        · exact hl'.1 x e
      · rcases List.mem_cons.1 hx with e | e
        · exact .inr (by simp [e])
        · rcases i2 x e with e | e
          · exact .inl e
          · exact .inr (by simp [e])
    · rw [if_neg h1]
      by_cases h2 : cmpT a r = 0
      · rw [if_pos h2]
        exact ⟨hl, fun x hx => .inr hx⟩
      · rw [if_neg h2]
        have hra : cmpT r a < 0 := by have := cmpT_flip a r; omega
        refine ⟨List.pairwise_cons.2 ⟨fun x hx => ?_, hl⟩, fun x hx => ?_⟩
        · rcases List.mem_cons.1 hx with e | e
          · subst e; exact hra
          · exact cmpT_trans hra (by have := hl'.1 x e; omega)
        · rcases List.mem_cons.1 hx with e | e
          · exact .inl e
          · exact .inr e
def sortU (l : List T) : List T := l.foldl (fun acc t => insT t acc) []
theorem sortU_snoc (l : List T) (t : T) : sortU (l ++ [t]) = insT t (sortU l) := by simp [sortU, List.foldl_append]
theorem sortU_asc : ∀ l : List T, Asc (sortU l) := by
  intro l
  have : ∀ (m acc : List T), Asc acc → Asc (m.foldl (fun acc t => insT t acc) acc) := by
    intro m
    induction m with
    | nil => intro acc h; exact h
    | cons t r ih => intro acc h; exact ih _ (insT_asc h).1
  exact this l [] List.Pairwise.nil
theorem sortU_mem {l : List T} (hl : ∀ t ∈ l, good t) : ∀ x, x ∈ sortU l ↔ x ∈ l := by
  have : ∀ (m acc : List T), (∀ t ∈ m, good t) → (∀ t ∈ acc, good t) → ∀ x, x ∈ m.foldl (fun acc t => insT t acc) acc ↔ x ∈ m ∨ x ∈ acc := by
    intro m
    induction m with
    | nil => intro acc _ _ x; simp
    | cons t r ih =>
      intro acc hm ha x
      have ht := hm t (by simp)
      have hmem := insT_mem ht ha
      rw [List.foldl_cons, ih _ (fun u hu => hm u (by simp [hu])) (fun u hu => by
        rcases (hmem u).1 hu with e | e
        · rw [e]; exact ht
        · exact ha u e) x, hmem x, List.mem_cons]
      constructor
      · rintro (h | h | h)
        · exact .inl (.inr h)
        · exact .inl (.inl h)
        · exact .inr h
      · rintro ((h | h) | h)
        · exact .inr (.inl h)
        · exact .inl h
        · exact .inr (.inr h)
  intro x
  rw [sortU, this l [] hl (by simp) x]
  simp
theorem nthT_mem {l : List T} {i : Nat} (h : i < l.length) : nthT l i ∈ l := List.mem_of_getElem? (nthT_some h)
theorem ddU_facts (l : List T) (hs : l.Pairwise fun a b => 0 ≤ cmpT b a) (hg : ∀ t ∈ l, good t) : ∀ i, i ≤ l.length →
    Asc (ddU l i) ∧ (∀ x, x ∈ ddU l i ↔ ∃ j, j < i ∧ x = nthT l j)
  | 0, _ => ⟨by simp [ddU, Asc], fun x => by simp [ddU]⟩
  | i + 1, hi => by
    obtain ⟨ih1, ih2⟩ := ddU_facts l hs hg i (by omega)
    have hle : ∀ j, j < i → cmpT (nthT l j) (nthT l i) ≤ 0 := fun j hj => by
      have h1 := List.pairwise_iff_getElem.1 hs j i (by omega) (by omega) hj
      have e1 := nthT_some (l := l) (i := j) (by omega)
      have e2 := nthT_some (l := l) (i := i) (by omega)
      rw [List.getElem?_eq_getElem (by omega)] at e1 e2
      rw [Option.some.inj e1, Option.some.inj e2] at h1
      have := cmpT_flip (nthT l j) (nthT l i)
      omega
    rw [ddU_next]
    by_cases hc : i = 0 ∨ cmpT (nthT l i) (nthT l (i - 1)) ≠ 0
    · rw [if_pos hc]
      refine ⟨List.pairwise_append.2 ⟨ih1, List.pairwise_singleton _ _, fun x hx y hy => ?_⟩, fun x => ?_⟩
      · obtain rfl := List.mem_singleton.1 hy
        obtain ⟨j, hj, rfl⟩ := (ih2 x).1 hx
        have h0 : i ≠ 0 := by omega
        have h1 := hc.resolve_left h0
        have h2 := hle (i - 1) (by omega)
        have h3 := cmpT_flip (nthT l (i - 1)) (nthT l i)
        have h4 : cmpT (nthT l (i - 1)) (nthT l i) < 0 := by omega
        by_cases hj2 : j = i - 1
        · rw [hj2]; exact h4
        · have h5 : cmpT (nthT l j) (nthT l (i - 1)) ≤ 0 := by
            have h1 := List.pairwise_iff_getElem.1 hs j (i - 1) (by omega) (by omega) (by omega)
            have e1 := nthT_some (l := l) (i := j) (by omega)
            have e2 := nthT_some (l := l) (i := i - 1) (by omega)
            rw [List.getElem?_eq_getElem (by omega)] at e1 e2
            rw [Option.some.inj e1, Option.some.inj e2] at h1
            have := cmpT_flip (nthT l j) (nthT l (i - 1))
            omega
          exact cmpT_trans' h5 h4
      · rw [List.mem_append, List.mem_singleton, ih2]
        constructor
        · rintro (⟨j, hj, h⟩ | h)
          · exact ⟨j, by omega, h⟩
          · exact ⟨i, by omega, h⟩
        · rintro ⟨j, hj, h⟩
          by_cases hji : j = i
          · rw [hji] at h; exact .inr h
          · exact .inl ⟨j, by omega, h⟩
    · rw [if_neg hc, List.append_nil]
      refine ⟨ih1, fun x => ?_⟩
      rw [ih2]
      constructor
      · rintro ⟨j, hj, h⟩; exact ⟨j, by omega, h⟩
      · rintro ⟨j, hj, h⟩
        by_cases hji : j = i
        · have h0 : i ≠ 0 := fun e => hc (.inl e)
          have h1 : cmpT (nthT l i) (nthT l (i - 1)) = 0 := by
            by_cases e : cmpT (nthT l i) (nthT l (i - 1)) = 0
            · exact e
            · exact absurd (.inr e) hc
          have := cmpT_eq _ _ (hg _ (nthT_mem (by omega))) (hg _ (nthT_mem (by omega))) h1
          exact ⟨i - 1, by omega, by rw [h, hji, this]⟩
        · exact ⟨j, by omega, h⟩
/-- Sorted, and the level ones struck: the rising list of them. -/
theorem ddU_sort {l m : List T} (hp : l.Perm m) (hs : l.Pairwise fun a b => 0 ≤ cmpT b a) (hg : ∀ t ∈ m, good t) : ddU l l.length = sortU m := by
  obtain ⟨h1, h2⟩ := ddU_facts l hs (fun t ht => hg t (hp.mem_iff.1 ht)) l.length (Nat.le_refl _)
  refine asc_ext h1 (sortU_asc m) fun x => ?_
  rw [h2, sortU_mem hg, ← hp.mem_iff]
  constructor
  · rintro ⟨j, hj, rfl⟩; exact nthT_mem hj
  · intro hx
    obtain ⟨j, hj⟩ := List.getElem?_of_mem hx
    have hlt := (List.getElem?_eq_some_iff.1 hj).1
    refine ⟨j, hlt, ?_⟩
    have := nthT_some hlt
    rw [hj] at this
    exact Option.some.inj this
end Go.Proofs.YtmlojjgddmnbmaaDoor
namespace Go.Proofs.YtmlojjgddmnbmaaDoor
open Go.RowKit
set_option linter.unusedSimpArgs false
set_option linter.unusedVariables false


/-- The bytes of all sets of a list. -/
def orT (E : List T) : Nat → Bool := fun b => E.any fun t => decide (t.kind = 3) && t.set b
theorem orT_next (E : List T) (j : Nat) (t : T) (h : E[j]? = some t) : orT (E.take (j + 1)) = fun b => orT (E.take j) b || (decide (t.kind = 3) && t.set b) := by
  obtain ⟨hi, rfl⟩ := List.getElem?_eq_some_iff.1 h
  funext b
  unfold orT
  rw [List.take_succ_eq_append_getElem hi, List.any_append]
  simp
/-- What stands in the alternatives of a list that is flat. -/
def itemsT (E : List T) : List T := withoutT 3 E ++ if eqS (orT E) zeroS then [] else [.node 3 (orT E) []]
def altT (l : List T) : T := wrapT 5 noneT (sortU (itemsT (withoutT 1 (flatT 5 l))))
theorem good_flat {k : Int} {l : List T} (h : ∀ t ∈ l, good t) : ∀ t ∈ flatT k l, good t := fun t ht => by
  unfold flatT at ht
  obtain ⟨u, hu, hu2⟩ := List.mem_flatMap.1 ht
  by_cases hk : u.kind = k
  · rw [if_pos hk] at hu2
    cases u with
    | node k' s m => exact (good_node.1 (h _ hu)).2.1 t hu2
  · rw [if_neg hk] at hu2
    obtain rfl := List.mem_singleton.1 hu2
    exact h t hu
theorem good_without {k : Int} {l : List T} (h : ∀ t ∈ l, good t) : ∀ t ∈ withoutT k l, good t := fun t ht => h t (List.mem_filter.1 ht).1
theorem can_or {E : List T} (h : ∀ t ∈ E, good t) : canS (orT E) := fun b hb => by
  unfold orT
  rw [List.any_eq_false]
  intro t ht
  cases t with
  | node k s l =>
    have := (good_node.1 (h _ ht)).1 b hb
    simp [T.set, this]
theorem good_set {s : Nat → Bool} (hc : canS s) (hs : eqS s zeroS = false) : good (.node 3 s []) :=
  good_node.2 ⟨hc, by simp, .inl rfl, by simp [countT, hs], by simp, by simp⟩
theorem good_items {E : List T} (h : ∀ t ∈ E, good t) : ∀ t ∈ itemsT E, good t := fun t ht => by
  unfold itemsT at ht
  rcases List.mem_append.1 ht with ht | ht
  · exact good_without h t ht
  · cases hs : eqS (orT E) zeroS with
    | true => rw [hs] at ht; simp at ht
    | false =>
      rw [hs] at ht
      obtain rfl : t = .node 3 (orT E) [] := by simpa using ht
      exact good_set (can_or h) hs
theorem nodesL_perm {l m : List T} (h : l.Perm m) : nodesL l = nodesL m := by
  induction h with
  | nil => rfl
  | cons x _ ih => simp only [nodesL, ih]
  | swap x y l => simp only [nodesL]; omega
  | trans _ _ h1 h2 => exact h1.trans h2
theorem insT_nodes (r : T) : ∀ l : List T, nodesL (insT r l) ≤ r.nodes + nodesL l
  | [] => by simp [insT, nodesL]
  | a :: l => by
    have ih := insT_nodes r l
    simp only [insT]
    by_cases h1 : cmpT a r < 0
    · rw [if_pos h1]; simp only [nodesL]; omega
    · rw [if_neg h1]
      by_cases h2 : cmpT a r = 0
      · rw [if_pos h2]; omega
      · rw [if_neg h2]; simp only [nodesL]; omega
theorem sortU_nodes (l : List T) : nodesL (sortU l) ≤ nodesL l := by
  have : ∀ (m acc : List T), nodesL (m.foldl (fun acc t => insT t acc) acc) ≤ nodesL m + nodesL acc := by
    intro m
    induction m with
    | nil => intro acc; simp [nodesL]
    | cons t r ih =>
      intro acc
      have h1 := ih (insT t acc)
      have h2 := insT_nodes t acc
      rw [List.foldl_cons]
      simp only [nodesL]
      omega
  have := this l []
  simp only [nodesL] at this
  exact this
theorem itemsT_nodes (E : List T) : nodesL (itemsT E) ≤ nodesL E + 1 := by
  unfold itemsT
  have h1 := withoutT_nodes 3 E
  rw [nodesL_append]
  split
  · simp only [nodesL]; omega
  · simp only [nodesL, T.nodes]; omega
theorem altT_nodes (l : List T) : (altT l).nodes ≤ 3 + nodesL l := by
  unfold altT
  have h1 := wrapT_nodes 5 noneT (sortU (itemsT (withoutT 1 (flatT 5 l))))
  have h2 := sortU_nodes (itemsT (withoutT 1 (flatT 5 l)))
  have h3 := itemsT_nodes (withoutT 1 (flatT 5 l))
  have h4 := withoutT_nodes 1 (flatT 5 l)
  have h5 := flatT_nodes 5 l
  have h6 : noneT.nodes = 1 := rfl
  omega
/-- A row of the call's own, in a world that leaves its blocks and those of its parts as they were. -/
theorem OwnT.keepX {D : Nat → Prop} {base : Nat} {w w' : World} {v : Value} {l : List T} (h : OwnT D base w v l) (hs : w.heap.size ≤ w'.heap.size) (hb : ∀ k, k < w.heap.size → (D k ∨ base ≤ k) → w'.heap[k]? = w.heap[k]?) : OwnT D base w' v l := by
  obtain ⟨cells, h1, h2, h3, h4⟩ := h
  refine ⟨cells, h1, h2, own6_stay h3 fun j hj => hb j (own6_lt h3 j hj).1 (.inr (own6_lt h3 j hj).2), fun i c t hc ht => ?_⟩
  exact ((h4 i c t hc ht).stay fun k hk => hb k hk.2.1 (.inl hk.1)).mono fun k hk => ⟨hk.1, Nat.lt_of_lt_of_le hk.2.1 hs, hk.2.2⟩
theorem grown_own {w w1 w2 : World} {g : Nat} {row : Option Nat} (h : w.grownBy w1 (some g)) (hb : w1.grownBy w2 row) (hr : ∀ q, row = some q → w.heap.size ≤ q) : w.grownBy w2 (some g) :=
  ⟨hb.os.trans h.os, hb.tape.trans h.tape, hb.output.trans h.output, Nat.le_trans h.size hb.size, fun k hk hne => (hb.block k (by have := h.size; omega) (fun e => by have := hr k e.symm; omega)).trans (h.block k hk hne)⟩
theorem grown_at {w w1 w2 w0 : World} {g B : Nat} (h : w.grownBy w1 (some g)) (b1 : Below B w0 w1) (b2 : Below B w0 w2) (hs : w1.heap.size ≤ w2.heap.size) (ho : ∀ k, k ≠ g → w2.heap[k]? = w1.heap[k]?) : w.grownBy w2 (some g) :=
  ⟨b2.os.trans (b1.os.symm.trans h.os), b2.tape.trans (b1.tape.symm.trans h.tape), b2.output.trans (b1.output.symm.trans h.output), Nat.le_trans h.size hs, fun k hk hne => (ho k fun e => hne (by rw [e])).trans (h.block k hk hne)⟩
theorem set_range6 {w : World} {g : Nat} {ty : TypeId} {t : T} {A : Option Addr} {n c : Nat} {cs : List Value} (hc : cs = rxc t.kind t.set (.slice A n c)) (h : Blk w g ty cs) : w.rangeAt g 1 (wds t.set) := set_range' hc h
end Go.Proofs.YtmlojjgddmnbmaaDoor
namespace Go.Proofs.YtmlojjgddmnbmaaDoor
open Go.RowKit
set_option linter.unusedSimpArgs false
set_option linter.unusedVariables false

section
variable {w : World} {o : Oper} {a : Act} {K : Act → World → Prop} {Q : Exit → Act → World → Prop}
/-- 'append(v, x)': one expression more. -/
theorem wp_appT {D : Nat → Prop} {base : Nat} (s x : Operand)
    (ho : o.op = .call { callee := .builtin .append, args := #[s, x], argTypes := #[25, 25] })
    (i : TypeInfo) (hi : Tryd.prog.info? 27 = some i) (hz : i.zero = some (.agg (Value.int .i64 0 :: (wds (fun _ => false) ++ [.slice none 0 0])).toArray))
    (hsize : i.size = 6) (hby : i.bytes = 64)
    (v : Value) (l : List T) (hs : a.eval s = v) (hown : OwnT D base w v l)
    (g cap : Nat) (tg : TypeId) (c : List Value) (t : T) (hx : a.eval x = .slice (some ⟨g, 0, none⟩) 1 cap) (hr : Blk w g tg c) (hel : RxD (fun k => D k ∧ k < w.heap.size ∧ some k ≠ v.ownBlock) w c t)
    (hlen : l.length + 1 ≤ 1099511627776) (hb : base ≤ w.heap.size)
    (h : ∀ v' w', OwnT D base w' v' (l ++ [t]) → w.grownBy w' v.ownBlock → K (a.put o.dst v') w') : o.wp Tryd.prog a w K Q := by
  obtain ⟨cells, h1, h2, h3, h4⟩ := hown
  have hc6 : c.length = 6 := hel.length
  have hnews : ∀ j u, c[j]? = some u → w.cell? ((⟨g, 0, none⟩ : Addr).add j) = some u := fun j u hj => by
    rw [Addr.add_lit, Nat.zero_add, hr.cell j]
    exact hj
  obtain ⟨v', w', hrun, hown', hgr, _⟩ := run_append_own (P := Tryd.prog) w base 25 o.type 27 i _ 6 64 Tryd.underlying25 hi hz hsize hby (by simp [Value.cells, wds]) (by omega) v l.length cells.flatten h3 ⟨g, 0, none⟩ 1 cap c (by omega) hnews hel.one (by unfold maxLen; omega) (by omega) hb
  have hwh := append_where (P := Tryd.prog) (w := w) base 25 o.type 27 i _ 6 64 Tryd.underlying25 hi hz hsize hby (by omega) v l.length cells.flatten h3 ⟨g, 0, none⟩ 1 cap c (by omega) hnews hel.one (by unfold maxLen; omega) (by omega) hrun
  unfold Oper.wp execOp
  simp only [ho, resolve, invoke, builtin, Sem.run_bind, Sem.run_pure, Result.andThen_ok, List.map_toArray, List.map_cons, List.map_nil, hs, hx, hrun]
  refine h v' w' ⟨cells ++ [c], by simp [h1], fun d hd => ?_, ?_, fun j d u hd hu => ?_⟩ hgr
  · rcases List.mem_append.1 hd with hd | hd
    · exact h2 d hd
    · obtain rfl := List.mem_singleton.1 hd
      exact hc6
  · rw [List.flatten_append, List.length_append]
    simpa using hown'
  · have key : RxD (fun k => D k ∧ k < w.heap.size ∧ some k ≠ v.ownBlock) w d u := by
      by_cases hj : j < l.length
      · rw [List.getElem?_append_left (by omega)] at hd hu
        exact h4 j d u hd hu
      · have hjl : j = l.length := by
          have := (List.getElem?_eq_some_iff.1 hu).1
          simp at this
          omega
        subst hjl
        rw [List.getElem?_append_right (by omega)] at hd hu
        simp [h1] at hd hu
        rw [← hd, ← hu]
        exact hel
    refine (key.stay fun k hk => hgr.block k hk.2.1 hk.2.2).mono fun k hk => ⟨hk.1, Nat.lt_of_lt_of_le hk.2.1 hgr.size, fun he => ?_⟩
    rcases hwh k he.symm with h | h
    · exact hk.2.2 h.symm
    · have := hk.2.1
      omega
set_option maxRecDepth 100000 in
/-- 'append(v, row...)': expressions that a row holds. -/
theorem wp_appTs {D D' : Nat → Prop} {base : Nat} (s x : Operand)
    (ho : o.op = .call { callee := .builtin .append, args := #[s, x], argTypes := #[25, 25] })
    (i : TypeInfo) (hi : Tryd.prog.info? 27 = some i) (hz : i.zero = some (.agg (Value.int .i64 0 :: (wds (fun _ => false) ++ [.slice none 0 0])).toArray))
    (hsize : i.size = 6) (hby : i.bytes = 64)
    (v : Value) (l : List T) (hs : a.eval s = v) (hown : OwnT D base w v l)
    (u : Value) (m : List T) (hx : a.eval x = u) (hr : RowD D' w u m) (hD : ∀ k, D' k → D k ∧ k < w.heap.size ∧ some k ≠ v.ownBlock)
    (hlen : l.length + m.length ≤ 1099511627776) (hb : base ≤ w.heap.size)
    (h : ∀ v' w', OwnT D base w' v' (l ++ m) → w.grownBy w' v.ownBlock → K (a.put o.dst v') w') : o.wp Tryd.prog a w K Q := by
  obtain ⟨A, cap, f, rfl, r1, r2, r0, r3, r4⟩ := hr
  cases A with
  | none =>
    have hcap : cap = 0 := r0 rfl
    subst hcap
    have hn : m = [] := List.eq_nil_of_length_eq_zero (by omega)
    subst hn
    obtain ⟨cells, h1, h2, h3, h4⟩ := hown
    have hrun := run_append_owned_none (P := Tryd.prog) (w := w) base 25 o.type 27 i 6 Tryd.underlying25 hi v _ _ h3
    unfold Oper.wp
    simp at hx
    simp [execOp, ho, resolve, invoke, builtin, hs, hx, hrun, Result.andThen]
    exact h v w (by simpa using ⟨cells, h1, h2, h3, h4⟩) (World.grownBy.refl _ _)
  | some ad =>
    obtain ⟨cells, h1, h2, h3, h4⟩ := hown
    obtain ⟨ms, hms⟩ : ∃ ms, ms = (List.range m.length).map f := ⟨_, rfl⟩
    have hml : ms.length = m.length := by rw [hms]; simp
    have hmi : ∀ (j : Nat) (c : List Value), ms[j]? = some c → j < m.length ∧ c = f j := fun j c hc => by
      have hj : j < m.length := by have := (List.getElem?_eq_some_iff.1 hc).1; omega
      rw [hms, List.getElem?_map, List.getElem?_range hj] at hc
      exact ⟨hj, by simpa using hc.symm⟩
    have hel : ∀ (j : Nat) (c : List Value) (t : T), ms[j]? = some c → m[j]? = some t → RxD D' w c t := fun j c t hc ht => by
      obtain ⟨_, rfl⟩ := hmi j c hc
      exact r4 j t ht
    have hm6 : ∀ c ∈ ms, c.length = 6 := fun c hc => by
      obtain ⟨j, hj⟩ := List.getElem?_of_mem hc
      exact (hel j c (m[j]'((hmi j c hj).1)) hj (List.getElem?_eq_getElem _)).length
    have hone : ∀ x ∈ ms.flatten, x.oneCell' = true := fun x hx => by
      obtain ⟨c, hc, hxc⟩ := List.mem_flatten.1 hx
      obtain ⟨j, hj⟩ := List.getElem?_of_mem hc
      exact RxD.one (hel j c (m[j]'((hmi j c hj).1)) hj (List.getElem?_eq_getElem _)) x hxc
    have hfl := flat6_len hm6
    have hnews : ∀ j x, ms.flatten[j]? = some x → w.cell? (ad.add j) = some x := fun j x hj => by
      have hlt : j < ms.length * 6 := by rw [← hfl]; exact (List.getElem?_eq_some_iff.1 hj).1
      have hk : j / 6 < ms.length := by omega
      have hg := flat6_get hm6 (List.getElem?_eq_getElem hk) (j % 6) (Nat.mod_lt _ (by omega))
      rw [show j / 6 * 6 + j % 6 = j by omega, hj] at hg
      obtain ⟨b, off, hA, _, hcell⟩ := r3 (fun he => by rw [he] at hml; simp only [List.length_nil] at hml; omega)
      injection hA with hA
      subst hA
      have hf := (hmi (j / 6) ms[j / 6] (List.getElem?_eq_getElem hk)).2
      rw [hf] at hg
      have := hcell (j / 6) (by omega) (j % 6) x hg.symm
      rw [show off + j / 6 * 6 + j % 6 = off + j by omega] at this
      rw [Addr.add_lit]
      exact this
    obtain ⟨v', w', hrun, hown', hgr, _⟩ := run_append_own (P := Tryd.prog) w base 25 o.type 27 i _ 6 64 Tryd.underlying25 hi hz hsize hby (by simp [Value.cells, wds]) (by omega) v l.length cells.flatten h3 ad m.length cap ms.flatten (by rw [hfl, hml]) hnews hone (by unfold maxLen; omega) (by omega) hb
    have hwh := append_where (P := Tryd.prog) (w := w) base 25 o.type 27 i _ 6 64 Tryd.underlying25 hi hz hsize hby (by omega) v l.length cells.flatten h3 ad m.length cap ms.flatten (by rw [hfl, hml]) hnews hone (by unfold maxLen; omega) (by omega) hrun
    unfold Oper.wp execOp
    simp only [ho, resolve, invoke, builtin, Sem.run_bind, Sem.run_pure, Result.andThen_ok, List.map_toArray, List.map_cons, List.map_nil, hs, hx, hrun]
    refine h v' w' ⟨cells ++ ms, by simp [h1, hml], fun d hd => ?_, ?_, fun j d t hd ht => ?_⟩ hgr
    · rcases List.mem_append.1 hd with hd | hd
      · exact h2 d hd
      · exact hm6 d hd
    · rw [List.flatten_append, List.length_append]
      exact hown'
    · have key : RxD (fun k => D k ∧ k < w.heap.size ∧ some k ≠ v.ownBlock) w d t := by
        by_cases hj : j < l.length
        · rw [List.getElem?_append_left (by omega)] at hd ht
          exact h4 j d t hd ht
        · rw [List.getElem?_append_right (by omega)] at hd ht
          rw [h1] at hd
          exact RxD.mono (hel _ d t hd ht) fun k hk => hD k hk
      refine (key.stay fun k hk => hgr.block k hk.2.1 hk.2.2).mono fun k hk => ⟨hk.1, Nat.lt_of_lt_of_le hk.2.1 hgr.size, fun he => ?_⟩
      rcases hwh k he.symm with h | h
      · exact hk.2.2 h.symm
      · have := hk.2.1
        omega
end
section
variable {P : Program} {w : World} {o : Oper} {a : Act} {K : Act → World → Prop} {Q : Exit → Act → World → Prop}
theorem wp_bldT1 (t e : TypeId) (x : Operand) (ho : o.op = .buildSlice t 1 #[(0, x)]) (i : TypeInfo) (ht : P.underlying t = some (.slice e)) (hi : P.info? e = some i) (hz : i.zero = some (.agg (Value.int .i64 0 :: (wds (fun _ => false) ++ [.slice none 0 0])).toArray)) (hs : i.size = 6) (ds : List Value) (hl : ds.length = 6)
    (hx : a.eval x = .agg ds.toArray)
    (h : ∀ w', Blk w' w.heap.size e ds → Below w.heap.size w w' → w'.heap.size = w.heap.size + 1 → K (a.put o.dst (.slice (some ⟨w.heap.size, 0, none⟩) 1 1)) w') : o.wp P a w K Q := by
  have hrun := run_bldT1 (P := P) (w := w) t e i ht hi hz hs ds hl
  unfold Oper.wp
  simp only [execOp, ho, List.map_toArray, List.map_cons, List.map_nil, hx, hrun, Sem.run_bind, Result.andThen_ok, Sem.run_pure]
  exact (h _ (Blk.new w e _) ((Below.refl _ _).alloc (Nat.le_refl _) _) (by simp))
end
section
variable {w : World} {o : Oper} {a : Act} {K : Act → World → Prop} {Q : Exit → Act → World → Prop}
/-- '[]api.Rx{}': a row of none. -/
theorem wp_bldT0 (ho : o.op = .buildSlice 25 0 #[])
    (h : ∀ v' w', (∀ D, OwnT D w.heap.size w' v' []) → Below w.heap.size w w' → K (a.put o.dst v') w') : o.wp Tryd.prog a w K Q := by
  obtain ⟨i, hi, hz, hsz, hby⟩ := inf_rx'
  have hrun : (Instr.buildSlice 25 0 #[]).run Tryd.prog w = .ok (.slice (some ⟨w.heap.size, 0, none⟩) 0 0) (w.alloc (.cells #[] 27)) := by
    simp [Instr.buildSlice, run_underlying Tryd.underlying25, sizeOf, typeInfo, hi, hsz, Instr.fill, newRow, Array.range_zero']
  unfold Oper.wp
  simp only [execOp, ho, List.map_toArray, List.map_nil, hrun, Sem.run_bind, Result.andThen_ok, Sem.run_pure]
  exact h _ _ (fun D => ⟨[], rfl, by simp, ⟨by simp, .inr ⟨w.heap.size, 0, #[], rfl, Nat.le_refl _, heap_alloc_new w _, Nat.le_refl _, Nat.zero_le _, rfl, rfl⟩⟩, fun i c t h => by simp at h⟩) ((Below.refl _ _).alloc (Nat.le_refl _) _)
end
theorem RowD.take {D : Nat → Prop} {w : World} {A : Option Addr} {n cap : Nat} {l : List T} (h : RowD D w (.slice A n cap) l) (k : Nat) (hk : k ≤ l.length) : RowD D w (.slice A k cap) (l.take k) := by
  obtain ⟨A', cap', f, he, h1, h2, h0, h3, h4⟩ := h
  injection he with hA hn hc
  subst hA
  subst hc
  have hl : (l.take k).length = k := by rw [List.length_take]; omega
  refine ⟨A, cap, f, by rw [hl], by omega, h2, h0, fun hne => ?_, fun i t ht => ?_⟩
  · obtain ⟨b, off, hA, hb, hr⟩ := h3 (fun e => hne (by rw [e]; simp))
    exact ⟨b, off, hA, hb, fun i hi => hr i (by omega)⟩
  · have hi : i < k := by have := (List.getElem?_eq_some_iff.1 ht).1; omega
    rw [List.getElem?_take, if_pos hi] at ht
    exact h4 i t ht
theorem RowD.drop {D : Nat → Prop} {w : World} {A : Option Addr} {n cap : Nat} {l : List T} (h : RowD D w (.slice A n cap) l) (k : Nat) (hk : k < l.length) :
    ∃ b off, A = some ⟨b, off, none⟩ ∧ RowD D w (.slice (some ⟨b, off + k * 6, none⟩) (n - k) (cap - k)) (l.drop k) := by
  obtain ⟨A', cap', f, he, h1, h2, h0, h3, h4⟩ := h
  injection he with hA hn hc
  subst hA
  subst hc
  subst hn
  obtain ⟨b, off, rfl, hb, hr⟩ := h3 (fun e => by rw [e] at hk; simp at hk)
  refine ⟨b, off, rfl, some ⟨b, off + k * 6, none⟩, cap - k, fun i => f (k + i), by rw [List.length_drop], by rw [List.length_drop]; omega, by omega, (fun h => by cases h), fun _ => ⟨b, off + k * 6, rfl, hb, fun i hi => ?_⟩, fun i t ht => ?_⟩
  · rw [List.length_drop] at hi
    have := hr (k + i) (by omega)
    rw [show off + k * 6 + i * 6 = off + (k + i) * 6 by omega]
    exact this
  · rw [List.getElem?_drop] at ht
    exact h4 (k + i) t ht
end Go.Proofs.YtmlojjgddmnbmaaDoor
namespace Go.Proofs.YtmlojjgddmnbmaaDoor
open Go.RowKit
set_option linter.unusedSimpArgs false
set_option linter.unusedVariables false

set_option maxHeartbeats 2000000 in
set_option maxRecDepth 100000 in
theorem isNaN_any (x : Int) (w : World) : Calls Tryd.prog 81 #[.int .i64 x] w fun e w' => e = .returned (.bool false) ∧ w' = w := by
  go_enter Tryd.func81, Tryd.ntmps81
  have h : (x != x) = false := by simp
  go_wp2_with fail
  go_ret
  first | exact ⟨rfl, rfl⟩ | simp
set_option maxHeartbeats 2000000 in
set_option maxRecDepth 100000 in
theorem cmpInt_any (x y : Int) (w : World) : Calls Tryd.prog 76 #[.int .i64 x, .int .i64 y] w fun e w' => e = .returned (.int .i64 (kindD x y)) ∧ w' = w := by
  go_enter Tryd.func76, Tryd.ntmps76
  go_wp2_with fail
  refine (isNaN_any x w).mono ?_
  rintro e w1 ⟨rfl, rfl⟩
  go_wp2_with fail
  refine (isNaN_any y w1).mono ?_
  rintro e w2 ⟨rfl, rfl⟩
  by_cases h1 : x < y
  · have hk : kindD x y = -1 := by unfold kindD; rw [if_neg (by omega), if_pos h1]
    go_wp2_with fail
    go_ret
    rw [hk]
    exact ⟨rfl, rfl⟩
  · by_cases h2 : y < x
    · have hk : kindD x y = 1 := by unfold kindD; rw [if_neg (by omega), if_neg h1]
      go_wp2_with fail
      go_ret
      rw [hk]
      exact ⟨rfl, rfl⟩
    · have hk : kindD x y = 0 := by unfold kindD; rw [if_pos (by omega)]
      go_wp2_with fail
      go_ret
      rw [hk]
      exact ⟨rfl, rfl⟩

/-- The function value of Compare. -/
abbrev cmpV : Value := .func (.func 68) #[] #[]
set_option maxHeartbeats 4000000 in
set_option maxRecDepth 100000 in
theorem cmpFunc_gr (l m : List T) (v v' : Value) (w : World) (hl : RowT w.heap.size w v l) (hm : RowT w.heap.size w v' m) (hn : l.length ≤ 1099511627776)
    (hcmp : ∀ a ∈ l, ∀ (b : T) (cs ds : List Value) (w1 : World), RxV w1.heap.size w1 cs a → RxV w1.heap.size w1 ds b → Calls Tryd.prog 68 #[.agg cs.toArray, .agg ds.toArray] w1 fun e w' => e = .returned (.int .i64 (cmpT a b)) ∧ Gr w1 w') :
    Calls Tryd.prog 78 #[v, v', cmpV] w fun e w' => e = .returned (.int .i64 (cmpL l m)) ∧ Gr w w' := by
  have IH := Lib.hid hcmp
  clear hcmp
  obtain ⟨A, cap, f, rfl, h1, h2, h0, h3, h4⟩ := hl
  obtain ⟨A', cap', f', rfl, h1', h2', h0', h3', h4'⟩ := hm
  have H3 := Lib.hid h3
  have H4 := Lib.hid h4
  have H3' := Lib.hid h3'
  have H4' := Lib.hid h4'
  have HN := Lib.hid hn
  obtain ⟨i0, hi0, hz0, hz1, hz2⟩ := infoP inf_rx
  obtain ⟨z, hz⟩ : ∃ z, z = Value.int .i64 0 :: (wds (fun _ => false) ++ [Value.slice none 0 0]) := ⟨_, rfl⟩
  have HZL := Lib.hid (show z.length = 6 by rw [hz]; rfl)
  have HZ0 := Lib.hid (show i0.zero = some (.agg z.toArray) by rw [hz]; exact hz0)
  clear h1 h2 h0 h3 h4 h1' h2' h0' h3' h4' hn hz hz0 hz1 hz2
  go_enter Tryd.func78, Tryd.ntmps78
  go_wp2_with fail
  go_loopw [13] (fun i wl => ∃ j : Nat, j ≤ l.length ∧ j ≤ m.length ∧ i = .int .i64 (j : Int) ∧ (∀ (i : Nat) (a b : T), i < j → l[i]? = some a → m[i]? = some b → cmpT a b = 0) ∧ Gr w wl) (fun i _ => l.length - (intOf i).toNat)
  case atStart => exact ⟨0, by omega, by omega, by simp, fun i a b h => by omega, Gr.refl _⟩
  case round =>
    obtain ⟨j, hj, hjm0, rfl, hsm, hb⟩ := hrel
    have HSM := Lib.hid hsm
    have HB := Lib.hid hb
    have HBB := Lib.hid hb.below
    clear hsm hb
    by_cases hjl : j < l.length
    · have j1 : (j : Int) < (l.length : Int) := Int.ofNat_lt.2 hjl
      obtain ⟨b, off, rfl, hb, hrng⟩ := H3.out (by rintro rfl; simp at hjl)
      obtain ⟨a, ha⟩ : ∃ a, l[j]? = some a := ⟨_, List.getElem?_eq_getElem hjl⟩
      have HV := Lib.hid (RxV.part H4.out HBB.out HBB.out.size ha)
      have HRG := Lib.hid (range_below (hrng j hjl) HBB.out hb)
      have HAL := Lib.hid (List.mem_of_getElem? ha)
      have HAJ := Lib.hid ha
      have hj62 : j ≤ 4611686018427387904 := by have := HN.out; omega
      have e3 := wrap_one j hj62
      have e4 := wrap_one' j hj62
      have HG0 := Lib.hid HBB.out.size
      clear hrng ha hj62 hb
      by_cases hjm : j < m.length
      · have j2 : ¬ ((j : Int) ≥ (m.length : Int)) := by omega
        obtain ⟨b', off', rfl, hb', hrng'⟩ := H3'.out (by rintro rfl; simp at hjm)
        obtain ⟨c, hc⟩ : ∃ c, m[j]? = some c := ⟨_, List.getElem?_eq_getElem hjm⟩
        have HV' := Lib.hid (RxV.part H4'.out HBB.out HBB.out.size hc)
        have HRG' := Lib.hid (range_below (hrng' j hjm) HBB.out hb')
        have HB2 := Lib.hid (Nat.lt_of_lt_of_le hb' HBB.out.size)
        have HCJ := Lib.hid hc
        clear hrng' hc hb'
        go_wp2_with (first
          | ((with_reducible refine atDst 17 ?_); refine wpList_load_mid rfl 27 _ rfl b (off + j * 6) rfl (f j) _ HRG.out Tryd.underlying27 rfl (size_rx HV.out.length) ?_)
          | ((with_reducible refine atDst 8 ?_); refine wpList_newE rfl 27 rfl i0 _ z hi0 HZ0.out rfl (Gr.refl wr) ?_; intro w2 hk2 hg2 hs2 _; have K2 := Lib.hid hk2; have G2 := Lib.hid hg2; clear hk2 hg2 hs2)
          | ((with_reducible refine atStore 27 8 17 ?_); refine wpList_stE rfl 27 _ _ rfl wr.heap.size (f j) rfl rfl 27 _ K2.out (size_rx HV.out.length) (by rw [HZL.out, HV.out.length]) (List.all_eq_true.2 HV.out.one) G2.out (Nat.le_refl _) ?_; intro w3 hk3 hg3 hs3 _; have K3 := Lib.hid hk3; have G3 := Lib.hid hg3; have HRG3 := Lib.hid (range_below HRG'.out hg3.below HB2.out); clear hk3 hg3 hs3)
          | ((with_reducible refine atDst 25 ?_); refine wpList_load_mid rfl 27 _ rfl b' (off' + j * 6) rfl (f' j) _ HRG3.out Tryd.underlying27 rfl (size_rx HV'.out.length) ?_)
          | ((with_reducible refine atDst 9 ?_); refine wpList_newE rfl 27 rfl i0 _ z hi0 HZ0.out rfl G3.out ?_; intro w4 hk4 hg4 hs4 ho4; have L4 := Lib.hid hk4; have G4 := Lib.hid hg4; have K4 := Lib.hid (show Blk w4 wr.heap.size 27 (f j) from (ho4 _ K3.out.lt).trans K3.out); have HS3 := Lib.hid K3.out.lt; clear hk4 hg4 hs4 ho4)
          | ((with_reducible refine atStore 27 9 25 ?_); refine wpList_stE rfl 27 _ _ rfl w3.heap.size (f' j) rfl rfl 27 _ L4.out (size_rx HV'.out.length) (by rw [HZL.out, HV'.out.length]) (List.all_eq_true.2 HV'.out.one) G4.out (Nat.le_of_lt HS3.out) ?_; intro w5 hk5 hg5 hs5 ho5; have L5 := Lib.hid hk5; have G5 := Lib.hid hg5; have K5 := Lib.hid (show Blk w5 wr.heap.size 27 (f j) from (ho5 _ (Nat.ne_of_lt HS3.out)).trans K4.out); clear hk5 hg5 hs5 ho5)
          | ((with_reducible refine atDst 27 ?_); refine wpList_ldArr rfl 27 _ rfl wr.heap.size rfl 27 _ _ K5.out Tryd.underlying27 rfl (size_rx HV.out.length) ?_)
          | ((with_reducible refine atDst 28 ?_); refine wpList_ldArr rfl 27 _ rfl w3.heap.size rfl 27 _ _ L5.out Tryd.underlying27 rfl (size_rx HV'.out.length) ?_))
        have V5 := Lib.hid ((HV.out.stay G5.out.below).mono G5.out.size)
        have V5' := Lib.hid ((HV'.out.stay G5.out.below).mono G5.out.size)
        refine (IH.out a HAL.out c (f j) (f' j) w5 V5.out V5'.out).mono ?_
        rintro e w6 ⟨rfl, hg6⟩
        have G6 := Lib.hid (HB.out.trans (G5.out.trans hg6))
        clear hg6
        obtain ⟨x, hx⟩ : ∃ x, cmpT a c = x := ⟨_, rfl⟩
        rw [hx]
        have HX := Lib.hid hx
        clear hx
        by_cases hx0 : x = 0
        · have hxb : (x != 0) = false := by simpa using hx0
          have HX0 := Lib.hid (HX.out.trans hx0)
          clear hx0
          go_wp2_with fail
          refine ⟨⟨j + 1, by omega, by omega, by congr 1, fun i a2 b2 hi ha2 hb2 => ?_, G6.out⟩, by simp [intOf] <;> omega⟩
          by_cases hij : i < j
          · exact HSM.out i a2 b2 hij ha2 hb2
          · obtain rfl : i = j := by omega
            rw [HAJ.out] at ha2
            rw [HCJ.out] at hb2
            obtain rfl := Option.some.inj ha2
            obtain rfl := Option.some.inj hb2
            exact HX0.out
        · have hxb : (x != 0) = true := by simpa using hx0
          have HF := Lib.hid (show cmpL l m = x by rw [← HX.out]; exact cmpL_at l m j a c HSM.out HAJ.out HCJ.out (by rw [HX.out]; exact hx0))
          clear hx0
          go_wp2_with fail
          go_ret
          rw [HF.out]
          exact ⟨rfl, G6.out⟩
      · have j2 : ((j : Int) ≥ (m.length : Int)) := by omega
        have hjm' : j = m.length := by omega
        have HF := Lib.hid (show cmpL l m = 1 by
          rw [cmpL_end l m fun i x y hx hy => HSM.out i x y (by have := (List.getElem?_eq_some_iff.1 hy).1; omega) hx hy, if_neg (by omega), if_pos (by omega)])
        clear hjm'
        go_wp2_with (first
          | ((with_reducible refine atDst 17 ?_); refine wpList_load_mid rfl 27 _ rfl b (off + j * 6) rfl (f j) _ HRG.out Tryd.underlying27 rfl (size_rx HV.out.length) ?_)
          | ((with_reducible refine atDst 8 ?_); refine wpList_newE rfl 27 rfl i0 _ z hi0 HZ0.out rfl (Gr.refl wr) ?_; intro w2 hk2 hg2 hs2 _; have K2 := Lib.hid hk2; have G2 := Lib.hid hg2; clear hk2 hg2 hs2)
          | ((with_reducible refine atStore 27 8 17 ?_); refine wpList_stE rfl 27 _ _ rfl wr.heap.size (f j) rfl rfl 27 _ K2.out (size_rx HV.out.length) (by rw [HZL.out, HV.out.length]) (List.all_eq_true.2 HV.out.one) G2.out (Nat.le_refl _) ?_; intro w3 hk3 hg3 hs3 _; have K3 := Lib.hid hk3; have G3 := Lib.hid hg3; clear hk3 hg3 hs3))
        go_ret
        rw [HF.out]
        exact ⟨rfl, HB.out.trans G3.out⟩
    · obtain rfl : j = l.length := by omega
      have j1 : ¬ ((l.length : Int) < (l.length : Int)) := by omega
      have hend := cmpL_end l m fun i x y hx hy => HSM.out i x y (List.getElem?_eq_some_iff.1 hx).1 hx hy
      by_cases hlm : l.length < m.length
      · have j2 : (l.length : Int) < (m.length : Int) := by omega
        rw [if_pos hlm] at hend
        have HF := Lib.hid hend
        clear hend hlm
        go_wp2_with fail
        go_ret
        rw [HF.out]
        exact ⟨rfl, HB.out⟩
      · have j2 : ¬ (l.length : Int) < (m.length : Int) := by omega
        rw [if_neg hlm, if_neg (by omega)] at hend
        have HF := Lib.hid hend
        clear hend hlm
        go_wp2_with fail
        go_ret
        rw [HF.out]
        exact ⟨rfl, HB.out⟩
theorem RowT.monoB {B B' : Nat} {w : World} {v : Value} {l : List T} (h : RowT B w v l) (hB : B ≤ B') : RowT B' w v l := by
  obtain ⟨A, cap, f, hv, h1, h2, h0, h3, h4⟩ := h
  refine ⟨A, cap, f, hv, h1, h2, h0, fun hne => ?_, fun i t ht => (h4 i t ht).mono hB⟩
  obtain ⟨b, off, hA, hlt, hc⟩ := h3 hne
  exact ⟨b, off, hA, Nat.lt_of_lt_of_le hlt hB, hc⟩
set_option maxHeartbeats 8000000 in
set_option maxRecDepth 100000 in
theorem rxCompare_gr : ∀ (N : Nat) (t u : T), t.nodes ≤ N → t.nodes ≤ 1099511627776 → ∀ (cs ds : List Value) (w : World), RxV w.heap.size w cs t → RxV w.heap.size w ds u →
    Calls Tryd.prog 68 #[.agg cs.toArray, .agg ds.toArray] w fun e w' => e = .returned (.int .i64 (cmpT t u)) ∧ Gr w w' := by
  intro N
  induction N with
  | zero => intro t u h; have := nodes_pos t; omega
  | succ N ih =>
    rintro ⟨k, s, l⟩ ⟨k', s', m⟩ hN hM cs ds w hv hv'
    have IH := Lib.hid ih
    clear ih
    obtain ⟨v, rfl, hrt⟩ := hv.row
    obtain ⟨v', rfl, hrt'⟩ := hv'.row
    have RT := Lib.hid hrt
    have RT' := Lib.hid hrt'
    have HNN := Lib.hid (show T.nodes (.node k s l) = 1 + nodesL l by simp only [T.nodes])
    have HSS := Lib.hid (cmpT_lex k k' s s' l m)
    rw [HNN.out] at hN hM
    rw [HSS.out]
    have HLN := Lib.hid (show l.length ≤ 1099511627776 by have := len_nodes l; omega)
    have HMB := Lib.hid (fun a (ha : a ∈ l) => show a.nodes ≤ N by have := nodes_mem ha; omega)
    have HMC := Lib.hid (fun a (ha : a ∈ l) => show a.nodes ≤ 1099511627776 by have := nodes_mem ha; omega)
    obtain ⟨A, cap, _, rfl, _⟩ := hrt
    obtain ⟨A', cap', _, rfl, _⟩ := hrt'
    obtain ⟨cs, hcs⟩ : ∃ cs, cs = Value.int .i64 k :: (wds s ++ [.slice A l.length cap]) := ⟨_, rfl⟩
    have HC0 := Lib.hid (show cs[0]? = some (.int .i64 k) by rw [hcs]; rfl)
    have HC5 := Lib.hid (show cs[5]? = some (.slice A l.length cap) by rw [hcs]; rfl)
    have HCS := Lib.hid hcs
    obtain ⟨ds, hds⟩ : ∃ ds, ds = Value.int .i64 k' :: (wds s' ++ [.slice A' m.length cap']) := ⟨_, rfl⟩
    have HD0 := Lib.hid (show ds[0]? = some (.int .i64 k') by rw [hds]; rfl)
    have HD5 := Lib.hid (show ds[5]? = some (.slice A' m.length cap') by rw [hds]; rfl)
    have HDS := Lib.hid hds
    rw [← hcs, ← hds]
    clear hv hv' hN hM hcs hds
    by_cases hk : k = k'
    · have hkd : kindD k k' = 0 := if_pos hk
      rw [hkd, lex_zero]
      have HK := Lib.hid hk
      clear hk
      by_cases h3k : k = 3
      · have h3b : (k == 3) = true := by simpa using h3k
        have HNE0 := Lib.hid h3k
        cases hs : eqS s s' with
        | false =>
          have HNE := Lib.hid (show (!eqS s s') = true by rw [hs]; rfl)
          cases hl : lessS s s' with
          | true =>
            have HF := Lib.hid (show lex (setD k s s') (cmpL l m) = -1 by unfold setD; rw [if_pos h3k, hs, hl]; rfl)
            rw [HF.out]
            have HL := Lib.hid hl
            clear hl hs h3k
            go_enter Tryd.func68, Tryd.ntmps68
            go_wp2_with (first
              | ((with_reducible refine atDst 2 ?_); refine wpList_boxE rfl 27 _ rfl cs rfl ?_; intro w1 hk1 hb1 hs1 _; have K1 := Lib.hid hk1; have B1 := Lib.hid hb1; clear hk1 hb1 hs1)
              | ((with_reducible refine atDst 3 ?_); refine wpList_boxE rfl 27 _ rfl ds rfl ?_; intro w2 hk2 hb2 hs2 ho2; have L2 := Lib.hid hk2; have B2 := Lib.hid (B1.out.trans hb2); have K2 := Lib.hid (show Blk w2 w.heap.size 27 cs from (ho2 _ K1.out.lt).trans K1.out); have a0 := K2.out.cell 0; rw [HC0.out] at a0; have b0 := L2.out.cell 0; rw [HD0.out] at b0; have a5 := K2.out.cell 5; rw [HC5.out] at a5; have b5 := L2.out.cell 5; rw [HD5.out] at b5; have RS := Lib.hid (set_range' HCS.out K2.out); have RS' := Lib.hid (set_range' HDS.out L2.out); clear hk2 hb2 hs2 ho2 K1 B1))
            refine (cmpInt_any k k' w2).mono ?_
            rintro e w3 ⟨rfl, rfl⟩
            rw [hkd]
            go_wp2_with (first
              | ((with_reducible refine atDst 19 ?_); refine wpList_ldMidG rfl 24 _ rfl w.heap.size 1 rfl (wds s) _ RS.out Tryd.underlying24 rfl (size_set s) ?_)
              | ((with_reducible refine atDst 21 ?_); refine wpList_ldMidG rfl 24 _ rfl w1.heap.size 1 rfl (wds s') _ RS'.out Tryd.underlying24 rfl (size_set s') ?_)
              | ((with_reducible refine atDst 22 ?_); refine wpList_neSetG rfl HNE.out 24 22 (.tmp 19) (.tmp 21) 24 rfl guardSet Tryd.underlying24 Tryd.underlying22 sizeU64 rfl rfl ?_)
              | ((with_reducible refine atDst 25 ?_); refine wpList_ldMidG rfl 24 _ rfl w.heap.size 1 rfl (wds s) _ RS.out Tryd.underlying24 rfl (size_set s) ?_)
              | ((with_reducible refine atDst 27 ?_); refine wpList_ldMidG rfl 24 _ rfl w1.heap.size 1 rfl (wds s') _ RS'.out Tryd.underlying24 rfl (size_set s') ?_))
            refine (bsLess_gr s s' w3).mono ?_
            rintro e w4 ⟨rfl, hg4⟩
            have G4 := Lib.hid (B2.out.trans hg4)
            clear hg4
            rw [HL.out]
            go_wp2_with fail
            go_ret
            exact ⟨rfl, G4.out⟩
          | false =>
            have HF := Lib.hid (show lex (setD k s s') (cmpL l m) = 1 by unfold setD; rw [if_pos h3k, hs, hl]; rfl)
            rw [HF.out]
            have HL := Lib.hid hl
            clear hl hs h3k
            go_enter Tryd.func68, Tryd.ntmps68
            go_wp2_with (first
              | ((with_reducible refine atDst 2 ?_); refine wpList_boxE rfl 27 _ rfl cs rfl ?_; intro w1 hk1 hb1 hs1 _; have K1 := Lib.hid hk1; have B1 := Lib.hid hb1; clear hk1 hb1 hs1)
              | ((with_reducible refine atDst 3 ?_); refine wpList_boxE rfl 27 _ rfl ds rfl ?_; intro w2 hk2 hb2 hs2 ho2; have L2 := Lib.hid hk2; have B2 := Lib.hid (B1.out.trans hb2); have K2 := Lib.hid (show Blk w2 w.heap.size 27 cs from (ho2 _ K1.out.lt).trans K1.out); have a0 := K2.out.cell 0; rw [HC0.out] at a0; have b0 := L2.out.cell 0; rw [HD0.out] at b0; have a5 := K2.out.cell 5; rw [HC5.out] at a5; have b5 := L2.out.cell 5; rw [HD5.out] at b5; have RS := Lib.hid (set_range' HCS.out K2.out); have RS' := Lib.hid (set_range' HDS.out L2.out); clear hk2 hb2 hs2 ho2 K1 B1))
            refine (cmpInt_any k k' w2).mono ?_
            rintro e w3 ⟨rfl, rfl⟩
            rw [hkd]
            go_wp2_with (first
              | ((with_reducible refine atDst 19 ?_); refine wpList_ldMidG rfl 24 _ rfl w.heap.size 1 rfl (wds s) _ RS.out Tryd.underlying24 rfl (size_set s) ?_)
              | ((with_reducible refine atDst 21 ?_); refine wpList_ldMidG rfl 24 _ rfl w1.heap.size 1 rfl (wds s') _ RS'.out Tryd.underlying24 rfl (size_set s') ?_)
              | ((with_reducible refine atDst 22 ?_); refine wpList_neSetG rfl HNE.out 24 22 (.tmp 19) (.tmp 21) 24 rfl guardSet Tryd.underlying24 Tryd.underlying22 sizeU64 rfl rfl ?_)
              | ((with_reducible refine atDst 25 ?_); refine wpList_ldMidG rfl 24 _ rfl w.heap.size 1 rfl (wds s) _ RS.out Tryd.underlying24 rfl (size_set s) ?_)
              | ((with_reducible refine atDst 27 ?_); refine wpList_ldMidG rfl 24 _ rfl w1.heap.size 1 rfl (wds s') _ RS'.out Tryd.underlying24 rfl (size_set s') ?_))
            refine (bsLess_gr s s' w3).mono ?_
            rintro e w4 ⟨rfl, hg4⟩
            have G4 := Lib.hid (B2.out.trans hg4)
            clear hg4
            rw [HL.out]
            go_wp2_with fail
            go_ret
            exact ⟨rfl, G4.out⟩
        | true =>
          have HNE := Lib.hid (show (!eqS s s') = false by rw [hs]; rfl)
          have HF := Lib.hid (show lex (setD k s s') (cmpL l m) = cmpL l m by unfold setD; rw [if_pos h3k, hs]; rfl)
          rw [HF.out]
          clear hs h3k
          go_enter Tryd.func68, Tryd.ntmps68
          go_wp2_with (first
            | ((with_reducible refine atDst 2 ?_); refine wpList_boxE rfl 27 _ rfl cs rfl ?_; intro w1 hk1 hb1 hs1 _; have K1 := Lib.hid hk1; have B1 := Lib.hid hb1; clear hk1 hb1 hs1)
            | ((with_reducible refine atDst 3 ?_); refine wpList_boxE rfl 27 _ rfl ds rfl ?_; intro w2 hk2 hb2 hs2 ho2; have L2 := Lib.hid hk2; have B2 := Lib.hid (B1.out.trans hb2); have K2 := Lib.hid (show Blk w2 w.heap.size 27 cs from (ho2 _ K1.out.lt).trans K1.out); have a0 := K2.out.cell 0; rw [HC0.out] at a0; have b0 := L2.out.cell 0; rw [HD0.out] at b0; have a5 := K2.out.cell 5; rw [HC5.out] at a5; have b5 := L2.out.cell 5; rw [HD5.out] at b5; have RS := Lib.hid (set_range' HCS.out K2.out); have RS' := Lib.hid (set_range' HDS.out L2.out); clear hk2 hb2 hs2 ho2 K1 B1))
          refine (cmpInt_any k k' w2).mono ?_
          rintro e w3 ⟨rfl, rfl⟩
          rw [hkd]
          go_wp2_with (first
            | ((with_reducible refine atDst 19 ?_); refine wpList_ldMidG rfl 24 _ rfl w.heap.size 1 rfl (wds s) _ RS.out Tryd.underlying24 rfl (size_set s) ?_)
            | ((with_reducible refine atDst 21 ?_); refine wpList_ldMidG rfl 24 _ rfl w1.heap.size 1 rfl (wds s') _ RS'.out Tryd.underlying24 rfl (size_set s') ?_)
            | ((with_reducible refine atDst 22 ?_); refine wpList_neSetG rfl HNE.out 24 22 (.tmp 19) (.tmp 21) 24 rfl guardSet Tryd.underlying24 Tryd.underlying22 sizeU64 rfl rfl ?_)
            | ((with_reducible refine atDst 25 ?_); refine wpList_ldMidG rfl 24 _ rfl w.heap.size 1 rfl (wds s) _ RS.out Tryd.underlying24 rfl (size_set s) ?_)
            | ((with_reducible refine atDst 27 ?_); refine wpList_ldMidG rfl 24 _ rfl w1.heap.size 1 rfl (wds s') _ RS'.out Tryd.underlying24 rfl (size_set s') ?_))
          refine (cmpFunc_gr l m _ _ w3 (RT.out.below B2.out.below |>.monoB B2.out.size) (RT'.out.below B2.out.below |>.monoB B2.out.size) HLN.out (fun a ha b cs ds w1 h1 h2 => IH.out a b (HMB.out a ha) (HMC.out a ha) cs ds w1 h1 h2)).mono ?_
          rintro e w4 ⟨rfl, hg4⟩
          have G4 := Lib.hid (B2.out.trans hg4)
          clear hg4
          go_wp2_with fail
          go_ret
          exact ⟨rfl, G4.out⟩
      · have h3b : (k == 3) = false := by simpa using h3k
        have HF := Lib.hid (show lex (setD k s s') (cmpL l m) = cmpL l m by unfold setD; rw [if_neg h3k]; rfl)
        rw [HF.out]
        have HNE := Lib.hid (rfl : (0 : Nat) = 0)
        clear h3k
        go_enter Tryd.func68, Tryd.ntmps68
        go_wp2_with (first
          | ((with_reducible refine atDst 2 ?_); refine wpList_boxE rfl 27 _ rfl cs rfl ?_; intro w1 hk1 hb1 hs1 _; have K1 := Lib.hid hk1; have B1 := Lib.hid hb1; clear hk1 hb1 hs1)
          | ((with_reducible refine atDst 3 ?_); refine wpList_boxE rfl 27 _ rfl ds rfl ?_; intro w2 hk2 hb2 hs2 ho2; have L2 := Lib.hid hk2; have B2 := Lib.hid (B1.out.trans hb2); have K2 := Lib.hid (show Blk w2 w.heap.size 27 cs from (ho2 _ K1.out.lt).trans K1.out); have a0 := K2.out.cell 0; rw [HC0.out] at a0; have b0 := L2.out.cell 0; rw [HD0.out] at b0; have a5 := K2.out.cell 5; rw [HC5.out] at a5; have b5 := L2.out.cell 5; rw [HD5.out] at b5; have RS := Lib.hid (set_range' HCS.out K2.out); have RS' := Lib.hid (set_range' HDS.out L2.out); clear hk2 hb2 hs2 ho2 K1 B1))
        refine (cmpInt_any k k' w2).mono ?_
        rintro e w3 ⟨rfl, rfl⟩
        rw [hkd]
        go_wp2_with (first
          | ((with_reducible refine atDst 19 ?_); refine wpList_ldMidG rfl 24 _ rfl w.heap.size 1 rfl (wds s) _ RS.out Tryd.underlying24 rfl (size_set s) ?_)
          | ((with_reducible refine atDst 21 ?_); refine wpList_ldMidG rfl 24 _ rfl w1.heap.size 1 rfl (wds s') _ RS'.out Tryd.underlying24 rfl (size_set s') ?_)
          | ((with_reducible refine atDst 22 ?_); refine wpList_neSetG rfl HNE.out 24 22 (.tmp 19) (.tmp 21) 24 rfl guardSet Tryd.underlying24 Tryd.underlying22 sizeU64 rfl rfl ?_)
          | ((with_reducible refine atDst 25 ?_); refine wpList_ldMidG rfl 24 _ rfl w.heap.size 1 rfl (wds s) _ RS.out Tryd.underlying24 rfl (size_set s) ?_)
          | ((with_reducible refine atDst 27 ?_); refine wpList_ldMidG rfl 24 _ rfl w1.heap.size 1 rfl (wds s') _ RS'.out Tryd.underlying24 rfl (size_set s') ?_))
        refine (cmpFunc_gr l m _ _ w3 (RT.out.below B2.out.below |>.monoB B2.out.size) (RT'.out.below B2.out.below |>.monoB B2.out.size) HLN.out (fun a ha b cs ds w1 h1 h2 => IH.out a b (HMB.out a ha) (HMC.out a ha) cs ds w1 h1 h2)).mono ?_
        rintro e w4 ⟨rfl, hg4⟩
        have G4 := Lib.hid (B2.out.trans hg4)
        clear hg4
        go_wp2_with fail
        go_ret
        exact ⟨rfl, G4.out⟩
    · have hkd : kindD k k' ≠ 0 := by
        unfold kindD
        rw [if_neg hk]
        split <;> decide
      rw [lex_ne _ hkd]
      obtain ⟨x, hx⟩ : ∃ x, kindD k k' = x := ⟨_, rfl⟩
      rw [hx] at hkd ⊢
      have HX := Lib.hid hx
      have hxb : (x != 0) = true := by simpa using hkd
      clear hx hkd hk
      go_enter Tryd.func68, Tryd.ntmps68
      go_wp2_with (first
        | ((with_reducible refine atDst 2 ?_); refine wpList_boxE rfl 27 _ rfl cs rfl ?_; intro w1 hk1 hb1 hs1 _; have K1 := Lib.hid hk1; have B1 := Lib.hid hb1; clear hk1 hb1 hs1)
        | ((with_reducible refine atDst 3 ?_); refine wpList_boxE rfl 27 _ rfl ds rfl ?_; intro w2 hk2 hb2 hs2 ho2; have L2 := Lib.hid hk2; have B2 := Lib.hid (B1.out.trans hb2); have K2 := Lib.hid (show Blk w2 w.heap.size 27 cs from (ho2 _ K1.out.lt).trans K1.out); have a0 := K2.out.cell 0; rw [HC0.out] at a0; have b0 := L2.out.cell 0; rw [HD0.out] at b0; have a5 := K2.out.cell 5; rw [HC5.out] at a5; have b5 := L2.out.cell 5; rw [HD5.out] at b5; have RS := Lib.hid (set_range' HCS.out K2.out); have RS' := Lib.hid (set_range' HDS.out L2.out); clear hk2 hb2 hs2 ho2 K1 B1))
      refine (cmpInt_any k k' w2).mono ?_
      rintro e w3 ⟨rfl, rfl⟩
      rw [HX.out]
      go_wp2_with fail
      go_ret
      exact ⟨rfl, B2.out⟩
end Go.Proofs.YtmlojjgddmnbmaaDoor
