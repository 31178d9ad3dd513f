/-
  Texts of this proof, put together: RxT, RxN, RxO, RxSb, RxK, RxF. No statement is proved here.
-/
import Derived.Test.YteadghoojeehlaaGreatDoorXA
import Derived.Test.YteadghoojeehlaaGreatDoorXC
import Derived.Test.YteadghoojeehlaaGreatDoorProg
import Derived.Test.YteadghoojeehlaaGreatDoorXB
namespace Go.Proofs.YteadghoojeehlaaGreatDoor
open Go.RowKit
set_option linter.unusedSimpArgs false
set_option linter.unusedVariables false
inductive T where
 | node (k : Int) (s : Nat → Bool) (l : List T)
def T.kind : T → Int | .node k _ _ => k
def T.set : T → (Nat → Bool) | .node _ s _ => s
def T.args : T → List T | .node _ _ l => l
mutual
def T.nodes : T → Nat
 | .node _ _ l => 1 + nodesL l
def nodesL : List T → Nat
 | [] => 0
 | t :: r => t.nodes + nodesL r
end
mutual
def T.depth : T → Nat
 | .node _ _ l => depthL l + 1
def depthL : List T → Nat
 | [] => 0
 | t :: r => max t.depth (depthL r)
end
theorem nodes_pos (t : T) : 0 < t.nodes := by
 cases t with
 | node k s l => simp only [T.nodes]; omega
theorem nodesL_append : ∀ a b : List T, nodesL (a ++ b) = nodesL a + nodesL b
 | [], b => by simp [nodesL]
 | t :: r, b => by
  have := nodesL_append r b
  simp only [List.cons_append, nodesL, this]
  omega
theorem depthL_append : ∀ a b : List T, depthL (a ++ b) = max (depthL a) (depthL b)
 | [], b => by simp [depthL]
 | t :: r, b => by
  have := depthL_append r b
  simp only [List.cons_append, depthL, this]
  omega
theorem depthL_next (l : List T) (i : Nat) (t : T) (h : l[i]? = some t) : depthL (l.take (i + 1)) = max (depthL (l.take i)) t.depth := by
 obtain ⟨hi, rfl⟩ := List.getElem?_eq_some_iff.1 h
 rw [List.take_succ_eq_append_getElem hi, depthL_append]
 simp [depthL]
theorem nodes_mem : ∀ {l : List T} {t : T}, t ∈ l → t.nodes ≤ nodesL l
 | a :: r, t, h => by
  rcases List.mem_cons.1 h with rfl | h
  ·simp only [nodesL]; omega
  ·have := nodes_mem h
   simp only [nodesL]; omega
theorem len_nodes : ∀ l : List T, l.length ≤ nodesL l
 | [] => Nat.le_refl _
 | t :: r => by
  have h1 := len_nodes r
  have h2 := nodes_pos t
  simp only [nodesL, List.length_cons]; omega
/-! ### how two compare -/
mutual
def cmpT : T → T → Int
 | .node k s l, .node k' s' l' => if k = k' then (if k = 3 ∧ eqS s s' = false then (if lessS s s' then -1 else 1) else cmpL l l') else if k < k' then -1 else 1
def cmpL : List T → List T → Int
 | [], [] => 0
 | [], _ :: _ => -1
 | _ :: _, [] => 1
 | a :: r, b :: r' => if cmpT a b = 0 then cmpL r r' else cmpT a b
end
/-! ### how they lie -/
inductive RxD (D : Nat → Prop) (w : World) : List Value → T → Prop
 | node {k : Int} {s : Nat → Bool} {l : List T} {A : Option Addr} {cap : Nat} (f : Nat → List Value) (h1 : l.length ≤ cap) (h2 : cap ≤ maxLen) (h0 : A = none → cap = 0)
   (h3 : l ≠ [] → ∃ b off, A = some ⟨b, off, none⟩ ∧ D b ∧ ∀ i, i < l.length → w.rangeAt b (off + i * 6) (f i))
   (h4 : ∀ i t, l[i]? = some t → RxD D w (f i) t) : RxD D w (.int .i64 k :: (wds s ++ [.slice A l.length cap])) (.node k s l)
theorem range_heap {w w' : World} {b o : Nat} {cs : List Value} (h : w.rangeAt b o cs) (hb : w'.heap[b]? = w.heap[b]?) : w'.rangeAt b o cs := fun j v hv => by
 have := h j v hv
 unfold World.cell? at this ⊢
 simp only [hb]
 exact this
theorem RxD.stay {D : Nat → Prop} {w w' : World} {cs : List Value} {t : T} (h : RxD D w cs t) (hb : ∀ k, D k → w'.heap[k]? = w.heap[k]?) : RxD D w' cs t := by
 induction h with
 | node f h1 h2 h0 h3 h4 ih =>
  refine .node f h1 h2 h0 (fun hne => ?_) ih
  obtain ⟨b, off, hA, hlt, hc⟩ := h3 hne
  exact ⟨b, off, hA, hlt, fun i hi => range_heap (hc i hi) (hb b hlt)⟩
theorem RxD.mono {D D' : Nat → Prop} {w : World} {cs : List Value} {t : T} (h : RxD D w cs t) (hb : ∀ k, D k → D' k) : RxD D' w cs t := by
 induction h with
 | node f h1 h2 h0 h3 h4 ih =>
  refine .node f h1 h2 h0 (fun hne => ?_) ih
  obtain ⟨b, off, hA, hlt, hc⟩ := h3 hne
  exact ⟨b, off, hA, hb b hlt, hc⟩
theorem RxD.length {D : Nat → Prop} {w : World} {cs : List Value} {t : T} (h : RxD D w cs t) : cs.length = 6 := by
 cases h
 rfl
theorem RxD.opened {D : Nat → Prop} {w : World} {cs : List Value} {k : Int} {s : Nat → Bool} {l : List T} (h : RxD D w cs (.node k s l)) :
  ∃ (A : Option Addr) (cap : Nat) (f : Nat → List Value), cs = .int .i64 k :: (wds s ++ [.slice A l.length cap]) ∧ l.length ≤ cap ∧ cap ≤ maxLen ∧ (A = none → cap = 0) ∧ (l ≠ [] → ∃ b off, A = some ⟨b, off, none⟩ ∧ D b ∧ ∀ i, i < l.length → w.rangeAt b (off + i * 6) (f i)) ∧ ∀ i t, l[i]? = some t → RxD D w (f i) t := by
 cases h with
 | node f h1 h2 h0 h3 h4 => exact ⟨_, _, f, rfl, h1, h2, h0, h3, h4⟩
theorem RxD.one {D : Nat → Prop} {w : World} {cs : List Value} {t : T} (h : RxD D w cs t) : ∀ u ∈ cs, u.oneCell' = true := by
 cases h with
 | node f h1 h2 h0 h3 h4 =>
  intro u hu
  rcases List.mem_cons.1 hu with rfl | hu
  ·rfl
  ·rcases List.mem_append.1 hu with hu | hu
   ·exact List.all_eq_true.1 (wds_all _) u hu
   ·obtain rfl := List.mem_singleton.1 hu
    rfl
def RxV (B : Nat) (w : World) (cs : List Value) (t : T) : Prop := RxD (fun k => k < B) w cs t
theorem RxV.stay {B : Nat} {w w' : World} {cs : List Value} {t : T} (h : RxV B w cs t) (hb : Below B w w') : RxV B w' cs t := RxD.stay h fun k hk => hb.block k hk
theorem RxV.mono {B B' : Nat} {w : World} {cs : List Value} {t : T} (h : RxV B w cs t) (hb : B ≤ B') : RxV B' w cs t := RxD.mono h fun k hk => Nat.lt_of_lt_of_le hk hb
theorem RxV.length {B : Nat} {w : World} {cs : List Value} {t : T} (h : RxV B w cs t) : cs.length = 6 := RxD.length h
theorem RxV.opened {B : Nat} {w : World} {cs : List Value} {k : Int} {s : Nat → Bool} {l : List T} (h : RxV B w cs (.node k s l)) :
  ∃ (A : Option Addr) (cap : Nat) (f : Nat → List Value), cs = .int .i64 k :: (wds s ++ [.slice A l.length cap]) ∧ l.length ≤ cap ∧ cap ≤ maxLen ∧ (A = none → cap = 0) ∧ (l ≠ [] → ∃ b off, A = some ⟨b, off, none⟩ ∧ b < B ∧ ∀ i, i < l.length → w.rangeAt b (off + i * 6) (f i)) ∧ ∀ i t, l[i]? = some t → RxV B w (f i) t := RxD.opened h
def RowT (B : Nat) (w : World) (v : Value) (l : List T) : Prop :=
 ∃ (A : Option Addr) (cap : Nat) (f : Nat → List Value), v = .slice A l.length cap ∧ l.length ≤ cap ∧ cap ≤ maxLen ∧ (A = none → cap = 0) ∧ (l ≠ [] → ∃ b off, A = some ⟨b, off, none⟩ ∧ b < B ∧ ∀ i, i < l.length → w.rangeAt b (off + i * 6) (f i)) ∧ ∀ i t, l[i]? = some t → RxV B w (f i) t
theorem RowT.below {B : Nat} {w w' : World} {v : Value} {l : List T} (h : RowT B w v l) (hb : Below B w w') : RowT B w' v l := by
 obtain ⟨A, cap, f, hv, h1, h2, h0, h3, h4⟩ := h
 refine ⟨A, cap, f, hv, h1, h2, h0, fun hne => ?_, fun i t ht => (h4 i t ht).stay hb⟩
 obtain ⟨b, off, hA, hlt, hc⟩ := h3 hne
 exact ⟨b, off, hA, hlt, fun i hi => range_below (hc i hi) hb hlt⟩
theorem RxV.row {B : Nat} {w : World} {k : Int} {s : Nat → Bool} {l : List T} {cs : List Value} (h : RxV B w cs (.node k s l)) : ∃ v, cs = .int .i64 k :: (wds s ++ [v]) ∧ RowT B w v l := by
 obtain ⟨A, cap, f, hcs, h⟩ := h.opened
 exact ⟨_, hcs, A, cap, f, rfl, h⟩
theorem RowT.rx {B : Nat} {w : World} {v : Value} {l : List T} (h : RowT B w v l) (k : Int) (s : Nat → Bool) : RxV B w (.int .i64 k :: (wds s ++ [v])) (.node k s l) := by
 obtain ⟨A, cap, f, rfl, h1, h2, h0, h3, h4⟩ := h
 exact RxD.node f h1 h2 h0 h3 h4
theorem RowT.at_ {B : Nat} {w : World} {A : Option Addr} {n cap : Nat} {l : List T} (h : RowT B w (.slice A n cap) l) (hne : 0 < l.length) :
  ∃ (b off : Nat) (f : Nat → List Value), A = some ⟨b, off, none⟩ ∧ b < B ∧ (∀ i, i < l.length → w.rangeAt b (off + i * 6) (f i)) ∧ ∀ i t, l[i]? = some t → RxV B w (f i) t := by
 obtain ⟨A', cap', f, he, _, _, _, h3, h4⟩ := h
 injection he with hA _ _
 subst hA
 obtain ⟨b, off, h5, h6, h7⟩ := h3 (by rintro rfl; simp at hne)
 exact ⟨b, off, f, h5, h6, h7, h4⟩
def RowD (D : Nat → Prop) (w : World) (v : Value) (l : List T) : Prop :=
 ∃ (A : Option Addr) (cap : Nat) (f : Nat → List Value), v = .slice A l.length cap ∧ l.length ≤ cap ∧ cap ≤ maxLen ∧ (A = none → cap = 0) ∧ (l ≠ [] → ∃ b off, A = some ⟨b, off, none⟩ ∧ D b ∧ ∀ i, i < l.length → w.rangeAt b (off + i * 6) (f i)) ∧ ∀ i t, l[i]? = some t → RxD D w (f i) t
theorem RowT.rowD {B : Nat} {w : World} {v : Value} {l : List T} (h : RowT B w v l) : RowD (fun k => k < B) w v l := h
theorem RowD.stay {D : Nat → Prop} {w w' : World} {v : Value} {l : List T} (h : RowD D w v l) (hb : ∀ k, D k → w'.heap[k]? = w.heap[k]?) : RowD D w' v l := by
 obtain ⟨A, cap, f, hv, h1, h2, h0, h3, h4⟩ := h
 refine ⟨A, cap, f, hv, h1, h2, h0, fun hne => ?_, fun i t ht => (h4 i t ht).stay hb⟩
 obtain ⟨b, off, hA, hlt, hc⟩ := h3 hne
 exact ⟨b, off, hA, hlt, fun i hi => range_heap (hc i hi) (hb b hlt)⟩
theorem RowD.mono {D D' : Nat → Prop} {w : World} {v : Value} {l : List T} (h : RowD D w v l) (hD : ∀ k, D k → D' k) : RowD D' w v l := by
 obtain ⟨A, cap, f, hv, h1, h2, h0, h3, h4⟩ := h
 refine ⟨A, cap, f, hv, h1, h2, h0, fun hne => ?_, fun i t ht => (h4 i t ht).mono hD⟩
 obtain ⟨b, off, hA, hlt, hc⟩ := h3 hne
 exact ⟨b, off, hA, hD b hlt, hc⟩
theorem RxD.row {D : Nat → Prop} {w : World} {k : Int} {s : Nat → Bool} {l : List T} {cs : List Value} (h : RxD D w cs (.node k s l)) : ∃ v, cs = .int .i64 k :: (wds s ++ [v]) ∧ RowD D w v l := by
 obtain ⟨A, cap, f, hcs, h⟩ := h.opened
 exact ⟨_, hcs, A, cap, f, rfl, h⟩
theorem RowD.rx {D : Nat → Prop} {w : World} {v : Value} {l : List T} (h : RowD D w v l) (k : Int) (s : Nat → Bool) : RxD D w (.int .i64 k :: (wds s ++ [v])) (.node k s l) := by
 obtain ⟨A, cap, f, rfl, h1, h2, h0, h3, h4⟩ := h
 exact RxD.node f h1 h2 h0 h3 h4
theorem RowD.keep {D : Nat → Prop} {B : Nat} {w w' : World} {v : Value} {l : List T} (h : RowD D w v l) (hb : Below B w w') (hD : ∀ k, D k → k < B) : RowD D w' v l := h.stay fun k hk => hb.block k (hD k hk)
theorem RxD.keep {D : Nat → Prop} {B : Nat} {w w' : World} {cs : List Value} {t : T} (h : RxD D w cs t) (hb : Below B w w') (hD : ∀ k, D k → k < B) : RxD D w' cs t := h.stay fun k hk => hb.block k (hD k hk)
theorem size_rx {cs : List Value} (h : cs.length = 6) : (Tryz.prog.info? 46).map (·.size) = some cs.length := by
 rw [h]
 kernel_rfl
theorem wrap_one (j : Nat) (h : j ≤ 4611686018427387904) : wrap64 ((j : Int) + 1) = ((j + 1 : Nat) : Int) := by
 rw [show (j : Int) + 1 = ((j + 1 : Nat) : Int) from rfl]
 exact IntWalk.wrap64_in _ (by omega)
theorem wrap_one' (j : Nat) (h : j ≤ 4611686018427387904) : IntKind.i64.wrap ((j : Int) + 1) = ((j + 1 : Nat) : Int) := by
 rw [show (j : Int) + 1 = ((j + 1 : Nat) : Int) from rfl]
 exact IntWalk.i64_in _ (by omega)
theorem wrap_len {j len cap : Nat} (h : j < len) (h1 : len ≤ cap) (h2 : cap ≤ maxLen) : wrap64 ((j : Int) + 1) = ((j + 1 : Nat) : Int) := IntWalk.wrap64_in _ (by unfold maxLen at h2; omega)
theorem wrap_len' {j len cap : Nat} (h : j < len) (h1 : len ≤ cap) (h2 : cap ≤ maxLen) : IntKind.i64.wrap ((j : Int) + 1) = ((j + 1 : Nat) : Int) := IntWalk.i64_in _ (by unfold maxLen at h2; omega)
theorem nodesL_take (l : List T) (j : Nat) : nodesL (l.take j) ≤ nodesL l := by
 have h := nodesL_append (l.take j) (l.drop j)
 rw [List.take_append_drop] at h
 omega
theorem RxV.part {B : Nat} {w w' : World} {l : List T} {f : Nat → List Value} (h : ∀ i t, l[i]? = some t → RxV B w (f i) t) (hb : Below B w w') (hB : B ≤ w'.heap.size) {i : Nat} {t : T} (ht : l[i]? = some t) : RxV w'.heap.size w' (f i) t :=
 ((h i t ht).stay hb).mono hB
theorem flat6_get : ∀ {cs : List (List Value)} (_ : ∀ c ∈ cs, c.length = 6) {i : Nat} {c : List Value}, cs[i]? = some c → ∀ j, j < 6 → cs.flatten[i * 6 + j]? = c[j]?
 | [], _, i, c, h, _, _ => by simp at h
 | a :: r, hl, 0, c, h, j, hj => by
  have : a = c := by simpa using h
  subst this
  have h6 := hl a (by simp)
  rw [List.flatten_cons, Nat.zero_mul, Nat.zero_add, List.getElem?_append_left (by omega)]
 | a :: r, hl, i + 1, c, h, j, hj => by
  have h6 := hl a (by simp)
  have ih := flat6_get (cs := r) (fun d hd => hl d (List.mem_cons_of_mem _ hd)) (i := i) (c := c) (by simpa using h) j hj
  rw [List.flatten_cons, List.getElem?_append_right (by omega), ← ih]
  congr 1
  omega
theorem flat6_len : ∀ {cs : List (List Value)}, (∀ c ∈ cs, c.length = 6) → cs.flatten.length = cs.length * 6
 | [], _ => rfl
 | a :: r, hl => by
  have h6 := hl a (by simp)
  have ih := flat6_len (cs := r) fun c hc => hl c (by simp [hc])
  rw [List.flatten_cons, List.length_append, List.length_cons, ih, h6]
  omega
theorem append_where {P : Program} {w : World} (base : Nat) (t ty e : TypeId) (i : TypeInfo) (z : Value) (size bytes : Nat) (ht : P.underlying t = some (.slice e)) (hi : P.info? e = some i) (hz : i.zero = some z)
  (hsize : i.size = size) (hby : i.bytes = bytes) (hsz : 0 < size)
  (v : Value) (n : Nat) (xs : List Value) (hown : w.ownsRow base e size v n xs)
  (a : Addr) (m c : Nat) (news : List Value) (hl : news.length = m * size) (hnews : ∀ j u, news[j]? = some u → w.cell? (a.add j) = some u) (h1 : ∀ u ∈ news, u.oneCell' = true)
  (h63 : n + m ≤ maxLen) (hbytes : (n + m) * bytes ≤ 140737488355328) {v' : Value} {w' : World} (hrun : (Builtin.append_ #[t, t] ty #[v, .slice (some a) m c]).run P w = .ok v' w') :
  ∀ k, v'.ownBlock = some k → v.ownBlock = some k ∨ w.heap.size ≤ k := by
 subst hsize
 subst hby
 have hsmall : n + m ≤ 9223372036854775807 := by simp only [maxLen] at h63; omega
 intro k hk
 rcases hown.2 with ⟨rfl, rfl⟩ | ⟨g, cap, cur, rfl, hbg, hg, hnc, hcm, hcs, htake⟩
 ·have hx : xs = [] := List.eq_nil_of_length_eq_zero (by simpa using hown.1)
  subst hx
  by_cases hm : m = 0
  ·subst hm
   have hn : news = [] := List.eq_nil_of_length_eq_zero (by simpa using hl)
   subst hn
   have hr : (Builtin.append_ #[t, t] ty #[.slice none 0 0, .slice (some a) 0 c]).run P w = .ok (.slice none 0 0) w := by
    simp [Builtin.append_, run_underlying ht, sizeOf, typeInfo, hi, Builtin.lenOf, Builtin.firstCells, loadCells, loadCellsFrom]
   rw [hr] at hrun
   injection hrun with e1 e2
   subst e1
   cases hk
  ·have hr := run_append_nil (P := P) w t ty e i z ht hi hz a m c news hl hnews (by omega) (by omega) (by have hb := hbytes; simp only [Nat.zero_add] at hb; omega)
   rw [hr] at hrun
   injection hrun with e1 e2
   subst e1
   have : w.heap.size = k := Option.some.inj hk
   exact .inr (by omega)
 ·by_cases hroom : n + m ≤ cap
  ·obtain ⟨w2, hr, _, _⟩ := run_append_fits (P := P) w base t ty e i i.size ht hi rfl g n cap xs hown a m c news hl hnews h1 hroom
   rw [hr] at hrun
   injection hrun with e1 e2
   subst e1
   exact .inl hk
  ·have holds : ∀ j u, xs[j]? = some u → w.cell? ((⟨g, 0, none⟩ : Addr).add j) = some u := hown.cells (g := g) rfl
   have hr := run_append_grow (P := P) w t ty e i z ht hi hz ⟨g, 0, none⟩ n cap xs hown.1 holds a m c news hl hnews (by omega) (by omega) (growslice_fits (by omega) hbytes)
   rw [hr] at hrun
   injection hrun with e1 e2
   subst e1
   have : w.heap.size = k := Option.some.inj hk
   exact .inr (by omega)
def OwnT (D : Nat → Prop) (base : Nat) (w : World) (v : Value) (l : List T) : Prop :=
 ∃ cells : List (List Value), cells.length = l.length ∧ (∀ c ∈ cells, c.length = 6) ∧ w.ownsRow base 46 6 v l.length cells.flatten ∧
  ∀ (i : Nat) (c : List Value) (t : T), cells[i]? = some c → l[i]? = some t → RxD (fun k => D k ∧ k < w.heap.size ∧ some k ≠ v.ownBlock) w c t
theorem OwnT.nil (D : Nat → Prop) (base : Nat) (w : World) : OwnT D base w (.slice none 0 0) [] := ⟨[], rfl, by simp, ⟨by simp, .inl ⟨rfl, rfl⟩⟩, fun i c t h => by simp at h⟩
theorem own6_stay {w w' : World} {base n k : Nat} {e : TypeId} {v : Value} {xs : List Value} (h : w.ownsRow base e k v n xs) (hb : ∀ j, v.ownBlock = some j → w'.heap[j]? = w.heap[j]?) : w'.ownsRow base e k v n xs := by
 refine ⟨h.1, ?_⟩
 rcases h.2 with h0 | ⟨g, cap, cur, rfl, hb2, hg, h3⟩
 ·exact .inl h0
 ·exact .inr ⟨g, cap, cur, rfl, hb2, (hb g rfl).trans hg, h3⟩
theorem own6_lt {w : World} {base n k : Nat} {e : TypeId} {v : Value} {xs : List Value} (h : w.ownsRow base e k v n xs) : ∀ j, v.ownBlock = some j → j < w.heap.size ∧ base ≤ j := by
 intro j hj
 rcases h.2 with ⟨rfl, h0⟩ | ⟨g, cap, cur, rfl, hb, hg, _⟩
 ·cases hj
 ·have hk' : some g = some j := hj
  injection hk' with hk'
  subst hk'
  exact ⟨(Array.getElem?_eq_some_iff.1 hg).1, hb⟩
theorem OwnT.stay {D : Nat → Prop} {base : Nat} {w w' : World} {v : Value} {l : List T} (h : OwnT D base w v l) (hb : Below w.heap.size w w') : OwnT D base w' v l := by
 obtain ⟨cells, h1, h2, h3, h4⟩ := h
 refine ⟨cells, h1, h2, own6_stay h3 fun j hj => hb.block j (own6_lt h3 j hj).1, fun i c t hc ht => ?_⟩
 exact ((h4 i c t hc ht).stay fun k hk => hb.block k hk.2.1).mono fun k hk => ⟨hk.1, Nat.lt_of_lt_of_le hk.2.1 hb.size, hk.2.2⟩
theorem OwnT.slice {D : Nat → Prop} {base : Nat} {w : World} {v : Value} {l : List T} (h : OwnT D base w v l) : ∃ A c, v = .slice A l.length c := by
 obtain ⟨_, _, _, h3, _⟩ := h
 rcases h3.2 with ⟨rfl, h0⟩ | ⟨g, cap, cur, rfl, _⟩
 ·exact ⟨none, 0, by rw [h0]⟩
 ·exact ⟨_, _, rfl⟩
theorem OwnT.lt {D : Nat → Prop} {base : Nat} {w : World} {v : Value} {l : List T} (h : OwnT D base w v l) (j : Nat) (hj : v.ownBlock = some j) : j < w.heap.size := by
 obtain ⟨_, _, _, h3, _⟩ := h
 exact (own6_lt h3 j hj).1
theorem OwnT.ge {D : Nat → Prop} {base : Nat} {w : World} {v : Value} {l : List T} (h : OwnT D base w v l) (j : Nat) (hj : v.ownBlock = some j) : base ≤ j := by
 obtain ⟨_, _, _, h3, _⟩ := h
 exact (own6_lt h3 j hj).2
theorem OwnT.rx {D : Nat → Prop} {base : Nat} {w : World} {v : Value} {l : List T} (h : OwnT D base w v l) (k : Int) (s : Nat → Bool) : RxD (fun b => (D b ∨ base ≤ b) ∧ b < w.heap.size) w (.int .i64 k :: (wds s ++ [v])) (.node k s l) := by
 obtain ⟨cells, h1, h2, h3, h4⟩ := h
 rcases h3.2 with ⟨rfl, h0⟩ | ⟨g, cap, cur, rfl, hb, hg, hn, hm, hs, ht⟩
 ·obtain rfl : l = [] := List.eq_nil_of_length_eq_zero h0
  exact .node (fun _ => []) (Nat.le_refl _) (Nat.zero_le _) (fun _ => rfl) (fun h => absurd rfl h) (fun i t h => by simp at h)
 ·refine .node (fun i => cells.getD i []) hn hm (fun h => by cases h) (fun hne => ⟨g, 0, rfl, ⟨.inr hb, (Array.getElem?_eq_some_iff.1 hg).1⟩, fun i hi j u hu => ?_⟩) (fun i t hti => ?_)
  ·have hic : i < cells.length := by omega
   have hci : cells[i]? = some cells[i] := List.getElem?_eq_getElem hic
   have e0 : cells.getD i [] = cells[i] := by simp [List.getD, hci]
   rw [e0] at hu
   have hj : j < 6 := by rw [← h2 cells[i] (List.getElem_mem hic)]; exact (List.getElem?_eq_some_iff.1 hu).1
   have e1 := flat6_get h2 hci j hj
   rw [hu, ← ht, List.getElem?_take, if_pos (by omega), Array.getElem?_toList] at e1
   rw [cell_of_row w g _ cur _ (0, 0) hg, Nat.zero_add, e1]
  ·have hic : i < cells.length := by rw [h1]; exact (List.getElem?_eq_some_iff.1 hti).1
   have hci : cells[i]? = some cells[i] := List.getElem?_eq_getElem hic
   have e0 : cells.getD i [] = cells[i] := by simp [List.getD, hci]
   rw [e0]
   exact (h4 i cells[i] t hci hti).mono fun k hk => ⟨.inl hk.1, hk.2.1⟩
theorem inf_rx : (Tryz.prog.info? 46).map (fun i => (i.zero, i.size, i.bytes)) = some (some (.agg (Value.int .i64 0 :: (wds (fun _ => false) ++ [.slice none 0 0])).toArray), 6, 64) := by kernel_rfl
section
variable {w : World} {ops : Array Oper} {rest : List Oper} {o : Oper} {a : Act} {Q : Exit → Act → World → Prop}
theorem wpList_appT {D : Nat → Prop} {base : Nat} (hgd : o.guard = none) (s x : Operand)
  (ho : o.op = .call { callee := .builtin .append, args := #[s, x], argTypes := #[44, 44] })
  (i : TypeInfo) (hi : Tryz.prog.info? 46 = some i) (hz : i.zero = some (.agg (Value.int .i64 0 :: (wds (fun _ => false) ++ [.slice none 0 0])).toArray))
  (hsize : i.size = 6) (hby : i.bytes = 64)
  (v : Value) (l : List T) (hs : a.eval s = v) (hown : OwnT D base w v l)
  (g cap : Nat) (tg : TypeId) (c : List Value) (t : T) (hx : a.eval x = .slice (some ⟨g, 0, none⟩) 1 cap) (hr : Blk w g tg c) (hel : RxD (fun k => D k ∧ k < w.heap.size ∧ some k ≠ v.ownBlock) w c t)
  (hlen : l.length + 1 ≤ 1099511627776) (hb : base ≤ w.heap.size)
  (h : ∀ v' w', OwnT D base w' v' (l ++ [t]) → w.grownBy w' v.ownBlock → wpList Tryz.prog ops Q rest (a.put o.dst v') w') : wpList Tryz.prog ops Q (o :: rest) a w := by
 obtain ⟨cells, h1, h2, h3, h4⟩ := hown
 have hc6 : c.length = 6 := hel.length
 have hnews : ∀ j u, c[j]? = some u → w.cell? ((⟨g, 0, none⟩ : Addr).add j) = some u := fun j u hj => by
  rw [Addr.add_lit, Nat.zero_add, hr.cell j]
  exact hj
 obtain ⟨v', w', hrun, hown', hgr, _⟩ := run_append_own (P := Tryz.prog) w base 44 o.type 46 i _ 6 64 Tryz.underlying44 hi hz hsize hby (by simp [Value.cells, wds]) (by omega) v l.length cells.flatten h3 ⟨g, 0, none⟩ 1 cap c (by omega) hnews hel.one (by unfold maxLen; omega) (by omega) hb
 have hwh := append_where (P := Tryz.prog) (w := w) base 44 o.type 46 i _ 6 64 Tryz.underlying44 hi hz hsize hby (by omega) v l.length cells.flatten h3 ⟨g, 0, none⟩ 1 cap c (by omega) hnews hel.one (by unfold maxLen; omega) (by omega) hrun
 refine wpList_plain hgd fun K hK => ?_
 unfold Oper.wp execOp
 simp only [ho, resolve, invoke, builtin, Sem.run_bind, Sem.run_pure, Result.andThen_ok, List.map_toArray, List.map_cons, List.map_nil, hs, hx, hrun]
 refine hK _ _ (h v' w' ⟨cells ++ [c], by simp [h1], fun d hd => ?_, ?_, fun j d u hd hu => ?_⟩ hgr)
 ·rcases List.mem_append.1 hd with hd | hd
  ·exact h2 d hd
  ·obtain rfl := List.mem_singleton.1 hd
   exact hc6
 ·rw [List.flatten_append, List.length_append]
  simpa using hown'
 ·have key : RxD (fun k => D k ∧ k < w.heap.size ∧ some k ≠ v.ownBlock) w d u := by
   by_cases hj : j < l.length
   ·rw [List.getElem?_append_left (by omega)] at hd hu
    exact h4 j d u hd hu
   ·have hjl : j = l.length := by
     have := (List.getElem?_eq_some_iff.1 hu).1
     simp at this
     omega
    subst hjl
    rw [List.getElem?_append_right (by omega)] at hd hu
    simp [h1] at hd hu
    rw [← hd, ← hu]
    exact hel
  refine (key.stay fun k hk => hgr.block k hk.2.1 hk.2.2).mono fun k hk => ⟨hk.1, Nat.lt_of_lt_of_le hk.2.1 hgr.size, fun he => ?_⟩
  rcases hwh k he.symm with h | h
  ·exact hk.2.2 h.symm
  ·have := hk.2.1
   omega
end
section
variable {P : Program} {w : World} {ops : Array Oper} {rest : List Oper} {o : Oper} {a : Act} {Q : Exit → Act → World → Prop}
theorem wpList_ldMidG (hgd : Region.wanted o (yielded ops a.tmps) = true) (ty : TypeId) (x : Operand) (ho : o.op = .load ty x) (b off : Nat) (hx : a.eval x = .pointer (some ⟨b, off, none⟩)) (cs : List Value) (d : TypeDesc)
  (hg : w.rangeAt b off cs) (hu : P.underlying ty = some d) (hd : d.isRow = true) (hi : (P.info? ty).map (·.size) = some cs.length)
  (h : wpList P ops Q rest (a.put o.dst (.agg cs.toArray)) w) : wpList P ops Q (o :: rest) a w := by
 refine BigFrame.wpList_want hgd fun K hK => ?_
 exact wp_load_mid ty x ho b off hx cs d hg hu hd hi (hK _ _ h)
theorem wpList_neSetG (hgd : Region.wanted o (yielded ops a.tmps) = true) {b : Bool} {p q : Nat → Bool} (hb : (!eqS p q) = b) (t e : TypeId) (x y : Operand) (oT : TypeId) (ho : o.op = .binOp .neq t x y oT) (hm : P.eqGuardType P.depth t = false)
  (ht : P.underlying t = some (.array 4 e)) (he : P.underlying e = some (.int .u64)) (hsz : ∀ w, (sizeOf e).run P w = .ok 1 w)
  (ex : a.eval x = .agg (wds p).toArray) (ey : a.eval y = .agg (wds q).toArray)
  (h : wpList P ops Q rest (a.put o.dst (.bool b)) w) : wpList P ops Q (o :: rest) a w := by
 refine BigFrame.wpList_want hgd fun K hK => ?_
 unfold Oper.wp
 simp only [execOp, ho, ex, ey, Sem.run_bind, run_eqGuard_agg w .neq t x y _ _ hm, Result.andThen_ok, run_neq_sets w t e ht he hsz p q, Sem.run_pure, hb]
 exact hK _ _ h
end
theorem guardSet : Tryz.prog.eqGuardType Tryz.prog.depth 43 = false := by kernel_rfl
theorem sizeU64 : ∀ w, (sizeOf 41).run Tryz.prog w = .ok 1 w := by
 intro w
 have h : (Tryz.prog.info? 41).map (·.size) = some 1 := by kernel_rfl
 cases hi : Tryz.prog.info? 41 with
 | none => rw [hi] at h; cases h
 | some i =>
  rw [hi] at h
  have h' : i.size = 1 := by simpa using h
  simp [sizeOf, typeInfo, hi, h']
theorem set_range {w : World} {g : Nat} {t : TypeId} {k : Int} {s : Nat → Bool} {v : Value} (h : Blk w g t (.int .i64 k :: (wds s ++ [v]))) : w.rangeAt g 1 (wds s) := by
 intro j u hu
 have hj : j < 4 := by simpa [wds_length] using (List.getElem?_eq_some_iff.1 hu).1
 rw [h.cell, Nat.add_comm 1 j, List.getElem?_cons_succ, List.getElem?_append_left (by rw [wds_length]; exact hj)]
 exact hu
theorem set_range' {w : World} {g : Nat} {t : TypeId} {k : Int} {s : Nat → Bool} {v : Value} {cs : List Value} (hc : cs = .int .i64 k :: (wds s ++ [v])) (h : Blk w g t cs) : w.rangeAt g 1 (wds s) :=
 set_range (hc ▸ h)
section
variable {P : Program} {w : World} {ops : Array Oper} {rest : List Oper} {o : Oper} {a : Act} {Q : Exit → Act → World → Prop}
theorem run_bldT1 (t e : TypeId) (i : TypeInfo) (ht : P.underlying t = some (.slice e)) (hi : P.info? e = some i) (hz : i.zero = some (.agg (Value.int .i64 0 :: (wds (fun _ => false) ++ [.slice none 0 0])).toArray)) (hs : i.size = 6) (ds : List Value) (hl : ds.length = 6) :
  (Instr.buildSlice t 1 #[(0, .agg ds.toArray)]).run P w = .ok (.slice (some ⟨w.heap.size, 0, none⟩) 1 1) (w.alloc (.cells ds.toArray e)) := by
 have hzv : (zeroValue e).run P w = .ok (.agg (Value.int .i64 0 :: (wds (fun _ => false) ++ [.slice none 0 0])).toArray) w := by simp [zeroValue, typeInfo, hi, hz]
 match ds, hl with
 | [d0, d1, d2, d3, d4, d5], _ =>
  simp [Instr.buildSlice, run_underlying ht, sizeOf, typeInfo, hi, hs, hzv, Value.cells, Instr.fill, wds, Array.range_succ, Array.range_zero', newRow]
theorem wpList_bldT1 (hg : o.guard = none) (t e : TypeId) (x : Operand) (ho : o.op = .buildSlice t 1 #[(0, x)]) (i : TypeInfo) (ht : P.underlying t = some (.slice e)) (hi : P.info? e = some i) (hz : i.zero = some (.agg (Value.int .i64 0 :: (wds (fun _ => false) ++ [.slice none 0 0])).toArray)) (hs : i.size = 6) (ds : List Value) (hl : ds.length = 6)
  (hx : a.eval x = .agg ds.toArray)
  (h : ∀ w', Blk w' w.heap.size e ds → Below w.heap.size w w' → w'.heap.size = w.heap.size + 1 → wpList P ops Q rest (a.put o.dst (.slice (some ⟨w.heap.size, 0, none⟩) 1 1)) w') : wpList P ops Q (o :: rest) a w := by
 refine wpList_plain hg fun K hK => ?_
 have hrun := run_bldT1 (P := P) (w := w) t e i ht hi hz hs ds hl
 unfold Oper.wp
 simp only [execOp, ho, List.map_toArray, List.map_cons, List.map_nil, hx, hrun, Sem.run_bind, Result.andThen_ok, Sem.run_pure]
 exact hK _ _ (h _ (Blk.new w e _) ((Below.refl _ _).alloc (Nat.le_refl _) _) (by simp))
end
set_option maxHeartbeats 4000000 in
set_option maxRecDepth 100000 in
theorem refCopy_any : ∀ (N : Nat) (t : T), t.nodes ≤ N → t.nodes ≤ 1099511627776 → ∀ (cs : List Value) (w : World), RxV w.heap.size w cs t →
  Calls Tryz.prog 83 #[.agg cs.toArray] w fun e w' => ∃ ds, e = .returned (.agg ds.toArray) ∧ RxD (fun k => w.heap.size ≤ k ∧ k < w'.heap.size) w' ds t ∧ Below w.heap.size w w' := by
 intro N
 induction N with
 | zero => intro t h; have := nodes_pos t; omega
 | succ N ih =>
  rintro ⟨k, s, l⟩ hN hM cs w hv
  have IH := qH ih
  clear ih
  obtain ⟨A, cap, f, rfl, h1, h2, h0, h3, h4⟩ := hv.opened
  have H3 := qH h3
  have H4 := qH h4
  have HNN := qH (show T.nodes (.node k s l) = 1 + nodesL l by simp only [T.nodes])
  rw [HNN.out] at hN hM
  have HN := qH hN
  have HM := qH hM
  obtain ⟨cs, hcs⟩ : ∃ cs, cs = Value.int .i64 k :: (wds s ++ [.slice A l.length cap]) := ⟨_, rfl⟩
  have HCL := qH (show cs.length = 6 by rw [hcs]; rfl)
  have HC5 := qH (show cs[5]? = some (.slice A l.length cap) by rw [hcs]; rfl)
  have HST := qH (show ∀ v, cs.set 5 v = Value.int .i64 k :: (wds s ++ [v]) by rw [hcs]; intro v; rfl)
  have HLL := qH (len_nodes l)
  rw [← hcs]
  obtain ⟨i0, hi0, hz0, hz1, hz2⟩ := infoP inf_rx
  obtain ⟨z, hz⟩ : ∃ z, z = Value.int .i64 0 :: (wds (fun _ => false) ++ [Value.slice none 0 0]) := ⟨_, rfl⟩
  have HZ := qH hz
  have HZL := qH (show z.length = 6 by rw [hz]; rfl)
  have HZ0 := qH (show i0.zero = some (.agg z.toArray) by rw [hz]; exact hz0)
  have HZ1 := qH hz0
  clear hv h1 h2 h0 h3 h4 hcs hN hM hz hz0
  go_enter Tryz.func83, Tryz.ntmps83
  go_wp2_with (first
   | ((with_reducible refine atDst 1 ?_); refine wpList_box rfl 46 _ rfl cs rfl (Below.refl w.heap.size w) (Nat.le_refl _) ?_; intro w1 hk1 hb1 hs1 _; have K1 := qH hk1; have B1 := qH hb1; clear hk1 hb1 hs1)
   | ((with_reducible refine atDst 2 ?_); refine wpList_new rfl 46 rfl i0 _ z hi0 HZ0.out rfl (Below.refl w1.heap.size w1) (Nat.le_refl _) ?_; intro w2 hk2 hb2 hs2 _; have M2 := qH hk2; have B2 := qH (B1.out.trans (hb2.mono B1.out.size)); have K2 := qH (K1.out.below hb2 K1.out.lt); have G12 := qH K1.out.lt; clear hk2 hb2 hs2 K1 B1))
  go_loopw [3, 4] (fun v i wl => ∃ j : Nat, j ≤ l.length ∧ i = .int .i64 (j : Int) ∧ OwnT (fun q => w2.heap.size ≤ q) w2.heap.size wl v (l.take j) ∧ Below w2.heap.size w2 wl) (fun _ i _ => l.length - (intOf i).toNat)
  case atStart => exact ⟨0, by omega, by simp, OwnT.nil _ _ _, Below.refl _ _⟩
  case round =>
   obtain ⟨j, hj, rfl, ho, hb⟩ := hrel
   have HO := qH ho
   have HB := qH hb
   clear ho hb
   have KR := qH (K2.out.below HB.out K2.out.lt)
   have c5 := KR.out.cell 5
   rw [HC5.out] at c5
   by_cases hjl : j < l.length
   ·have j1 : (j : Int) < (l.length : Int) := Int.ofNat_lt.2 hjl
    obtain ⟨b, off, rfl, hb, hrng⟩ := H3.out (by rintro rfl; simp at hjl)
    have BW := qH (B2.out.trans (HB.out.mono B2.out.size))
    obtain ⟨u, hu⟩ : ∃ u, l[j]? = some u := ⟨_, List.getElem?_eq_getElem hjl⟩
    have HV := qH (RxV.part H4.out BW.out BW.out.size hu)
    have HRG := qH (range_below (hrng j hjl) BW.out hb)
    have hmem := nodes_mem (List.mem_of_getElem? hu)
    have HTK := qH (show l.take (j + 1) = l.take j ++ [u] by
     obtain ⟨hi, rfl⟩ := List.getElem?_eq_some_iff.1 hu
     exact List.take_succ_eq_append_getElem hi)
    have HUN := qH (show u.nodes ≤ N by have := HN.out; omega)
    have HUM := qH (show u.nodes ≤ 1099511627776 by have := HM.out; omega)
    have hj62 : j ≤ 4611686018427387904 := by have := HM.out; have := HLL.out; omega
    have e3 := wrap_one j hj62
    have e4 := wrap_one' j hj62
    have HLE := qH (show (l.take j).length + 1 ≤ 1099511627776 by rw [List.length_take]; have := HM.out; have := HLL.out; omega)
    clear hrng hu hmem hj62 hb
    go_wp2_with ((with_reducible refine atDst 17 ?_); refine wpList_load_mid rfl 46 _ rfl b (off + j * 6) rfl (f j) _ HRG.out Tryz.underlying46 rfl (size_rx HV.out.length) ?_)
    refine (IH.out u HUN.out HUM.out (f j) wr HV.out).mono ?_
    rintro e w3 ⟨ds, rfl, hds, hb3⟩
    have HDS := qH hds
    have HD6 := qH hds.length
    have O3 := qH (HO.out.stay hb3)
    have HLT3 := qH (fun q hq => (HO.out.lt q hq))
    have B3 := qH (HB.out.trans (hb3.mono HB.out.size))
    have SR := qH HB.out.size
    clear hds hb3
    go_wp2_with (first
     | ((with_reducible refine atDst 19 ?_); refine wpList_bldT1 rfl 44 46 (.tmp 18) rfl i0 Tryz.underlying44 hi0 HZ1.out hz1 ds HD6.out rfl ?_; intro w4 hk4 hb4 hs4; have K4 := qH hk4; have O4 := qH (O3.out.stay hb4); have B4 := qH (B3.out.trans (hb4.mono B3.out.size)); have D4 := qH ((HDS.out.stay (w' := w4) fun q hq => hb4.block q hq.2).mono (D' := fun q => wr.heap.size ≤ q ∧ q < w4.heap.size) fun q hq => ⟨hq.1, Nat.lt_of_lt_of_le hq.2 hb4.size⟩); clear hk4 hb4 hs4)
     | ((with_reducible refine atDst 20 ?_); refine wpList_appT (base := w2.heap.size) rfl (.tmp 12) (.tmp 19) rfl i0 hi0 HZ1.out hz1 hz2 _ (l.take j) rfl O4.out w3.heap.size 1 46 ds u rfl K4.out (D4.out.mono fun q hq => ⟨Nat.le_trans SR.out hq.1, hq.2, fun he => by have h5 := HLT3.out q he.symm; have h6 := hq.1; omega⟩) HLE.out B4.out.size ?_; intro v5 w5 ho5 hg5; have O5 := qH ho5; have B5 := qH (B4.out.grown hg5 B4.out.size (fun q hq => O4.out.ge q hq)); clear ho5 hg5))
    refine ⟨⟨j + 1, by omega, by congr 1, by rw [HTK.out]; exact O5.out, B5.out⟩, by simp [intOf] <;> omega⟩
   ·obtain rfl : j = l.length := by omega
    have j1 : ¬ ((l.length : Int) < (l.length : Int)) := by omega
    have ho := HO.out
    rw [List.take_length] at ho
    have O9 := qH ho
    have hfz := KR.out.frozen 5
    have MR := qH (M2.out.below HB.out M2.out.lt)
    have B9 := qH (B2.out.trans (HB.out.mono B2.out.size))
    obtain ⟨A3, cap3, rfl⟩ := O9.out.slice
    have KS := qH (show Blk (wr.setCell ⟨w.heap.size, 5, none⟩ (.slice A3 l.length cap3)) w.heap.size 46 (Value.int .i64 k :: (wds s ++ [.slice A3 l.length cap3])) by
     have := KR.out.set 5 (.slice A3 l.length cap3)
     rw [HST.out] at this
     exact this)
    obtain ⟨ds, hds⟩ : ∃ ds, ds = Value.int .i64 k :: (wds s ++ [.slice A3 l.length cap3]) := ⟨_, rfl⟩
    have HD6 := qH (show ds.length = 6 by rw [hds]; rfl)
    have KS' := qH (show Blk (wr.setCell ⟨w.heap.size, 5, none⟩ (.slice A3 l.length cap3)) w.heap.size 46 ds by rw [hds]; exact KS.out)
    have MS := qH (show Blk (wr.setCell ⟨w.heap.size, 5, none⟩ (.slice A3 l.length cap3)) w1.heap.size 46 z from MR.out.far (by have := G12.out; show w1.heap.size ≠ w.heap.size; omega) _)
    have BS := qH (show Below w.heap.size w (wr.setCell ⟨w.heap.size, 5, none⟩ (.slice A3 l.length cap3)) from B9.out.setCell (Nat.le_refl _) _)
    have GM := qH M2.out.lt
    have DS := qH (show RxD (fun b => w2.heap.size ≤ b ∧ b < wr.heap.size) (wr.setCell ⟨w.heap.size, 5, none⟩ (.slice A3 l.length cap3)) ds (.node k s l) by
     rw [hds]
     refine ((O9.out.rx k s).mono (D' := fun b => w2.heap.size ≤ b ∧ b < wr.heap.size) fun q hq => ⟨hq.1.elim id id, hq.2⟩).stay fun q hq => Below.heap_setCell wr ⟨w.heap.size, 5, none⟩ _ q ?_
     have h1 := hq.1
     have h2 := GM.out
     have h3 := G12.out
     show q ≠ w.heap.size
     omega)
    have HO1 := qH (show ds.all (·.oneCell') = true from List.all_eq_true.2 DS.out.one)
    have SZ9 := qH (show (wr.setCell ⟨w.heap.size, 5, none⟩ (.slice A3 l.length cap3)).heap.size = wr.heap.size by simp)
    clear ho HO hds KS
    go_wp2_with (first
     | ((with_reducible refine atDst 23 ?_); refine wpList_ldArr rfl 46 _ rfl w.heap.size rfl 46 _ _ KS'.out Tryz.underlying46 rfl (size_rx HD6.out) ?_)
     | ((with_reducible refine atStore 46 2 23 ?_); refine wpList_stBlk rfl 46 _ _ rfl w1.heap.size ds rfl rfl 46 _ MS.out (size_rx HD6.out) (by rw [HZL.out, HD6.out]) HO1.out BS.out (Nat.le_of_lt G12.out) ?_; intro w6 hk6 hb6 hs6 ho6; have K6 := qH hk6; have B6 := qH hb6; have D6 := qH ((DS.out.stay (w' := w6) fun q hq => ho6 q (by have h1 := hq.1; have h2 := GM.out; omega)).mono (D' := fun q => w.heap.size ≤ q ∧ q < w6.heap.size) fun q hq => ⟨by have h1 := hq.1; have h2 := GM.out; have h3 := G12.out; omega, by have h1 := hq.2; have h2 := SZ9.out; omega⟩); clear hk6 hb6 hs6 ho6))
    refine bodyPost_ret (results_blk rfl _ _ w1.heap.size 46 _ _ rfl K6.out Tryz.underlying46 rfl (size_rx HD6.out)) rfl ?_
    exact ⟨ds, rfl, D6.out, B6.out⟩
section
variable {w : World} {ops : Array Oper} {rest : List Oper} {o : Oper} {a : Act} {Q : Exit → Act → World → Prop}
set_option maxRecDepth 100000 in
theorem wpList_appTs {D D' : Nat → Prop} {base : Nat} (hgd : o.guard = none) (s x : Operand)
  (ho : o.op = .call { callee := .builtin .append, args := #[s, x], argTypes := #[44, 44] })
  (i : TypeInfo) (hi : Tryz.prog.info? 46 = some i) (hz : i.zero = some (.agg (Value.int .i64 0 :: (wds (fun _ => false) ++ [.slice none 0 0])).toArray))
  (hsize : i.size = 6) (hby : i.bytes = 64)
  (v : Value) (l : List T) (hs : a.eval s = v) (hown : OwnT D base w v l)
  (u : Value) (m : List T) (hx : a.eval x = u) (hr : RowD D' w u m) (hD : ∀ k, D' k → D k ∧ k < w.heap.size ∧ some k ≠ v.ownBlock)
  (hlen : l.length + m.length ≤ 1099511627776) (hb : base ≤ w.heap.size)
  (h : ∀ v' w', OwnT D base w' v' (l ++ m) → w.grownBy w' v.ownBlock → wpList Tryz.prog ops Q rest (a.put o.dst v') w') : wpList Tryz.prog ops Q (o :: rest) a w := by
 obtain ⟨A, cap, f, rfl, r1, r2, r0, r3, r4⟩ := hr
 cases A with
 | none =>
  have hcap : cap = 0 := r0 rfl
  subst hcap
  have hn : m = [] := List.eq_nil_of_length_eq_zero (by omega)
  subst hn
  obtain ⟨cells, h1, h2, h3, h4⟩ := hown
  have hrun := run_append_owned_none (P := Tryz.prog) (w := w) base 44 o.type 46 i 6 Tryz.underlying44 hi v _ _ h3
  refine wpList_plain hgd fun K hK => ?_
  unfold Oper.wp
  simp at hx
  simp [execOp, ho, resolve, invoke, builtin, hs, hx, hrun, Result.andThen]
  exact hK _ _ (h v w (by simpa using ⟨cells, h1, h2, h3, h4⟩) (World.grownBy.refl _ _))
 | some ad =>
  obtain ⟨cells, h1, h2, h3, h4⟩ := hown
  obtain ⟨ms, hms⟩ : ∃ ms, ms = (List.range m.length).map f := ⟨_, rfl⟩
  have hml : ms.length = m.length := by rw [hms]; simp
  have hmi : ∀ (j : Nat) (c : List Value), ms[j]? = some c → j < m.length ∧ c = f j := fun j c hc => by
   have hj : j < m.length := by have := (List.getElem?_eq_some_iff.1 hc).1; omega
   rw [hms, List.getElem?_map, List.getElem?_range hj] at hc
   exact ⟨hj, by simpa using hc.symm⟩
  have hel : ∀ (j : Nat) (c : List Value) (t : T), ms[j]? = some c → m[j]? = some t → RxD D' w c t := fun j c t hc ht => by
   obtain ⟨_, rfl⟩ := hmi j c hc
   exact r4 j t ht
  have hm6 : ∀ c ∈ ms, c.length = 6 := fun c hc => by
   obtain ⟨j, hj⟩ := List.getElem?_of_mem hc
   exact (hel j c (m[j]'((hmi j c hj).1)) hj (List.getElem?_eq_getElem _)).length
  have hone : ∀ x ∈ ms.flatten, x.oneCell' = true := fun x hx => by
   obtain ⟨c, hc, hxc⟩ := List.mem_flatten.1 hx
   obtain ⟨j, hj⟩ := List.getElem?_of_mem hc
   exact RxD.one (hel j c (m[j]'((hmi j c hj).1)) hj (List.getElem?_eq_getElem _)) x hxc
  have hfl := flat6_len hm6
  have hnews : ∀ j x, ms.flatten[j]? = some x → w.cell? (ad.add j) = some x := fun j x hj => by
   have hlt : j < ms.length * 6 := by rw [← hfl]; exact (List.getElem?_eq_some_iff.1 hj).1
   have hk : j / 6 < ms.length := by omega
   have hg := flat6_get hm6 (List.getElem?_eq_getElem hk) (j % 6) (Nat.mod_lt _ (by omega))
   rw [show j / 6 * 6 + j % 6 = j by omega, hj] at hg
   obtain ⟨b, off, hA, _, hcell⟩ := r3 (fun he => by rw [he] at hml; simp only [List.length_nil] at hml; omega)
   injection hA with hA
   subst hA
   have hf := (hmi (j / 6) ms[j / 6] (List.getElem?_eq_getElem hk)).2
   rw [hf] at hg
   have := hcell (j / 6) (by omega) (j % 6) x hg.symm
   rw [show off + j / 6 * 6 + j % 6 = off + j by omega] at this
   rw [Addr.add_lit]
   exact this
  obtain ⟨v', w', hrun, hown', hgr, _⟩ := run_append_own (P := Tryz.prog) w base 44 o.type 46 i _ 6 64 Tryz.underlying44 hi hz hsize hby (by simp [Value.cells, wds]) (by omega) v l.length cells.flatten h3 ad m.length cap ms.flatten (by rw [hfl, hml]) hnews hone (by unfold maxLen; omega) (by omega) hb
  have hwh := append_where (P := Tryz.prog) (w := w) base 44 o.type 46 i _ 6 64 Tryz.underlying44 hi hz hsize hby (by omega) v l.length cells.flatten h3 ad m.length cap ms.flatten (by rw [hfl, hml]) hnews hone (by unfold maxLen; omega) (by omega) hrun
  refine wpList_plain hgd fun K hK => ?_
  unfold Oper.wp execOp
  simp only [ho, resolve, invoke, builtin, Sem.run_bind, Sem.run_pure, Result.andThen_ok, List.map_toArray, List.map_cons, List.map_nil, hs, hx, hrun]
  refine hK _ _ (h v' w' ⟨cells ++ ms, by simp [h1, hml], fun d hd => ?_, ?_, fun j d t hd ht => ?_⟩ hgr)
  ·rcases List.mem_append.1 hd with hd | hd
   ·exact h2 d hd
   ·exact hm6 d hd
  ·rw [List.flatten_append, List.length_append]
   exact hown'
  ·have key : RxD (fun k => D k ∧ k < w.heap.size ∧ some k ≠ v.ownBlock) w d t := by
    by_cases hj : j < l.length
    ·rw [List.getElem?_append_left (by omega)] at hd ht
     exact h4 j d t hd ht
    ·rw [List.getElem?_append_right (by omega)] at hd ht
     rw [h1] at hd
     exact RxD.mono (hel _ d t hd ht) fun k hk => hD k hk
   refine (key.stay fun k hk => hgr.block k hk.2.1 hk.2.2).mono fun k hk => ⟨hk.1, Nat.lt_of_lt_of_le hk.2.1 hgr.size, fun he => ?_⟩
   rcases hwh k he.symm with h | h
   ·exact hk.2.2 h.symm
   ·have := hk.2.1
    omega
end
def flatT (k : Int) (l : List T) : List T := l.flatMap fun t => if t.kind = k then t.args else [t]
theorem flatT_next (k : Int) (l : List T) (j : Nat) (t : T) (h : l[j]? = some t) : flatT k (l.take (j + 1)) = flatT k (l.take j) ++ if t.kind = k then t.args else [t] := by
 obtain ⟨hi, rfl⟩ := List.getElem?_eq_some_iff.1 h
 unfold flatT
 rw [List.take_succ_eq_append_getElem hi, List.flatMap_append, List.flatMap_cons, List.flatMap_nil, List.append_nil]
theorem flatT_len (k : Int) : ∀ l : List T, (flatT k l).length ≤ nodesL l
 | [] => Nat.le_refl _
 | t :: r => by
  have ih := flatT_len k r
  have e : flatT k (t :: r) = (if t.kind = k then t.args else [t]) ++ flatT k r := by simp [flatT]
  rw [e, List.length_append]
  cases t with
  | node k' s l =>
   have h1 := len_nodes l
   by_cases hk : (T.node k' s l).kind = k
   ·rw [if_pos hk]
    simp only [nodesL, T.nodes, T.args]
    omega
   ·rw [if_neg hk]
    simp only [nodesL, T.nodes, List.length_cons, List.length_nil]
    omega
end Go.Proofs.YteadghoojeehlaaGreatDoor
