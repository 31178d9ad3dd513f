/-
  Texts of this proof, put together: RxN, RxO, RxEp, RxIp, RxW, RxMp, RxB, ShAp, PyA, PyB, ThA, SbA, InfI, RegT, ThB, SpB. No statement is proved here.
-/
import Derived.Test.YtaakdebcagdfgaaProg
import Derived.Test.YtaakdebcagdfgaaZA
import Derived.Deep.MidRow
namespace Go.Proofs.Ytaakdebcagdfgaa
open Go.RowKit
set_option linter.unusedSimpArgs false
set_option linter.unusedVariables false
theorem wrap_one (j : Nat) (h : j ≤ 4611686018427387904) : wrap64 ((j : Int) + 1) = ((j + 1 : Nat) : Int) := by
 rw [show (j : Int) + 1 = ((j + 1 : Nat) : Int) from rfl]
 exact IntWalk.wrap64_in _ (by omega)
theorem wrap_one' (j : Nat) (h : j ≤ 4611686018427387904) : IntKind.i64.wrap ((j : Int) + 1) = ((j + 1 : Nat) : Int) := by
 rw [show (j : Int) + 1 = ((j + 1 : Nat) : Int) from rfl]
 exact IntWalk.i64_in _ (by omega)
theorem wrap_len {j len cap : Nat} (h : j < len) (h1 : len ≤ cap) (h2 : cap ≤ maxLen) : wrap64 ((j : Int) + 1) = ((j + 1 : Nat) : Int) := IntWalk.wrap64_in _ (by unfold maxLen at h2; omega)
theorem wrap_len' {j len cap : Nat} (h : j < len) (h1 : len ≤ cap) (h2 : cap ≤ maxLen) : IntKind.i64.wrap ((j : Int) + 1) = ((j + 1 : Nat) : Int) := IntWalk.i64_in _ (by unfold maxLen at h2; omega)
theorem RxV.part {B : Nat} {w w' : World} {l : List T} {f : Nat → List Value} (h : ∀ i t, l[i]? = some t → RxV B w (f i) t) (hb : Below B w w') (hB : B ≤ w'.heap.size) {i : Nat} {t : T} (ht : l[i]? = some t) : RxV w'.heap.size w' (f i) t :=
 ((h i t ht).stay hb).mono hB
theorem append_where {P : Program} {w : World} (base : Nat) (t ty e : TypeId) (i : TypeInfo) (z : Value) (size bytes : Nat) (ht : P.underlying t = some (.slice e)) (hi : P.info? e = some i) (hz : i.zero = some z)
  (hsize : i.size = size) (hby : i.bytes = bytes) (hsz : 0 < size)
  (v : Value) (n : Nat) (xs : List Value) (hown : w.ownsRow base e size v n xs)
  (a : Addr) (m c : Nat) (news : List Value) (hl : news.length = m * size) (hnews : ∀ j u, news[j]? = some u → w.cell? (a.add j) = some u) (h1 : ∀ u ∈ news, u.oneCell' = true)
  (h63 : n + m ≤ maxLen) (hbytes : (n + m) * bytes ≤ 140737488355328) {v' : Value} {w' : World} (hrun : (Builtin.append_ #[t, t] ty #[v, .slice (some a) m c]).run P w = .ok v' w') :
  ∀ k, v'.ownBlock = some k → v.ownBlock = some k ∨ w.heap.size ≤ k := by
 subst hsize
 subst hby
 have hsmall : n + m ≤ 9223372036854775807 := by simp only [maxLen] at h63; omega
 intro k hk
 rcases hown.2 with ⟨rfl, rfl⟩ | ⟨g, cap, cur, rfl, hbg, hg, hnc, hcm, hcs, htake⟩
 ·have hx : xs = [] := List.eq_nil_of_length_eq_zero (by simpa using hown.1)
  subst hx
  by_cases hm : m = 0
  ·subst hm
   have hn : news = [] := List.eq_nil_of_length_eq_zero (by simpa using hl)
   subst hn
   have hr : (Builtin.append_ #[t, t] ty #[.slice none 0 0, .slice (some a) 0 c]).run P w = .ok (.slice none 0 0) w := by
    simp [Builtin.append_, run_underlying ht, sizeOf, typeInfo, hi, Builtin.lenOf, Builtin.firstCells, loadCells, loadCellsFrom]
   rw [hr] at hrun
   injection hrun with e1 e2
   subst e1
   cases hk
  ·have hr := run_append_nil (P := P) w t ty e i z ht hi hz a m c news hl hnews (by omega) (by omega) (by have hb := hbytes; simp only [Nat.zero_add] at hb; omega)
   rw [hr] at hrun
   injection hrun with e1 e2
   subst e1
   have : w.heap.size = k := Option.some.inj hk
   exact .inr (by omega)
 ·by_cases hroom : n + m ≤ cap
  ·obtain ⟨w2, hr, _, _⟩ := run_append_fits (P := P) w base t ty e i i.size ht hi rfl g n cap xs hown a m c news hl hnews h1 hroom
   rw [hr] at hrun
   injection hrun with e1 e2
   subst e1
   exact .inl hk
  ·have holds : ∀ j u, xs[j]? = some u → w.cell? ((⟨g, 0, none⟩ : Addr).add j) = some u := hown.cells (g := g) rfl
   have hr := run_append_grow (P := P) w t ty e i z ht hi hz ⟨g, 0, none⟩ n cap xs hown.1 holds a m c news hl hnews (by omega) (by omega) (growslice_fits (by omega) hbytes)
   rw [hr] at hrun
   injection hrun with e1 e2
   subst e1
   have : w.heap.size = k := Option.some.inj hk
   exact .inr (by omega)
theorem own6_stay {w w' : World} {base n k : Nat} {e : TypeId} {v : Value} {xs : List Value} (h : w.ownsRow base e k v n xs) (hb : ∀ j, v.ownBlock = some j → w'.heap[j]? = w.heap[j]?) : w'.ownsRow base e k v n xs := by
 refine ⟨h.1, ?_⟩
 rcases h.2 with h0 | ⟨g, cap, cur, rfl, hb2, hg, h3⟩
 ·exact .inl h0
 ·exact .inr ⟨g, cap, cur, rfl, hb2, (hb g rfl).trans hg, h3⟩
theorem own6_lt {w : World} {base n k : Nat} {e : TypeId} {v : Value} {xs : List Value} (h : w.ownsRow base e k v n xs) : ∀ j, v.ownBlock = some j → j < w.heap.size ∧ base ≤ j := by
 intro j hj
 rcases h.2 with ⟨rfl, h0⟩ | ⟨g, cap, cur, rfl, hb, hg, _⟩
 ·cases hj
 ·have hk' : some g = some j := hj
  injection hk' with hk'
  subst hk'
  exact ⟨(Array.getElem?_eq_some_iff.1 hg).1, hb⟩
section
variable {w : World} {ops : Array Oper} {rest : List Oper} {o : Oper} {a : Act} {Q : Exit → Act → World → Prop}
end
def zeroS : Nat → Bool := fun _ => false
def rxc (k : Int) (s : Nat → Bool) (v : Value) : List Value := Value.int .i64 k :: (wds s ++ [v])
theorem RxD.split {D : Nat → Prop} {w : World} {cs : List Value} {t : T} (h : RxD D w cs t) : ∃ A cap, cs = rxc t.kind t.set (.slice A t.args.length cap) ∧ RowD D w (.slice A t.args.length cap) t.args := by
 cases t with
 | node k s l =>
  obtain ⟨v, rfl, hr⟩ := RxD.row h
  have hr' := hr
  obtain ⟨A, cap, f, rfl, _⟩ := hr
  exact ⟨A, cap, rfl, hr'⟩
section
variable {w : World} {o : Oper} {a : Act} {K : Act → World → Prop} {Q : Exit → Act → World → Prop}
end
section
variable {P : Program} {w : World} {o : Oper} {a : Act} {K : Act → World → Prop} {Q : Exit → Act → World → Prop}
end
section
variable {w : World} {o : Oper} {a : Act} {K : Act → World → Prop} {Q : Exit → Act → World → Prop}
end
theorem RowD.take {D : Nat → Prop} {w : World} {A : Option Addr} {n cap : Nat} {l : List T} (h : RowD D w (.slice A n cap) l) (k : Nat) (hk : k ≤ l.length) : RowD D w (.slice A k cap) (l.take k) := by
 obtain ⟨A', cap', f, he, h1, h2, h0, h3, h4⟩ := h
 injection he with hA hn hc
 subst hA
 subst hc
 have hl : (l.take k).length = k := by rw [List.length_take]; omega
 refine ⟨A, cap, f, by rw [hl], by omega, h2, h0, fun hne => ?_, fun i t ht => ?_⟩
 ·obtain ⟨b, off, hA, hb, hr⟩ := h3 (fun e => hne (by rw [e]; simp))
  exact ⟨b, off, hA, hb, fun i hi => hr i (by omega)⟩
 ·have hi : i < k := by have := (List.getElem?_eq_some_iff.1 ht).1; omega
  rw [List.getElem?_take, if_pos hi] at ht
  exact h4 i t ht
theorem RowD.drop {D : Nat → Prop} {w : World} {A : Option Addr} {n cap : Nat} {l : List T} (h : RowD D w (.slice A n cap) l) (k : Nat) (hk : k < l.length) :
  ∃ b off, A = some ⟨b, off, none⟩ ∧ RowD D w (.slice (some ⟨b, off + k * 6, none⟩) (n - k) (cap - k)) (l.drop k) := by
 obtain ⟨A', cap', f, he, h1, h2, h0, h3, h4⟩ := h
 injection he with hA hn hc
 subst hA
 subst hc
 subst hn
 obtain ⟨b, off, rfl, hb, hr⟩ := h3 (fun e => by rw [e] at hk; simp at hk)
 refine ⟨b, off, rfl, some ⟨b, off + k * 6, none⟩, cap - k, fun i => f (k + i), by rw [List.length_drop], by rw [List.length_drop]; omega, by omega, (fun h => by cases h), fun _ => ⟨b, off + k * 6, rfl, hb, fun i hi => ?_⟩, fun i t ht => ?_⟩
 ·rw [List.length_drop] at hi
  have := hr (k + i) (by omega)
  rw [show off + k * 6 + i * 6 = off + (k + i) * 6 by omega]
  exact this
 ·rw [List.getElem?_drop] at ht
  exact h4 (k + i) t ht
def ThereT (w : World) (g n : Nat) : Prop := ∀ j, j < n → w.there g (j * 6) 6
theorem grown_setCells {w w' : World} {g : Nat} (h : w.grownBy w' (some g)) (o : Nat) (vs : List Value) : w.grownBy (w'.setCells g o vs) (some g) := by
 induction vs generalizing o w' with
 | nil => exact h
 | cons v r ih =>
  refine ih (w' := w'.setCell ⟨g, o, none⟩ v) ⟨h.os, h.tape, h.output, ?_, fun k hk hne => ?_⟩ (o + 1)
  ·have := h.size
   simpa [World.setCell] using this
  ·rw [← h.block k hk hne]
   exact Below.heap_setCell w' ⟨g, o, none⟩ v k fun e => hne (by rw [e])
theorem ThereT.all {w : World} {g n : Nat} (h : ThereT w g n) (o m : Nat) (hm : o + m ≤ n * 6) : w.there g o m := fun j hj => by
 have hk : (o + j) / 6 < n := by omega
 have := h ((o + j) / 6) hk ((o + j) % 6) (Nat.mod_lt _ (by omega))
 rw [show (o + j) / 6 * 6 + (o + j) % 6 = o + j by omega] at this
 exact this
section
variable {w : World} {ops : Array Oper} {rest : List Oper} {o : Oper} {a : Act} {Q : Exit → Act → World → Prop}
end
theorem sub_next {m q : Nat} (h : q < m) : m - (q + 1) < m - q := by omega
def canS (s : Nat → Bool) : Prop := ∀ b, 256 ≤ b → s b = false
mutual
def canT : T → Prop
 | .node _ s l => canS s ∧ canL l
def canL : List T → Prop
 | [] => True
 | t :: r => canT t ∧ canL r
end
def fitsT (p k : Int) : Bool := if p = 2 then decide (k = 5) else decide (p ≠ 1) && decide (p ≠ k)
def countT (k : Int) (s : Nat → Bool) (n : Nat) : Bool :=
 if k = 3 then !eqS s zeroS && decide (n = 0) else if k = 1 ∨ k = 2 then decide (n = 0) else if k = 4 ∨ k = 5 then decide (2 ≤ n) else decide (k = 6) && decide (n = 1)
def folT (a b : T) : Bool := decide (cmpT b a < 0) && !(decide (a.kind = 3) && decide (b.kind = 3))
def ascF : List T → Bool
 | a :: b :: r => folT b a && ascF (b :: r)
 | _ => true
mutual
def plainT : T → Bool
 | .node k s l => (decide (k = 3) || eqS s zeroS) && countT k s l.length && plainL k l && (decide (k ≠ 5) || ascF l)
def plainL (k : Int) : List T → Bool
 | [] => true
 | a :: r => fitsT a.kind k && plainT a && plainL k r
end
theorem plainL_iff {k : Int} : ∀ {l : List T}, plainL k l = true ↔ ∀ t ∈ l, fitsT t.kind k = true ∧ plainT t = true
 | [] => by simp [plainL]
 | t :: r => by simp [plainL, @plainL_iff k r]
def good (t : T) : Prop := canT t ∧ plainT t = true
/-! ### rising lists -/
/-! ### bytes laid in a row, and a row of bytes as a text -/
section
variable {P : Program} {w : World} {ops : Array Oper} {rest : List Oper} {o : Oper} {a : Act} {Q : Exit → Act → World → Prop} {K : Act → World → Prop}
end
section
variable {P : Program} {w : World} {ops : Array Oper} {rest : List Oper} {o : Oper} {a : Act} {Q : Exit → Act → World → Prop} {K : Act → World → Prop}
end
theorem toStr {w : World} {v : Value} {l : List UInt8} (h : Row w v (bvs l)) : (convert 22 9 v).run Try.prog w = .ok (.string ⟨l.toArray⟩) w :=
 conv_row (P := Try.prog) h 22 5 9 Try.underlying22 Try.underlying5 Try.underlying9
section
variable {w : World} {ops : Array Oper} {rest : List Oper} {o : Oper} {a : Act} {Q : Exit → Act → World → Prop} {K : Act → World → Prop}
end
theorem ex_toStr {ev : Operand → Value} {o : Oper} {x : Operand} (ho : o.op = .convert 22 9 x) {v : Value} {l : List UInt8} (hx : ev x = v) {W : World} (h : Row W v (bvs l)) : (execOp ev o).run Try.prog W = .ok (.value (.string ⟨l.toArray⟩)) W := by
 simp only [execOp, ho, hx, Sem.run_bind, toStr h, Result.andThen_ok, Sem.run_pure]
/-! ### texts put together -/
theorem below_drewP {B : Nat} {a w : World} (h : Below B a w) (n : Nat) : Below B a (w.drewN n) := ⟨h.os, h.tape, h.output, h.size, h.block⟩
def numV (ps : List UInt8) (n m : Nat) : Nat := if ps.length ≤ n then 0 else (ps.getD n 0).toNat % m
def numN (ps : List UInt8) (n : Nat) : Nat := if ps.length ≤ n then n else n + 1
theorem numV_lt (ps : List UInt8) (n : Nat) {m : Nat} (hm : 0 < m) : numV ps n m < m := by
 unfold numV
 split
 ·exact hm
 ·exact Nat.mod_lt _ hm
structure Pk (w : World) (g : Nat) (V : Value) (ps : List UInt8) (n : Nat) : Prop where
 blk : Blk w g 73 [V, .int .i64 (n : Int)]
 row : RowB g w V (bvs ps)
 le : n ≤ ps.length
 few : ps.length ≤ 1048576
theorem grown_belowG {w w' : World} {g : Nat} (h : w.grownBy w' (some g)) (hg : g < w.heap.size) : Below g w w' :=
 ⟨h.os, h.tape, h.output, h.size, fun k hk => h.block k (by omega) (fun e => by have := Option.some.inj e; omega)⟩
theorem below_grownG {w w' : World} (g : Nat) (h : Below w.heap.size w w') : w.grownBy w' (some g) := ⟨h.os, h.tape, h.output, h.size, fun k hk _ => h.block k hk⟩
theorem grownG_trans {w w1 w2 : World} {g : Nat} (h : w.grownBy w1 (some g)) (h2 : w1.grownBy w2 (some g)) : w.grownBy w2 (some g) :=
 ⟨h2.os.trans h.os, h2.tape.trans h.tape, h2.output.trans h.output, Nat.le_trans h.size h2.size, fun k hk hne => (h2.block k (by have := h.size; omega) hne).trans (h.block k hk hne)⟩
theorem Pk.grown {w w' : World} {g : Nat} {V : Value} {ps : List UInt8} {n n' : Nat} (h : Pk w g V ps n) (hg : w.grownBy w' (some g)) (hb : Blk w' g 73 [V, .int .i64 (n' : Int)]) (hn : n' ≤ ps.length) : Pk w' g V ps n' :=
 ⟨hb, h.row.below (grown_belowG hg h.blk.lt), hn, h.few⟩
theorem Pk.below {w w' : World} {g : Nat} {V : Value} {ps : List UInt8} {n : Nat} (h : Pk w g V ps n) (hb : Below w.heap.size w w') : Pk w' g V ps n :=
 ⟨h.blk.below hb h.blk.lt, h.row.below (hb.mono (Nat.le_of_lt h.blk.lt)), h.le, h.few⟩
theorem grown_setCell {w w' : World} {g o : Nat} {v : Value} (h : w.grownBy w' (some g)) : w.grownBy (w'.setCell ⟨g, o, none⟩ v) (some g) := grown_setCells h o [v]
set_option maxHeartbeats 4000000 in
set_option maxRecDepth 1000000 in
theorem num_any (w : World) (g : Nat) (V : Value) (ps : List UInt8) (n m : Nat) (h : Pk w g V ps n) (hm : 0 < m) (hm2 : m ≤ 1048576) :
  Calls Try.prog 23 #[.pointer (some ⟨g, 0, none⟩), .int .i64 (m : Int)] w fun e w' => e = .returned (.int .i64 (numV ps n m : Int)) ∧ w.grownBy w' (some g) ∧ Pk w' g V ps (numN ps n) := by
 have H := qH h
 have c0 := h.blk.cell 0
 have c1 := h.blk.cell 1
 obtain ⟨A, cap, rfl, a1, a2, a0, a3⟩ := h.row
 have hfw := h.few
 have hle := h.le
 rw [bvs_length] at c0 a1 H ⊢
 have c0' : w.cell? ⟨g, 0, none⟩ = some (.slice A ps.length cap) := by rw [c0]; rfl
 have c1' : w.cell? ⟨g, 1, none⟩ = some (.int .i64 (n : Int)) := by rw [c1]; rfl
 have HA3 := qH a3
 clear h a1 a2 a0 a3 c0 c1
 by_cases hn : ps.length ≤ n
 ·have d : ((ps.length : Int) ≤ (n : Int)) := by omega
  have HR := qH (show numV ps n m = 0 ∧ numN ps n = n from ⟨by unfold numV; rw [if_pos hn], by unfold numN; rw [if_pos hn]⟩)
  clear hn
  go_enter Try.func23, Try.ntmps23
  go_wp2_with fail
  go_quiet (fail)
  go_wp2_with fail
  go_ret
  rw [HR.out.1, HR.out.2]
  have hb := below_drewP (Below.refl w.heap.size w) nq
  exact ⟨rfl, below_grownG _ hb, H.out.below hb⟩
 ·have d : ¬ ((ps.length : Int) ≤ (n : Int)) := by omega
  obtain ⟨b, off, rfl, hbg, hbw, hcell⟩ := HA3.out (by intro he; rw [List.map_eq_nil_iff.1 he] at hn; simp at hn)
  have HR := qH (show numV ps n m = (ps.getD n 0).toNat % m ∧ numN ps n = n + 1 from ⟨by unfold numV; rw [if_neg hn], by unfold numN; rw [if_neg hn]⟩)
  have hcn := hcell n (bv (ps.getD n 0)) (bvs_get ps n _ (by rw [List.getD_eq_getElem?_getD, List.getElem?_eq_getElem (by omega)]; rfl))
  have fz := H.out.blk.frozen 1
  obtain ⟨x, hx⟩ : ∃ x, x = (ps.getD n 0).toNat := ⟨_, rfl⟩
  have hxl : x < 256 := by rw [hx]; exact UInt8.toNat_lt _
  have hcn' : w.cell? ⟨b, off + n, none⟩ = some (.int .u8 (x : Int)) := by rw [hx]; exact hcn
  rw [← hx] at HR
  have HBG := qH hbg
  have e3 := wrap_one n (by omega)
  have e4 := wrap_one' n (by omega)
  clear hcn hx hcell hbw hbg
  go_enter Try.func23, Try.ntmps23
  go_wp2_with fail
  go_quiet (fail)
  go_wp2_with fail
  obtain ⟨w3, hw3⟩ : ∃ w3, w3 = (w.drewN nq).setCell ⟨g, 1, none⟩ (.int .i64 ((n : Int) + 1)) := ⟨_, rfl⟩
  have hgr := qH (show w.grownBy w3 (some g) by rw [hw3]; exact grown_setCell (below_grownG _ (below_drewP (Below.refl _ _) _)))
  have hbl := qH (show Blk w3 g 73 [.slice (some ⟨b, off, none⟩) ps.length cap, .int .i64 ((n + 1 : Nat) : Int)] by
   rw [hw3]
   exact (show Blk (w.drewN nq) g _ _ from H.out.blk).set 1 (.int .i64 ((n + 1 : Nat) : Int)))
  have f0 : w3.cell? ⟨g, 0, none⟩ = some (.slice (some ⟨b, off, none⟩) ps.length cap) := hbl.out.cell 0
  have f1 : w3.cell? ⟨g, 1, none⟩ = some (.int .i64 ((n + 1 : Nat) : Int)) := hbl.out.cell 1
  have fn : w3.cell? ⟨b, off + n, none⟩ = some (.int .u8 (x : Int)) := by
   refine ((grown_belowG hgr.out H.out.blk.lt).cell (p := ⟨b, off + n, none⟩) HBG.out).trans hcn'
  have HPK := qH (H.out.grown hgr.out hbl.out (by omega))
  rw [← hw3]
  have e5 : wrap64 (((n : Int) + 1) - 1) = (n : Int) := by rw [show ((n : Int) + 1) - 1 = (n : Int) by omega]; exact IntWalk.wrap64_in _ (by omega)
  have e6 : IntKind.i64.wrap (((n : Int) + 1) - 1) = (n : Int) := by rw [show ((n : Int) + 1) - 1 = (n : Int) by omega]; exact IntWalk.i64_in _ (by omega)
  have e7 : (x : Int).tmod (m : Int) = ((x % m : Nat) : Int) := rfl
  have e8 : IntKind.i64.wrap (x : Int) = (x : Int) := IntWalk.i64_in _ (by omega)
  have e9 : ¬ ((m : Int) = 0) := by omega
  have e10 : ((m : Int) == 0) = false := by rw [beq_eq_false_iff_ne]; omega
  clear hw3 c0' c1' hcn' fz
  go_quiet (fail)
  go_wp2_with fail
  go_ret
  rw [HR.out.1, HR.out.2]
  exact ⟨rfl, grownG_trans hgr.out (below_grownG _ (below_drewP (Below.refl _ _) _)), HPK.out.below (below_drewP (Below.refl _ _) _)⟩
theorem ofNat_inj {b c : Nat} (hb : b < 256) (hc : c < 256) : UInt8.ofNat b = UInt8.ofNat c ↔ b = c := by
 constructor
 ·intro he
  have h1 := congrArg UInt8.toNat he
  rw [UInt8.toNat_ofNat', UInt8.toNat_ofNat', Nat.mod_eq_of_lt hc, Nat.mod_eq_of_lt hb] at h1
  exact h1
 ·intro h
  rw [h]
structure St where
 set : Nat → Bool
 to : Int
 free : List Int
structure MayN (S : List St) (a z : Int) : Prop where
 few : S.length ≤ 2000
 a0 : 0 ≤ a
 a1 : a < (S.length : Int)
 z0 : 0 ≤ z
 z1 : z < (S.length : Int)
 to : ∀ s ∈ S, s.to < (S.length : Int)
 free8 : ∀ s ∈ S, s.free.length ≤ 8
 free : ∀ s ∈ S, ∀ f ∈ s.free, 0 ≤ f ∧ f < (S.length : Int)
inductive Rc (S : List St) (P : Nat → Prop) : Nat → Prop
 | base {i : Nat} : P i → i < S.length → Rc S P i
 | go {i j : Nat} {s : St} : Rc S P i → S[i]? = some s → (j : Int) ∈ s.free → j < S.length → Rc S P j
theorem Rc.lt {S : List St} {P : Nat → Prop} {i : Nat} (h : Rc S P i) : i < S.length := by
 cases h with
 | base _ h => exact h
 | go _ _ _ h => exact h
theorem Rc.mono {S : List St} {P Q : Nat → Prop} {i : Nat} (h : Rc S P i) (hPQ : ∀ i, P i → Q i) : Rc S Q i := by
 induction h with
 | base h1 h2 => exact .base (hPQ _ h1) h2
 | go _ h2 h3 h4 ih => exact .go ih h2 h3 h4
theorem Rc.twice {S : List St} {P : Nat → Prop} {i : Nat} (h : Rc S (Rc S P) i) : Rc S P i := by
 induction h with
 | base h1 h2 => exact h1
 | go _ h2 h3 h4 ih => exact .go ih h2 h3 h4
theorem rc_is {S : List St} {P : Nat → Prop} {t : Nat → Bool} (h1 : ∀ i, i < S.length → P i → t i = true)
  (h2 : ∀ i s, S[i]? = some s → t i = true → ∀ j : Nat, (j : Int) ∈ s.free → t j = true) (h3 : ∀ i, i < S.length → t i = true → Rc S P i) (i : Nat) (hi : i < S.length) : t i = true ↔ Rc S P i := by
 refine ⟨h3 i hi, fun h => ?_⟩
 clear h3 hi
 induction h with
 | base a b => exact h1 _ b a
 | go _ b c _ ih => exact h2 _ _ b ih _ c
noncomputable def rcB (S : List St) (P : Nat → Prop) (i : Nat) : Bool := @decide (Rc S P i) (Classical.propDecidable _)
theorem rcB_iff {S : List St} {P : Nat → Prop} {i : Nat} : rcB S P i = true ↔ Rc S P i := by
 unfold rcB
 exact @decide_eq_true_iff _ (Classical.propDecidable _)
/-! ### rising lists of states -/
def risJ (t : Nat → Bool) (n : Nat) : List Int := ((List.range n).filter t).map fun i : Nat => (i : Int)
theorem risJ_congr {t u : Nat → Bool} {n : Nat} (h : ∀ i, i < n → t i = u i) : risJ t n = risJ u n := by
 unfold risJ
 rw [List.filter_congr fun i hi => h i (List.mem_range.1 hi)]
theorem risJ_mem {t : Nat → Bool} {n : Nat} {x : Int} : x ∈ risJ t n ↔ ∃ i : Nat, x = (i : Int) ∧ i < n ∧ t i = true := by
 unfold risJ
 rw [List.mem_map]
 constructor
 ·rintro ⟨i, hi, rfl⟩
  have := List.mem_filter.1 hi
  exact ⟨i, rfl, List.mem_range.1 this.1, this.2⟩
 ·rintro ⟨i, rfl, h1, h2⟩
  exact ⟨i, List.mem_filter.2 ⟨List.mem_range.2 h1, h2⟩, rfl⟩
theorem risJ_len (t : Nat → Bool) (n : Nat) : (risJ t n).length ≤ n := by
 unfold risJ
 rw [List.length_map]
 have := List.length_filter_le t (List.range n)
 rwa [List.length_range] at this
theorem risJ_rise (t : Nat → Bool) (n : Nat) : (risJ t n).Pairwise (· < ·) := by
 unfold risJ
 rw [List.pairwise_map]
 exact (List.pairwise_lt_range.filter t).imp fun h => by omega
def ofL (l : List Int) (i : Nat) : Prop := (i : Int) ∈ l
noncomputable def clsN (S : List St) (l : List Int) : List Int := risJ (rcB S (ofL l)) S.length
def goN (S : List St) (l : List Int) (b : Nat) : List Int := l.filterMap fun x => if 0 ≤ x then (S[x.toNat]?).bind fun s => if 0 ≤ s.to ∧ s.set b = true then some s.to else none else none
noncomputable def stpN (S : List St) (l : List Int) (b : Nat) : List Int := clsN S (goN S l b)
/-! ### ways -/
inductive Way (S : List St) : Nat → List UInt8 → Nat → Prop
 | here {i : Nat} : i < S.length → Way S i [] i
 | free {i j k : Nat} {s : St} {w : List UInt8} : S[i]? = some s → (j : Int) ∈ s.free → Way S j w k → Way S i w k
 | byte {i j k : Nat} {s : St} {b : UInt8} {w : List UInt8} : S[i]? = some s → s.set b.toNat = true → s.to = (j : Int) → Way S j w k → Way S i (b :: w) k
theorem Way.lt {S : List St} {i k : Nat} {w : List UInt8} (h : Way S i w k) : i < S.length := by
 cases h with
 | here h => exact h
 | free h _ _ => exact (List.getElem?_eq_some_iff.1 h).1
 | byte h _ _ _ => exact (List.getElem?_eq_some_iff.1 h).1
theorem Way.lt2 {S : List St} {i k : Nat} {w : List UInt8} (h : Way S i w k) : k < S.length := by
 induction h with
 | here h => exact h
 | free _ _ _ ih => exact ih
 | byte _ _ _ _ ih => exact ih
set_option linter.unusedSectionVars false
section
variable {α : Type} [DecidableEq α]
def extL : List α → List α → List α
 | L, [] => L
 | L, x :: xs => extL (if x ∈ L then L else L ++ [x]) xs
theorem extL_app : ∀ (xs : List α) (L ys : List α), extL L (xs ++ ys) = extL (extL L xs) ys
 | [], _, _ => rfl
 | x :: xs, L, ys => extL_app xs _ ys
theorem extL_in {L : List α} {x : α} (h : x ∈ L) : extL L [x] = L := by simp [extL, h]
theorem extL_new {L : List α} {x : α} (h : x ∉ L) : extL L [x] = L ++ [x] := by simp [extL, h]
theorem extL_take {L xs : List α} {j : Nat} {x : α} (h : xs[j]? = some x) : extL L (xs.take (j + 1)) = extL (extL L (xs.take j)) [x] := by
 obtain ⟨hj, rfl⟩ := List.getElem?_eq_some_iff.1 h
 rw [List.take_succ_eq_append_getElem hj, extL_app]
theorem extL_pre : ∀ (xs L : List α), ∃ M, extL L xs = L ++ M
 | [], L => ⟨[], by simp [extL]⟩
 | x :: xs, L => by
  obtain ⟨M, hM⟩ := extL_pre xs (if x ∈ L then L else L ++ [x])
  by_cases h : x ∈ L
  ·rw [if_pos h] at hM
   exact ⟨M, by simp only [extL]; rw [if_pos h]; exact hM⟩
  ·rw [if_neg h] at hM
   exact ⟨[x] ++ M, by simp only [extL]; rw [if_neg h, hM, List.append_assoc]⟩
theorem extL_mem {y : α} : ∀ (xs L : List α), y ∈ extL L xs ↔ y ∈ L ∨ y ∈ xs
 | [], L => by simp [extL]
 | x :: xs, L => by
  simp only [extL]
  rw [extL_mem xs]
  by_cases h : x ∈ L
  ·rw [if_pos h]
   constructor
   ·rintro (h1 | h1)
    ·exact .inl h1
    ·exact .inr (List.mem_cons_of_mem _ h1)
   ·rintro (h1 | h1)
    ·exact .inl h1
    ·rcases List.mem_cons.1 h1 with rfl | h1
     ·exact .inl h
     ·exact .inr h1
  ·rw [if_neg h, List.mem_append, List.mem_singleton, List.mem_cons]
   constructor
   ·rintro ((h1 | h1) | h1)
    ·exact .inl h1
    ·exact .inr (.inl h1)
    ·exact .inr (.inr h1)
   ·rintro (h1 | h1 | h1)
    ·exact .inl (.inl h1)
    ·exact .inl (.inr h1)
    ·exact .inr h1
theorem nodup_snoc {L : List α} {x : α} (h : L.Nodup) (hx : x ∉ L) : (L ++ [x]).Nodup :=
 List.nodup_append.2 ⟨h, by simp, fun a ha b hb hab => by
  obtain rfl := List.mem_singleton.1 hb
  exact hx (hab ▸ ha)⟩
theorem extL_nodup : ∀ (xs L : List α), L.Nodup → (extL L xs).Nodup
 | [], _, h => h
 | x :: xs, L, h => by
  simp only [extL]
  by_cases hx : x ∈ L
  ·rw [if_pos hx]
   exact extL_nodup xs L h
  ·rw [if_neg hx]
   exact extL_nodup xs _ (nodup_snoc h hx)
theorem extL_le (xs L : List α) : L.length ≤ (extL L xs).length := by
 obtain ⟨M, hM⟩ := extL_pre xs L
 rw [hM, List.length_append]
 omega
theorem extL_take_le (xs L : List α) (j : Nat) : (extL L (xs.take j)).length ≤ (extL L xs).length := by
 have h := extL_app (xs.take j) L (xs.drop j)
 rw [List.take_append_drop] at h
 rw [h]
 exact extL_le _ _
/-! ### places -/
def ixOf (L : List α) (x : α) : Nat := L.idxOf x
theorem idx_lt {L : List α} {x : α} (h : x ∈ L) : ixOf L x < L.length := List.idxOf_lt_length_of_mem h
theorem idx_get {L : List α} {x : α} (h : x ∈ L) : L[ixOf L x]? = some x := by
 have h1 : List.idxOf x L < L.length := idx_lt h
 show L[List.idxOf x L]? = some x
 rw [List.getElem?_eq_getElem h1, List.getElem_idxOf h1]
theorem idx_app {L M : List α} {x : α} (h : x ∈ L) : ixOf (L ++ M) x = ixOf L x := by
 unfold ixOf
 rw [List.idxOf_append, if_pos h]
theorem idx_new {L : List α} {x : α} (h : x ∉ L) : ixOf (L ++ [x]) x = L.length := by
 unfold ixOf
 rw [List.idxOf_append, if_neg h, List.idxOf_cons_self, Nat.zero_add]
theorem idx_is {L : List α} {x : α} {i : Nat} (hn : L.Nodup) (h : L[i]? = some x) : ixOf L x = i := by
 obtain ⟨hi, rfl⟩ := List.getElem?_eq_some_iff.1 h
 exact hn.idxOf_getElem i hi
def rowI (L xs : List α) : List Int := xs.map fun x => (ixOf L x : Int)
theorem rowI_len (L xs : List α) : (rowI L xs).length = xs.length := by simp [rowI]
theorem rowI_app {L M xs : List α} (h : ∀ x ∈ xs, x ∈ L) : rowI (L ++ M) xs = rowI L xs := by
 unfold rowI
 refine List.map_congr_left fun x hx => ?_
 rw [idx_app (h x hx)]
/-! ### round by round -/
variable (f : α → List α) (x0 : α)
def Lq : Nat → List α
 | 0 => [x0]
 | r + 1 => match (Lq r)[r]? with
  | some x => extL (Lq r) (f x)
  | none => Lq r
variable {f x0}
theorem Lq_step {r : Nat} {x : α} (h : (Lq f x0 r)[r]? = some x) : Lq f x0 (r + 1) = extL (Lq f x0 r) (f x) := by
 simp only [Lq, h]
theorem Lq_stop {r : Nat} (h : (Lq f x0 r).length ≤ r) : Lq f x0 (r + 1) = Lq f x0 r := by
 have : (Lq f x0 r)[r]? = none := List.getElem?_eq_none h
 simp only [Lq, this]
theorem Lq_one (r : Nat) : ∃ M, Lq f x0 (r + 1) = Lq f x0 r ++ M := by
 rcases Nat.lt_or_ge r (Lq f x0 r).length with h | h
 ·rw [Lq_step (List.getElem?_eq_getElem h)]
  exact extL_pre _ _
 ·rw [Lq_stop h]
  exact ⟨[], by simp⟩
theorem Lq_mono {r s : Nat} (h : r ≤ s) : ∃ M, Lq f x0 s = Lq f x0 r ++ M := by
 obtain ⟨d, rfl⟩ := Nat.le.dest h
 clear h
 induction d with
 | zero => exact ⟨[], by simp⟩
 | succ d ih =>
  obtain ⟨M, hM⟩ := ih
  obtain ⟨N, hN⟩ := Lq_one (f := f) (x0 := x0) (r + d)
  exact ⟨M ++ N, by rw [show r + (d + 1) = r + d + 1 from rfl, hN, hM, List.append_assoc]⟩
theorem Lq_le {r s : Nat} (h : r ≤ s) : (Lq f x0 r).length ≤ (Lq f x0 s).length := by
 obtain ⟨M, hM⟩ := Lq_mono (f := f) (x0 := x0) h
 rw [hM, List.length_append]
 omega
theorem Lq_mem {r s : Nat} (h : r ≤ s) {x : α} (hx : x ∈ Lq f x0 r) : x ∈ Lq f x0 s := by
 obtain ⟨M, hM⟩ := Lq_mono (f := f) (x0 := x0) h
 rw [hM]
 exact List.mem_append_left _ hx
theorem Lq_get {r s i : Nat} (h : r ≤ s) {x : α} (hx : (Lq f x0 r)[i]? = some x) : (Lq f x0 s)[i]? = some x := by
 obtain ⟨M, hM⟩ := Lq_mono (f := f) (x0 := x0) h
 rw [hM, List.getElem?_append_left (List.getElem?_eq_some_iff.1 hx).1]
 exact hx
theorem Lq_nodup : ∀ r, (Lq f x0 r).Nodup
 | 0 => by simp [Lq]
 | r + 1 => by
  rcases Nat.lt_or_ge r (Lq f x0 r).length with h | h
  ·rw [Lq_step (List.getElem?_eq_getElem h)]
   exact extL_nodup _ _ (Lq_nodup r)
  ·rw [Lq_stop h]
   exact Lq_nodup r
theorem Lq_pos (r : Nat) : 0 < (Lq f x0 r).length := by
 have := Lq_le (f := f) (x0 := x0) (Nat.zero_le r)
 simp only [Lq, List.length_cons, List.length_nil] at this
 omega
theorem Lq_zero (r : Nat) : (Lq f x0 r)[0]? = some x0 := Lq_get (Nat.zero_le r) rfl
theorem Lq_all {p : α → Prop} (h0 : p x0) (hf : ∀ x, p x → ∀ y ∈ f x, p y) : ∀ r, ∀ x ∈ Lq f x0 r, p x
 | 0, x, hx => by
  obtain rfl := List.mem_singleton.1 hx
  exact h0
 | r + 1, x, hx => by
  rcases Nat.lt_or_ge r (Lq f x0 r).length with h | h
  ·rw [Lq_step (List.getElem?_eq_getElem h)] at hx
   rcases (extL_mem _ _).1 hx with h1 | h1
   ·exact Lq_all h0 hf r x h1
   ·exact hf _ (Lq_all h0 hf r _ (List.getElem_mem h)) x h1
  ·rw [Lq_stop h] at hx
   exact Lq_all h0 hf r x hx
theorem Lq_closed {r i : Nat} {x : α} (hi : i < r) (hx : (Lq f x0 i)[i]? = some x) : ∀ y ∈ f x, y ∈ Lq f x0 r := fun y hy => by
 refine Lq_mem (r := i + 1) hi ?_
 rw [Lq_step hx]
 exact (extL_mem _ _).2 (.inr hy)
def Fit (f : α → List α) (x0 : α) (n : Nat) : Prop := (Lq f x0 n).length = n
theorem fit_after {n r : Nat} (h : Fit f x0 n) (hr : n ≤ r) : Lq f x0 r = Lq f x0 n := by
 obtain ⟨d, rfl⟩ := Nat.le.dest hr
 clear hr
 induction d with
 | zero => rfl
 | succ d ih =>
  rw [show n + (d + 1) = n + d + 1 from rfl, Lq_stop, ih]
  rw [ih]
  unfold Fit at h
  omega
theorem fit_most {n : Nat} (h : Fit f x0 n) (r : Nat) : (Lq f x0 r).length ≤ n := by
 rcases Nat.le_total r n with h1 | h1
 ·have := Lq_le (f := f) (x0 := x0) h1
  unfold Fit at h
  omega
 ·rw [fit_after h h1]
  exact Nat.le_of_eq h
theorem fit_one {m n : Nat} (h : Fit f x0 m) (k : Fit f x0 n) : m = n := by
 have h1 := fit_most h n
 have h2 := fit_most k m
 unfold Fit at h k
 omega
theorem fit_going {n i : Nat} (h : Fit f x0 n) (hi : i < n) : i < (Lq f x0 i).length := by
 refine Nat.lt_of_not_le fun hle => ?_
 have h1 : Lq f x0 n = Lq f x0 i := by
  have key : ∀ d, Lq f x0 (i + d) = Lq f x0 i := by
   intro d
   induction d with
   | zero => rfl
   | succ d ih => rw [show i + (d + 1) = i + d + 1 from rfl, Lq_stop (by rw [ih]; omega), ih]
  have := key (n - i)
  rwa [show i + (n - i) = n from by omega] at this
 unfold Fit at h
 rw [h1] at h
 omega
theorem fit_closed {n : Nat} (h : Fit f x0 n) {x : α} (hx : x ∈ Lq f x0 n) : ∀ y ∈ f x, y ∈ Lq f x0 n := by
 obtain ⟨i, hi, rfl⟩ := List.getElem_of_mem hx
 have hin : i < n := by unfold Fit at h; omega
 have hg := fit_going h hin
 have e : (Lq f x0 i)[i]? = some (Lq f x0 n)[i] := by
  have h1 : (Lq f x0 i)[i]? = some (Lq f x0 i)[i] := List.getElem?_eq_getElem hg
  have h2 := Lq_get (Nat.le_of_lt hin) h1
  rw [List.getElem?_eq_getElem hi] at h2
  rw [h1, h2]
 exact Lq_closed hin e
def rowsI (f : α → List α) (L : List α) (m : Nat) : List (List Int) := (L.take m).map fun x => rowI L (f x)
theorem rowsI_len {L : List α} {m : Nat} (h : m ≤ L.length) : (rowsI f L m).length = m := by simp [rowsI]; omega
theorem rowsI_next {r : Nat} {x : α} (hx : (Lq f x0 r)[r]? = some x) : rowsI f (Lq f x0 (r + 1)) (r + 1) = rowsI f (Lq f x0 r) r ++ [rowI (Lq f x0 (r + 1)) (f x)] := by
 obtain ⟨M, hM⟩ := Lq_one (f := f) (x0 := x0) r
 obtain ⟨hr, hxe⟩ := List.getElem?_eq_some_iff.1 hx
 have h1 : (Lq f x0 (r + 1)).take (r + 1) = (Lq f x0 r).take r ++ [x] := by
  rw [hM, List.take_append_of_le_length (by omega), List.take_succ_eq_append_getElem hr, hxe]
 unfold rowsI
 rw [h1, List.map_append, List.map_cons, List.map_nil]
 congr 1
 refine List.map_congr_left fun y hy => ?_
 rw [hM]
 refine rowI_app fun z hz => ?_
 obtain ⟨i, hi, hiy⟩ := List.getElem_of_mem hy
 rw [List.length_take] at hi
 have hir : i < r := by omega
 rw [List.getElem_take] at hiy
 have hil : i < (Lq f x0 i).length := by
  refine Nat.lt_of_not_le fun hle => ?_
  have key : ∀ d, Lq f x0 (i + d) = Lq f x0 i := by
   intro d
   induction d with
   | zero => rfl
   | succ d ih => rw [show i + (d + 1) = i + d + 1 from rfl, Lq_stop (by rw [ih]; omega), ih]
  have e := key (r - i)
  rw [show i + (r - i) = r from by omega] at e
  rw [e] at hr
  omega
 have e1 : (Lq f x0 i)[i]? = some (Lq f x0 i)[i] := List.getElem?_eq_getElem hil
 have e2 := Lq_get (Nat.le_of_lt hir) e1
 rw [List.getElem?_eq_getElem (by omega), hiy] at e2
 injection e2 with e2
 rw [← e2] at e1
 exact Lq_closed hir e1 z hz
def endsI (p : α → Bool) (L : List α) (m : Nat) : List Bool := (L.take m).map p
theorem endsI_len {p : α → Bool} {L : List α} {m : Nat} (h : m ≤ L.length) : (endsI p L m).length = m := by simp [endsI]; omega
theorem endsI_next {p : α → Bool} {r : Nat} {x : α} (hx : (Lq f x0 r)[r]? = some x) : endsI p (Lq f x0 (r + 1)) (r + 1) = endsI p (Lq f x0 r) r ++ [p x] := by
 obtain ⟨M, hM⟩ := Lq_one (f := f) (x0 := x0) r
 obtain ⟨hr, hxe⟩ := List.getElem?_eq_some_iff.1 hx
 have h1 : (Lq f x0 (r + 1)).take (r + 1) = (Lq f x0 r).take r ++ [x] := by
  rw [hM, List.take_append_of_le_length (by omega), List.take_succ_eq_append_getElem hr, hxe]
 unfold endsI
 rw [h1, List.map_append, List.map_cons, List.map_nil]
theorem Lq_turn {r : Nat} (h : ∀ i, i < r → i < (Lq f x0 i).length) : r ≤ (Lq f x0 r).length := by
 cases r with
 | zero => exact Nat.zero_le _
 | succ r =>
  have h1 := h r (Nat.lt_succ_self r)
  have h2 := Lq_le (f := f) (x0 := x0) (Nat.le_succ r)
  exact Nat.le_trans h1 h2
end
theorem inf_int : (Try.prog.info? 3).map (fun i => (i.zero, i.size, i.bytes)) = some (some (.int .i64 0), 1, 8) := by kernel_rfl
section
variable {P : Program} {ops : Array Oper} {Q : Exit → Act → World → Prop} {md : Region.Mode} {S : World → Prop}
end
theorem grown_start (w : World) (r : Option Nat) : w.grownBy w.drew r := ⟨rfl, rfl, rfl, Nat.le_refl _, fun _ _ _ => rfl⟩
def stc (s : St) (v : Value) : List Value := wds s.set ++ [.int .i64 s.to, v]
def NfaV (w : World) (cs : List Value) (S : List St) (a z : Int) : Prop :=
 ∃ (A : Option Addr) (cap : Nat) (vf : Nat → Value), cs = [.slice A S.length cap, .int .i64 a, .int .i64 z] ∧ S.length ≤ cap ∧ cap ≤ maxLen ∧ (A = none → cap = 0) ∧
  (S ≠ [] → ∃ b off, A = some ⟨b, off, none⟩ ∧ b < w.heap.size ∧ ∀ i s, S[i]? = some s → w.rangeAt b (off + i * 6) (stc s (vf i))) ∧
  ∀ i s, S[i]? = some s → Row w (vf i) (ints s.free)
theorem NfaV.length {w : World} {cs : List Value} {S : List St} {a z : Int} (h : NfaV w cs S a z) : cs.length = 3 := by
 obtain ⟨_, _, _, rfl, _⟩ := h
 rfl
theorem NfaV.one {w : World} {cs : List Value} {S : List St} {a z : Int} (h : NfaV w cs S a z) : cs.all (·.oneCell') = true := by
 obtain ⟨_, _, _, rfl, _⟩ := h
 rfl
theorem NfaV.below {w w' : World} {cs : List Value} {S : List St} {a z : Int} (h : NfaV w cs S a z) (hb : Below w.heap.size w w') : NfaV w' cs S a z := by
 obtain ⟨A, cap, vf, h1, h2, h3, h0, h4, h5⟩ := h
 refine ⟨A, cap, vf, h1, h2, h3, h0, fun hne => ?_, fun i s hs => (h5 i s hs).below hb⟩
 obtain ⟨b, off, hA, hlt, hr⟩ := h4 hne
 exact ⟨b, off, hA, Nat.lt_of_lt_of_le hlt hb.size, fun i s hs => range_below (hr i s hs) hb hlt⟩
theorem NfaV.at_ {w : World} {A : Option Addr} {cap n : Nat} {a z : Int} {S : List St} (h : NfaV w [.slice A n cap, .int .i64 a, .int .i64 z] S a z) {i : Nat} {s : St} (hs : S[i]? = some s) :
  ∃ b off, A = some ⟨b, off, none⟩ ∧ b < w.heap.size ∧ w.rangeAt b (off + i * 6) (wds s.set) ∧ w.cell? ⟨b, off + i * 6 + 4, none⟩ = some (.int .i64 s.to) ∧
   ∃ Af cf, w.cell? ⟨b, off + i * 6 + 5, none⟩ = some (.slice Af s.free.length cf) ∧ Row w (.slice Af s.free.length cf) (ints s.free) := by
 obtain ⟨A', cap', vf, he, h2, h3, h0, h4, h5⟩ := h
 injection he with he _
 injection he with hA hn hc
 subst hA
 obtain ⟨b, off, rfl, hlt, hr⟩ := h4 (by rintro rfl; simp at hs)
 have h6 := hr i s hs
 have h7 := h5 i s hs
 refine ⟨b, off, rfl, hlt, fun j v hv => ?_, h6 4 _ rfl, ?_⟩
 ·have hj : j < 4 := by have := (List.getElem?_eq_some_iff.1 hv).1; rwa [wds_length] at this
  refine h6 j v ?_
  unfold stc
  rw [List.getElem?_append_left (by rw [wds_length]; exact hj)]
  exact hv
 ·obtain ⟨Af, cf, hvf, _⟩ := h7
  have hl : (ints s.free).length = s.free.length := nums_length _ _
  rw [hl] at hvf
  exact ⟨Af, cf, by rw [← hvf]; exact h6 5 _ rfl, by rw [← hvf]; exact h5 i s hs⟩
theorem NfaV.whole {w : World} {A : Option Addr} {cap n : Nat} {a z : Int} {S : List St} (h : NfaV w [.slice A n cap, .int .i64 a, .int .i64 z] S a z) {i : Nat} {s : St} (hs : S[i]? = some s) :
  ∃ b off Af cf, A = some ⟨b, off, none⟩ ∧ b < w.heap.size ∧ w.rangeAt b (off + i * 6) (stc s (.slice Af s.free.length cf)) ∧ Row w (.slice Af s.free.length cf) (ints s.free) := by
 obtain ⟨A', cap', vf, he, h2, h3, h0, h4, h5⟩ := h
 injection he with he _
 injection he with hA hn hc
 subst hA
 obtain ⟨b, off, rfl, hlt, hr⟩ := h4 (by rintro rfl; simp at hs)
 obtain ⟨Af, cf, hvf, _⟩ := h5 i s hs
 have hl : (ints s.free).length = s.free.length := nums_length _ _
 rw [hl] at hvf
 exact ⟨b, off, Af, cf, rfl, hlt, by rw [← hvf]; exact hr i s hs, by rw [← hvf]; exact h5 i s hs⟩
theorem NfaV.len {w : World} {cs : List Value} {S : List St} {a z : Int} (h : NfaV w cs S a z) : ∃ A cap, cs = [.slice A S.length cap, .int .i64 a, .int .i64 z] ∧ S.length ≤ cap ∧ cap ≤ maxLen ∧ (A = none → cap = 0) := by
 obtain ⟨A, cap, _, h1, h2, h3, h0, _⟩ := h
 exact ⟨A, cap, h1, h2, h3, h0⟩
def bcs (n : Nat) (f : Nat → Bool) : List Value := (List.range n).map fun q => .bool (f q)
theorem bcs_len (n : Nat) (f : Nat → Bool) : (bcs n f).length = n := by simp [bcs]
theorem bcs_get {n q : Nat} (f : Nat → Bool) (h : q < n) : (bcs n f)[q]? = some (.bool (f q)) := by simp [bcs, h]
theorem bcs_congr {n : Nat} {f g : Nat → Bool} (h : ∀ q, q < n → f q = g q) : bcs n f = bcs n g := by
 unfold bcs
 exact List.map_congr_left fun q hq => by rw [h q (List.mem_range.1 hq)]
theorem bcs_no (n : Nat) : List.replicate n (Value.bool false) = bcs n fun _ => false := by
 apply List.ext_getElem?
 intro q
 by_cases h : q < n
 ·rw [bcs_get _ h]; simp [h]
 ·rw [List.getElem?_eq_none (by simp; omega), List.getElem?_eq_none (by rw [bcs_len]; omega)]
def updB (f : Nat → Bool) (q : Nat) (b : Bool) : Nat → Bool := fun i => if i = q then b else f i
theorem bcs_set (n q : Nat) (f : Nat → Bool) (b : Bool) : (bcs n f).set q (.bool b) = bcs n (updB f q b) := by
 apply List.ext_getElem?
 intro i
 by_cases h : i < n
 ·rw [bcs_get _ h]
  unfold updB
  by_cases hi : i = q
  ·subst hi
   rw [List.getElem?_set_self (by rw [bcs_len]; exact h), if_pos rfl]
  ·rw [List.getElem?_set_ne (by omega), bcs_get _ h, if_neg hi]
 ·rw [List.getElem?_eq_none (by rw [List.length_set, bcs_len]; omega), List.getElem?_eq_none (by rw [bcs_len]; omega)]
def tops (n m : Nat) (bs : Nat → Nat) : List Value := (List.range n).map fun p => if p < m then .slice (some ⟨bs p, 0, none⟩) n n else .slice none 0 0
theorem tops_len (n m : Nat) (bs : Nat → Nat) : (tops n m bs).length = n := by simp [tops]
theorem tops_get {n m p : Nat} (bs : Nat → Nat) (h : p < n) : (tops n m bs)[p]? = some (if p < m then .slice (some ⟨bs p, 0, none⟩) n n else .slice none 0 0) := by simp [tops, h]
theorem tops_no (n : Nat) (bs : Nat → Nat) : List.replicate n (Value.slice none 0 0) = tops n 0 bs := by
 apply List.ext_getElem?
 intro q
 by_cases h : q < n
 ·rw [tops_get _ h]; simp [h]
 ·rw [List.getElem?_eq_none (by simp; omega), List.getElem?_eq_none (by rw [tops_len]; omega)]
def updN (bs : Nat → Nat) (m b : Nat) : Nat → Nat := fun i => if i = m then b else bs i
theorem tops_set (n m : Nat) (bs : Nat → Nat) (b : Nat) : (tops n m bs).set m (.slice (some ⟨b, 0, none⟩) n n) = tops n (m + 1) (updN bs m b) := by
 apply List.ext_getElem?
 intro i
 by_cases h : i < n
 ·rw [tops_get _ h]
  unfold updN
  by_cases hi : i = m
  ·subst hi
   rw [List.getElem?_set_self (by rw [tops_len]; exact h), if_pos (by omega), if_pos rfl]
  ·rw [List.getElem?_set_ne (by omega), tops_get _ h, if_neg hi]
   by_cases h2 : i < m
   ·rw [if_pos h2, if_pos (by omega)]
   ·rw [if_neg h2, if_neg (by omega)]
 ·rw [List.getElem?_eq_none (by rw [List.length_set, tops_len]; omega), List.getElem?_eq_none (by rw [tops_len]; omega)]
structure Tbl (w : World) (B g : Nat) (bs : Nat → Nat) (n m : Nat) (f : Nat → Nat → Bool) : Prop where
 top : Blk w g 26 (tops n m bs)
 row : ∀ p, p < m → Blk w (bs p) 4 (bcs n (f p))
 base : B ≤ g
 bbase : ∀ p, p < m → B ≤ bs p
 ne : ∀ p, p < m → bs p ≠ g
 inj : ∀ p q, p < m → q < m → bs p = bs q → p = q
def upd2 (f : Nat → Nat → Bool) (p q : Nat) (b : Bool) : Nat → Nat → Bool := fun i j => if i = p then updB (f p) q b j else f i j
section
variable {w w' : World} {B g n m p q : Nat} {bs : Nat → Nat} {f f' : Nat → Nat → Bool}
theorem Tbl.stay (h : Tbl w B g bs n m f) (hg : w'.heap[g]? = w.heap[g]?) (hb : ∀ p, p < m → w'.heap[bs p]? = w.heap[bs p]?) : Tbl w' B g bs n m f :=
 ⟨hg.trans h.top, fun p hp => (hb p hp).trans (h.row p hp), h.base, h.bbase, h.ne, h.inj⟩
theorem Tbl.below (h : Tbl w B g bs n m f) (hb : Below w.heap.size w w') : Tbl w' B g bs n m f :=
 h.stay (hb.block _ h.top.lt) fun p hp => hb.block _ (h.row p hp).lt
theorem Tbl.drew (h : Tbl w B g bs n m f) : Tbl w.drew B g bs n m f := ⟨h.top, h.row, h.base, h.bbase, h.ne, h.inj⟩
theorem Tbl.congr (h : Tbl w B g bs n m f) (he : ∀ p q, p < m → q < n → f p q = f' p q) : Tbl w B g bs n m f' :=
 ⟨h.top, fun p hp => by rw [← bcs_congr (fun q hq => he p q hp hq)]; exact h.row p hp, h.base, h.bbase, h.ne, h.inj⟩
theorem Tbl.mono {B' : Nat} (h : Tbl w B g bs n m f) (hB : B' ≤ B) : Tbl w B' g bs n m f :=
 ⟨h.top, h.row, Nat.le_trans hB h.base, fun p hp => Nat.le_trans hB (h.bbase p hp), h.ne, h.inj⟩
theorem Tbl.at_ (h : Tbl w B g bs n m f) (hp : p < n) (hm : p < m) : w.cell? ⟨g, p, none⟩ = some (.slice (some ⟨bs p, 0, none⟩) n n) := by
 rw [h.top.cell, tops_get _ hp, if_pos hm]
theorem Tbl.cell (h : Tbl w B g bs n m f) (hp : p < m) (hq : q < n) : w.cell? ⟨bs p, q, none⟩ = some (.bool (f p q)) := by
 rw [(h.row p hp).cell, bcs_get _ hq]
theorem Tbl.put (h : Tbl w B g bs n m f) (hp : p < m) (q : Nat) (b : Bool) : Tbl (w.setCell ⟨bs p, q, none⟩ (.bool b)) B g bs n m (upd2 f p q b) := by
 refine ⟨h.top.far (p := ⟨bs p, q, none⟩) (h.ne p hp).symm _, fun i hi => ?_, h.base, h.bbase, h.ne, h.inj⟩
 by_cases hip : i = p
 ·subst hip
  have := (h.row i hi).set q (.bool b)
  rw [bcs_set] at this
  have e : upd2 f i q b i = updB (f i) q b := by funext j; unfold upd2; rw [if_pos rfl]
  rw [e]
  exact this
 ·have e : upd2 f p q b i = f i := by funext j; unfold upd2; rw [if_neg hip]
  rw [e]
  exact (h.row i hi).far (p := ⟨bs p, q, none⟩) (fun he => hip (h.inj i p hi hp he)) _
theorem Tbl.new (h : Blk w g 26 (List.replicate n (.slice none 0 0))) (hB : B ≤ g) (bs : Nat → Nat) (f : Nat → Nat → Bool) : Tbl w B g bs n 0 f :=
 ⟨by rw [tops_no n bs] at h; exact h, fun p hp => absurd hp (Nat.not_lt_zero p), hB, fun p hp => absurd hp (Nat.not_lt_zero p), fun p hp => absurd hp (Nat.not_lt_zero p), fun p q hp => absurd hp (Nat.not_lt_zero p)⟩
theorem Tbl.more (h : Tbl w B g bs n m f) (hb : Below w.heap.size w w') (hk : Blk w' w.heap.size 4 (List.replicate n (.bool false))) (hf : ∀ q, f m q = false) :
  Tbl (w'.setCell ⟨g, m, none⟩ (.slice (some ⟨w.heap.size, 0, none⟩) n n)) B g (updN bs m w.heap.size) n (m + 1) f := by
 have hlt : ∀ p, p < m → bs p < w.heap.size := fun p hp => (h.row p hp).lt
 have hg : g < w.heap.size := h.top.lt
 have hu : ∀ p, p < m → updN bs m w.heap.size p = bs p := fun p hp => by unfold updN; rw [if_neg (by omega)]
 have hum : updN bs m w.heap.size m = w.heap.size := by unfold updN; rw [if_pos rfl]
 have hcase : ∀ p, p < m + 1 → p < m ∨ p = m := fun p hp => by omega
 have h1 := h.below hb
 refine ⟨?_, fun p hp => ?_, h.base, fun p hp => ?_, fun p hp => ?_, fun p q hp hq he => ?_⟩
 ·have := h1.top.set m (.slice (some ⟨w.heap.size, 0, none⟩) n n)
  rw [tops_set] at this
  exact this
 ·rcases hcase p hp with hp | rfl
  ·rw [hu p hp]
   exact (h1.row p hp).far (p := ⟨g, m, none⟩) (h.ne p hp) _
  ·rw [hum, bcs_congr (g := fun _ => false) fun q _ => hf q, ← bcs_no]
   exact hk.far (p := ⟨g, p, none⟩) (by show w.heap.size ≠ g; omega) _
 ·rcases hcase p hp with hp | rfl
  ·rw [hu p hp]; exact h.bbase p hp
  ·rw [hum]; exact Nat.le_trans h.base (Nat.le_of_lt hg)
 ·rcases hcase p hp with hp | rfl
  ·rw [hu p hp]; exact h.ne p hp
  ·rw [hum]; omega
 ·rcases hcase p hp with hp | rfl <;> rcases hcase q hq with hq | rfl
  ·rw [hu p hp, hu q hq] at he; exact h.inj p q hp hq he
  ·rw [hu p hp, hum] at he; have := hlt p hp; omega
  ·rw [hu q hq, hum] at he; have := hlt q hq; omega
  ·rfl
theorem Tbl.frozen (h : Tbl w B g bs n m f) (hp : p < m) (q : Nat) : w.frozen? ⟨bs p, q, none⟩ = false := (h.row p hp).frozen q
theorem Tbl.apart {B2 g2 n2 m2 : Nat} {bs2 : Nat → Nat} {f2 : Nat → Nat → Bool} (h : Tbl w B g bs n m f) (h2 : Tbl w B2 g2 bs2 n2 m2 f2) (hp : p < m) (hn : bs p < B2) (q : Nat) (b : Bool) : Tbl (w.setCell ⟨bs p, q, none⟩ (.bool b)) B2 g2 bs2 n2 m2 f2 :=
 ⟨h2.top.far (p := ⟨bs p, q, none⟩) (by have := h2.base; show g2 ≠ bs p; omega) _, fun i hi => (h2.row i hi).far (p := ⟨bs p, q, none⟩) (by have := h2.bbase i hi; show bs2 i ≠ bs p; omega) _, h2.base, h2.bbase, h2.ne, h2.inj⟩
end
/-! ### single cells in regions that draw -/
theorem ld_b {ev : Operand → Value} {o : Oper} (x : Operand) (ho : o.op = .load 4 x) {p : Addr} (hx : ev x = .pointer (some p)) {b : Bool} {W : World} (hc : W.cell? p = some (.bool b)) : (execOp ev o).run Try.prog W = .ok (.value (.bool b)) W := by
 simp only [execOp, ho, hx]
 go_simp
theorem wp_stB {o : Oper} {a : Act} {w : World} {K : Act → World → Prop} {Q : Exit → Act → World → Prop} (x y : Operand) (ho : o.op = .store 4 x y) (g q : Nat) (hx : a.eval x = .pointer (some ⟨g, q, none⟩)) (b : Bool) (hy : a.eval y = .bool b)
  (u : Value) (hc : w.cell? ⟨g, q, none⟩ = some u) (hf : w.frozen? ⟨g, q, none⟩ = false) (h : K (a.put o.dst undef) (w.setCell ⟨g, q, none⟩ (.bool b))) : o.wp Try.prog a w K Q := by
 unfold Oper.wp execOp
 simp only [ho, hx, hy]
 have hrun : (Instr.storeAt 4 (.pointer (some ⟨g, q, none⟩)) (.bool b)).run Try.prog w = .ok () (w.setCell ⟨g, q, none⟩ (.bool b)) := by
  go_simp
 simp only [Sem.run_bind, hrun, Result.andThen_ok, Sem.run_pure]
 exact h
theorem inf_bool : (Try.prog.info? 4).map (fun i => (i.zero, i.size, i.bytes)) = some (some (.bool false), 1, 1) := by kernel_rfl
end Go.Proofs.Ytaakdebcagdfgaa
