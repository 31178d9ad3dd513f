/-
  Texts of this proof, put together: LpE, LkB, LkO, LkI, LkJ, LkF, LkK, LkG, LqA, LpI. No statement is proved here.
-/
import Derived.Test.YtaakdebcagdfgaaZG
import Derived.Test.YtaakdebcagdfgaaZD
import Derived.Test.YtaakdebcagdfgaaZA
import Derived.Test.YtaakdebcagdfgaaZC
import Derived.Test.YtaakdebcagdfgaaZE
import Derived.Test.YtaakdebcagdfgaaZH
import Derived.Test.YtaakdebcagdfgaaZI
namespace Go.Proofs.Ytaakdebcagdfgaa
open Go.RowKit
set_option linter.unusedSimpArgs false
set_option linter.unusedVariables false
structure InG {α : Type} [DecidableEq α] (f : α → List α) (x0 : α) (i kk : Nat) (X : α) (Lj : Nat → List α) (Rw : List Int) : Prop where
 zero : Lj 0 = Lq f x0 i
 nd : ∀ j, (Lj j).Nodup
 at_ : ∀ j, (Lj j)[i]? = some X
 le : ∀ j, (Lj j).length ≤ (Lq f x0 (i + 1)).length
 all : Lj kk = Lq f x0 (i + 1)
 row : Rw = rowI (Lq f x0 (i + 1)) (f X)
 len : Rw.length = kk
 mem : ∀ j, ∀ x ∈ Lj j, x ∈ Lq f x0 (i + 1)
 step : ∀ j y, (f X)[j]? = some y → (y ∈ Lj j ∧ Lj (j + 1) = Lj j ∧ Rw.take (j + 1) = Rw.take j ++ [((ixOf (Lj j) y : Nat) : Int)]) ∨ (y ∉ Lj j ∧ Lj (j + 1) = Lj j ++ [y] ∧ Rw.take (j + 1) = Rw.take j ++ [((Lj j).length : Int)])
theorem inG_is {α : Type} [DecidableEq α] {f : α → List α} {x0 : α} {i kk : Nat} {X : α} (hX : (Lq f x0 i)[i]? = some X) (hk : (f X).length = kk) : ∃ (Lj : Nat → List α) (Rw : List Int), InG f x0 i kk X Lj Rw := by
 have hs : Lq f x0 (i + 1) = extL (Lq f x0 i) (f X) := Lq_step hX
 have hnd : (Lq f x0 i).Nodup := Lq_nodup i
 refine ⟨fun j => extL (Lq f x0 i) ((f X).take j), rowI (Lq f x0 (i + 1)) (f X), ⟨rfl, fun j => extL_nodup _ _ hnd, fun j => ?_, fun j => ?_, ?_, rfl, by rw [rowI_len, hk], fun j x hx => ?_, fun j y hy => ?_⟩⟩
 ·obtain ⟨M, hM⟩ := extL_pre ((f X).take j) (Lq f x0 i)
  show (extL (Lq f x0 i) ((f X).take j))[i]? = some X
  rw [hM, List.getElem?_append_left (List.getElem?_eq_some_iff.1 hX).1]
  exact hX
 ·rw [hs]
  exact extL_take_le _ _ _
 ·show extL (Lq f x0 i) ((f X).take kk) = _
  rw [← hk, List.take_length, hs]
 ·rw [hs]
  have hx : x ∈ extL (Lq f x0 i) ((f X).take j) := hx
  rw [extL_mem] at hx ⊢
  rcases hx with hx | hx
  ·exact .inl hx
  ·exact .inr (List.mem_of_mem_take hx)
 ·obtain ⟨M, hM⟩ : ∃ M, M = extL (Lq f x0 i) ((f X).take j) := ⟨_, rfl⟩
  have e1 : extL (Lq f x0 i) ((f X).take (j + 1)) = extL M [y] := by rw [hM]; exact extL_take hy
  obtain ⟨T, hT⟩ : ∃ T, Lq f x0 (i + 1) = extL M [y] ++ T := by
   obtain ⟨T, hT⟩ := extL_pre ((f X).drop (j + 1)) (extL M [y])
   refine ⟨T, ?_⟩
   rw [hs, ← List.take_append_drop (j + 1) (f X), extL_app, e1, hT]
  have hrw : (rowI (Lq f x0 (i + 1)) (f X)).take (j + 1) = (rowI (Lq f x0 (i + 1)) (f X)).take j ++ [((ixOf (Lq f x0 (i + 1)) y : Nat) : Int)] := by
   have hg : (rowI (Lq f x0 (i + 1)) (f X))[j]? = some ((ixOf (Lq f x0 (i + 1)) y : Nat) : Int) := by
    unfold rowI
    rw [List.getElem?_map, hy, Option.map_some]
   rw [List.take_add_one, hg, Option.toList_some]
  show (y ∈ extL (Lq f x0 i) ((f X).take j) ∧ extL (Lq f x0 i) ((f X).take (j + 1)) = extL (Lq f x0 i) ((f X).take j) ∧ _) ∨ (y ∉ extL (Lq f x0 i) ((f X).take j) ∧ extL (Lq f x0 i) ((f X).take (j + 1)) = extL (Lq f x0 i) ((f X).take j) ++ [y] ∧ _)
  rw [e1, ← hM, hrw, hT]
  by_cases hm : y ∈ M
  ·left
   rw [extL_in hm, idx_app hm]
   exact ⟨hm, rfl, rfl⟩
  ·right
   rw [extL_new hm, idx_app (by simp), idx_new hm]
   exact ⟨hm, rfl, rfl⟩
def clB (D : Dm) (b : Nat) : Nat := (D.cl.getD b 0).toNat
theorem clB_lt {D : Dm} (hl : D.cl.length = 256) {b : Nat} (hb : b < 256) : clB D b < clsA D.cl := by
 obtain ⟨c, hc⟩ : ∃ c, D.cl[b]? = some c := ⟨_, List.getElem?_eq_getElem (by rw [hl]; exact hb)⟩
 have := clsA_lt hl hc
 unfold clB
 rw [List.getD_eq_getElem?_getD, hc]
 exact this
theorem clB_cell {D : Dm} (hl : D.cl.length = 256) {b : Nat} (hb : b < 256) : (bvs D.cl)[b]? = some (.int .u8 (clB D b : Int)) := by
 obtain ⟨c, hc⟩ : ∃ c, D.cl[b]? = some c := ⟨_, List.getElem?_eq_getElem (by rw [hl]; exact hb)⟩
 rw [bvs_get _ _ _ hc]
 unfold clB
 rw [List.getD_eq_getElem?_getD, hc]
 rfl
theorem stD_clB (D : Dm) (s : Nat) {b : Nat} (hb : b < 256) : stD D s (UInt8.ofNat b) = stC D s (clB D b) := by
 rw [stD_stC, toNat_ofNatQ hb]
 rfl
structure MdL (f : Nat → List Nat) (x0 : Nat) (e : Nat → Bool) (i : Nat) (U : Nat → Value) (X : Nat → List Value) (M : List Nat) : Prop where
 a0 : X 0 = (List.range i).map fun q => U (q + 3)
 a1 : X 1 = bools (endsI e (Lq f x0 i) i)
 a2 : X 2 = nums .i64 (M.map fun (q : Nat) => (q : Int))
 ar : ∀ q r, (rowsI f (Lq f x0 i) i)[q]? = some r → X (q + 3) = nums .i64 r
section
variable {f : Nat → List Nat} {x0 : Nat} {e : Nat → Bool} {i : Nat} {U : Nat → Value} {X : Nat → List Value} {M : List Nat}
theorem MdL.more (h : MdL f x0 e i U X M) (hi : i ≤ (Lq f x0 i).length) {v : Value} {l : List Value} : MdL f x0 e i (putV U (3 + i) v) (putX X (3 + i) l) M := by
 refine ⟨?_, by rw [putX_ne (by omega)]; exact h.a1, by rw [putX_ne (by omega)]; exact h.a2, fun q r hr => ?_⟩
 ·rw [putX_ne (by omega), h.a0]
  refine List.map_congr_left fun q hq => ?_
  have := List.mem_range.1 hq
  rw [putV_ne (by omega)]
 ·have hq := (List.getElem?_eq_some_iff.1 hr).1
  rw [rowsI_len hi] at hq
  rw [putX_ne (by omega)]
  exact h.ar q r hr
theorem MdL.push (h : MdL f x0 e i U X M) {v : Value} (y : Nat) : MdL f x0 e i (putV U 2 v) (putX X 2 (nums .i64 ((M ++ [y]).map fun (q : Nat) => (q : Int)))) (M ++ [y]) := by
 refine ⟨?_, by rw [putX_ne (by omega)]; exact h.a1, putX_at _ _ _, fun q r hr => ?_⟩
 ·rw [putX_ne (by omega), h.a0]
  exact List.map_congr_left fun q hq => by rw [putV_ne (by omega)]
 ·rw [putX_ne (by omega)]
  exact h.ar q r hr
theorem MdL.next (h : MdL f x0 e i U X M) {v vn ve : Value} {r : List Int} {b : Bool} {q : Nat} (hq : (Lq f x0 i)[i]? = some q) (hb : e q = b) (hr : r = rowI (Lq f x0 (i + 1)) (f q)) (hu : U (i + 3) = v) (hx : X (i + 3) = nums .i64 r) :
  MdL f x0 e (i + 1) (putV (putV U 0 vn) 1 ve) (putX (putX X 0 ((List.range i).map (fun q => U (q + 3)) ++ [v])) 1 (bools (endsI e (Lq f x0 i) i) ++ [.bool b])) M := by
 have hil := Nat.le_of_lt (List.getElem?_eq_some_iff.1 hq).1
 refine ⟨?_, ?_, by rw [putX_ne (by omega), putX_ne (by omega)]; exact h.a2, fun p y hy => ?_⟩
 ·rw [putX_ne (by omega), putX_at, List.range_succ, List.map_append]
  have e1 : (List.range i).map (fun q => putV (putV U 0 vn) 1 ve (q + 3)) = (List.range i).map fun q => U (q + 3) := List.map_congr_left fun p _ => by rw [putV_ne (by omega), putV_ne (by omega)]
  have e2 : putV (putV U 0 vn) 1 ve (i + 3) = v := by rw [putV_ne (by omega), putV_ne (by omega), hu]
  rw [e1, List.map_cons, List.map_nil, e2]
 ·rw [putX_at, endsI_next hq, hb]
  simp [bools]
 ·rw [putX_ne (by omega), putX_ne (by omega)]
  rw [rowsI_next hq] at hy
  have hl := rowsI_len (f := f) hil
  by_cases hp : p < i
  ·rw [List.getElem?_append_left (by omega)] at hy
   exact h.ar p y hy
  ·have hp2 := (List.getElem?_eq_some_iff.1 hy).1
   rw [List.length_append, hl] at hp2
   obtain rfl : p = i := by simp only [List.length_cons, List.length_nil] at hp2; omega
   rw [List.getElem?_append_right (by omega), hl, Nat.sub_self] at hy
   have e := Option.some.inj hy
   rw [hx, hr, e]
end
structure EnvL (w0 wl : World) (gd H1 : Nat) (cl : List UInt8) (vn ve fv : Value) (kk : Nat) (xs : List Value) : Prop where
 blk : Blk wl gd 28 (dcl cl vn ve)
 own : wl.ownsRow H1 3 1 fv kk xs
 bel : Below gd w0 wl
section
variable {w0 wl w' : World} {gd H H1 kk : Nat} {cl : List UInt8} {vn ve fv : Value} {xs : List Value}
theorem EnvL.off (h : EnvL w0 wl gd H1 cl vn ve fv kk xs) (hd : gd < H) (hf : ∀ k, fv.ownBlock = some k → k < H) (hb : Below H wl w') : EnvL w0 w' gd H1 cl vn ve fv kk xs :=
 ⟨(hb.block gd hd).trans h.blk, own6_stay h.own fun j hj => hb.block j (hf j hj), h.bel.trans (hb.mono (Nat.le_of_lt hd))⟩
theorem EnvL.below (h : EnvL w0 wl gd H1 cl vn ve fv kk xs) (hb : Below wl.heap.size wl w') : EnvL w0 w' gd H1 cl vn ve fv kk xs :=
 ⟨h.blk.below hb h.blk.lt, own6_stay h.own fun j hj => hb.block j (own6_lt h.own j hj).1, h.bel.trans (hb.mono (Nat.le_of_lt h.blk.lt))⟩
theorem EnvL.setn (h : EnvL w0 wl gd H1 cl vn ve fv kk xs) (hl : cl.length = 256) (hg : gd < H1) (v : Value) : EnvL w0 (wl.setCell ⟨gd, 256, none⟩ v) gd H1 cl v ve fv kk xs := by
 have hb : Below gd wl (wl.setCell ⟨gd, 256, none⟩ v) := (Below.refl _ _).setCell (p := ⟨gd, 256, none⟩) (Nat.le_refl _) v
 have h1 := h.blk.set 256 v
 rw [dcl_setn hl] at h1
 exact ⟨h1, own_far h.own hg v, h.bel.trans hb⟩
theorem EnvL.sete (h : EnvL w0 wl gd H1 cl vn ve fv kk xs) (hl : cl.length = 256) (hg : gd < H1) (v : Value) : EnvL w0 (wl.setCell ⟨gd, 257, none⟩ v) gd H1 cl vn v fv kk xs := by
 have hb : Below gd wl (wl.setCell ⟨gd, 257, none⟩ v) := (Below.refl _ _).setCell (p := ⟨gd, 257, none⟩) (Nat.le_refl _) v
 have h1 := h.blk.set 257 v
 rw [dcl_sete hl] at h1
 exact ⟨h1, own_far h.own hg v, h.bel.trans hb⟩
end
theorem MdL.zero {f : Nat → List Nat} {x0 : Nat} {e : Nat → Bool} {v : Value} : MdL f x0 e 0 (putV (fun _ => .slice none 0 0) 2 v) (putX (fun _ => []) 2 (nums .i64 [(x0 : Int)])) [x0] :=
 ⟨rfl, rfl, rfl, fun q r h => (by cases h)⟩
theorem MdL.dfa {f : Nat → List Nat} {x0 : Nat} {e : Nat → Bool} {i : Nat} {U : Nat → Value} {X : Nat → List Value} {M : List Nat} {w : World} {H : Nat} {cl : List UInt8} (h : MdL f x0 e i U X M) (ha : Apt w H (3 + i) U X) (hl : cl.length = 256) (hi : i ≤ (Lq f x0 i).length) :
  DfaV w (dcl cl (U 0) (U 1)) ⟨cl, rowsI f (Lq f x0 i) i, endsI e (Lq f x0 i) i⟩ := by
 have r0 : Row w (U 0) (X 0) := Row.of_own (ha.own 0 (by omega))
 have r1 : Row w (U 1) (X 1) := Row.of_own (ha.own 1 (by omega))
 refine ⟨hl, U 0, U 1, fun q => U (q + 3), rfl, ?_, fun j r hr => ?_, by rw [← h.a1]; exact r1⟩
 ·show Row w (U 0) ((List.range (rowsI f (Lq f x0 i) i).length).map _)
  rw [rowsI_len hi, ← h.a0]
  exact r0
 ·have hr : (rowsI f (Lq f x0 i) i)[j]? = some r := hr
  have hj := (List.getElem?_eq_some_iff.1 hr).1
  rw [rowsI_len hi] at hj
  have r2 : Row w (U (j + 3)) (X (j + 3)) := Row.of_own (ha.own (j + 3) (by omega))
  rw [h.ar j r hr] at r2
  exact r2
theorem n30 (i : Nat) : (0 : Nat) ≠ 3 + i := by omega
theorem n31 (i : Nat) : (1 : Nat) ≠ 3 + i := by omega
theorem n32 (i : Nat) : (2 : Nat) ≠ 3 + i := by omega
section
variable {P : Program} {ops : Array Oper} {Q : Exit → Act → World → Prop} {md : Region.Mode} {T S : World → Prop} {n : Nat}
theorem mc_two {i j : Nat} {oi oj : Oper} {fuel : Nat} {listed : Array Bool} {a : Act} {w : World} (hi : ops[i]? = some oi) (hj : ops[j]? = some oj) (hr : Region.ready md ops listed = [i, j])
  (hwi : Region.wanted oi (yielded ops a.tmps) = true) (hwj : Region.wanted oj (yielded ops a.tmps) = true)
  (h1 : ∀ K : Act → World → Prop, (∀ a' w', T w' → S w' → wpAnyC P md ops Q T S n fuel (listed.setIfInBounds i true) a' w' → K a' w') → oi.wp P a w K Q)
  (h2 : ∀ K : Act → World → Prop, (∀ a' w', T w' → S w' → wpAnyC P md ops Q T S n fuel (listed.setIfInBounds j true) a' w' → K a' w') → oj.wp P a w K Q) :
  wpAnyC P md ops Q T S n (fuel + 1) listed a w := by
 refine ⟨fun h0 => (by rw [hr] at h0; cases h0), fun k hk => ?_⟩
 rw [hr] at hk
 have hk2 : k = i ∨ k = j := by simpa using hk
 unfold wpOp
 rcases hk2 with rfl | rfl
 ·rw [hi]
  simp only [hwi, if_true]
  exact .inl (h1 _ fun a' w' ht hs hk => ⟨ht, fun _ _ => hs, hk⟩)
 ·rw [hj]
  simp only [hwj, if_true]
  exact .inl (h2 _ fun a' w' ht hs hk => ⟨ht, fun _ _ => hs, hk⟩)
end
theorem cell_of_block {w w' : World} {b o : Nat} (h : w'.heap[b]? = w.heap[b]?) : w'.cell? ⟨b, o, none⟩ = w.cell? ⟨b, o, none⟩ := by
 unfold World.cell?
 simp only [h]
theorem own_in {w : World} {H : Nat} {e : TypeId} {v : Value} {n : Nat} {xs : List Value} (h : w.ownsRow H e 1 v n xs) (hn : 0 < n) :
  ∃ g c, v = .slice (some ⟨g, 0, none⟩) n c ∧ n ≤ c ∧ c ≤ maxLen ∧ g < w.heap.size ∧ H ≤ g := by
 have h0 := own6_lt h
 rcases h.2 with ⟨_, e0⟩ | ⟨g, c, cur, hv, hb, hg, hnc, hcm, _⟩
 ·omega
 ·subst hv
  exact ⟨g, c, rfl, hnc, hcm, (h0 g rfl).1, hb⟩
theorem l32 (i : Nat) : 2 < 3 + i := by omega
theorem l32s (i : Nat) : 2 < 3 + i + 1 := by omega
theorem ni32 (i : Nat) : i + 3 ≠ 2 := by omega
theorem ho_snoc {w : World} {B j : Nat} {v : Value} {rl : List Int} {x : Int} (h : w.ownsRow B 3 1 v (j + (nums .i64 [x]).length) (nums .i64 rl ++ nums .i64 [x])) : w.ownsRow B 3 1 v (j + 1) (nums .i64 (rl ++ [x])) := by
 rw [nums_append]
 exact h
theorem bnd_2000 {j n : Nat} (h : j < n) (hn : n ≤ 2000) : j + 1 ≤ 2097152 := by omega
theorem dcl_put {w : World} {g j : Nat} {ps : List (Nat → Bool)} {vn ve : Value} (h : Blk w g 28 (dcl (ctab ps j) vn ve)) (hj : j < 256) (hc : clsOf ps j < 256) :
  Blk (w.setCell ⟨g, j, none⟩ (.int .u8 (clsOf ps j : Int))) g 28 (dcl (ctab ps (j + 1)) vn ve) := by
 have := h.set j (bv (UInt8.ofNat (clsOf ps j)))
 rw [dcl_setc (ctab_length _ _) hj, ctab_next ps j hj, bv_ofNat hc] at this
 exact this
def nat64 (l : List Nat) : List Value := nums .i64 (l.map fun (q : Nat) => (q : Int))
theorem Apt.pick {w : World} {H m m' : Nat} {U U' : Nat → Value} {X X' : Nat → List Value} (h : Apt w H m U X) (σ : Nat → Nat) (hs : ∀ i, i < m' → σ i < m) (hi : ∀ i j, i < m' → j < m' → σ i = σ j → i = j) (ht : ∀ i, i < m' → tyU (σ i) = tyU i) (hU : ∀ i, i < m' → U' i = U (σ i)) (hX : ∀ i, i < m' → X' i = X (σ i)) : Apt w H m' U' X' := by
 refine ⟨fun i h1 => ?_, fun i j h1 h2 hne k hk => ?_⟩
 ·have := h.own (σ i) (hs i h1)
  rw [ht i h1] at this
  rw [hU i h1, hX i h1]
  exact this
 ·rw [hU i h1] at hk
  rw [hU j h2]
  exact h.inj (σ i) (σ j) (hs i h1) (hs j h2) (fun e => hne (hi i j h1 h2 e)) k hk
theorem Apt.congr {w : World} {H m : Nat} {U U' : Nat → Value} {X X' : Nat → List Value} (h : Apt w H m U X) (hU : ∀ i, i < m → U' i = U i) (hX : ∀ i, i < m → X' i = X i) : Apt w H m U' X' :=
 h.pick id (fun i h => h) (fun i j _ _ e => e) (fun i _ => rfl) hU hX
section
variable {w w' w'' : World} {H p n m : Nat} {U : Nat → Value} {X : Nat → List Value} {P : Nat → List Nat} {a : Nat → Nat} {I : Nat → Bool} {c : Nat → Nat} {D D' : Nat → Prop}
end
section
variable {w w' w'' : World} {H p n m m' : Nat} {a a' : Nat → Nat} {I I' : Nat → Bool} {c c' : Nat → Nat} {D : Nat → Prop}
end
theorem Apt.add {w : World} {H M : Nat} {U : Nat → Value} {X : Nat → List Value} {v : Value} {l : List Value} (h : Apt w H M U X) (ho : w.ownsRow H (tyU M) 1 v l.length l) (hd : ∀ i, i < M → ∀ k, (U i).ownBlock = some k → v.ownBlock ≠ some k) : Apt w H (M + 1) (putV U M v) (putX X M l) := by
 refine ⟨fun i hi => ?_, fun i j hi hj hij k hk => ?_⟩
 ·by_cases e : i = M
  ·subst e
   rw [putV_at, putX_at]
   exact ho
  ·rw [putV_ne e, putX_ne e]
   exact h.own i (by omega)
 ·by_cases e : i = M
  ·subst e
   rw [putV_at] at hk
   rw [putV_ne (by omega)]
   exact fun hk2 => hd j (by omega) k hk2 hk
  ·rw [putV_ne e] at hk
   by_cases e2 : j = M
   ·subst e2
    rw [putV_at]
    exact hd i (by omega) k hk
   ·rw [putV_ne e2]
    exact h.inj i j (by omega) (by omega) hij k hk
section
variable {ev : Operand → Value} {o : Oper} {p : Addr} {W : World} {A : Option Addr} {n c : Nat}
theorem lk_ldI (x : Operand) (ho : o.op = .load 3 x) (hx : ev x = .pointer (some p)) {k : Int} (hc : W.cell? p = some (.int .i64 k)) : (execOp ev o).run Try.prog W = .ok (.value (.int .i64 k)) W := by
 simp only [execOp, ho, hx]
 go_simp
theorem lk_ldB (x : Operand) (ho : o.op = .load 4 x) (hx : ev x = .pointer (some p)) {k : Bool} (hc : W.cell? p = some (.bool k)) : (execOp ev o).run Try.prog W = .ok (.value (.bool k)) W := by
 simp only [execOp, ho, hx]
 go_simp
theorem lk_ldU (x : Operand) (ho : o.op = .load 5 x) (hx : ev x = .pointer (some p)) {k : Int} (hc : W.cell? p = some (.int .u8 k)) : (execOp ev o).run Try.prog W = .ok (.value (.int .u8 k)) W := by
 simp only [execOp, ho, hx]
 go_simp
theorem lk_ldIs (x : Operand) (ho : o.op = .load 47 x) (hx : ev x = .pointer (some p)) (hc : W.cell? p = some (.slice A n c)) : (execOp ev o).run Try.prog W = .ok (.value (.slice A n c)) W := by
 simp only [execOp, ho, hx]
 go_simp
theorem lk_ldBs (x : Operand) (ho : o.op = .load 26 x) (hx : ev x = .pointer (some p)) (hc : W.cell? p = some (.slice A n c)) : (execOp ev o).run Try.prog W = .ok (.value (.slice A n c)) W := by
 simp only [execOp, ho, hx]
 go_simp
theorem lk_ldIss (x : Operand) (ho : o.op = .load 25 x) (hx : ev x = .pointer (some p)) (hc : W.cell? p = some (.slice A n c)) : (execOp ev o).run Try.prog W = .ok (.value (.slice A n c)) W := by
 simp only [execOp, ho, hx]
 go_simp
theorem lk_ixI (x i : Operand) (ho : o.op = .indexAddr 47 x i) {b off q : Nat} (hx : ev x = .slice (some ⟨b, off, none⟩) n c) (hi : ev i = .int .i64 (q : Int)) (hq : q < n) (W : World) : (execOp ev o).run Try.prog W = .ok (.value (.pointer (some ⟨b, off + q, none⟩))) W := by
 have h1 : (q : Int) < (n : Int) := Int.ofNat_lt.2 hq
 simp only [execOp, ho, hx, hi]
 go_simp
theorem lk_ixB (x i : Operand) (ho : o.op = .indexAddr 26 x i) {b off q : Nat} (hx : ev x = .slice (some ⟨b, off, none⟩) n c) (hi : ev i = .int .i64 (q : Int)) (hq : q < n) (W : World) : (execOp ev o).run Try.prog W = .ok (.value (.pointer (some ⟨b, off + q, none⟩))) W := by
 have h1 : (q : Int) < (n : Int) := Int.ofNat_lt.2 hq
 simp only [execOp, ho, hx, hi]
 go_simp
theorem lk_ixIs (x i : Operand) (ho : o.op = .indexAddr 25 x i) {b off q : Nat} (hx : ev x = .slice (some ⟨b, off, none⟩) n c) (hi : ev i = .int .i64 (q : Int)) (hq : q < n) (W : World) : (execOp ev o).run Try.prog W = .ok (.value (.pointer (some ⟨b, off + q, none⟩))) W := by
 have h1 : (q : Int) < (n : Int) := Int.ofNat_lt.2 hq
 simp only [execOp, ho, hx, hi]
 go_simp
theorem lk_ixIu (x i : Operand) (ho : o.op = .indexAddr 47 x i) {b off q : Nat} (hx : ev x = .slice (some ⟨b, off, none⟩) n c) (hi : ev i = .int .u8 (q : Int)) (hq : q < n) (W : World) : (execOp ev o).run Try.prog W = .ok (.value (.pointer (some ⟨b, off + q, none⟩))) W := by
 have h1 : (q : Int) < (n : Int) := Int.ofNat_lt.2 hq
 simp only [execOp, ho, hx, hi]
 go_simp
theorem lk_ixB0 (x i : Operand) (ho : o.op = .indexAddr 26 x i) {b q : Nat} (hx : ev x = .slice (some ⟨b, 0, none⟩) n c) (hi : ev i = .int .i64 (q : Int)) (hq : q < n) (W : World) : (execOp ev o).run Try.prog W = .ok (.value (.pointer (some ⟨b, q, none⟩))) W := by
 have := lk_ixB x i ho hx hi hq W
 rwa [Nat.zero_add] at this
end
structure Dr (w : World) (cs : List Value) (D : Dm) (n kd bn on cn be oe ce : Nat) : Prop where
 cs : cs = dcl D.cl (.slice (some ⟨bn, on, none⟩) n cn) (.slice (some ⟨be, oe, none⟩) n ce)
 hl : D.cl.length = 256
 hbn : bn < w.heap.size
 hbe : be < w.heap.size
 row : ∀ s, s < n → ∃ b o cr, w.cell? ⟨bn, on + s, none⟩ = some (.slice (some ⟨b, o, none⟩) kd cr) ∧ b < w.heap.size ∧ Row w (.slice (some ⟨b, o, none⟩) kd cr) (ncs kd fun c => stC D s c)
 ends : ∀ s, s < n → w.cell? ⟨be, oe + s, none⟩ = some (.bool (D.ends.getD s false))
theorem row_stC {D : Dm} (h : MayD D) {s : Nat} {r : List Int} (hr : D.next[s]? = some r) {kd : Nat} (hk : kd = clsA D.cl) : nums .i64 r = ncs kd fun c => stC D s c := by
 have hm := List.mem_of_getElem? hr
 have hl : r.length = kd := by rw [hk]; exact h.rows r hm
 apply List.ext_getElem?
 intro c
 by_cases hc : c < kd
 ·obtain ⟨x, hx⟩ : ∃ x, r[c]? = some x := ⟨_, List.getElem?_eq_getElem (by omega)⟩
  have h2 := h.to r hm x (List.mem_of_getElem? hx)
  rw [ncs_get _ hc, nums, List.getElem?_map, hx, Option.map_some]
  unfold stC
  rw [hr, Option.getD_some, List.getD_eq_getElem?_getD, hx, Option.getD_some, Int.toNat_of_nonneg h2.1]
 ·rw [List.getElem?_eq_none (by rw [nums_length]; omega), List.getElem?_eq_none (by rw [ncs_len]; omega)]
theorem cls_pos {D : Dm} (hl : D.cl.length = 256) : 0 < clsA D.cl := Nat.lt_of_le_of_lt (Nat.zero_le _) (clsA_lt hl (j := 0) (List.getElem?_eq_getElem (by rw [hl]; decide)))
theorem dr_of {w : World} {cs : List Value} {D : Dm} {n kd : Nat} (hv : DfaV w cs D) (hm : MayD D) (hn : n = D.next.length) (hk : kd = clsA D.cl) : ∃ bn on cn be oe ce, Dr w cs D n kd bn on cn be oe ce := by
 obtain ⟨An, Ae, cn, ce, vf, hl, hcs, hx, hr, he⟩ := hv.form
 have hp : 0 < n := by rw [hn]; exact hm.pos
 rw [hm.ends, ← hn] at hcs he
 rw [← hn] at hx
 obtain ⟨be, oe, rfl, hbe, hce⟩ := he.at_ (by rw [bools_length, hm.ends, ← hn]; exact hp)
 obtain ⟨bn, on, rfl, hbn, hcn⟩ := hx.at_ (by rw [List.length_map, List.length_range]; exact hp)
 refine ⟨bn, on, cn, be, oe, ce, hcs, hl, hbn, hbe, fun s hs => ?_, fun s hs => hce s _ (by
  rw [bools, List.getElem?_map, List.getElem?_eq_getElem (by rw [hm.ends, ← hn]; exact hs), List.getD_eq_getElem?_getD, List.getElem?_eq_getElem (by rw [hm.ends, ← hn]; exact hs)]; rfl)⟩
 obtain ⟨r, h1⟩ : ∃ r, D.next[s]? = some r := ⟨_, List.getElem?_eq_getElem (by rw [← hn]; exact hs)⟩
 have h2 : r.length = kd := by rw [hk]; exact hm.rows r (List.mem_of_getElem? h1)
 have h3 := hr s r h1
 obtain ⟨Ar, cr, hvr, _⟩ := id h3
 rw [nums_length, h2] at hvr
 rw [hvr] at h3
 obtain ⟨b, o, rfl, hb, _⟩ := h3.at_ (by rw [nums_length, h2, hk]; exact cls_pos hl)
 rw [row_stC hm h1 hk] at h3
 exact ⟨b, o, cr, hcn s _ (by simp [hs, hvr]), hb, h3⟩
theorem Dr.below {w w' : World} {cs : List Value} {D : Dm} {n kd bn on cn be oe ce : Nat} (h : Dr w cs D n kd bn on cn be oe ce) (hb : Below w.heap.size w w') : Dr w' cs D n kd bn on cn be oe ce :=
 ⟨h.cs, h.hl, Nat.lt_of_lt_of_le h.hbn hb.size, Nat.lt_of_lt_of_le h.hbe hb.size, fun s hs => by
  obtain ⟨b, o, cr, h1, h2, h3⟩ := h.row s hs
  exact ⟨b, o, cr, (hb.cell (p := ⟨bn, on + s, none⟩) h.hbn).trans h1, Nat.lt_of_lt_of_le h2 hb.size, h3.below hb⟩, fun s hs => (hb.cell (p := ⟨be, oe + s, none⟩) h.hbe).trans (h.ends s hs)⟩
theorem Dr.at_ {w : World} {cs : List Value} {D : Dm} {n kd bn on cn be oe ce : Nat} (h : Dr w cs D n kd bn on cn be oe ce) {s c : Nat} (hs : s < n) (hc : c < kd) : ∃ b o cr, w.cell? ⟨bn, on + s, none⟩ = some (.slice (some ⟨b, o, none⟩) kd cr) ∧ b < w.heap.size ∧ w.cell? ⟨b, o + c, none⟩ = some (.int .i64 (stC D s c : Int)) := by
 obtain ⟨b, o, cr, h1, h2, h3⟩ := h.row s hs
 obtain ⟨b', o', e, hb, hcell⟩ := h3.at_ (by rw [ncs_len]; omega)
 injection e with e
 injection e with e1 e2
 subst e1 e2
 exact ⟨b, o, cr, h1, h2, hcell c _ (ncs_get _ hc)⟩
def LnkN (w : World) (v : Value) (n : Nat) (L : Nat → List Nat) : Prop := ∃ F : Nat → Value, Row w v ((List.range n).map F) ∧ ∀ j, j < n → Row w (F j) (nat64 (L j))
theorem LnkN.below {w w' : World} {v : Value} {n : Nat} {L : Nat → List Nat} (h : LnkN w v n L) (hb : Below w.heap.size w w') : LnkN w' v n L := by
 obtain ⟨F, h1, h2⟩ := h
 exact ⟨F, h1.below hb, fun j hj => (h2 j hj).below hb⟩
theorem ix_arr (cs : List Value) (j : Nat) (x : Int) (hj : j < 256) (hx : cs[j]? = some (.int .u8 x)) (w : World) : (Instr.index 24 (.agg cs.toArray) (.int .i64 (j : Int))).run Try.prog w = .ok (.int .u8 x) w := by
 have h1 : (j : Int) < 256 := by omega
 have h0 : (0 : Int) ≤ (j : Int) := by omega
 have hs := size_byte w
 have hj2 : j < cs.length := (List.getElem?_eq_some_iff.1 hx).1
 have he := (List.getElem?_eq_some_iff.1 hx).2
 unfold Instr.index
 simp only [Sem.run_bind, asIntOf]
 go_simp
theorem Row.off {w w' : World} {v : Value} {xs : List Value} {D : Nat → Prop} (h : Row w v xs) (ho : Off D w w') (hd : ∀ k, v.ownBlock = some k → ¬ D k) : Row w' v xs := by
 obtain ⟨A, cap, rfl, h1, h2, h0, h3⟩ := h
 refine ⟨A, cap, rfl, h1, h2, h0, fun hne => ?_⟩
 obtain ⟨b, off, rfl, hb, hc⟩ := h3 hne
 exact ⟨b, off, rfl, Nat.lt_of_lt_of_le hb ho.size, fun i u hu => ho.cell hb (hd b rfl) (hc i u hu)⟩
section
variable {w w1 w' : World} {H p n m : Nat} {D : Nat → Prop} {a : Nat → Nat} {I : Nat → Bool} {c : Nat → Nat}
end
structure LkS (w : World) (B n : Nat) (lv : Value) (i : Nat) (T : Nat → Value) (F : Nat → Nat → Value) (L : Nat → Nat → List Nat) : Prop where
 own : w.ownsRow B 25 1 lv i ((List.range i).map T)
 top : ∀ q, q < i → Row w (T q) ((List.range n).map (F q)) ∧ ∀ k, (T q).ownBlock = some k → B ≤ k ∧ k < w.heap.size ∧ lv.ownBlock ≠ some k
 row : ∀ q j, q < i → j < n → Row w (F q j) (nat64 (L q j)) ∧ ∀ k, (F q j).ownBlock = some k → B ≤ k ∧ k < w.heap.size ∧ lv.ownBlock ≠ some k
section
variable {w w' w'' : World} {B n i : Nat} {lv lv' u : Value} {T : Nat → Value} {F : Nat → Nat → Value} {L : Nat → Nat → List Nat}
theorem LkS.zero (w : World) (B n : Nat) (T : Nat → Value) (F : Nat → Nat → Value) (L : Nat → Nat → List Nat) : LkS w B n (.slice none 0 0) 0 T F L := ⟨ownC_nil _ _ _, fun q hq => absurd hq (Nat.not_lt_zero q), fun q j hq => absurd hq (Nat.not_lt_zero q)⟩
theorem LkS.below (h : LkS w B n lv i T F L) (hb : Below w.heap.size w w') : LkS w' B n lv i T F L :=
 ⟨own6_stay h.own fun j hj => hb.block j (own6_lt h.own j hj).1, fun q hq => ⟨(h.top q hq).1.below hb, fun k hk => by
  obtain ⟨h1, h2, h3⟩ := (h.top q hq).2 k hk
  exact ⟨h1, Nat.lt_of_lt_of_le h2 hb.size, h3⟩⟩, fun q j hq hj => ⟨(h.row q j hq hj).1.below hb, fun k hk => by
  obtain ⟨h1, h2, h3⟩ := (h.row q j hq hj).2 k hk
  exact ⟨h1, Nat.lt_of_lt_of_le h2 hb.size, h3⟩⟩⟩
theorem row_grown {w w' : World} {v : Value} {xs : List Value} {r : Option Nat} (h : Row w v xs) (hg : w.grownBy w' r) (hn : ∀ k, v.ownBlock = some k → r ≠ some k) : Row w' v xs := by
 obtain ⟨A, cap, rfl, h1, h2, h0, h3⟩ := h
 refine ⟨A, cap, rfl, h1, h2, h0, fun hne => ?_⟩
 obtain ⟨b, off, rfl, hb, hc⟩ := h3 hne
 refine ⟨b, off, rfl, Nat.lt_of_lt_of_le hb hg.size, fun i u hu => ?_⟩
 have e := hg.block b hb fun e => hn b rfl (by first | exact e | exact e.symm)
 have := hc i u hu
 unfold World.cell? at this ⊢
 simp only [e]
 exact this
theorem LkS.next {ff : Nat → Value} (h : LkS w B n lv i T F L) (hB : B ≤ w.heap.size) (hb : Below w.heap.size w w') (hu : Row w' u ((List.range n).map ff)) (hub : ∀ k, u.ownBlock = some k → w.heap.size ≤ k ∧ k < w'.heap.size)
  (hf : ∀ j, j < n → Row w' (ff j) (nat64 (L i j)) ∧ ∀ k, (ff j).ownBlock = some k → w.heap.size ≤ k ∧ k < w'.heap.size)
  (ho : w''.ownsRow B 25 1 lv' (i + 1) ((List.range i).map T ++ [u])) (hg : w'.grownBy w'' lv.ownBlock) (hw : ∀ k, lv'.ownBlock = some k → lv.ownBlock = some k ∨ w'.heap.size ≤ k) :
  LkS w'' B n lv' (i + 1) (putV T i u) (fun q => if q = i then ff else F q) L := by
 have hll := own6_lt h.own
 have nw : ∀ k, w.heap.size ≤ k → lv.ownBlock ≠ some k := fun k hk e => by have := (hll k e).1; omega
 have nl : ∀ k, k < w'.heap.size → lv.ownBlock ≠ some k → lv'.ownBlock ≠ some k := fun k hk h1 e => by
  rcases hw k e with e | e
  ·exact h1 e
  ·omega
 have h1 := h.below hb
 have cas : ∀ q, q < i + 1 → q ≠ i → q < i := fun q h1 h2 => by omega
 refine ⟨?_, fun q hq => ?_, fun q j hq hj => ?_⟩
 ·rw [List.range_succ, List.map_append]
  have e1 : (List.range i).map (putV T i u) = (List.range i).map T := List.map_congr_left fun q hq => by
   have := List.mem_range.1 hq
   rw [putV_ne (by omega)]
  rw [e1, List.map_cons, List.map_nil, putV_at]
  exact ho
 ·by_cases e : q = i
  ·subst e
   rw [putV_at, if_pos rfl]
   refine ⟨row_grown hu hg fun k hk => nw k (hub k hk).1, fun k hk => ?_⟩
   obtain ⟨z1, z2⟩ := hub k hk
   exact ⟨Nat.le_trans hB z1, Nat.lt_of_lt_of_le z2 hg.size, nl k z2 (nw k z1)⟩
  ·rw [putV_ne e, if_neg e]
   obtain ⟨z1, z2⟩ := h1.top q (cas q hq e)
   refine ⟨row_grown z1 hg fun k hk => (z2 k hk).2.2, fun k hk => ?_⟩
   obtain ⟨y1, y2, y3⟩ := z2 k hk
   exact ⟨y1, Nat.lt_of_lt_of_le y2 hg.size, nl k y2 y3⟩
 ·show Row w'' ((if q = i then ff else F q) j) _ ∧ ∀ k, ((if q = i then ff else F q) j).ownBlock = some k → _
  by_cases e : q = i
  ·subst e
   rw [if_pos rfl]
   obtain ⟨z1, z2⟩ := hf j hj
   refine ⟨row_grown z1 hg fun k hk => nw k (z2 k hk).1, fun k hk => ?_⟩
   obtain ⟨y1, y2⟩ := z2 k hk
   exact ⟨Nat.le_trans hB y1, Nat.lt_of_lt_of_le y2 hg.size, nl k y2 (nw k y1)⟩
  ·rw [if_neg e]
   obtain ⟨z1, z2⟩ := h1.row q j (cas q hq e) hj
   refine ⟨row_grown z1 hg fun k hk => (z2 k hk).2.2, fun k hk => ?_⟩
   obtain ⟨y1, y2, y3⟩ := z2 k hk
   exact ⟨y1, Nat.lt_of_lt_of_le y2 hg.size, nl k y2 y3⟩
end
def RowI (w : World) (B C : Nat) (v : Value) (xs : List Value) : Prop := Row w v xs ∧ ∀ k, v.ownBlock = some k → B ≤ k ∧ k < C
def LnkK (w : World) (B C : Nat) (v : Value) (K n : Nat) (L : Nat → Nat → List Nat) : Prop :=
 ∃ (T : Nat → Value) (F : Nat → Nat → Value), RowI w B C v ((List.range K).map T) ∧ (∀ q, q < K → RowI w B C (T q) ((List.range n).map (F q))) ∧ ∀ q j, q < K → j < n → RowI w B C (F q j) (nat64 (L q j))
theorem RowI.off {w w' : World} {B C : Nat} {v : Value} {xs : List Value} {D : Nat → Prop} (h : RowI w B C v xs) (ho : Off D w w') (hd : ∀ k, B ≤ k → k < C → ¬ D k) : RowI w' B C v xs :=
 ⟨h.1.off ho fun k hk => hd k (h.2 k hk).1 (h.2 k hk).2, h.2⟩
theorem LnkK.off {w w' : World} {B C K n : Nat} {v : Value} {L : Nat → Nat → List Nat} {D : Nat → Prop} (h : LnkK w B C v K n L) (ho : Off D w w') (hd : ∀ k, B ≤ k → k < C → ¬ D k) : LnkK w' B C v K n L := by
 obtain ⟨T, F, h1, h2, h3⟩ := h
 exact ⟨T, F, h1.off ho hd, fun q hq => (h2 q hq).off ho hd, fun q j hq hj => (h3 q j hq hj).off ho hd⟩
theorem off_grow {D : Nat → Prop} {w w1 w2 : World} {r : Option Nat} (h : Off D w w1) (hg : w1.grownBy w2 r) (hr : ∀ k, r = some k → w.heap.size ≤ k) : Off D w w2 :=
 ⟨hg.os.trans h.os, hg.tape.trans h.tape, hg.output.trans h.output, Nat.le_trans h.size hg.size, fun k hk hn => (hg.block k (Nat.lt_of_lt_of_le hk h.size) fun e => by have := hr k e.symm; omega).trans (h.block k hk hn)⟩
theorem dfaQ_allC (n c : Nat) (ps : List UInt8) : AllC (dfaQ n c ps) := fun k hk => by
 rw [dfaQ_cls] at hk
 refine ⟨UInt8.ofNat (97 + k), ?_⟩
 have h1 : (UInt8.ofNat (97 + k)).toNat = 97 + k := toNat_ofNatQ (by omega)
 rw [h1]
 have h2 := tabQ_at (m := 1 + c % 4) (N := 256) (i := 97 + k) (by omega) (by omega)
 show ((tabQ (1 + c % 4) 256).getD (97 + k) 0).toNat = k
 rw [List.getD_eq_getElem?_getD, h2]
 show (UInt8.ofNat (clsQ (1 + c % 4) (97 + k))).toNat = k
 rw [clsQ_in (by omega) (by omega), toNat_ofNatQ (by omega)]
 omega
section
variable {P : Program} {o : Oper} {a : Act} {w : World} {K : Act → World → Prop} {Q : Exit → Act → World → Prop}
end
theorem fill_cons (pl : Nat → Option (Nat × Nat)) (cells : Array Value) (p : Nat × Value) (r : List (Nat × Value)) : Instr.fill pl cells (p :: r) = (Instr.fill pl cells [p]).bind fun c => Instr.fill pl c r := by
 obtain ⟨i, v⟩ := p
 simp only [Instr.fill]
 cases pl i with
 | none => rfl
 | some q => simp only []; split <;> rfl
theorem fill_e {cl : List UInt8} {A A' : Option Addr} {n c n' c' : Nat} (hl : cl.length = 256) (ve : Value) : Instr.fill (fun i => (#[(0, 256), (256, 1), (257, 1)] : Array (Nat × Nat))[i]?) (dcl cl (.slice A n c) ve).toArray [(2, .slice A' n' c')] = some (dcl cl (.slice A n c) (.slice A' n' c')).toArray := by
 have h1 : (dcl cl (.slice A n c) ve).length = 258 := dcl_len hl
 obtain ⟨d, hd⟩ : ∃ d, d = dcl cl (.slice A n c) ve := ⟨_, rfl⟩
 rw [← hd] at h1
 have h2 : d.set 257 (.slice A' n' c') = dcl cl (.slice A n c) (.slice A' n' c') := by rw [hd]; exact dcl_sete hl _
 rw [← hd, ← h2]
 simp only [Instr.fill, Value.cells]
 rw [show (#[(0, 256), (256, 1), (257, 1)] : Array (Nat × Nat))[2]? = some (257, 1) from rfl]
 simp [h1, List.zipIdx]
theorem built_02 {cl : List UInt8} {A' : Option Addr} {n' c' : Nat} (hl : cl.length = 256) : Try.prog.built 28 [(0, .agg (bvs cl).toArray), (2, .slice A' n' c')] = some (dcl cl (.slice none 0 0) (.slice A' n' c')).toArray := by
 rw [built_df, fill_cons, ← built_df, built_d1 cl hl]
 exact fill_e hl _
section
variable {P : Program} {o : Oper} {a : Act} {w : World} {K : Act → World → Prop} {Q : Exit → Act → World → Prop}
theorem wp_bld0L (t e : TypeId) (ho : o.op = .buildSlice t 0 #[]) (i : TypeInfo) (ht : P.underlying t = some (.slice e)) (hi : P.info? e = some i) (z : Value) (hz : i.zero = some z) (hs : i.size = 1)
  (h : ∀ w', w'.ownsRow w.heap.size e 1 (.slice (some ⟨w.heap.size, 0, none⟩) 0 0) 0 [] → Below w.heap.size w w' → K (a.put o.dst (.slice (some ⟨w.heap.size, 0, none⟩) 0 0)) w') : o.wp P a w K Q := by
 have hrun : (Instr.buildSlice t 0 #[]).run P w = .ok (.slice (some ⟨w.heap.size, 0, none⟩) 0 0) (w.alloc (.cells #[] e)) := by
  simp [Instr.buildSlice, run_underlying ht, sizeOf, typeInfo, hi, hs, Instr.fill, newRow, Array.range_zero']
 unfold Oper.wp
 simp only [execOp, ho, List.map_toArray, List.map_nil, hrun, Sem.run_bind, Result.andThen_ok, Sem.run_pure]
 exact h _ ⟨by simp, .inr ⟨w.heap.size, 0, #[], rfl, Nat.le_refl _, heap_alloc_new w _, Nat.le_refl _, Nat.zero_le _, rfl, rfl⟩⟩ ((Below.refl _ _).alloc (Nat.le_refl _) _)
theorem wp_newL (ty : TypeId) (ho : o.op = .alloc ty) (i : TypeInfo) (z : Value) (cs : List Value) (hi : P.info? ty = some i) (hz : i.zero = some z) (hc : z.cells = cs.toArray)
  (h : ∀ w', Blk w' w.heap.size ty cs → Below w.heap.size w w' → K (a.put o.dst (.pointer (some ⟨w.heap.size, 0, none⟩))) w') : o.wp P a w K Q := by
 unfold Oper.wp
 have hrun : (Instr.alloc ty true (.tuple #[])).run P w = .ok (.pointer (some ⟨w.heap.size, 0, none⟩)) (w.alloc (.cells cs.toArray ty)) := by
  have hzv : (zeroValue ty).run P w = .ok z w := by simp [zeroValue, typeInfo, hi, hz]
  simp [Instr.alloc, hzv, newVar, hc, run_newRow_blk]
 simp only [execOp, ho, hrun, Sem.run_bind, Result.andThen_ok, Sem.run_pure]
 exact h _ (Blk.new w ty cs) ((Below.refl _ _).alloc (Nat.le_refl _) _)
end
end Go.Proofs.Ytaakdebcagdfgaa
