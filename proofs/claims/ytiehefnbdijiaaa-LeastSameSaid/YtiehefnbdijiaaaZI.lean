/-
  Texts of this proof, put together: LpE. No statement is proved here.
-/
import Derived.Test.YtiehefnbdijiaaaZF
import Derived.Test.YtiehefnbdijiaaaZH
namespace Go.Proofs.Ytiehefnbdijiaaa
open Go.RowKit
set_option linter.unusedSimpArgs false
set_option linter.unusedVariables false
structure InG {α : Type} [DecidableEq α] (f : α → List α) (x0 : α) (i kk : Nat) (X : α) (Lj : Nat → List α) (Rw : List Int) : Prop where
 zero : Lj 0 = Lq f x0 i
 nd : ∀ j, (Lj j).Nodup
 at_ : ∀ j, (Lj j)[i]? = some X
 le : ∀ j, (Lj j).length ≤ (Lq f x0 (i + 1)).length
 all : Lj kk = Lq f x0 (i + 1)
 row : Rw = rowI (Lq f x0 (i + 1)) (f X)
 len : Rw.length = kk
 mem : ∀ j, ∀ x ∈ Lj j, x ∈ Lq f x0 (i + 1)
 step : ∀ j y, (f X)[j]? = some y → (y ∈ Lj j ∧ Lj (j + 1) = Lj j ∧ Rw.take (j + 1) = Rw.take j ++ [((ixOf (Lj j) y : Nat) : Int)]) ∨ (y ∉ Lj j ∧ Lj (j + 1) = Lj j ++ [y] ∧ Rw.take (j + 1) = Rw.take j ++ [((Lj j).length : Int)])
theorem inG_is {α : Type} [DecidableEq α] {f : α → List α} {x0 : α} {i kk : Nat} {X : α} (hX : (Lq f x0 i)[i]? = some X) (hk : (f X).length = kk) : ∃ (Lj : Nat → List α) (Rw : List Int), InG f x0 i kk X Lj Rw := by
 have hs : Lq f x0 (i + 1) = extL (Lq f x0 i) (f X) := Lq_step hX
 have hnd : (Lq f x0 i).Nodup := Lq_nodup i
 refine ⟨fun j => extL (Lq f x0 i) ((f X).take j), rowI (Lq f x0 (i + 1)) (f X), ⟨rfl, fun j => extL_nodup _ _ hnd, fun j => ?_, fun j => ?_, ?_, rfl, by rw [rowI_len, hk], fun j x hx => ?_, fun j y hy => ?_⟩⟩
 ·obtain ⟨M, hM⟩ := extL_pre ((f X).take j) (Lq f x0 i)
  show (extL (Lq f x0 i) ((f X).take j))[i]? = some X
  rw [hM, List.getElem?_append_left (List.getElem?_eq_some_iff.1 hX).1]
  exact hX
 ·rw [hs]
  exact extL_take_le _ _ _
 ·show extL (Lq f x0 i) ((f X).take kk) = _
  rw [← hk, List.take_length, hs]
 ·rw [hs]
  have hx : x ∈ extL (Lq f x0 i) ((f X).take j) := hx
  rw [extL_mem] at hx ⊢
  rcases hx with hx | hx
  ·exact .inl hx
  ·exact .inr (List.mem_of_mem_take hx)
 ·obtain ⟨M, hM⟩ : ∃ M, M = extL (Lq f x0 i) ((f X).take j) := ⟨_, rfl⟩
  have e1 : extL (Lq f x0 i) ((f X).take (j + 1)) = extL M [y] := by rw [hM]; exact extL_take hy
  obtain ⟨T, hT⟩ : ∃ T, Lq f x0 (i + 1) = extL M [y] ++ T := by
   obtain ⟨T, hT⟩ := extL_pre ((f X).drop (j + 1)) (extL M [y])
   refine ⟨T, ?_⟩
   rw [hs, ← List.take_append_drop (j + 1) (f X), extL_app, e1, hT]
  have hrw : (rowI (Lq f x0 (i + 1)) (f X)).take (j + 1) = (rowI (Lq f x0 (i + 1)) (f X)).take j ++ [((ixOf (Lq f x0 (i + 1)) y : Nat) : Int)] := by
   have hg : (rowI (Lq f x0 (i + 1)) (f X))[j]? = some ((ixOf (Lq f x0 (i + 1)) y : Nat) : Int) := by
    unfold rowI
    rw [List.getElem?_map, hy, Option.map_some]
   rw [List.take_add_one, hg, Option.toList_some]
  show (y ∈ extL (Lq f x0 i) ((f X).take j) ∧ extL (Lq f x0 i) ((f X).take (j + 1)) = extL (Lq f x0 i) ((f X).take j) ∧ _) ∨ (y ∉ extL (Lq f x0 i) ((f X).take j) ∧ extL (Lq f x0 i) ((f X).take (j + 1)) = extL (Lq f x0 i) ((f X).take j) ++ [y] ∧ _)
  rw [e1, ← hM, hrw, hT]
  by_cases hm : y ∈ M
  ·left
   rw [extL_in hm, idx_app hm]
   exact ⟨hm, rfl, rfl⟩
  ·right
   rw [extL_new hm, idx_app (by simp), idx_new hm]
   exact ⟨hm, rfl, rfl⟩
def clB (D : Dm) (b : Nat) : Nat := (D.cl.getD b 0).toNat
theorem clB_lt {D : Dm} (hl : D.cl.length = 256) {b : Nat} (hb : b < 256) : clB D b < clsA D.cl := by
 obtain ⟨c, hc⟩ : ∃ c, D.cl[b]? = some c := ⟨_, List.getElem?_eq_getElem (by rw [hl]; exact hb)⟩
 have := clsA_lt hl hc
 unfold clB
 rw [List.getD_eq_getElem?_getD, hc]
 exact this
theorem clB_cell {D : Dm} (hl : D.cl.length = 256) {b : Nat} (hb : b < 256) : (bvs D.cl)[b]? = some (.int .u8 (clB D b : Int)) := by
 obtain ⟨c, hc⟩ : ∃ c, D.cl[b]? = some c := ⟨_, List.getElem?_eq_getElem (by rw [hl]; exact hb)⟩
 rw [bvs_get _ _ _ hc]
 unfold clB
 rw [List.getD_eq_getElem?_getD, hc]
 rfl
theorem stD_clB (D : Dm) (s : Nat) {b : Nat} (hb : b < 256) : stD D s (UInt8.ofNat b) = stC D s (clB D b) := by
 rw [stD_stC, toNat_ofNatQ hb]
 rfl
theorem parD_lt {D : Dm} {i n : Nat} (h : i < n) : parD D i < n := Nat.lt_of_le_of_lt (parD_spec D i).2.1 h
theorem QP_lt {D : Dm} (h : MayD D) (hl : D.cl.length = 256) (r : Nat) : ∀ q ∈ QP D r, q < D.next.length :=
 Lq_all (p := fun q => q < D.next.length) (parD_lt h.pos) (fun q hq y hy => by
  obtain ⟨b, hb, rfl⟩ := List.mem_map.1 hy
  have hb2 : b < 256 := firstJ_lt _ 256 b hb
  rw [stD_clB D q hb2]
  exact parD_lt (stC_lt h hq _ (clB_lt hl hb2))) r
theorem QP_le {D : Dm} (h : MayD D) (hl : D.cl.length = 256) (r : Nat) : (QP D r).length ≤ D.next.length := by
 have h1 := nodup_sub (QP D r) (List.range D.next.length) (Lq_nodup r) fun q hq => List.mem_range.2 (QP_lt h hl r q hq)
 rwa [List.length_range] at h1
theorem QP_done {D : Dm} {i : Nat} (h : (QP D i).length = i) : lstD D = ⟨ctab (psL (accD D 0)) 256, rowsI (fP D) (QP D i) i, endsI (fun q => D.ends.getD q false) (QP D i) i⟩ := by
 have hf : FitL (accD D 0) i := by
  show (QL (accD D 0) i).length = i
  rw [QL_QP, List.length_map]
  exact h
 rw [← canN_par]
 exact canD_is hf
structure MdL (f : Nat → List Nat) (x0 : Nat) (e : Nat → Bool) (i : Nat) (U : Nat → Value) (X : Nat → List Value) (M : List Nat) : Prop where
 a0 : X 0 = (List.range i).map fun q => U (q + 3)
 a1 : X 1 = bools (endsI e (Lq f x0 i) i)
 a2 : X 2 = nums .i64 (M.map fun (q : Nat) => (q : Int))
 ar : ∀ q r, (rowsI f (Lq f x0 i) i)[q]? = some r → X (q + 3) = nums .i64 r
section
variable {f : Nat → List Nat} {x0 : Nat} {e : Nat → Bool} {i : Nat} {U : Nat → Value} {X : Nat → List Value} {M : List Nat}
theorem MdL.more (h : MdL f x0 e i U X M) (hi : i ≤ (Lq f x0 i).length) {v : Value} {l : List Value} : MdL f x0 e i (putV U (3 + i) v) (putX X (3 + i) l) M := by
 refine ⟨?_, by rw [putX_ne (by omega)]; exact h.a1, by rw [putX_ne (by omega)]; exact h.a2, fun q r hr => ?_⟩
 ·rw [putX_ne (by omega), h.a0]
  refine List.map_congr_left fun q hq => ?_
  have := List.mem_range.1 hq
  rw [putV_ne (by omega)]
 ·have hq := (List.getElem?_eq_some_iff.1 hr).1
  rw [rowsI_len hi] at hq
  rw [putX_ne (by omega)]
  exact h.ar q r hr
theorem MdL.push (h : MdL f x0 e i U X M) {v : Value} (y : Nat) : MdL f x0 e i (putV U 2 v) (putX X 2 (nums .i64 ((M ++ [y]).map fun (q : Nat) => (q : Int)))) (M ++ [y]) := by
 refine ⟨?_, by rw [putX_ne (by omega)]; exact h.a1, putX_at _ _ _, fun q r hr => ?_⟩
 ·rw [putX_ne (by omega), h.a0]
  exact List.map_congr_left fun q hq => by rw [putV_ne (by omega)]
 ·rw [putX_ne (by omega)]
  exact h.ar q r hr
theorem MdL.next (h : MdL f x0 e i U X M) {v vn ve : Value} {r : List Int} {b : Bool} {q : Nat} (hq : (Lq f x0 i)[i]? = some q) (hb : e q = b) (hr : r = rowI (Lq f x0 (i + 1)) (f q)) (hu : U (i + 3) = v) (hx : X (i + 3) = nums .i64 r) :
  MdL f x0 e (i + 1) (putV (putV U 0 vn) 1 ve) (putX (putX X 0 ((List.range i).map (fun q => U (q + 3)) ++ [v])) 1 (bools (endsI e (Lq f x0 i) i) ++ [.bool b])) M := by
 have hil := Nat.le_of_lt (List.getElem?_eq_some_iff.1 hq).1
 refine ⟨?_, ?_, by rw [putX_ne (by omega), putX_ne (by omega)]; exact h.a2, fun p y hy => ?_⟩
 ·rw [putX_ne (by omega), putX_at, List.range_succ, List.map_append]
  have e1 : (List.range i).map (fun q => putV (putV U 0 vn) 1 ve (q + 3)) = (List.range i).map fun q => U (q + 3) := List.map_congr_left fun p _ => by rw [putV_ne (by omega), putV_ne (by omega)]
  have e2 : putV (putV U 0 vn) 1 ve (i + 3) = v := by rw [putV_ne (by omega), putV_ne (by omega), hu]
  rw [e1, List.map_cons, List.map_nil, e2]
 ·rw [putX_at, endsI_next hq, hb]
  simp [bools]
 ·rw [putX_ne (by omega), putX_ne (by omega)]
  rw [rowsI_next hq] at hy
  have hl := rowsI_len (f := f) hil
  by_cases hp : p < i
  ·rw [List.getElem?_append_left (by omega)] at hy
   exact h.ar p y hy
  ·have hp2 := (List.getElem?_eq_some_iff.1 hy).1
   rw [List.length_append, hl] at hp2
   obtain rfl : p = i := by simp only [List.length_cons, List.length_nil] at hp2; omega
   rw [List.getElem?_append_right (by omega), hl, Nat.sub_self] at hy
   have e := Option.some.inj hy
   rw [hx, hr, e]
end
structure EnvL (w0 wl : World) (gd H1 : Nat) (cl : List UInt8) (vn ve fv : Value) (kk : Nat) (xs : List Value) : Prop where
 blk : Blk wl gd 28 (dcl cl vn ve)
 own : wl.ownsRow H1 3 1 fv kk xs
 bel : Below gd w0 wl
section
variable {w0 wl w' : World} {gd H H1 kk : Nat} {cl : List UInt8} {vn ve fv : Value} {xs : List Value}
theorem EnvL.off (h : EnvL w0 wl gd H1 cl vn ve fv kk xs) (hd : gd < H) (hf : ∀ k, fv.ownBlock = some k → k < H) (hb : Below H wl w') : EnvL w0 w' gd H1 cl vn ve fv kk xs :=
 ⟨(hb.block gd hd).trans h.blk, own6_stay h.own fun j hj => hb.block j (hf j hj), h.bel.trans (hb.mono (Nat.le_of_lt hd))⟩
theorem EnvL.below (h : EnvL w0 wl gd H1 cl vn ve fv kk xs) (hb : Below wl.heap.size wl w') : EnvL w0 w' gd H1 cl vn ve fv kk xs :=
 ⟨h.blk.below hb h.blk.lt, own6_stay h.own fun j hj => hb.block j (own6_lt h.own j hj).1, h.bel.trans (hb.mono (Nat.le_of_lt h.blk.lt))⟩
theorem EnvL.setn (h : EnvL w0 wl gd H1 cl vn ve fv kk xs) (hl : cl.length = 256) (hg : gd < H1) (v : Value) : EnvL w0 (wl.setCell ⟨gd, 256, none⟩ v) gd H1 cl v ve fv kk xs := by
 have hb : Below gd wl (wl.setCell ⟨gd, 256, none⟩ v) := (Below.refl _ _).setCell (p := ⟨gd, 256, none⟩) (Nat.le_refl _) v
 have h1 := h.blk.set 256 v
 rw [dcl_setn hl] at h1
 exact ⟨h1, own_far h.own hg v, h.bel.trans hb⟩
theorem EnvL.sete (h : EnvL w0 wl gd H1 cl vn ve fv kk xs) (hl : cl.length = 256) (hg : gd < H1) (v : Value) : EnvL w0 (wl.setCell ⟨gd, 257, none⟩ v) gd H1 cl vn v fv kk xs := by
 have hb : Below gd wl (wl.setCell ⟨gd, 257, none⟩ v) := (Below.refl _ _).setCell (p := ⟨gd, 257, none⟩) (Nat.le_refl _) v
 have h1 := h.blk.set 257 v
 rw [dcl_sete hl] at h1
 exact ⟨h1, own_far h.own hg v, h.bel.trans hb⟩
end
theorem MdL.zero {f : Nat → List Nat} {x0 : Nat} {e : Nat → Bool} {v : Value} : MdL f x0 e 0 (putV (fun _ => .slice none 0 0) 2 v) (putX (fun _ => []) 2 (nums .i64 [(x0 : Int)])) [x0] :=
 ⟨rfl, rfl, rfl, fun q r h => (by cases h)⟩
theorem MdL.dfa {f : Nat → List Nat} {x0 : Nat} {e : Nat → Bool} {i : Nat} {U : Nat → Value} {X : Nat → List Value} {M : List Nat} {w : World} {H : Nat} {cl : List UInt8} (h : MdL f x0 e i U X M) (ha : Apt w H (3 + i) U X) (hl : cl.length = 256) (hi : i ≤ (Lq f x0 i).length) :
  DfaV w (dcl cl (U 0) (U 1)) ⟨cl, rowsI f (Lq f x0 i) i, endsI e (Lq f x0 i) i⟩ := by
 have r0 : Row w (U 0) (X 0) := Row.of_own (ha.own 0 (by omega))
 have r1 : Row w (U 1) (X 1) := Row.of_own (ha.own 1 (by omega))
 refine ⟨hl, U 0, U 1, fun q => U (q + 3), rfl, ?_, fun j r hr => ?_, by rw [← h.a1]; exact r1⟩
 ·show Row w (U 0) ((List.range (rowsI f (Lq f x0 i) i).length).map _)
  rw [rowsI_len hi, ← h.a0]
  exact r0
 ·have hr : (rowsI f (Lq f x0 i) i)[j]? = some r := hr
  have hj := (List.getElem?_eq_some_iff.1 hr).1
  rw [rowsI_len hi] at hj
  have r2 : Row w (U (j + 3)) (X (j + 3)) := Row.of_own (ha.own (j + 3) (by omega))
  rw [h.ar j r hr] at r2
  exact r2
theorem n30 (i : Nat) : (0 : Nat) ≠ 3 + i := by omega
theorem n31 (i : Nat) : (1 : Nat) ≠ 3 + i := by omega
theorem n32 (i : Nat) : (2 : Nat) ≠ 3 + i := by omega
section
variable {P : Program} {ops : Array Oper} {Q : Exit → Act → World → Prop} {md : Region.Mode} {T S : World → Prop} {n : Nat}
theorem mc_two {i j : Nat} {oi oj : Oper} {fuel : Nat} {listed : Array Bool} {a : Act} {w : World} (hi : ops[i]? = some oi) (hj : ops[j]? = some oj) (hr : Region.ready md ops listed = [i, j])
  (hwi : Region.wanted oi (yielded ops a.tmps) = true) (hwj : Region.wanted oj (yielded ops a.tmps) = true)
  (h1 : ∀ K : Act → World → Prop, (∀ a' w', T w' → S w' → wpAnyC P md ops Q T S n fuel (listed.setIfInBounds i true) a' w' → K a' w') → oi.wp P a w K Q)
  (h2 : ∀ K : Act → World → Prop, (∀ a' w', T w' → S w' → wpAnyC P md ops Q T S n fuel (listed.setIfInBounds j true) a' w' → K a' w') → oj.wp P a w K Q) :
  wpAnyC P md ops Q T S n (fuel + 1) listed a w := by
 refine ⟨fun h0 => (by rw [hr] at h0; cases h0), fun k hk => ?_⟩
 rw [hr] at hk
 have hk2 : k = i ∨ k = j := by simpa using hk
 unfold wpOp
 rcases hk2 with rfl | rfl
 ·rw [hi]
  simp only [hwi, if_true]
  exact .inl (h1 _ fun a' w' ht hs hk => ⟨ht, fun _ _ => hs, hk⟩)
 ·rw [hj]
  simp only [hwj, if_true]
  exact .inl (h2 _ fun a' w' ht hs hk => ⟨ht, fun _ _ => hs, hk⟩)
end
theorem cell_of_block {w w' : World} {b o : Nat} (h : w'.heap[b]? = w.heap[b]?) : w'.cell? ⟨b, o, none⟩ = w.cell? ⟨b, o, none⟩ := by
 unfold World.cell?
 simp only [h]
theorem own_in {w : World} {H : Nat} {e : TypeId} {v : Value} {n : Nat} {xs : List Value} (h : w.ownsRow H e 1 v n xs) (hn : 0 < n) :
  ∃ g c, v = .slice (some ⟨g, 0, none⟩) n c ∧ n ≤ c ∧ c ≤ maxLen ∧ g < w.heap.size ∧ H ≤ g := by
 have h0 := own6_lt h
 rcases h.2 with ⟨_, e0⟩ | ⟨g, c, cur, hv, hb, hg, hnc, hcm, _⟩
 ·omega
 ·subst hv
  exact ⟨g, c, rfl, hnc, hcm, (h0 g rfl).1, hb⟩
theorem l32 (i : Nat) : 2 < 3 + i := by omega
theorem l32s (i : Nat) : 2 < 3 + i + 1 := by omega
theorem ni32 (i : Nat) : i + 3 ≠ 2 := by omega
theorem ho_snoc {w : World} {B j : Nat} {v : Value} {rl : List Int} {x : Int} (h : w.ownsRow B 3 1 v (j + (nums .i64 [x]).length) (nums .i64 rl ++ nums .i64 [x])) : w.ownsRow B 3 1 v (j + 1) (nums .i64 (rl ++ [x])) := by
 rw [nums_append]
 exact h
theorem bnd_2000 {j n : Nat} (h : j < n) (hn : n ≤ 2000) : j + 1 ≤ 2097152 := by omega
theorem bnd_2001 {j n : Nat} (h : j ≤ n) (hn : n ≤ 2000) : j + 1 ≤ 2097152 := by omega
theorem dcl_put {w : World} {g j : Nat} {ps : List (Nat → Bool)} {vn ve : Value} (h : Blk w g 28 (dcl (ctab ps j) vn ve)) (hj : j < 256) (hc : clsOf ps j < 256) :
  Blk (w.setCell ⟨g, j, none⟩ (.int .u8 (clsOf ps j : Int))) g 28 (dcl (ctab ps (j + 1)) vn ve) := by
 have := h.set j (bv (UInt8.ofNat (clsOf ps j)))
 rw [dcl_setc (ctab_length _ _) hj, ctab_next ps j hj, bv_ofNat hc] at this
 exact this
end Go.Proofs.Ytiehefnbdijiaaa
