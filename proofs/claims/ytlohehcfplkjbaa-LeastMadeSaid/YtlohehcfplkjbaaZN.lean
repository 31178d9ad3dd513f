/-
  Texts of this proof, put together: LpE, LqA, LqB. No statement is proved here.
-/
import Derived.Test.YtlohehcfplkjbaaZK
import Derived.Test.YtlohehcfplkjbaaZM
import Derived.Test.YtlohehcfplkjbaaZJ
import Derived.Test.YtlohehcfplkjbaaZE
namespace Go.Proofs.Ytlohehcfplkjbaa
open Go.RowKit
set_option linter.unusedSimpArgs false
set_option linter.unusedVariables false
structure InG {α : Type} [DecidableEq α] (f : α → List α) (x0 : α) (i kk : Nat) (X : α) (Lj : Nat → List α) (Rw : List Int) : Prop where
 zero : Lj 0 = Lq f x0 i
 nd : ∀ j, (Lj j).Nodup
 at_ : ∀ j, (Lj j)[i]? = some X
 le : ∀ j, (Lj j).length ≤ (Lq f x0 (i + 1)).length
 all : Lj kk = Lq f x0 (i + 1)
 row : Rw = rowI (Lq f x0 (i + 1)) (f X)
 len : Rw.length = kk
 mem : ∀ j, ∀ x ∈ Lj j, x ∈ Lq f x0 (i + 1)
 step : ∀ j y, (f X)[j]? = some y → (y ∈ Lj j ∧ Lj (j + 1) = Lj j ∧ Rw.take (j + 1) = Rw.take j ++ [((ixOf (Lj j) y : Nat) : Int)]) ∨ (y ∉ Lj j ∧ Lj (j + 1) = Lj j ++ [y] ∧ Rw.take (j + 1) = Rw.take j ++ [((Lj j).length : Int)])
theorem inG_is {α : Type} [DecidableEq α] {f : α → List α} {x0 : α} {i kk : Nat} {X : α} (hX : (Lq f x0 i)[i]? = some X) (hk : (f X).length = kk) : ∃ (Lj : Nat → List α) (Rw : List Int), InG f x0 i kk X Lj Rw := by
 have hs : Lq f x0 (i + 1) = extL (Lq f x0 i) (f X) := Lq_step hX
 have hnd : (Lq f x0 i).Nodup := Lq_nodup i
 refine ⟨fun j => extL (Lq f x0 i) ((f X).take j), rowI (Lq f x0 (i + 1)) (f X), ⟨rfl, fun j => extL_nodup _ _ hnd, fun j => ?_, fun j => ?_, ?_, rfl, by rw [rowI_len, hk], fun j x hx => ?_, fun j y hy => ?_⟩⟩
 ·obtain ⟨M, hM⟩ := extL_pre ((f X).take j) (Lq f x0 i)
  show (extL (Lq f x0 i) ((f X).take j))[i]? = some X
  rw [hM, List.getElem?_append_left (List.getElem?_eq_some_iff.1 hX).1]
  exact hX
 ·rw [hs]
  exact extL_take_le _ _ _
 ·show extL (Lq f x0 i) ((f X).take kk) = _
  rw [← hk, List.take_length, hs]
 ·rw [hs]
  have hx : x ∈ extL (Lq f x0 i) ((f X).take j) := hx
  rw [extL_mem] at hx ⊢
  rcases hx with hx | hx
  ·exact .inl hx
  ·exact .inr (List.mem_of_mem_take hx)
 ·obtain ⟨M, hM⟩ : ∃ M, M = extL (Lq f x0 i) ((f X).take j) := ⟨_, rfl⟩
  have e1 : extL (Lq f x0 i) ((f X).take (j + 1)) = extL M [y] := by rw [hM]; exact extL_take hy
  obtain ⟨T, hT⟩ : ∃ T, Lq f x0 (i + 1) = extL M [y] ++ T := by
   obtain ⟨T, hT⟩ := extL_pre ((f X).drop (j + 1)) (extL M [y])
   refine ⟨T, ?_⟩
   rw [hs, ← List.take_append_drop (j + 1) (f X), extL_app, e1, hT]
  have hrw : (rowI (Lq f x0 (i + 1)) (f X)).take (j + 1) = (rowI (Lq f x0 (i + 1)) (f X)).take j ++ [((ixOf (Lq f x0 (i + 1)) y : Nat) : Int)] := by
   have hg : (rowI (Lq f x0 (i + 1)) (f X))[j]? = some ((ixOf (Lq f x0 (i + 1)) y : Nat) : Int) := by
    unfold rowI
    rw [List.getElem?_map, hy, Option.map_some]
   rw [List.take_add_one, hg, Option.toList_some]
  show (y ∈ extL (Lq f x0 i) ((f X).take j) ∧ extL (Lq f x0 i) ((f X).take (j + 1)) = extL (Lq f x0 i) ((f X).take j) ∧ _) ∨ (y ∉ extL (Lq f x0 i) ((f X).take j) ∧ extL (Lq f x0 i) ((f X).take (j + 1)) = extL (Lq f x0 i) ((f X).take j) ++ [y] ∧ _)
  rw [e1, ← hM, hrw, hT]
  by_cases hm : y ∈ M
  ·left
   rw [extL_in hm, idx_app hm]
   exact ⟨hm, rfl, rfl⟩
  ·right
   rw [extL_new hm, idx_app (by simp), idx_new hm]
   exact ⟨hm, rfl, rfl⟩
def clB (D : Dm) (b : Nat) : Nat := (D.cl.getD b 0).toNat
theorem clB_lt {D : Dm} (hl : D.cl.length = 256) {b : Nat} (hb : b < 256) : clB D b < clsA D.cl := by
 obtain ⟨c, hc⟩ : ∃ c, D.cl[b]? = some c := ⟨_, List.getElem?_eq_getElem (by rw [hl]; exact hb)⟩
 have := clsA_lt hl hc
 unfold clB
 rw [List.getD_eq_getElem?_getD, hc]
 exact this
theorem clB_cell {D : Dm} (hl : D.cl.length = 256) {b : Nat} (hb : b < 256) : (bvs D.cl)[b]? = some (.int .u8 (clB D b : Int)) := by
 obtain ⟨c, hc⟩ : ∃ c, D.cl[b]? = some c := ⟨_, List.getElem?_eq_getElem (by rw [hl]; exact hb)⟩
 rw [bvs_get _ _ _ hc]
 unfold clB
 rw [List.getD_eq_getElem?_getD, hc]
 rfl
theorem stD_clB (D : Dm) (s : Nat) {b : Nat} (hb : b < 256) : stD D s (UInt8.ofNat b) = stC D s (clB D b) := by
 rw [stD_stC, toNat_ofNatQ hb]
 rfl
theorem alk_psL {D : Dm} (h : MayD D) (hl : D.cl.length = 256) (ha : AllC D) {n b c : Nat} (hn : n = D.next.length) (hb : b < 256) (hc : c < 256) :
  alkG D (parD D) (reaB D) n (clB D b) (clB D c) = alikeS (psL (accD D 0)) b c := by
 rw [Bool.eq_iff_iff, alkG_iff, psL_alike hb hc, alL_par h hl ha, hn]
 constructor
 ·intro h1 i hi hr
  rw [stD_clB D i hb, stD_clB D i hc]
  exact h1 i hi hr
 ·intro h1 i hi hr
  have h2 := h1 i hi hr
  rw [stD_clB D i hb, stD_clB D i hc] at h2
  exact h2
theorem fbL_at {L : Lang} {k b : Nat} (h : (fbL L)[k]? = some b) : b < 256 := firstJ_lt _ 256 b (List.mem_of_getElem? h)
theorem fP_get {D : Dm} {q k b : Nat} (h : (fbL (accD D 0))[k]? = some b) : (fP D q)[k]? = some (parD D (stC D q (clB D b))) := by
 unfold fP
 rw [List.getElem?_map, h, Option.map_some, stD_clB D q (fbL_at h)]
theorem fP_len (D : Dm) (q : Nat) : (fP D q).length = (fbL (accD D 0)).length := by simp [fP]
theorem parD_lt {D : Dm} {i n : Nat} (h : i < n) : parD D i < n := Nat.lt_of_le_of_lt (parD_spec D i).2.1 h
theorem QP_lt {D : Dm} (h : MayD D) (hl : D.cl.length = 256) (r : Nat) : ∀ q ∈ QP D r, q < D.next.length :=
 Lq_all (p := fun q => q < D.next.length) (parD_lt h.pos) (fun q hq y hy => by
  obtain ⟨b, hb, rfl⟩ := List.mem_map.1 hy
  have hb2 : b < 256 := firstJ_lt _ 256 b hb
  rw [stD_clB D q hb2]
  exact parD_lt (stC_lt h hq _ (clB_lt hl hb2))) r
theorem QP_le {D : Dm} (h : MayD D) (hl : D.cl.length = 256) (r : Nat) : (QP D r).length ≤ D.next.length := by
 have h1 := nodup_sub (QP D r) (List.range D.next.length) (Lq_nodup r) fun q hq => List.mem_range.2 (QP_lt h hl r q hq)
 rwa [List.length_range] at h1
theorem QP_done {D : Dm} {i : Nat} (h : (QP D i).length = i) : lstD D = ⟨ctab (psL (accD D 0)) 256, rowsI (fP D) (QP D i) i, endsI (fun q => D.ends.getD q false) (QP D i) i⟩ := by
 have hf : FitL (accD D 0) i := by
  show (QL (accD D 0) i).length = i
  rw [QL_QP, List.length_map]
  exact h
 rw [← canN_par]
 exact canD_is hf
structure MdL (f : Nat → List Nat) (x0 : Nat) (e : Nat → Bool) (i : Nat) (U : Nat → Value) (X : Nat → List Value) (M : List Nat) : Prop where
 a0 : X 0 = (List.range i).map fun q => U (q + 3)
 a1 : X 1 = bools (endsI e (Lq f x0 i) i)
 a2 : X 2 = nums .i64 (M.map fun (q : Nat) => (q : Int))
 ar : ∀ q r, (rowsI f (Lq f x0 i) i)[q]? = some r → X (q + 3) = nums .i64 r
section
variable {f : Nat → List Nat} {x0 : Nat} {e : Nat → Bool} {i : Nat} {U : Nat → Value} {X : Nat → List Value} {M : List Nat}
theorem MdL.more (h : MdL f x0 e i U X M) (hi : i ≤ (Lq f x0 i).length) {v : Value} {l : List Value} : MdL f x0 e i (putV U (3 + i) v) (putX X (3 + i) l) M := by
 refine ⟨?_, by rw [putX_ne (by omega)]; exact h.a1, by rw [putX_ne (by omega)]; exact h.a2, fun q r hr => ?_⟩
 ·rw [putX_ne (by omega), h.a0]
  refine List.map_congr_left fun q hq => ?_
  have := List.mem_range.1 hq
  rw [putV_ne (by omega)]
 ·have hq := (List.getElem?_eq_some_iff.1 hr).1
  rw [rowsI_len hi] at hq
  rw [putX_ne (by omega)]
  exact h.ar q r hr
theorem MdL.push (h : MdL f x0 e i U X M) {v : Value} (y : Nat) : MdL f x0 e i (putV U 2 v) (putX X 2 (nums .i64 ((M ++ [y]).map fun (q : Nat) => (q : Int)))) (M ++ [y]) := by
 refine ⟨?_, by rw [putX_ne (by omega)]; exact h.a1, putX_at _ _ _, fun q r hr => ?_⟩
 ·rw [putX_ne (by omega), h.a0]
  exact List.map_congr_left fun q hq => by rw [putV_ne (by omega)]
 ·rw [putX_ne (by omega)]
  exact h.ar q r hr
theorem MdL.next (h : MdL f x0 e i U X M) {v vn ve : Value} {r : List Int} {b : Bool} {q : Nat} (hq : (Lq f x0 i)[i]? = some q) (hb : e q = b) (hr : r = rowI (Lq f x0 (i + 1)) (f q)) (hu : U (i + 3) = v) (hx : X (i + 3) = nums .i64 r) :
  MdL f x0 e (i + 1) (putV (putV U 0 vn) 1 ve) (putX (putX X 0 ((List.range i).map (fun q => U (q + 3)) ++ [v])) 1 (bools (endsI e (Lq f x0 i) i) ++ [.bool b])) M := by
 have hil := Nat.le_of_lt (List.getElem?_eq_some_iff.1 hq).1
 refine ⟨?_, ?_, by rw [putX_ne (by omega), putX_ne (by omega)]; exact h.a2, fun p y hy => ?_⟩
 ·rw [putX_ne (by omega), putX_at, List.range_succ, List.map_append]
  have e1 : (List.range i).map (fun q => putV (putV U 0 vn) 1 ve (q + 3)) = (List.range i).map fun q => U (q + 3) := List.map_congr_left fun p _ => by rw [putV_ne (by omega), putV_ne (by omega)]
  have e2 : putV (putV U 0 vn) 1 ve (i + 3) = v := by rw [putV_ne (by omega), putV_ne (by omega), hu]
  rw [e1, List.map_cons, List.map_nil, e2]
 ·rw [putX_at, endsI_next hq, hb]
  simp [bools]
 ·rw [putX_ne (by omega), putX_ne (by omega)]
  rw [rowsI_next hq] at hy
  have hl := rowsI_len (f := f) hil
  by_cases hp : p < i
  ·rw [List.getElem?_append_left (by omega)] at hy
   exact h.ar p y hy
  ·have hp2 := (List.getElem?_eq_some_iff.1 hy).1
   rw [List.length_append, hl] at hp2
   obtain rfl : p = i := by simp only [List.length_cons, List.length_nil] at hp2; omega
   rw [List.getElem?_append_right (by omega), hl, Nat.sub_self] at hy
   have e := Option.some.inj hy
   rw [hx, hr, e]
end
structure EnvL (w0 wl : World) (gd H1 : Nat) (cl : List UInt8) (vn ve fv : Value) (kk : Nat) (xs : List Value) : Prop where
 blk : Blk wl gd 28 (dcl cl vn ve)
 own : wl.ownsRow H1 3 1 fv kk xs
 bel : Below gd w0 wl
section
variable {w0 wl w' : World} {gd H H1 kk : Nat} {cl : List UInt8} {vn ve fv : Value} {xs : List Value}
theorem EnvL.off (h : EnvL w0 wl gd H1 cl vn ve fv kk xs) (hd : gd < H) (hf : ∀ k, fv.ownBlock = some k → k < H) (hb : Below H wl w') : EnvL w0 w' gd H1 cl vn ve fv kk xs :=
 ⟨(hb.block gd hd).trans h.blk, own6_stay h.own fun j hj => hb.block j (hf j hj), h.bel.trans (hb.mono (Nat.le_of_lt hd))⟩
theorem EnvL.below (h : EnvL w0 wl gd H1 cl vn ve fv kk xs) (hb : Below wl.heap.size wl w') : EnvL w0 w' gd H1 cl vn ve fv kk xs :=
 ⟨h.blk.below hb h.blk.lt, own6_stay h.own fun j hj => hb.block j (own6_lt h.own j hj).1, h.bel.trans (hb.mono (Nat.le_of_lt h.blk.lt))⟩
theorem EnvL.setn (h : EnvL w0 wl gd H1 cl vn ve fv kk xs) (hl : cl.length = 256) (hg : gd < H1) (v : Value) : EnvL w0 (wl.setCell ⟨gd, 256, none⟩ v) gd H1 cl v ve fv kk xs := by
 have hb : Below gd wl (wl.setCell ⟨gd, 256, none⟩ v) := (Below.refl _ _).setCell (p := ⟨gd, 256, none⟩) (Nat.le_refl _) v
 have h1 := h.blk.set 256 v
 rw [dcl_setn hl] at h1
 exact ⟨h1, own_far h.own hg v, h.bel.trans hb⟩
theorem EnvL.sete (h : EnvL w0 wl gd H1 cl vn ve fv kk xs) (hl : cl.length = 256) (hg : gd < H1) (v : Value) : EnvL w0 (wl.setCell ⟨gd, 257, none⟩ v) gd H1 cl vn v fv kk xs := by
 have hb : Below gd wl (wl.setCell ⟨gd, 257, none⟩ v) := (Below.refl _ _).setCell (p := ⟨gd, 257, none⟩) (Nat.le_refl _) v
 have h1 := h.blk.set 257 v
 rw [dcl_sete hl] at h1
 exact ⟨h1, own_far h.own hg v, h.bel.trans hb⟩
end
theorem apt_one {w : World} {H : Nat} {v : Value} {l : List Value} (ho : w.ownsRow H 3 1 v l.length l) : Apt w H 3 (putV (fun _ => .slice none 0 0) 2 v) (putX (fun _ => []) 2 l) := by
 refine ⟨fun i hi => ?_, fun i j hi hj hij k hk => ?_⟩
 ·by_cases h : i = 2
  ·subst h
   rw [putV_at, putX_at]
   exact ho
  ·rw [putV_ne h, putX_ne h]
   exact ownC_nil _ _ _
 ·by_cases h : i = 2
  ·rw [putV_ne (by omega)]
   intro e
   cases (show (none : Option Nat) = some k from e)
  ·rw [putV_ne h] at hk
   cases (show (none : Option Nat) = some k from hk)
theorem MdL.zero {f : Nat → List Nat} {x0 : Nat} {e : Nat → Bool} {v : Value} : MdL f x0 e 0 (putV (fun _ => .slice none 0 0) 2 v) (putX (fun _ => []) 2 (nums .i64 [(x0 : Int)])) [x0] :=
 ⟨rfl, rfl, rfl, fun q r h => (by cases h)⟩
theorem MdL.dfa {f : Nat → List Nat} {x0 : Nat} {e : Nat → Bool} {i : Nat} {U : Nat → Value} {X : Nat → List Value} {M : List Nat} {w : World} {H : Nat} {cl : List UInt8} (h : MdL f x0 e i U X M) (ha : Apt w H (3 + i) U X) (hl : cl.length = 256) (hi : i ≤ (Lq f x0 i).length) :
  DfaV w (dcl cl (U 0) (U 1)) ⟨cl, rowsI f (Lq f x0 i) i, endsI e (Lq f x0 i) i⟩ := by
 have r0 : Row w (U 0) (X 0) := Row.of_own (ha.own 0 (by omega))
 have r1 : Row w (U 1) (X 1) := Row.of_own (ha.own 1 (by omega))
 refine ⟨hl, U 0, U 1, fun q => U (q + 3), rfl, ?_, fun j r hr => ?_, by rw [← h.a1]; exact r1⟩
 ·show Row w (U 0) ((List.range (rowsI f (Lq f x0 i) i).length).map _)
  rw [rowsI_len hi, ← h.a0]
  exact r0
 ·have hr : (rowsI f (Lq f x0 i) i)[j]? = some r := hr
  have hj := (List.getElem?_eq_some_iff.1 hr).1
  rw [rowsI_len hi] at hj
  have r2 : Row w (U (j + 3)) (X (j + 3)) := Row.of_own (ha.own (j + 3) (by omega))
  rw [h.ar j r hr] at r2
  exact r2
theorem n30 (i : Nat) : (0 : Nat) ≠ 3 + i := by omega
theorem n31 (i : Nat) : (1 : Nat) ≠ 3 + i := by omega
theorem n32 (i : Nat) : (2 : Nat) ≠ 3 + i := by omega
section
variable {P : Program} {ops : Array Oper} {Q : Exit → Act → World → Prop} {md : Region.Mode} {T S : World → Prop} {n : Nat}
theorem mc_two {i j : Nat} {oi oj : Oper} {fuel : Nat} {listed : Array Bool} {a : Act} {w : World} (hi : ops[i]? = some oi) (hj : ops[j]? = some oj) (hr : Region.ready md ops listed = [i, j])
  (hwi : Region.wanted oi (yielded ops a.tmps) = true) (hwj : Region.wanted oj (yielded ops a.tmps) = true)
  (h1 : ∀ K : Act → World → Prop, (∀ a' w', T w' → S w' → wpAnyC P md ops Q T S n fuel (listed.setIfInBounds i true) a' w' → K a' w') → oi.wp P a w K Q)
  (h2 : ∀ K : Act → World → Prop, (∀ a' w', T w' → S w' → wpAnyC P md ops Q T S n fuel (listed.setIfInBounds j true) a' w' → K a' w') → oj.wp P a w K Q) :
  wpAnyC P md ops Q T S n (fuel + 1) listed a w := by
 refine ⟨fun h0 => (by rw [hr] at h0; cases h0), fun k hk => ?_⟩
 rw [hr] at hk
 have hk2 : k = i ∨ k = j := by simpa using hk
 unfold wpOp
 rcases hk2 with rfl | rfl
 ·rw [hi]
  simp only [hwi, if_true]
  exact .inl (h1 _ fun a' w' ht hs hk => ⟨ht, fun _ _ => hs, hk⟩)
 ·rw [hj]
  simp only [hwj, if_true]
  exact .inl (h2 _ fun a' w' ht hs hk => ⟨ht, fun _ _ => hs, hk⟩)
end
theorem l31s (i : Nat) : 1 < 3 + i + 1 := by omega
theorem cell_of_block {w w' : World} {b o : Nat} (h : w'.heap[b]? = w.heap[b]?) : w'.cell? ⟨b, o, none⟩ = w.cell? ⟨b, o, none⟩ := by
 unfold World.cell?
 simp only [h]
theorem own_in {w : World} {H : Nat} {e : TypeId} {v : Value} {n : Nat} {xs : List Value} (h : w.ownsRow H e 1 v n xs) (hn : 0 < n) :
  ∃ g c, v = .slice (some ⟨g, 0, none⟩) n c ∧ n ≤ c ∧ c ≤ maxLen ∧ g < w.heap.size ∧ H ≤ g := by
 have h0 := own6_lt h
 rcases h.2 with ⟨_, e0⟩ | ⟨g, c, cur, hv, hb, hg, hnc, hcm, _⟩
 ·omega
 ·subst hv
  exact ⟨g, c, rfl, hnc, hcm, (h0 g rfl).1, hb⟩
theorem l32 (i : Nat) : 2 < 3 + i := by omega
theorem l32s (i : Nat) : 2 < 3 + i + 1 := by omega
theorem l3is (i : Nat) : i + 3 < 3 + i + 1 := by omega
theorem own_at3 {w : World} {H i n : Nat} {U : Nat → Value} {X : Nat → List Value} {v : Value} {r : List Int} (h : Apt w H (3 + i + 1) U X) (hv : U (i + 3) = v) (hx : X (i + 3) = nums .i64 r) (hr : r.length = n) : w.ownsRow H 3 1 v n (nums .i64 r) := by
 have h1 := h.own (i + 3) (l3is i)
 rw [show tyU (i + 3) = 3 from rfl, hx, nums_length, hv, hr] at h1
 exact h1
theorem own_at2 {w : World} {H i n : Nat} {U : Nat → Value} {X : Nat → List Value} {v : Value} {M : List Nat} (h : Apt w H (3 + i + 1) U X) (hv : U 2 = v) (hx : X 2 = nums .i64 (M.map fun (q : Nat) => (q : Int))) (hr : n = M.length) : w.ownsRow H 3 1 v n (nums .i64 (M.map fun (q : Nat) => (q : Int))) := by
 have h1 := h.own 2 (l32s i)
 rw [show tyU 2 = 3 from rfl, hx, nums_length, List.length_map, ← hr, hv] at h1
 exact h1
theorem row_grow {w w' : World} {H i n : Nat} {U : Nat → Value} {X : Nat → List Value} {v v' : Value} {r' : List Int} (h : Apt w H (3 + i + 1) U X) (hv : U (i + 3) = v) (ho : w'.ownsRow H 3 1 v' n (nums .i64 r')) (hr : r'.length = n) (hg : w.grownBy w' v.ownBlock) (hw : ∀ k, v'.ownBlock = some k → v.ownBlock = some k ∨ w.heap.size ≤ k) :
  Apt w' H (3 + i + 1) (putV U (3 + i) v') (putX X (3 + i) (nums .i64 r')) := by
 have e : U (3 + i) = v := by rw [Nat.add_comm 3 i, hv]
 refine h.grow (s := 3 + i) (Nat.lt_succ_self _) ?_ (by rw [e]; exact hg) (by rw [e]; exact hw)
 rw [nums_length, hr, Nat.add_comm 3 i]
 exact ho
theorem list_grow {w w' : World} {H i n : Nat} {U : Nat → Value} {X : Nat → List Value} {v v' : Value} {M : List Nat} (h : Apt w H (3 + i + 1) U X) (hv : U 2 = v) (ho : w'.ownsRow H 3 1 v' n (nums .i64 (M.map fun (q : Nat) => (q : Int)))) (hr : n = M.length) (hg : w.grownBy w' v.ownBlock) (hw : ∀ k, v'.ownBlock = some k → v.ownBlock = some k ∨ w.heap.size ≤ k) :
  Apt w' H (3 + i + 1) (putV U 2 v') (putX X 2 (nums .i64 (M.map fun (q : Nat) => (q : Int)))) := by
 refine h.grow (s := 2) (l32s i) ?_ (by rw [hv]; exact hg) (by rw [hv]; exact hw)
 rw [nums_length, List.length_map, ← hr]
 exact ho
theorem ni32 (i : Nat) : i + 3 ≠ 2 := by omega
theorem ho_snoc {w : World} {B j : Nat} {v : Value} {rl : List Int} {x : Int} (h : w.ownsRow B 3 1 v (j + (nums .i64 [x]).length) (nums .i64 rl ++ nums .i64 [x])) : w.ownsRow B 3 1 v (j + 1) (nums .i64 (rl ++ [x])) := by
 rw [nums_append]
 exact h
theorem ho_snocM {w : World} {B j : Nat} {v : Value} {M : List Nat} {t : Nat} (h : w.ownsRow B 3 1 v (j + (nums .i64 [(t : Int)]).length) (nums .i64 (M.map fun (q : Nat) => (q : Int)) ++ nums .i64 [(t : Int)])) : w.ownsRow B 3 1 v (j + 1) (nums .i64 ((M ++ [t]).map fun (q : Nat) => (q : Int))) := by
 rw [List.map_append, nums_append]
 exact h
theorem len_snoc {α : Type} {l : List α} {n : Nat} (h : l.length = n) (x : α) : (l ++ [x]).length = n + 1 := by rw [List.length_append, h]; rfl
theorem bnd_2000 {j n : Nat} (h : j < n) (hn : n ≤ 2000) : j + 1 ≤ 2097152 := by omega
theorem bnd_2001 {j n : Nat} (h : j ≤ n) (hn : n ≤ 2000) : j + 1 ≤ 2097152 := by omega
theorem dcl_put {w : World} {g j : Nat} {ps : List (Nat → Bool)} {vn ve : Value} (h : Blk w g 28 (dcl (ctab ps j) vn ve)) (hj : j < 256) (hc : clsOf ps j < 256) :
  Blk (w.setCell ⟨g, j, none⟩ (.int .u8 (clsOf ps j : Int))) g 28 (dcl (ctab ps (j + 1)) vn ve) := by
 have := h.set j (bv (UInt8.ofNat (clsOf ps j)))
 rw [dcl_setc (ctab_length _ _) hj, ctab_next ps j hj, bv_ofNat hc] at this
 exact this
theorem srch_hit {M : List Nat} {a y : Nat} (hn : M.Nodup) (h : M[a]? = some y) : y ∈ M ∧ ixOf M y = a := ⟨List.mem_of_getElem? h, idx_is hn h⟩
theorem srch_none {M : List Nat} {y : Nat} (h : ∀ j, j < M.length → M[j]? ≠ some y) : y ∉ M := fun hm => by
 obtain ⟨j, hj, e⟩ := List.mem_iff_getElem.1 hm
 exact h j hj (by rw [List.getElem?_eq_getElem hj, e])
structure LstC : Prop where
 least : ∀ (D : Dm) (cs : List Value) (w : World), DfaV w cs D → MayD D → AllC D → Calls Try.prog 13 #[.agg cs.toArray] w fun e w' => ∃ cs', e = .returned (.agg cs'.toArray) ∧ DfaV w' cs' (lstD D) ∧ Below w.heap.size w w'
 parts : ∀ (D : Dm) (cs : List Value) (w : World), DfaV w cs D → MayD D → AllC D → Calls Try.prog 16 #[.agg cs.toArray] w fun e w' => ∃ v, e = .returned v ∧ Row w' v (ncs D.next.length (parD D)) ∧ Below w.heap.size w w'
 is_ : ∀ (D : Dm) (cs : List Value) (w : World), DfaV w cs D → MayD D → AllC D → Calls Try.prog 21 #[.agg cs.toArray] w fun e w' => e = .returned (.bool (@decide (D = lstD D) (Classical.propDecidable _))) ∧ Below w.heap.size w w'
theorem lst_allC {D : Dm} (h : MayD D) (hl : D.cl.length = 256) : AllC (lstD D) := by
 obtain ⟨n, _, _, h3⟩ := lst_is h hl
 rw [h3]
 exact canN_allC _ n
theorem dfaQ_allC (n c : Nat) (ps : List UInt8) : AllC (dfaQ n c ps) := fun k hk => by
 rw [dfaQ_cls] at hk
 refine ⟨UInt8.ofNat (97 + k), ?_⟩
 have h1 : (UInt8.ofNat (97 + k)).toNat = 97 + k := toNat_ofNatQ (by omega)
 rw [h1]
 have h2 := tabQ_at (m := 1 + c % 4) (N := 256) (i := 97 + k) (by omega) (by omega)
 show ((tabQ (1 + c % 4) 256).getD (97 + k) 0).toNat = k
 rw [List.getD_eq_getElem?_getD, h2]
 show (UInt8.ofNat (clsQ (1 + c % 4) (97 + k))).toNat = k
 rw [clsQ_in (by omega) (by omega), toNat_ofNatQ (by omega)]
 omega
def yesM (R : List (List Int)) (E : List Bool) : Dm := ⟨ctab [] 0, R, E⟩
theorem yes_cls (R : List (List Int)) (E : List Bool) : clsA (yesM R E).cl = 1 := by
 apply Nat.le_antisymm
 ·refine clsA_upQ fun c hc => ?_
  obtain ⟨j, hj, rfl⟩ := List.getElem_of_mem hc
  show (ctab [] 0)[j].toNat + 1 ≤ 1
  simp [ctab]
 ·exact Nat.lt_of_le_of_lt (Nat.zero_le _) (clsA_lt (ctab_length _ _) (j := 0) (List.getElem?_eq_getElem (by rw [ctab_length]; decide)))
theorem yes_allC (R : List (List Int)) (E : List Bool) : AllC (yesM R E) := fun k hk => by
 rw [yes_cls] at hk
 obtain rfl : k = 0 := by omega
 refine ⟨0, ?_⟩
 show ((ctab [] 0).getD 0 0).toNat = 0
 simp [ctab]
theorem one_may : MayD (yesM [[0]] [true]) :=
 ⟨Nat.le_refl _, by decide, rfl, fun r hr => by rw [yes_cls, List.mem_singleton.1 hr]; rfl, fun r hr x hx => by
  rw [List.mem_singleton.1 hr] at hx
  rw [List.mem_singleton.1 hx]
  exact ⟨Int.le_refl _, by decide⟩⟩
theorem two_may : MayD (yesM [[1], [0]] [true, true]) := by
 refine ⟨by decide, by decide, rfl, fun r hr => ?_, fun r hr x hx => ?_⟩
 ·rw [yes_cls]
  have hr : r ∈ [[(1 : Int)], [0]] := hr
  simp only [List.mem_cons, List.mem_nil_iff, or_false] at hr
  rcases hr with rfl | rfl <;> rfl
 ·have hr : r ∈ [[(1 : Int)], [0]] := hr
  simp only [List.mem_cons, List.mem_nil_iff, or_false] at hr
  rcases hr with rfl | rfl <;> (rw [List.mem_singleton.1 hx]; exact ⟨by decide, by decide⟩)
theorem acc_yes {D : Dm} (h : MayD D) (hl : D.cl.length = 256) (he : ∀ s, s < D.next.length → D.ends.getD s false = true) {s : Nat} (hs : s < D.next.length) : accD D s = fun _ => true := by
 funext w
 exact he _ (toD_ltA h hl w s hs)
theorem two_acc {s : Nat} (hs : s < 2) : accD (yesM [[1], [0]] [true, true]) s = fun _ => true :=
 acc_yes two_may (ctab_length _ _) (fun q hq => by
  have hq : q < 2 := hq
  rcases (show q = 0 ∨ q = 1 by omega) with rfl | rfl <;> rfl) hs
theorem one_acc : accD (yesM [[0]] [true]) 0 = fun _ => true :=
 acc_yes one_may (ctab_length _ _) (fun q hq => by
  have hq : q < 1 := hq
  obtain rfl : q = 0 := by omega
  rfl) (Nat.zero_lt_one)
theorem two_len : (lstD (yesM [[1], [0]] [true, true])).next.length = 1 := by
 have e : lstD (yesM [[1], [0]] [true, true]) = lstD (yesM [[0]] [true]) := (lst_same two_may (ctab_length _ _) one_may (ctab_length _ _)).2 (by rw [two_acc (by decide), one_acc])
 rw [e]
 have h1 := lst_len one_may (ctab_length _ _)
 have h2 := (lst_may one_may (ctab_length _ _)).pos
 have h3 : (yesM [[0]] [true]).next.length = 1 := rfl
 omega
theorem two_not : ¬ yesM [[1], [0]] [true, true] = lstD (yesM [[1], [0]] [true, true]) := fun e => by
 have h1 := congrArg (fun D => D.next.length) e
 have h1 : (yesM [[1], [0]] [true, true]).next.length = (lstD (yesM [[1], [0]] [true, true])).next.length := h1
 rw [two_len] at h1
 cases h1
theorem two_part : parD (yesM [[1], [0]] [true, true]) 1 = 0 := by
 have h1 : parD (yesM [[1], [0]] [true, true]) 1 = parD (yesM [[1], [0]] [true, true]) 0 := parD_same (by rw [two_acc (by decide), two_acc (by decide)])
 rw [h1]
 have h2 := (parD_spec (yesM [[1], [0]] [true, true]) 0).2.1
 omega
theorem built_nxL (A : Option Addr) (n c : Nat) (A' : Option Addr) (n' c' : Nat) : Try.prog.built 28 [(1, .slice A n c), (2, .slice A' n' c')] = some (dcl (ctab [] 0) (.slice A n c) (.slice A' n' c')).toArray := by kernel_rfl
section
variable {P : Program} {o : Oper} {a : Act} {w : World} {K : Act → World → Prop} {Q : Exit → Act → World → Prop}
theorem wp_bldV2 (t e : TypeId) (x y : Operand) (ho : o.op = .buildSlice t 2 #[(0, x), (1, y)]) (i : TypeInfo) (z : Value) (ht : P.underlying t = some (.slice e)) (hi : P.info? e = some i) (hz : i.zero = some z) (hs : i.size = 1) (hzc : z.cells = #[z]) (u v : Value) (hx : a.eval x = u) (hy : a.eval y = v) (hu : u.cells = #[u]) (hv : v.cells = #[v])
  (h : ∀ w', Blk w' w.heap.size e [u, v] → Below w.heap.size w w' → K (a.put o.dst (.slice (some ⟨w.heap.size, 0, none⟩) 2 2)) w') : o.wp P a w K Q := by
 have hzv : (zeroValue e).run P w = .ok z w := by simp [zeroValue, typeInfo, hi, hz]
 have hrun : (Instr.buildSlice t 2 #[(0, u), (1, v)]).run P w = .ok (.slice (some ⟨w.heap.size, 0, none⟩) 2 2) (w.alloc (.cells [u, v].toArray e)) := by
  simp [Instr.buildSlice, run_underlying ht, sizeOf, typeInfo, hi, hs, hzv, hzc, hu, hv, Instr.fill, Array.range_succ, Array.range_zero', newRow]
 unfold Oper.wp
 simp only [execOp, ho, List.map_toArray, List.map_cons, List.map_nil, hx, hy, hrun, Sem.run_bind, Result.andThen_ok, Sem.run_pure]
 exact h _ (Blk.new w e _) ((Below.refl _ _).alloc (Nat.le_refl _) _)
end
theorem k8L (n : Nat) : 1 + n % 8 ≤ 8 := by omega
theorem ex_eqBL {ev : Operand → Value} {o : Oper} (x y : Operand) {r : TypeId} (ho : o.op = .binOp .eql 4 x y r) {p q : Bool} (hx : ev x = .bool p) (hy : ev y = .bool q) {b : Bool} (hb : (p == q) = b) (W : World) : (execOp ev o).run Try.prog W = .ok (.value (.bool b)) W := by
 simp only [execOp, ho, hx, hy]
 subst hb
 cases p <;> cases q <;> go_simp
theorem two_maxL {u v : Value} : [u, v].length ≤ maxLen := by
 show 2 ≤ maxLen
 decide
theorem one_maxL {v : Value} : [v].length ≤ maxLen := by
 show 1 ≤ maxLen
 decide
set_option maxHeartbeats 8000000 in
set_option maxRecDepth 1000000 in
theorem begun12_any (C : LstC) (w : World) : Calls Try.prog 10 #[] w fun e w' => e = .returned (.bool true) ∧ Below w.heap.size w w' := by
 have HCC := qH C
 clear C
 obtain ⟨D, hD⟩ : ∃ D, D = yesM [[1], [0]] [true, true] := ⟨_, rfl⟩
 have HM := qH (show MayD D by rw [hD]; exact two_may)
 have HAC := qH (show AllC D by rw [hD]; exact yes_allC _ _)
 have HLL := qH (show D.cl.length = 256 by rw [hD]; exact ctab_length _ _)
 have HNX := qH (show D.next = [[1], [0]] by rw [hD]; rfl)
 have HEN := qH (show D.ends = [true, true] by rw [hD]; rfl)
 have HCL := qH (show D.cl = ctab [] 0 by rw [hD]; rfl)
 have HLN := qH (show (lstD D).next.length = 1 by rw [hD]; exact two_len)
 have HNT := qH (show ¬ D = lstD D by rw [hD]; exact two_not)
 have HPT := qH (show parD D 1 = 0 by rw [hD]; exact two_part)
 obtain ⟨d0, hd0⟩ : ∃ d0, d0 = dcl (ctab [] 0) (.slice none 0 0) (.slice none 0 0) := ⟨_, rfl⟩
 have HDL := qH (show d0.length = 258 by rw [hd0]; exact dcl_len (ctab_length _ _))
 obtain ⟨id, hid, hdz⟩ := Option.map_eq_some_iff.1 inf_dfa
 rw [← hd0] at hdz
 have HDZ := qH hdz
 obtain ⟨i1, hi1, hy0, hy1, hy2⟩ := infoP inf_int
 obtain ⟨i2, hi2, hb0, hb1, hb2⟩ := infoP inf_bool
 obtain ⟨il, hil, hl0, hl1, hl2⟩ := infoP inf_sl
 clear hD hd0 hdz
 go_enter Try.func10, Try.ntmps10
 go_wp2_with (first
  | ((with_reducible refine atDst 4 ?_); refine wpList_plain rfl fun K hK => wp_bldVk 33 3 (.const (.int .i64 1)) rfl i1 (.int .i64 0) Try.underlying33 hi1 hy0 hy1 rfl (.int .i64 1) rfl rfl ?_; intro w1 hk hb; have K1 := qH hk; have B1 := qH hb; clear hk hb; refine hK _ _ ?_; clear hK K; (try simp only [Act.put, qA, qB, qC]))
  | ((with_reducible refine atDst 5 ?_); refine wpList_plain rfl fun K hK => wp_bldVk 33 3 (.const (.int .i64 0)) rfl i1 (.int .i64 0) Try.underlying33 hi1 hy0 hy1 rfl (.int .i64 0) rfl rfl ?_; intro w2 hk hb; have K2 := qH hk; have J1 := qH (K1.out.below hb K1.out.lt); have B2 := qH (B1.out.trans (hb.mono B1.out.size)); clear hk hb; refine hK _ _ ?_; clear hK K; (try simp only [Act.put, qA, qB, qC]))
  | ((with_reducible refine atDst 6 ?_); refine wpList_plain rfl fun K hK => wp_bldV2 25 33 (.tmp 4) (.tmp 5) rfl il (.slice none 0 0) Try.underlying25 hil hl0 hl1 rfl (.slice (some ⟨w.heap.size, 0, none⟩) 1 1) (.slice (some ⟨w1.heap.size, 0, none⟩) 1 1) rfl rfl rfl rfl ?_; intro w3 hk hb; have K3 := qH hk; have I1 := qH (J1.out.below hb J1.out.lt); have I2 := qH (K2.out.below hb K2.out.lt); have B3 := qH (B2.out.trans (hb.mono B2.out.size)); clear hk hb; refine hK _ _ ?_; clear hK K; (try simp only [Act.put, qA, qB, qC]))
  | ((with_reducible refine atDst 7 ?_); refine wpList_plain rfl fun K hK => wp_bldV2 26 4 (.const (.bool true)) (.const (.bool true)) rfl i2 (.bool false) Try.underlying26 hi2 hb0 hb1 rfl (.bool true) (.bool true) rfl rfl rfl rfl ?_; intro w4 hk hb; have K4 := qH hk; have H1 := qH (I1.out.below hb I1.out.lt); have H2 := qH (I2.out.below hb I2.out.lt); have H3 := qH (K3.out.below hb K3.out.lt); have B4 := qH (B3.out.trans (hb.mono B3.out.size)); clear hk hb; refine hK _ _ ?_; clear hK K; obtain ⟨d1, hd1⟩ : ∃ d1, d1 = dcl (ctab [] 0) (.slice (some ⟨w2.heap.size, 0, none⟩) 2 2) (.slice (some ⟨w3.heap.size, 0, none⟩) 2 2) := ⟨_, rfl⟩; have HD1 := qH hd1; have HBL := qH (show Try.prog.built 28 [(1, .slice (some ⟨w2.heap.size, 0, none⟩) 2 2), (2, .slice (some ⟨w3.heap.size, 0, none⟩) 2 2)] = some d1.toArray by (rw [hd1]; exact built_nxL _ _ _ _ _ _)); have HDLa := qH (show d1.length = 258 by (rw [hd1]; exact dcl_len (ctab_length _ _))); have HDOa := qH (show d1.all (·.oneCell') = true by (rw [hd1]; exact dcl_one)); have HDSa := qH (show (Try.prog.info? 28).map (·.size) = some d1.length by (rw [hd1]; exact size_dfa (ctab_length _ _))); clear hd1; (try simp only [Act.put, qA, qB, qC]))
  | ((with_reducible refine atDst 8 ?_); refine wpList_bld rfl 28 _ rfl d1 HBL.out ?_; (try simp only [Act.put, qA, qB, qC]))
  | ((with_reducible refine atDst 1 ?_); refine wpList_new rfl 28 rfl id _ d0 hid HDZ.out rfl (Below.refl w4.heap.size w4) (Nat.le_refl _) ?_; intro w5 hk hb hs _; have K5 := qH hk; have B45 := qH hb; clear hk hb hs; (try simp only [Act.put, qA, qB, qC]))
  | ((with_reducible refine atStore 28 1 8 ?_); refine wpList_stBlk rfl 28 _ _ rfl w4.heap.size d1 rfl rfl 28 _ K5.out HDSa.out (by rw [HDL.out, HDLa.out]) HDOa.out B45.out (Nat.le_refl _) ?_; intro w6 hk hb hs ho; have K6 := qH hk; have B46 := qH hb; clear hk hb hs ho; (try simp only [Act.put, qA, qB, qC]))
  | ((with_reducible refine atDst 9 ?_); refine wpList_ldArr rfl 28 _ rfl w4.heap.size rfl 28 _ _ K6.out Try.underlying28 rfl HDSa.out ?_; (try simp only [Act.put, qA, qB, qC])))
 have V6 := qH (show DfaV w6 d1 D from ⟨HLL.out, .slice (some ⟨w2.heap.size, 0, none⟩) 2 2, .slice (some ⟨w3.heap.size, 0, none⟩) 2 2, fun q => if q = 0 then .slice (some ⟨w.heap.size, 0, none⟩) 1 1 else .slice (some ⟨w1.heap.size, 0, none⟩) 1 1, by rw [HCL.out]; exact HD1.out, by
  rw [HNX.out]
  exact Row.of_own ((H3.out.below B46.out H3.out.lt).own (Nat.zero_le _) two_maxL), fun i r hr => by
  rw [HNX.out] at hr
  have hi := (List.getElem?_eq_some_iff.1 hr).1
  have hi : i < 2 := hi
  rcases (show i = 0 ∨ i = 1 by omega) with rfl | rfl
  ·obtain rfl : [1] = r := Option.some.inj hr
   exact Row.of_own ((H1.out.below B46.out H1.out.lt).own (Nat.zero_le _) one_maxL)
  ·obtain rfl : [0] = r := Option.some.inj hr
   exact Row.of_own ((H2.out.below B46.out H2.out.lt).own (Nat.zero_le _) one_maxL), by
  rw [HEN.out]
  exact Row.of_own ((K4.out.below B46.out K4.out.lt).own (Nat.zero_le _) two_maxL)⟩)
 have B6 := qH (B4.out.trans (B46.out.mono B4.out.size))
 refine (HCC.out.least D d1 w6 V6.out HM.out HAC.out).mono ?_
 rintro e w7 ⟨xs, rfl, hx, hb⟩
 obtain ⟨E, hE⟩ : ∃ E, E = lstD D := ⟨_, rfl⟩
 rw [← hE] at hx
 have HEE := qH hE
 have ME := qH (show MayD E by rw [hE]; exact lst_may HM.out HLL.out)
 have AE := qH (show AllC E by rw [hE]; exact lst_allC HM.out HLL.out)
 have HTE := qH (show E = lstD E by rw [hE]; exact (lst_twice HM.out HLL.out).symm)
 have HEL := qH (show E.next.length = 1 by rw [hE]; exact HLN.out)
 have X7 := qH hx
 obtain ⟨Bn, Be, dn, de, uf, hl2, hes, _⟩ := hx.form
 have HXL := qH (show xs.length = 258 by rw [hes]; exact dcl_len hl2)
 have HXO := qH (show xs.all (·.oneCell') = true by rw [hes]; exact dcl_one)
 have HXS := qH (show (Try.prog.info? 28).map (·.size) = some xs.length from X7.out.size)
 rw [HEL.out] at hes
 have HES := qH hes
 have HL2 := qH hl2
 have K7 := qH (K6.out.below hb K6.out.lt)
 have V7 := qH (V6.out.below hb)
 have B7 := qH (B6.out.trans (hb.mono B6.out.size))
 clear hx hb hE hes hl2
 go_wp2_with (first
  | ((with_reducible refine atDst 2 ?_); refine wpList_new rfl 28 rfl id _ d0 hid HDZ.out rfl (Below.refl w7.heap.size w7) (Nat.le_refl _) ?_; intro w8 hk hb hs _; have L8 := qH hk; have B78 := qH hb; clear hk hb hs; (try simp only [Act.put, qA, qB, qC]))
  | ((with_reducible refine atStore 28 2 10 ?_); refine wpList_stBlk rfl 28 _ _ rfl w7.heap.size xs rfl rfl 28 _ L8.out HXS.out (by rw [HDL.out, HXL.out]) HXO.out B78.out (Nat.le_refl _) ?_; intro w9 hk hb hs ho; have L9 := qH hk; have K9 := qH (K7.out.below hb K7.out.lt); have V9 := qH (V7.out.below hb); have X9 := qH (X7.out.below hb); have B9 := qH (B7.out.trans (hb.mono B7.out.size)); clear hk hb hs ho; (try simp only [Act.put, qA, qB, qC]))
  | ((with_reducible refine atDst 11 ?_); refine wpList_ldArr rfl 28 _ rfl w4.heap.size rfl 28 _ _ K9.out Try.underlying28 rfl HDSa.out ?_; (try simp only [Act.put, qA, qB, qC])))
 refine (HCC.out.parts D d1 w9 V9.out HM.out HAC.out).mono ?_
 rintro e wa ⟨pv, rfl, hr, hb⟩
 have hn2 : D.next.length = 2 := by rw [HNX.out]; rfl
 rw [hn2] at hr
 obtain ⟨bp, op, cp, rfl, hbp, hcp⟩ := row_ncs hr (by decide)
 have HBP := qH hbp
 have CP := qH (show wa.cell? ⟨bp, op + 1, none⟩ = some (.int .i64 0) by have h1 := hcp 1 (by decide); rw [HPT.out] at h1; exact h1)
 have LA := qH (L9.out.below hb L9.out.lt)
 have KA := qH (K9.out.below hb K9.out.lt)
 have VA := qH (V9.out.below hb)
 have XA := qH (X9.out.below hb)
 have BA := qH (B9.out.trans (hb.mono B9.out.size))
 have c256 : wa.cell? ⟨w7.heap.size, 256, none⟩ = some (.slice Bn 1 dn) := by rw [LA.out.cell 256, HES.out]; exact dcl_n HL2.out
 clear hr hbp hcp hb hn2
 go_wp2_with ((with_reducible refine atDst 18 ?_); refine wpList_ldArr (by rfl) 28 _ rfl w7.heap.size rfl 28 _ _ LA.out Try.underlying28 rfl HXS.out ?_; (try simp only [Act.put, qA, qB, qC]))
 refine (HCC.out.is_ E xs wa XA.out ME.out AE.out).mono ?_
 rintro e wb ⟨rfl, hb⟩
 rw [@decide_eq_true _ (Classical.propDecidable _) HTE.out]
 have KB := qH (KA.out.below hb KA.out.lt)
 have VB := qH (VA.out.below hb)
 have CPB := qH ((hb.cell (p := ⟨bp, op + 1, none⟩) HBP.out).trans CP.out)
 have HBPB := qH (Nat.lt_of_lt_of_le HBP.out hb.size)
 have BB := qH (BA.out.trans (hb.mono BA.out.size))
 clear hb c256
 go_wp2_with ((with_reducible refine atDst 22 ?_); refine wpList_ldArr (by rfl) 28 _ rfl w4.heap.size rfl 28 _ _ KB.out Try.underlying28 rfl HDSa.out ?_; (try simp only [Act.put, qA, qB, qC]))
 refine (HCC.out.is_ D d1 wb VB.out HM.out HAC.out).mono ?_
 rintro e wc ⟨rfl, hb⟩
 rw [@decide_eq_false _ (Classical.propDecidable _) HNT.out]
 have cp1 : wc.cell? ⟨bp, op + 1, none⟩ = some (.int .i64 0) := (hb.cell (p := ⟨bp, op + 1, none⟩) HBPB.out).trans CPB.out
 have BC := qH (BB.out.trans (hb.mono BB.out.size))
 clear hb
 go_wp2_with fail
 go_ret
 exact ⟨rfl, BC.out⟩
end Go.Proofs.Ytlohehcfplkjbaa
