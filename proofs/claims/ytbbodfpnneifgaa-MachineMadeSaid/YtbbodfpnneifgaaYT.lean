/-
  Texts of this proof, put together: ScI, ScJ, ScK, LwM, McH. No statement is proved here.
-/
import Derived.Test.YtbbodfpnneifgaaYD
import Derived.Test.YtbbodfpnneifgaaYC
import Derived.Test.YtbbodfpnneifgaaYB
import Derived.Test.YtbbodfpnneifgaaYA
import Derived.Test.YtbbodfpnneifgaaProg
import Derived.Shelf.Spec.TrailingZeros
import Derived.Shelf.SlSortCmp.WholeK
import Derived.Lib.OwnBridge
import Derived.Test.YtbbodfpnneifgaaYG
import Derived.Test.YtbbodfpnneifgaaYR
import Derived.Test.YtbbodfpnneifgaaYS
import Derived.Test.YtbbodfpnneifgaaYE
namespace Go.Proofs.Ytbbodfpnneifgaa
open Go.RowKit
set_option linter.unusedSimpArgs false
set_option linter.unusedVariables false
def Fx (w : World) (H : Nat) (Wb : Nat → Prop) (v : Value) (X : List Int) : Prop := Row w v (nums .i64 X) ∧ (X ≠ [] → ∀ k, v.ownBlock = some k → H ≤ k ∧ ¬ Wb k)
theorem Fx.lt {w : World} {H : Nat} {Wb : Nat → Prop} {v : Value} {X : List Int} (h : Fx w H Wb v X) (hne : X ≠ []) {k : Nat} (hk : v.ownBlock = some k) : k < w.heap.size := by
 obtain ⟨⟨A, cap, rfl, _, _, _, hc⟩, _⟩ := h
 obtain ⟨b, off, rfl, hb, _⟩ := hc (by intro e; apply hne; have := congrArg List.length e; rw [nums_length] at this; exact List.length_eq_zero_iff.1 this)
 have e : some b = some k := hk
 injection e with e
 omega
theorem Fx.off {w w' : World} {H : Nat} {Wb Wb' D : Nat → Prop} {v : Value} {X : List Int} (h : Fx w H Wb v X) (ho : Off D w w') (hD : ∀ k, D k → Wb k ∨ k < H) (hw : ∀ k, Wb' k → Wb k ∨ w.heap.size ≤ k) : Fx w' H Wb' v X := by
 have hlt := fun hne k hk => h.lt hne (k := k) hk
 obtain ⟨⟨A, cap, rfl, hl, hm, h0, hc⟩, hn⟩ := h
 refine ⟨⟨A, cap, rfl, hl, hm, h0, fun hne => ?_⟩, fun hne k hk => ⟨(hn hne k hk).1, fun hwb => ?_⟩⟩
 ·have hX : X ≠ [] := by rintro rfl; exact hne rfl
  obtain ⟨b, off, rfl, hb, hcell⟩ := hc hne
  have hnb := hn hX b rfl
  exact ⟨b, off, rfl, Nat.lt_of_lt_of_le hb ho.size, fun i u hu => ho.cell hb (fun hd => by
   rcases hD b hd with h1 | h1
   ·exact hnb.2 h1
   ·have := hnb.1; omega) (hcell i u hu)⟩
 ·rcases hw k hwb with h1 | h1
  ·exact (hn hne k hk).2 h1
  ·have := hlt hne k hk
   omega
theorem Fx.new {w w' : World} {H : Nat} {Wb : Nat → Prop} {v : Value} {X : List Int} (h : Row w' v (nums .i64 X)) (hb : ∀ k, v.ownBlock = some k → w.heap.size ≤ k) (hH : H ≤ w.heap.size) (hw : ∀ k, Wb k → k < w.heap.size) : Fx w' H Wb v X :=
 ⟨h, fun _ k hk => ⟨Nat.le_trans hH (hb k hk), fun hwb => by have h1 := hb k hk; have h2 := hw k hwb; omega⟩⟩
def WbE (gd : Nat) (lv vn ve rv : Value) (k : Nat) : Prop := k = gd ∨ lv.ownBlock = some k ∨ vn.ownBlock = some k ∨ ve.ownBlock = some k ∨ rv.ownBlock = some k
structure DE (w : World) (H gd : Nat) (cl : List UInt8) (lv vn ve rv : Value) (vf rf : Nat → Value) (L R : List (List Int)) (E : List Bool) (r : List Int) : Prop where
 blk : Blk w gd 28 (dcl cl vn ve)
 cl : cl.length = 256
 gB : H ≤ gd
 ownl : w.ownsRow H 41 1 lv L.length ((List.range L.length).map vf)
 ownn : w.ownsRow H 41 1 vn R.length ((List.range R.length).map rf)
 owne : w.ownsRow H 4 1 ve E.length (bools E)
 ownr : w.ownsRow H 3 1 rv r.length (nums .i64 r)
 vrow : ∀ i X, L[i]? = some X → Fx w H (WbE gd lv vn ve rv) (vf i) X
 rrow : ∀ i X, R[i]? = some X → Fx w H (WbE gd lv vn ve rv) (rf i) X
 gl : lv.ownBlock ≠ some gd
 gn : vn.ownBlock ≠ some gd
 ge : ve.ownBlock ≠ some gd
 gr : rv.ownBlock ≠ some gd
 ln : ∀ k, lv.ownBlock = some k → vn.ownBlock ≠ some k
 le : ∀ k, lv.ownBlock = some k → ve.ownBlock ≠ some k
 lr : ∀ k, lv.ownBlock = some k → rv.ownBlock ≠ some k
 ne : ∀ k, vn.ownBlock = some k → ve.ownBlock ≠ some k
 nr : ∀ k, vn.ownBlock = some k → rv.ownBlock ≠ some k
 er : ∀ k, ve.ownBlock = some k → rv.ownBlock ≠ some k
section
variable {w w1 w2 w' : World} {H gd : Nat} {cl : List UInt8} {lv vn ve rv lv' vn' ve' rv' : Value} {vf rf : Nat → Value} {L R : List (List Int)} {E : List Bool} {r : List Int}
theorem DE.lt (x : DE w H gd cl lv vn ve rv vf rf L R E r) {k : Nat} (h : WbE gd lv vn ve rv k) : k < w.heap.size := by
 rcases h with h | h | h | h | h
 ·rw [h]; exact x.blk.lt
 ·exact (own6_lt x.ownl k h).1
 ·exact (own6_lt x.ownn k h).1
 ·exact (own6_lt x.owne k h).1
 ·exact (own6_lt x.ownr k h).1
theorem DE.ge_ (x : DE w H gd cl lv vn ve rv vf rf L R E r) {k : Nat} (h : WbE gd lv vn ve rv k) : H ≤ k := by
 rcases h with h | h | h | h | h
 ·rw [h]; exact x.gB
 ·exact (own6_lt x.ownl k h).2
 ·exact (own6_lt x.ownn k h).2
 ·exact (own6_lt x.owne k h).2
 ·exact (own6_lt x.ownr k h).2
theorem DE.below (x : DE w H gd cl lv vn ve rv vf rf L R E r) (hb : Below w.heap.size w w') : DE w' H gd cl lv vn ve rv vf rf L R E r := by
 have ho : Off (WbE gd lv vn ve rv) w w' := Off.new _ hb
 have st : ∀ k, WbE gd lv vn ve rv k → w'.heap[k]? = w.heap[k]? := fun k hk => hb.block k (x.lt hk)
 refine { x with blk := (st gd (.inl rfl)).trans x.blk, ownl := own6_stay x.ownl fun j hj => st j (.inr (.inl hj)), ownn := own6_stay x.ownn fun j hj => st j (.inr (.inr (.inl hj))), owne := own6_stay x.owne fun j hj => st j (.inr (.inr (.inr (.inl hj)))), ownr := own6_stay x.ownr fun j hj => st j (.inr (.inr (.inr (.inr hj)))), vrow := fun i X hX => (x.vrow i X hX).off ho (fun k hk => .inl hk) fun k hk => .inl hk, rrow := fun i X hX => (x.rrow i X hX).off ho (fun k hk => .inl hk) fun k hk => .inl hk }
theorem DE.clear (x : DE w H gd cl lv vn ve rv vf rf L R E r) : DE w H gd cl lv vn ve (.slice none 0 0) vf rf L R E [] :=
 {x with ownr := ownN _ _ _, vrow := fun i X hX => ⟨(x.vrow i X hX).1, fun hne k hk => ⟨((x.vrow i X hX).2 hne k hk).1, fun hwb => ((x.vrow i X hX).2 hne k hk).2 (by
   rcases hwb with h | h | h | h | h
   ·exact .inl h
   ·exact .inr (.inl h)
   ·exact .inr (.inr (.inl h))
   ·exact .inr (.inr (.inr (.inl h)))
   ·cases h)⟩⟩, rrow := fun i X hX => ⟨(x.rrow i X hX).1, fun hne k hk => ⟨((x.rrow i X hX).2 hne k hk).1, fun hwb => ((x.rrow i X hX).2 hne k hk).2 (by
   rcases hwb with h | h | h | h | h
   ·exact .inl h
   ·exact .inr (.inl h)
   ·exact .inr (.inr (.inl h))
   ·exact .inr (.inr (.inr (.inl h)))
   ·cases h)⟩⟩, gr := fun h => (by cases h), lr := fun k _ h => (by cases h), nr := fun k _ h => (by cases h), er := fun k _ h => (by cases h) }
def WbN (gd : Nat) (vn ve : Value) (k : Nat) : Prop := k = gd ∨ vn.ownBlock = some k ∨ ve.ownBlock = some k
theorem DE.next (x : DE w H gd cl lv vn ve rv vf rf L R E r) {b : Bool} {w3 w4 : World} (hb1 : Below w.heap.size w w1)
  (hon : w2.ownsRow H 41 1 vn' (R.length + 1) ((List.range R.length).map rf ++ [rv])) (hg1 : w1.grownBy w2 vn.ownBlock) (hw1 : ∀ k, vn'.ownBlock = some k → vn.ownBlock = some k ∨ w1.heap.size ≤ k) (hb2 : Below w2.heap.size w2 w3)
  (hoe : w4.ownsRow H 4 1 ve' (E ++ [b]).length (bools (E ++ [b]))) (hg2 : w3.grownBy w4 ve.ownBlock) (hw2 : ∀ k, ve'.ownBlock = some k → ve.ownBlock = some k ∨ w3.heap.size ≤ k) :
  Blk w4 gd 28 (dcl cl vn ve) ∧ Blk (w4.setCell ⟨gd, 256, none⟩ vn') gd 28 (dcl cl vn' ve) ∧
   DE ((w4.setCell ⟨gd, 256, none⟩ vn').setCell ⟨gd, 257, none⟩ ve') H gd cl lv vn' ve' (.slice none 0 0) vf (fun i => if i = R.length then rv else rf i) L (R ++ [r]) (E ++ [b]) [] ∧
   Off (WbN gd vn ve) w ((w4.setCell ⟨gd, 256, none⟩ vn').setCell ⟨gd, 257, none⟩ ve') := by
 have s1 := hb1.size
 have s2 := hg1.size
 have s3 := hb2.size
 have s4 := hg2.size
 have ltn : ∀ k, vn.ownBlock = some k → k < w.heap.size := fun k hk => (own6_lt x.ownn k hk).1
 have lte : ∀ k, ve.ownBlock = some k → k < w.heap.size := fun k hk => (own6_lt x.owne k hk).1
 have st : ∀ k, k < w.heap.size → vn.ownBlock ≠ some k → ve.ownBlock ≠ some k → w4.heap[k]? = w.heap[k]? := fun k hk h1 h2 =>
  (hg2.block k (by omega) fun e => h2 e.symm).trans ((hb2.block k (by omega)).trans ((hg1.block k (by omega) fun e => h1 e.symm).trans (hb1.block k hk)))
 have fin : ∀ k, k ≠ gd → ((w4.setCell ⟨gd, 256, none⟩ vn').setCell ⟨gd, 257, none⟩ ve').heap[k]? = w4.heap[k]? := fun k hk =>
  (Below.heap_setCell _ ⟨gd, 257, none⟩ ve' k hk).trans (Below.heap_setCell w4 ⟨gd, 256, none⟩ vn' k hk)
 have hgd4 : Blk w4 gd 28 (dcl cl vn ve) := (st gd x.blk.lt x.gn x.ge).trans x.blk
 have hgd5 : Blk (w4.setCell ⟨gd, 256, none⟩ vn') gd 28 (dcl cl vn' ve) := by
  have := hgd4.set 256 vn'
  rwa [dcl_setn x.cl] at this
 have hgd6 : Blk ((w4.setCell ⟨gd, 256, none⟩ vn').setCell ⟨gd, 257, none⟩ ve') gd 28 (dcl cl vn' ve') := by
  have := hgd5.set 257 ve'
  rwa [dcl_sete x.cl] at this
 have hsz : ((w4.setCell ⟨gd, 256, none⟩ vn').setCell ⟨gd, 257, none⟩ ve').heap.size = w4.heap.size := by simp
 have hof : Off (WbN gd vn ve) w ((w4.setCell ⟨gd, 256, none⟩ vn').setCell ⟨gd, 257, none⟩ ve') := by
  refine ⟨?_, ?_, ?_, by rw [hsz]; omega, fun k hk hn => (fin k fun e => hn (.inl e)).trans (st k hk (fun e => hn (.inr (.inl e))) (fun e => hn (.inr (.inr e))))⟩
  ·exact hg2.os.trans (hb2.os.trans (hg1.os.trans hb1.os))
  ·exact hg2.tape.trans (hb2.tape.trans (hg1.tape.trans hb1.tape))
  ·exact hg2.output.trans (hb2.output.trans (hg1.output.trans hb1.output))
 have hof2 : Off (WbE gd lv vn ve rv) w ((w4.setCell ⟨gd, 256, none⟩ vn').setCell ⟨gd, 257, none⟩ ve') := hof.mono fun k _ hk => by
  rcases hk with h | h | h
  ·exact .inl h
  ·exact .inr (.inr (.inl h))
  ·exact .inr (.inr (.inr (.inl h)))
 -- what a block of the new values is
 have nn : ∀ k, vn'.ownBlock = some k → vn.ownBlock = some k ∨ w.heap.size ≤ k := fun k hk => by
  rcases hw1 k hk with h | h
  ·exact .inl h
  ·exact .inr (by omega)
 have nee : ∀ k, ve'.ownBlock = some k → ve.ownBlock = some k ∨ (w.heap.size ≤ k ∧ w2.heap.size ≤ k) := fun k hk => by
  rcases hw2 k hk with h | h
  ·exact .inl h
  ·exact .inr ⟨by omega, by omega⟩
 have n2 : ∀ k, vn'.ownBlock = some k → k < w2.heap.size := fun k hk => (own6_lt hon k hk).1
 have hwb : ∀ k, WbE gd lv vn' ve' (.slice none 0 0) k → WbE gd lv vn ve rv k ∨ w.heap.size ≤ k := fun k hk => by
  rcases hk with h | h | h | h | h
  ·exact .inl (.inl h)
  ·exact .inl (.inr (.inl h))
  ·rcases nn k h with h1 | h1
   ·exact .inl (.inr (.inr (.inl h1)))
   ·exact .inr h1
  ·rcases nee k h with h1 | h1
   ·exact .inl (.inr (.inr (.inr (.inl h1))))
   ·exact .inr h1.1
  ·cases h
 have gn' : vn'.ownBlock ≠ some gd := fun e => by
  rcases nn gd e with h | h
  ·exact x.gn h
  ·have := x.blk.lt; omega
 have ge' : ve'.ownBlock ≠ some gd := fun e => by
  rcases nee gd e with h | h
  ·exact x.ge h
  ·have := x.blk.lt; omega
 refine ⟨hgd4, hgd5, ⟨hgd6, x.cl, x.gB, own6_stay x.ownl fun j hj => (fin j fun e => x.gl (by rw [← e]; exact hj)).trans (st j (own6_lt x.ownl j hj).1 (x.ln j hj) (x.le j hj)), ?_, ?_, ownN _ _ _, fun i Y hY => (x.vrow i Y hY).off hof2 (fun k hk => .inl hk) hwb, fun i Y hY => ?_, x.gl, gn', ge', fun h => (by cases h), fun k hk e => ?_, fun k hk e => ?_, fun k _ h => (by cases h), fun k hk e => ?_, fun k _ h => (by cases h), fun k _ h => (by cases h)⟩, hof⟩
 ·rw [List.length_append, List.length_singleton, range_snoc]
  refine own6_stay hon fun j hj => (fin j fun e => gn' (by rw [← e]; exact hj)).trans ?_
  have hj2 := n2 j hj
  exact (hg2.block j (by omega) fun e => by
   rcases hw1 j hj with h | h
   ·exact x.ne j h e.symm
   ·have h3 := lte j e.symm; omega).trans (hb2.block j hj2)
 ·exact own6_stay hoe fun j hj => fin j fun e => ge' (by rw [← e]; exact hj)
 ·show Fx _ H _ (if i = R.length then rv else rf i) Y
  by_cases hi : i = R.length
  ·rw [if_pos hi]
   have e : Y = r := by
    rw [hi, List.getElem?_append_right (Nat.le_refl _), Nat.sub_self] at hY
    simpa using hY.symm
   rw [e]
   have hrow : Row w rv (nums .i64 r) := Row.of_own x.ownr
   have hfx : Fx w H (fun k => WbE gd lv vn ve (.slice none 0 0) k) rv r := ⟨hrow, fun _ k hk => ⟨(own6_lt x.ownr k hk).2, fun hwb => by
    rcases hwb with h | h | h | h | h
    ·exact x.gr (by rw [← h]; exact hk)
    ·exact x.lr k h hk
    ·exact x.nr k h hk
    ·exact x.er k h hk
    ·cases h⟩⟩
   refine hfx.off hof (fun k hk => .inl ?_) fun k hk => ?_
   ·rcases hk with h | h | h
    ·exact .inl h
    ·exact .inr (.inr (.inl h))
    ·exact .inr (.inr (.inr (.inl h)))
   ·rcases hk with h | h | h | h | h
    ·exact .inl (.inl h)
    ·exact .inl (.inr (.inl h))
    ·rcases nn k h with h1 | h1
     ·exact .inl (.inr (.inr (.inl h1)))
     ·exact .inr h1
    ·rcases nee k h with h1 | h1
     ·exact .inl (.inr (.inr (.inr (.inl h1))))
     ·exact .inr h1.1
    ·cases h
  ·rw [if_neg hi]
   have hlt : i < R.length := by
    have := (List.getElem?_eq_some_iff.1 hY).1
    rw [List.length_append, List.length_singleton] at this
    omega
   rw [List.getElem?_append_left hlt] at hY
   exact (x.rrow i Y hY).off hof2 (fun k hk => .inl hk) hwb
 ·rcases nn k e with h | h
  ·exact x.ln k hk h
  ·have := (own6_lt x.ownl k hk).1; omega
 ·rcases nee k e with h | h
  ·exact x.le k hk h
  ·have := (own6_lt x.ownl k hk).1; omega
 ·rcases nee k e with h | h
  ·rcases nn k hk with h1 | h1
   ·exact x.ne k h1 h
   ·have := lte k h; omega
  ·have := n2 k hk; omega
theorem DE.far {D : Nat → Prop} (x : DE w H gd cl lv vn ve rv vf rf L R E r) (ho : Off D w w') (hD : ∀ k, D k → k < H) : DE w' H gd cl lv vn ve rv vf rf L R E r := by
 have st : ∀ k, WbE gd lv vn ve rv k → w'.heap[k]? = w.heap[k]? := fun k hk => ho.block k (x.lt hk) fun hd => by
  have h1 := hD k hd
  have h2 := x.ge_ hk
  omega
 refine { x with blk := (st gd (.inl rfl)).trans x.blk, ownl := own6_stay x.ownl fun j hj => st j (.inr (.inl hj)), ownn := own6_stay x.ownn fun j hj => st j (.inr (.inr (.inl hj))), owne := own6_stay x.owne fun j hj => st j (.inr (.inr (.inr (.inl hj)))), ownr := own6_stay x.ownr fun j hj => st j (.inr (.inr (.inr (.inr hj)))), vrow := fun i X hX => (x.vrow i X hX).off ho (fun k hk => .inr (hD k hk)) fun k hk => .inl hk, rrow := fun i X hX => (x.rrow i X hX).off ho (fun k hk => .inr (hD k hk)) fun k hk => .inl hk }
theorem DE.dfa (x : DE w H gd cl lv vn ve rv vf rf L R E r) : DfaV w (dcl cl vn ve) ⟨cl, R, E⟩ :=
 ⟨x.cl, vn, ve, rf, rfl, Row.of_own x.ownn, fun i X hX => (x.rrow i X hX).1, Row.of_own x.owne⟩
end
def Pl (S : List St) (a z most : Int) (i : Nat) (L R : List (List Int)) (E : List Bool) : Prop :=
 L.Nodup ∧ i ≤ L.length ∧ R.length = i ∧ E.length = i ∧ (∃ r, L.length ≤ (LN S a r).length) ∧
  ((L = LN S a i ∧ R = rowsI (sucN S) (LN S a i) i ∧ E = endsI (hasZ z) (LN S a i) i) ∨ most < (L.length : Int))
theorem Pl.zero (S : List St) (a z most : Int) : Pl S a z most 0 [clsN S [a]] [] [] :=
 ⟨by simp, Nat.zero_le _, rfl, rfl, ⟨0, by rw [LN_zero]; exact Nat.le_refl _⟩, .inl ⟨(LN_zero S a).symm, rfl, rfl⟩⟩
structure Inn (S : List St) (a : Int) (i kk : Nat) (X : List Int) (L : List (List Int)) (Lj : Nat → List (List Int)) (Rw : List Int) : Prop where
 zero : Lj 0 = L
 nd : ∀ j, (Lj j).Nodup
 at_ : ∀ j, (Lj j)[i]? = some X
 le : ∀ j, (Lj j).length ≤ (LN S a (i + 1)).length
 all : Lj kk = LN S a (i + 1)
 row : Rw = rowI (LN S a (i + 1)) (sucN S X)
 len : Rw.length = kk
 step : ∀ j, j < kk → ∃ (b : Nat) (y : List Int), b < 256 ∧ (fbB (setsN S) 256)[j]? = some (UInt8.ofNat b) ∧ y = stpN S X b ∧
  ((y ∈ Lj j ∧ Lj (j + 1) = Lj j ∧ Rw.take (j + 1) = Rw.take j ++ [((ixOf (Lj j) y : Nat) : Int)]) ∨ (y ∉ Lj j ∧ Lj (j + 1) = Lj j ++ [y] ∧ Rw.take (j + 1) = Rw.take j ++ [((Lj j).length : Int)]))
theorem Pl.next {S : List St} {a z most : Int} {i kk : Nat} {X : List Int} {L R : List (List Int)} {E : List Bool} {Lj : Nat → List (List Int)} {Rw : List Int} (h : Pl S a z most i L R E) (hL : L = LN S a i) (hR : R = rowsI (sucN S) (LN S a i) i) (hE : E = endsI (hasZ z) (LN S a i) i)
  (hX : (LN S a i)[i]? = some X) (hI : Inn S a i kk X (LN S a i) Lj Rw) {j : Nat} (hj : j = kk ∨ most < ((Lj j).length : Int)) : Pl S a z most (i + 1) (Lj j) (R ++ [Rw.take j]) (E ++ [hasZ z X]) := by
 obtain ⟨_, _, h3, h4, _, _⟩ := h
 refine ⟨hI.nd j, (List.getElem?_eq_some_iff.1 (hI.at_ j)).1, by simp [h3], by simp [h4], ⟨i + 1, hI.le j⟩, ?_⟩
 rcases hj with hj | hj
 ·left
  subst hj
  refine ⟨hI.all, ?_, ?_⟩
  ·rw [hR, show rowsI (sucN S) (LN S a (i + 1)) (i + 1) = rowsI (sucN S) (LN S a i) i ++ [rowI (LN S a (i + 1)) (sucN S X)] from rowsI_next hX, ← hI.row]
   rw [List.take_of_length_le (Nat.le_of_eq hI.len)]
  ·rw [hE, show endsI (hasZ z) (LN S a (i + 1)) (i + 1) = endsI (hasZ z) (LN S a i) i ++ [hasZ z X] from endsI_next hX]
 ·exact .inr hj
theorem Pl.good {S : List St} {a z most : Int} {i : Nat} {L R : List (List Int)} {E : List Bool} (h : Pl S a z most i L R E) (hm : (L.length : Int) ≤ most) : L = LN S a i ∧ R = rowsI (sucN S) (LN S a i) i ∧ E = endsI (hasZ z) (LN S a i) i := by
 rcases h.2.2.2.2.2 with h | h
 ·exact h
 ·omega
theorem Pl.many {S : List St} {a z most : Int} {i : Nat} {L R : List (List Int)} {E : List Bool} (h : Pl S a z most i L R E) (hM : MayN S a z) (hm : most < (L.length : Int)) : mkN S a z most = (noDm, 7) := by
 obtain ⟨r, hr⟩ := h.2.2.2.2.1
 exact mkN_many hM (r := r) (by omega)
theorem Pl.done {S : List St} {a z most : Int} {i : Nat} {L R : List (List Int)} {E : List Bool} (h : Pl S a z most i L R E) (hM : MayN S a z) (hm : (L.length : Int) ≤ most) (hi : ¬ i < L.length) : mkN S a z most = (⟨ctab (setsN S) 256, R, E⟩, 0) := by
 obtain ⟨h1, h2, h3⟩ := h.good hm
 have hl : L.length = i := Nat.le_antisymm (Nat.not_lt.1 hi) h.2.1
 have hf : FitN S a i := by
  show (LN S a i).length = i
  rw [← h1]
  exact hl
 rw [mkN_ok hM hf (by omega), h2, h3]
 rfl
section
variable {P : Program} {o : Oper} {a : Act} {w : World} {K : Act → World → Prop} {Q : Exit → Act → World → Prop}
theorem wp_bldVk (t e : TypeId) (x : Operand) (ho : o.op = .buildSlice t 1 #[(0, x)]) (i : TypeInfo) (z : Value) (ht : P.underlying t = some (.slice e)) (hi : P.info? e = some i) (hz : i.zero = some z) (hs : i.size = 1) (hzc : z.cells = #[z]) (v : Value) (hx : a.eval x = v) (hv : v.cells = #[v])
  (h : ∀ w', Blk w' w.heap.size e [v] → Below w.heap.size w w' → K (a.put o.dst (.slice (some ⟨w.heap.size, 0, none⟩) 1 1)) w') : o.wp P a w K Q := by
 have hzv : (zeroValue e).run P w = .ok z w := by simp [zeroValue, typeInfo, hi, hz]
 have hrun : (Instr.buildSlice t 1 #[(0, v)]).run P w = .ok (.slice (some ⟨w.heap.size, 0, none⟩) 1 1) (w.alloc (.cells [v].toArray e)) := by
  simp [Instr.buildSlice, run_underlying ht, sizeOf, typeInfo, hi, hs, hzv, hzc, hv, Instr.fill, Array.range_succ, Array.range_zero', newRow]
 unfold Oper.wp
 simp only [execOp, ho, List.map_toArray, List.map_cons, List.map_nil, hx, hrun, Sem.run_bind, Result.andThen_ok, Sem.run_pure]
 exact h _ (Blk.new w e _) ((Below.refl _ _).alloc (Nat.le_refl _) _)
end
theorem Fx.slice {w : World} {H : Nat} {Wb : Nat → Prop} {v : Value} {X : List Int} (h : Fx w H Wb v X) : ∃ A c, v = .slice A X.length c := by
 obtain ⟨⟨A, c, h1, _⟩, _⟩ := h
 rw [nums_length] at h1
 exact ⟨A, c, h1⟩
/-! ### sets in a row -/
/-! ### matchers -/
theorem cell_heap {w w' : World} {b o : Nat} {v : Value} (h : w.cell? ⟨b, o, none⟩ = some v) (hb : w'.heap[b]? = w.heap[b]?) : w'.cell? ⟨b, o, none⟩ = some v := by
 unfold World.cell? at h ⊢
 simp only [hb]
 exact h
section
variable {W : List UInt8} {w w' : World} {D : Nat → Prop} {g : Nat} {k : Int} {s : Nat → Bool} {l : List T} {A : Option Addr} {cap : Nat} {gp : Nat → Nat} {Ds : Nat → Nat → Prop} {kn : Nat → Bool} {tb : Value}
end
def stpL (D : Dm) (l : List UInt8) (i : Nat) : List Int := l.map fun c => (nxt D i)[c.toNat]?.getD 0
theorem stpL_len (D : Dm) (l : List UInt8) (i : Nat) : (stpL D l i).length = l.length := by simp [stpL]
theorem stpL_at {D : Dm} {l : List UInt8} {i k : Nat} {c : UInt8} {r : List Int} {x : Int} (hk : l[k]? = some c) (hr : D.next[i]? = some r) (hx : r[c.toNat]? = some x) : (stpL D l i)[k]? = some x := by
 unfold stpL
 rw [List.getElem?_map, hk, Option.map_some, nxt_at hr, hx]
 rfl
def stI (D : Dm) (l : List UInt8) (i k : Nat) : Nat → List Int := fun q => if q < i then stpL D l q else if q = i then (stpL D l i).take k else []
theorem stI_zero (D : Dm) (l : List UInt8) : stI D l 0 0 = fun _ => [] := by
 funext q
 unfold stI
 rw [if_neg (Nat.not_lt_zero _), List.take_zero]
 split <;> rfl
theorem stI_next {D : Dm} {l : List UInt8} {i k : Nat} (hk : l.length ≤ k) : stI D l i k = stI D l (i + 1) 0 := by
 funext q
 unfold stI
 rw [List.take_zero, List.take_of_length_le (by rw [stpL_len]; exact hk)]
 by_cases h : q < i
 ·rw [if_pos h, if_pos (by omega)]
 ·rw [if_neg h]
  by_cases h2 : q = i
  ·rw [if_pos h2, if_pos (by omega), h2]
  ·rw [if_neg h2, if_neg (by omega)]
   split <;> rfl
theorem stI_at (D : Dm) (l : List UInt8) (i k : Nat) : stI D l i k i = (stpL D l i).take k := by
 unfold stI
 rw [if_neg (Nat.lt_irrefl _), if_pos rfl]
theorem stI_put {D : Dm} {l : List UInt8} {i k : Nat} {x : Int} (h : (stpL D l i)[k]? = some x) : putL (stI D l i k) i (stI D l i k i ++ [x]) = stI D l i (k + 1) := by
 have hk := (List.getElem?_eq_some_iff.1 h).1
 funext q
 unfold putL
 by_cases hq : q = i
 ·rw [if_pos hq, hq, stI_at, stI_at, List.take_succ_eq_append_getElem hk, (List.getElem?_eq_some_iff.1 h).2]
 ·rw [if_neg hq]
  unfold stI
  rw [if_neg hq, if_neg hq]
theorem stI_all {D : Dm} {l : List UInt8} {n i : Nat} (h : i < n) : stI D l n 0 i = stpL D l i := by
 unfold stI
 rw [if_pos h]
theorem grown_ownH {w0 w w' : World} {g : Nat} {A : Option Nat} (h : w0.grownBy w (some g)) (h2 : w.grownBy w' A) (hA : ∀ q, A = some q → w0.heap.size ≤ q) : w0.grownBy w' (some g) :=
 ⟨h2.os.trans h.os, h2.tape.trans h.tape, h2.output.trans h.output, Nat.le_trans h.size h2.size, fun k hk hne => (h2.block k (by have := h.size; omega) fun e => by
  have := hA k (by first | exact e | exact e.symm)
  omega).trans (h.block k hk hne)⟩
set_option maxHeartbeats 8000000 in
set_option maxRecDepth 1000000 in
theorem mSteps_any (D : Dm) (cs : List Value) (w : World) (hv : DfaV w cs D) (hm : MayD D) :
  Calls Try.prog 29 #[.agg cs.toArray] w fun e w' => ∃ (v : Value) (l : List UInt8), e = .returned v ∧ LnkV w' v D.next.length (stpL D l) ∧ (∀ c, c ∈ l ↔ c ∈ D.cl) ∧ l.length ≤ 256 ∧ Below w.heap.size w w' := by
 have V0 := qH hv
 have HM := qH hm
 have HDS := qH hv.size
 obtain ⟨An, Ae, cn, ce, vf, hl, hcs, hn, hr, he⟩ := hv.form
 have HL := qH hl
 obtain ⟨n, hnn⟩ : ∃ n, n = D.next.length := ⟨_, rfl⟩
 have HN := qH hnn
 rw [← hnn] at hcs
 rw [← hnn] at hn ⊢
 have HCS := qH hcs
 have HRN := qH hn
 have HR := qH hr
 have HNP := qH (show 1 ≤ n by rw [hnn]; exact hm.pos)
 have HNF := qH (show n ≤ 2000 by rw [hnn]; exact hm.few)
 obtain ⟨i3, hi3, hz3, hs3, hy3⟩ := infoC (show (Try.prog.info? 41).map (fun i => (i.zero, i.size, i.bytes)) = some (some (.slice none 0 0), 1, 24) by kernel_rfl)
 obtain ⟨i1, hi1, hy0, hy1, hy2⟩ := infoC (show (Try.prog.info? 3).map (fun i => (i.zero, i.size, i.bytes)) = some (some (.int .i64 0), 1, 8) by kernel_rfl)
 have HY3 := qH (show i3.bytes * n ≤ 281474976710656 by rw [hy3]; have := HNF.out; omega)
 have HN3 := qH (show n ≤ 9223372036854775807 by have := HNF.out; omega)
 clear hv hm hl hcs hn hr he hnn hy3
 go_enter Try.func29, Try.ntmps29
 go_wp2_with (first
  | ((with_reducible refine atDst 1 ?_); refine wpList_box rfl 28 _ rfl cs rfl (Below.refl w.heap.size w) (Nat.le_refl _) ?_; intro w1 hk1 hb1 hs1 _; have K1 := qH hk1; have B1 := qH hb1; have c256 : w1.cell? ⟨w.heap.size, 256, none⟩ = some (.slice An n cn) := (by rw [hk1.cell 256, HCS.out]; exact dcl_n HL.out); clear hk1 hb1 hs1; (try simp only [Act.put, qA, qB, qC]))
  | ((with_reducible refine atDst 12 ?_); refine wpList_mk _ rfl _ _ 25 rfl 41 i3 (.slice none 0 0) Try.underlying25 hi3 hz3 hs3 rfl n _ _ _ _ rfl rfl rfl rfl HY3.out HN3.out ?_; intro w2 hk hb hs; have T2 := qH hk; have K2 := qH (K1.out.below hb K1.out.lt); have B2 := qH (B1.out.trans (hb.mono B1.out.size)); have HTS := qH (show w1.heap.size < w2.heap.size from hk.lt); clear hk hb hs; (try simp only [Act.put, qA, qB, qC]))
  | ((with_reducible refine atDst 13 ?_); refine wpList_ldArr rfl 28 _ rfl w.heap.size rfl 28 _ _ K2.out Try.underlying28 rfl HDS.out ?_; (try simp only [Act.put, qA, qB, qC])))
 refine (mUsed_any D cs w2 (V0.out.below B2.out)).mono ?_
 rintro e w4 ⟨uv, l, rfl, hru, hml, hb, huo, hle⟩
 have RU := qH hru
 have HML := qH hml
 have HUO := qH huo
 have K4 := qH (K2.out.below hb K2.out.lt)
 have B4 := qH (B2.out.trans (hb.mono B2.out.size))
 have T4 := qH (T2.out.below hb T2.out.lt)
 obtain ⟨g, hg⟩ : ∃ g, g = w1.heap.size := ⟨_, rfl⟩
 have HGW := qH (show w.heap.size < g by rw [hg]; exact K1.out.lt)
 have HGT := qH (show g < w4.heap.size by rw [hg]; exact T4.out.lt)
 have HUG := qH (show ∀ k, uv.ownBlock = some k → k ≠ g from fun k hk e => by
  have h1 := huo k hk
  have h2 := HTS.out
  omega)
 rw [← hg] at T4
 rw [← hg]
 have F4 := qH (show Fam w4 w.heap.size w4.heap.size g n n n (fun _ => .slice none 0 0) (stI D l 0 0) by
  rw [stI_zero]
  exact Fam.made T4.out (Nat.le_of_lt HGW.out) (Nat.le_trans HNF.out (by decide)))
 obtain ⟨Au, cu, rfl, a1, a2, _⟩ := hru
 obtain ⟨ul, hul⟩ : ∃ x, x = (bvs l).length := ⟨_, rfl⟩
 have HULE := qH (show ul = l.length by rw [hul, bvs_length])
 rw [← hul] at RU HUO HUG a1 ⊢
 have HLN := qH (And.intro a1 a2)
 have c256' : w4.cell? ⟨w.heap.size, 256, none⟩ = some (.slice An n cn) := by rw [K4.out.cell 256, HCS.out]; exact dcl_n HL.out
 have HLE := qH (show ul ≤ 256 by rw [HULE.out]; exact hle)
 clear hml hb huo hg hul a1 a2 T2 T4 c256 hle
 go_wp2_with fail
 clear c256'
 go_loopw [18] (fun iv wl => ∃ (i : Nat) (ff : Nat → Value), iv = .int .i64 (i : Int) ∧ i ≤ n ∧ Fam wl w.heap.size w4.heap.size g n n n ff (stI D l i 0) ∧ w4.grownBy wl (some g)) (fun iv _ => n - (intOf iv).toNat)
 case atStart => exact ⟨0, _, rfl, Nat.zero_le _, F4.out, World.grownBy.refl _ _⟩
 clear F4
 obtain ⟨i, ff, rfl, hi, hf, hg⟩ := hrel
 have FR := qH hf
 have GR := qH hg
 have HI := qH hi
 have BL := qH (show Below w.heap.size w wr from B4.out.trans (Below.mono (show Below g w4 wr from ⟨hg.os, hg.tape, hg.output, hg.size, fun k hk => hg.block k (Nat.lt_trans hk HGT.out) fun e => by have := Option.some.inj e; omega⟩) (Nat.le_of_lt HGW.out)))
 clear hf hg hi
 by_cases hin : i < n
 ·have x1 : (i : Int) < (n : Int) := Int.ofNat_lt.2 hin
  have HIN := qH hin
  have HMI := qH (sub_next hin)
  have e3 := wrap_one i (lt_bigN hin HNF.out)
  have e4 := wrap_one' i (lt_bigN hin HNF.out)
  obtain ⟨r, hr⟩ : ∃ r, D.next[i]? = some r := ⟨_, List.getElem?_eq_getElem (by rw [← HN.out]; exact hin)⟩
  have HRR := qH hr
  obtain ⟨rl, hrl⟩ : ∃ rl, rl = r.length := ⟨_, rfl⟩
  have HRLE := qH hrl
  have hri := HR.out i r hr
  have hri2 := hri
  obtain ⟨Ar, cr, hvr, _⟩ := hri2
  rw [nums_length, ← hrl] at hvr
  rw [hvr] at hri
  have HRI := qH hri
  obtain ⟨bn, on, rfl, _, hcn⟩ := (HRN.out.below BL.out).at_ (by rw [List.length_map, List.length_range]; exact HNP.out)
  have hci : wr.cell? ⟨bn, on + i, none⟩ = some (.slice Ar rl cr) := hcn i _ (by simp [hin, hvr])
  clear hin hr hrl hri hvr hcn
  rename_i wi
  go_wp2_with fail
  go_loopw [25] (fun kv wl => ∃ (k : Nat) (ff : Nat → Value), kv = .int .i64 (k : Int) ∧ k ≤ ul ∧ Fam wl w.heap.size w4.heap.size g n n n ff (stI D l i k) ∧ w4.grownBy wl (some g)) (fun kv _ => ul - (intOf kv).toNat)
  case atStart => exact ⟨0, ff, rfl, Nat.zero_le _, FR.out, GR.out⟩
  clear FR GR hci BL
  obtain ⟨k, ff, rfl, hk, hf, hg⟩ := hrel
  have FK := qH hf
  have GK := qH hg
  have HK := qH hk
  have BK := qH (show Below w.heap.size w wr from B4.out.trans (Below.mono (show Below g w4 wr from ⟨hg.os, hg.tape, hg.output, hg.size, fun k hk => hg.block k (Nat.lt_trans hk HGT.out) fun e => by have := Option.some.inj e; omega⟩) (Nat.le_of_lt HGW.out)))
  clear hf hg hk
  obtain ⟨wk, hwk⟩ : ∃ v : World, v = wr := ⟨_, rfl⟩
  subst hwk
  by_cases hkl : k < ul
  ·have y1 : (k : Int) < (ul : Int) := Int.ofNat_lt.2 hkl
   have HKL := qH hkl
   have HMK := qH (sub_next hkl)
   have f3 := wrap_len hkl HLN.out.1 HLN.out.2
   have f4 := wrap_len' hkl HLN.out.1 HLN.out.2
   obtain ⟨c, hc⟩ : ∃ c, l[k]? = some c := ⟨_, List.getElem?_eq_getElem (by rw [← HULE.out]; exact hkl)⟩
   obtain ⟨jc, hjc⟩ := List.mem_iff_getElem?.1 ((HML.out c).1 (List.mem_of_getElem? hc))
   have hcr := clsA_lt HL.out hjc
   rw [← HM.out.rows r (List.mem_of_getElem? HRR.out)] at hcr
   obtain ⟨x, hx⟩ : ∃ x, r[c.toNat]? = some x := ⟨_, List.getElem?_eq_getElem hcr⟩
   have HXS := qH (stpL_at hc HRR.out hx)
   obtain ⟨q, hq⟩ : ∃ q, q = c.toNat := ⟨_, rfl⟩
   have y3 : (q : Int) < (rl : Int) := by rw [hq, HRLE.out]; exact Int.ofNat_lt.2 hcr
   obtain ⟨bu, ou, rfl, hbu, hcu⟩ := RU.out.at_ (by rw [bvs_length, ← HULE.out]; exact Nat.lt_of_le_of_lt (Nat.zero_le _) hkl)
   have hug : bu ≠ g := HUG.out bu rfl
   have hcu2 : wk.cell? ⟨bu, ou + k, none⟩ = some (bv c) := cell_heap (hcu k _ (by rw [bvs, List.getElem?_map, hc]; rfl)) (GK.out.block bu hbu fun e => hug (by rw [Option.some.inj e]))
   have hrp : 0 < rl := by rw [HRLE.out]; exact Nat.lt_of_le_of_lt (Nat.zero_le _) hcr
   obtain ⟨br, or, rfl, hbr, hcr2⟩ := HRI.out.at_ (by rw [nums_length, ← HRLE.out]; exact hrp)
   have hx2 : (nums .i64 r)[q]? = some (.int .i64 x) := by rw [nums, List.getElem?_map, hq, hx]; rfl
   have HX := qH (show w.cell? ⟨br, or + q, none⟩ = some (.int .i64 x) from hcr2 q _ hx2)
   have HBR := qH hbr
   have hbc : bv c = .int .u8 (q : Int) := by rw [hq]; first | done | rfl
   rw [hbc] at hcu2
   obtain ⟨Ai, ci, hfi⟩ := FK.out.slice HIN.out
   have HFI := qH hfi
   clear hc hjc hcr hx hq hcu hbu hug hkl hbr hcr2 hfi hx2 hrp hbc
   go_wp2_with fail
   refine mc_start (fun V => w4.grownBy V (some g)) (fun V => V.heap[g]? = wk.heap[g]?) 13 (by kernel_rfl) (fun wd hwd => ?_)
   have hX : w4.grownBy wd (some g) := by rw [hwd]; exact grownS_trans GK.out (grownS_drew _ _)
   have hY : wd.heap[g]? = wk.heap[g]? := by rw [hwd]; rfl
   have BWD := qH (show Below wk.heap.size wk wd by rw [hwd]; exact (Below.refl _ _).drew)
   clear hwd
   refine mc_take (i := 0) (oi := ⟨some 29, _, _, _, _, _⟩) (v := ?_) rfl (by kernel_rfl) (by kernel_rfl) (by kernel_rfl) (fun _ _ _ h => h) rfl hX ?_ ?_; rotate_left; (intro W hW; go_simp; try with_reducible rfl); simp only [Act.put, qA, qB, qC]
   refine mc_take (i := 1) (oi := ⟨some 30, _, _, _, _, _⟩) (v := ?_) rfl (by kernel_rfl) (by kernel_rfl) (by kernel_rfl) (fun _ _ _ h => h) rfl hX ?_ ?_; rotate_left; (intro W hW; go_simp; try with_reducible rfl); simp only [Act.put, qA, qB, qC]
   refine mc_take (i := 2) (oi := ⟨some 31, _, _, _, _, _⟩) (v := ?_) rfl (by kernel_rfl) (by kernel_rfl) (by kernel_rfl) (fun _ _ _ h => h) rfl hX ?_ ?_; rotate_left; (intro W hW; go_simp; try with_reducible rfl); simp only [Act.put, qA, qB, qC]
   refine mc_take (i := 3) (oi := ⟨some 32, _, _, _, _, _⟩) (v := ?_) rfl (by kernel_rfl) (by kernel_rfl) (by kernel_rfl) (fun _ _ _ h => h) rfl hX ?_ ?_; rotate_left; (intro W hW; go_simp; try with_reducible rfl); simp only [Act.put, qA, qB, qC]
   refine mc_take (i := 4) (oi := ⟨some 33, _, _, _, _, _⟩) (v := ?_) rfl (by kernel_rfl) (by kernel_rfl) (by kernel_rfl) (fun _ _ _ h => h) rfl hX ?_ ?_; rotate_left; (intro W hW; go_simp; try with_reducible rfl); simp only [Act.put, qA, qB, qC]
   refine mc_takeS (i := 5) (oi := ⟨some 34, _, _, _, _, _⟩) (v := .slice Ai (stI D l i k i).length ci) rfl (by kernel_rfl) (by kernel_rfl) (by kernel_rfl) (fun _ _ _ h => h) rfl hX hY (fun V _ hS => ld_ints9 (.tmp 33) rfl rfl (by rw [← HFI.out]; exact cell_heap (FK.out.cell HIN.out) hS)) ?_; simp only [Act.put, qA, qB, qC]
   refine mc_take (i := 6) (oi := ⟨some 35, _, _, _, _, _⟩) (v := ?_) rfl (by kernel_rfl) (by kernel_rfl) (by kernel_rfl) (fun _ _ _ h => h) rfl hX ?_ ?_; rotate_left; (intro W hW; go_simp; try with_reducible rfl); simp only [Act.put, qA, qB, qC]
   refine mc_take (i := 7) (oi := ⟨some 36, _, _, _, _, _⟩) (v := ?_) rfl (by kernel_rfl) (by kernel_rfl) (by kernel_rfl) (fun _ _ _ h => h) rfl hX ?_ ?_; rotate_left; (intro W hW; go_simp; try with_reducible rfl); simp only [Act.put, qA, qB, qC]
   refine mc_take (i := 8) (oi := ⟨some 37, _, _, _, _, _⟩) (v := ?_) rfl (by kernel_rfl) (by kernel_rfl) (by kernel_rfl) (fun _ _ _ h => h) rfl hX ?_ ?_; rotate_left; (intro W hW; go_simp; try with_reducible rfl); simp only [Act.put, qA, qB, qC]
   refine mc_take (i := 9) (oi := ⟨some 38, _, _, _, _, _⟩) (v := .int .i64 x) rfl (by kernel_rfl) (by kernel_rfl) (by kernel_rfl) (fun _ _ _ h => h) rfl hX (fun V hT => ld_int9 (.tmp 37) rfl rfl (cell_heap HX.out ((hT.block br (Nat.lt_of_lt_of_le HBR.out B4.out.size) fun e => by have h1 := Option.some.inj e; have h2 := HBR.out; have h3 := HGW.out; omega).trans (B4.out.block br HBR.out)))) ?_; simp only [Act.put, qA, qB, qC]
   refine mc_actB (i := 10) (o := ⟨some 39, _, _, _, _, _⟩) rfl (by kernel_rfl) rfl (fun K hK => ?_)
   refine wp_bldI 41 3 (.tmp 38) rfl i1 Try.underlying41 hi1 0 hy0 hy1 x rfl ?_
   intro wb hr hb
   have RB := qH hr
   have BB := qH (BWD.out.trans (hb.mono BWD.out.size))
   refine hK _ _ (grownS_below hX hb) ((hb.block g (by have h1 := HGT.out; have h2 := hX.size; omega)).trans hY) ?_
   clear hK K
   (try simp only [Act.put, qA, qB, qC])
   replace hX := grownS_below hX hb
   clear hr hb hY
   have FB := qH (FK.out.below BB.out)
   have hY : wb.heap[g]? = wk.heap[g]? := BB.out.block g (by have h1 := HGT.out; have h2 := GK.out.size; omega)
   have HLI := qH (show (stI D l i k i).length = k by rw [stI_at, List.length_take, stpL_len, ← HULE.out]; exact Nat.min_eq_left HK.out)
   refine mc_actB (i := 11) (o := ⟨some 40, _, _, _, _, _⟩) rfl (by kernel_rfl) rfl (fun K hK => ?_)
   refine wp_appW (base := w4.heap.size) (.tmp 34) (.tmp 39) 41 rfl 3 i1 (.int .i64 0) 8 Try.underlying41 hi1 hy0 hy1 hy2 rfl _ _ (nums .i64 (stI D l i k i)) rfl (by rw [← HFI.out]; exact FB.out.row i HIN.out) _ (nums .i64 [x]) rfl RB.out (fun u hu => by obtain rfl := List.mem_singleton.1 hu; rfl) (by rw [HLI.out, nums_length]; exact Nat.le_trans (Nat.add_le_add_right (Nat.le_trans HK.out HLE.out) 1) (by decide)) (by decide) (hX.size) ?_
   intro v2 wc ho hgr hwr
   have HO := qH (show wc.ownsRow w4.heap.size 3 1 v2 (stI D l i k i ++ [x]).length (nums .i64 (stI D l i k i ++ [x])) by rw [List.length_append, nums, List.map_append]; exact ho)
   have HIB := qH (show ∀ q, (ff i).ownBlock = some q → w4.heap.size ≤ q from fun q hq => (own6_lt (FB.out.row i HIN.out) q hq).2)
   have hX2 : w4.grownBy wc (some g) := grown_ownH hX hgr fun q hq => HIB.out q (by rw [HFI.out]; exact hq)
   have FP := qH (FB.out.push HIN.out HIN.out HO.out (by rw [HFI.out]; exact hgr) (fun q hq => by rw [HFI.out]; exact hwr q hq))
   obtain ⟨A2, c2, rfl⟩ := ownC_slice HO.out
   refine hK _ _ hX2 ((hgr.block g (by have h1 := HGT.out; have h2 := hX.size; omega) fun e => FB.out.ng i HIN.out (by rw [HFI.out]; first | exact e | exact e.symm)).trans hY) ?_
   clear hK K
   (try simp only [Act.put, qA, qB, qC])
   clear hX hY
   have hX := hX2
   refine mc_take (i := 12) (oi := ⟨some 41, _, _, _, _, _⟩) (v := ?_) rfl (by kernel_rfl) (by kernel_rfl) (by kernel_rfl) (fun _ _ _ h => h) rfl hX ?_ ?_; rotate_left; (intro W hW; go_simp; try with_reducible rfl); simp only [Act.put, qA, qB, qC]
   refine mc_last (i := 13) (o := ⟨none, _, _, _, _, _⟩) rfl (by kernel_rfl) rfl (fun K hK => ?_)
   have FC := qH (show Fam wc w.heap.size w4.heap.size g n n 0 ff (stI D l i k) from ⟨own6_stay FB.out.top fun j hj => by
    have e := Option.some.inj (show some g = some j from hj)
    subst e
    exact hgr.block g FB.out.glt.1 fun e => FB.out.ng i HIN.out (by rw [HFI.out]; first | exact e | exact e.symm), fun i hi => absurd hi (Nat.not_lt_zero _), fun i hi => absurd hi (Nat.not_lt_zero _), fun i j hi => absurd hi (Nat.not_lt_zero _)⟩)
   refine wp_stL (.tmp 41) (.tmp 40) rfl g i rfl A2 _ c2 rfl _ (FC.out.cell HIN.out) (FC.out.frozen HIN.out) ?_
   refine hK _ _ (grownS_set hX _ _) ?_
   clear hK K
   (try simp only [Act.put, qA, qB, qC])
   refine wpAnyC_done (by kernel_rfl) ?_ _
   have FZ := qH FP.out
   rw [stI_put HXS.out] at FZ
   have GZ := qH (grownS_set hX2 i (.slice A2 (stI D l i k i ++ [x]).length c2))
   obtain ⟨wz, hwz⟩ : ∃ v : World, v = wc.setCell ⟨g, i, none⟩ (.slice A2 (stI D l i k i ++ [x]).length c2) := ⟨_, rfl⟩
   rw [← hwz] at FZ GZ ⊢
   clear hwz hX hX2 HO FP FC ho hgr hwr FB BB RB BWD FK GK hcu2
   go_wp2_with fail
   exact ⟨⟨k + 1, _, rfl, HKL.out, FZ.out, GZ.out⟩, by simpa [intOf] using HMK.out⟩
  ·obtain rfl : k = ul := Nat.le_antisymm HK.out (Nat.le_of_not_lt hkl)
   have y1 : ¬ ((k : Int) < (k : Int)) := Int.lt_irrefl _
   have FZ := qH FK.out
   rw [stI_next (Nat.le_of_eq HULE.out.symm)] at FZ
   clear hkl FK
   go_wp2_with fail
   exact ⟨⟨i + 1, ff, rfl, HIN.out, FZ.out, GK.out⟩, by simpa [intOf] using HMI.out⟩
 ·obtain rfl : i = n := Nat.le_antisymm HI.out (Nat.le_of_not_lt hin)
  have x1 : ¬ ((i : Int) < (i : Int)) := Int.lt_irrefl _
  clear hin
  go_wp2_with fail
  go_ret
  exact ⟨_, rfl, l, FR.out.lnk.congr fun q hq => stI_all hq, HML.out, by rw [← HULE.out]; exact HLE.out, BL.out⟩
end Go.Proofs.Ytbbodfpnneifgaa
