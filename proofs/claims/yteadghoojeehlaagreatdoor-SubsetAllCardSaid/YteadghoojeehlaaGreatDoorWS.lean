/-
  Texts of this proof, put together: ScI, ScF, ScJ, RegM. No statement is proved here.
-/
import Derived.Test.YteadghoojeehlaaGreatDoorWR
import Derived.Test.YteadghoojeehlaaGreatDoorWN
import Derived.Test.YteadghoojeehlaaGreatDoorWK
import Derived.Test.YteadghoojeehlaaGreatDoorWH
import Derived.Test.YteadghoojeehlaaGreatDoorWD
import Derived.Test.YteadghoojeehlaaGreatDoorWI
import Derived.Test.YteadghoojeehlaaGreatDoorWJ
import Derived.Test.YteadghoojeehlaaGreatDoorWQ
namespace Go.Proofs.YteadghoojeehlaaGreatDoor
open Go.RowKit
set_option linter.unusedSimpArgs false
set_option linter.unusedVariables false
def Fx (w : World) (H : Nat) (Wb : Nat → Prop) (v : Value) (X : List Int) : Prop := Row w v (nums .i64 X) ∧ (X ≠ [] → ∀ k, v.ownBlock = some k → H ≤ k ∧ ¬ Wb k)
theorem Fx.lt {w : World} {H : Nat} {Wb : Nat → Prop} {v : Value} {X : List Int} (h : Fx w H Wb v X) (hne : X ≠ []) {k : Nat} (hk : v.ownBlock = some k) : k < w.heap.size := by
 obtain ⟨⟨A, cap, rfl, _, _, _, hc⟩, _⟩ := h
 obtain ⟨b, off, rfl, hb, _⟩ := hc (by intro e; apply hne; have := congrArg List.length e; rw [nums_length] at this; exact List.length_eq_zero_iff.1 this)
 have e : some b = some k := hk
 injection e with e
 omega
theorem Fx.off {w w' : World} {H : Nat} {Wb Wb' D : Nat → Prop} {v : Value} {X : List Int} (h : Fx w H Wb v X) (ho : Off D w w') (hD : ∀ k, D k → Wb k ∨ k < H) (hw : ∀ k, Wb' k → Wb k ∨ w.heap.size ≤ k) : Fx w' H Wb' v X := by
 have hlt := fun hne k hk => h.lt hne (k := k) hk
 obtain ⟨⟨A, cap, rfl, hl, hm, h0, hc⟩, hn⟩ := h
 refine ⟨⟨A, cap, rfl, hl, hm, h0, fun hne => ?_⟩, fun hne k hk => ⟨(hn hne k hk).1, fun hwb => ?_⟩⟩
 ·have hX : X ≠ [] := by rintro rfl; exact hne rfl
  obtain ⟨b, off, rfl, hb, hcell⟩ := hc hne
  have hnb := hn hX b rfl
  exact ⟨b, off, rfl, Nat.lt_of_lt_of_le hb ho.size, fun i u hu => ho.cell hb (fun hd => by
   rcases hD b hd with h1 | h1
   ·exact hnb.2 h1
   ·have := hnb.1; omega) (hcell i u hu)⟩
 ·rcases hw k hwb with h1 | h1
  ·exact (hn hne k hk).2 h1
  ·have := hlt hne k hk
   omega
theorem Fx.new {w w' : World} {H : Nat} {Wb : Nat → Prop} {v : Value} {X : List Int} (h : Row w' v (nums .i64 X)) (hb : ∀ k, v.ownBlock = some k → w.heap.size ≤ k) (hH : H ≤ w.heap.size) (hw : ∀ k, Wb k → k < w.heap.size) : Fx w' H Wb v X :=
 ⟨h, fun _ k hk => ⟨Nat.le_trans hH (hb k hk), fun hwb => by have h1 := hb k hk; have h2 := hw k hwb; omega⟩⟩
def WbE (gd : Nat) (lv vn ve rv : Value) (k : Nat) : Prop := k = gd ∨ lv.ownBlock = some k ∨ vn.ownBlock = some k ∨ ve.ownBlock = some k ∨ rv.ownBlock = some k
structure DE (w : World) (H gd : Nat) (cl : List UInt8) (lv vn ve rv : Value) (vf rf : Nat → Value) (L R : List (List Int)) (E : List Bool) (r : List Int) : Prop where
 blk : Blk w gd 31 (dcl cl vn ve)
 cl : cl.length = 256
 gB : H ≤ gd
 ownl : w.ownsRow H 53 1 lv L.length ((List.range L.length).map vf)
 ownn : w.ownsRow H 53 1 vn R.length ((List.range R.length).map rf)
 owne : w.ownsRow H 4 1 ve E.length (bools E)
 ownr : w.ownsRow H 3 1 rv r.length (nums .i64 r)
 vrow : ∀ i X, L[i]? = some X → Fx w H (WbE gd lv vn ve rv) (vf i) X
 rrow : ∀ i X, R[i]? = some X → Fx w H (WbE gd lv vn ve rv) (rf i) X
 gl : lv.ownBlock ≠ some gd
 gn : vn.ownBlock ≠ some gd
 ge : ve.ownBlock ≠ some gd
 gr : rv.ownBlock ≠ some gd
 ln : ∀ k, lv.ownBlock = some k → vn.ownBlock ≠ some k
 le : ∀ k, lv.ownBlock = some k → ve.ownBlock ≠ some k
 lr : ∀ k, lv.ownBlock = some k → rv.ownBlock ≠ some k
 ne : ∀ k, vn.ownBlock = some k → ve.ownBlock ≠ some k
 nr : ∀ k, vn.ownBlock = some k → rv.ownBlock ≠ some k
 er : ∀ k, ve.ownBlock = some k → rv.ownBlock ≠ some k
section
variable {w w1 w2 w' : World} {H gd : Nat} {cl : List UInt8} {lv vn ve rv lv' vn' ve' rv' : Value} {vf rf : Nat → Value} {L R : List (List Int)} {E : List Bool} {r : List Int}
theorem DE.lt (x : DE w H gd cl lv vn ve rv vf rf L R E r) {k : Nat} (h : WbE gd lv vn ve rv k) : k < w.heap.size := by
 rcases h with h | h | h | h | h
 ·rw [h]; exact x.blk.lt
 ·exact (own6_lt x.ownl k h).1
 ·exact (own6_lt x.ownn k h).1
 ·exact (own6_lt x.owne k h).1
 ·exact (own6_lt x.ownr k h).1
theorem DE.ge_ (x : DE w H gd cl lv vn ve rv vf rf L R E r) {k : Nat} (h : WbE gd lv vn ve rv k) : H ≤ k := by
 rcases h with h | h | h | h | h
 ·rw [h]; exact x.gB
 ·exact (own6_lt x.ownl k h).2
 ·exact (own6_lt x.ownn k h).2
 ·exact (own6_lt x.owne k h).2
 ·exact (own6_lt x.ownr k h).2
theorem DE.below (x : DE w H gd cl lv vn ve rv vf rf L R E r) (hb : Below w.heap.size w w') : DE w' H gd cl lv vn ve rv vf rf L R E r := by
 have ho : Off (WbE gd lv vn ve rv) w w' := Off.new _ hb
 have st : ∀ k, WbE gd lv vn ve rv k → w'.heap[k]? = w.heap[k]? := fun k hk => hb.block k (x.lt hk)
 refine { x with blk := (st gd (.inl rfl)).trans x.blk, ownl := own6_stay x.ownl fun j hj => st j (.inr (.inl hj)), ownn := own6_stay x.ownn fun j hj => st j (.inr (.inr (.inl hj))), owne := own6_stay x.owne fun j hj => st j (.inr (.inr (.inr (.inl hj)))), ownr := own6_stay x.ownr fun j hj => st j (.inr (.inr (.inr (.inr hj)))), vrow := fun i X hX => (x.vrow i X hX).off ho (fun k hk => .inl hk) fun k hk => .inl hk, rrow := fun i X hX => (x.rrow i X hX).off ho (fun k hk => .inl hk) fun k hk => .inl hk }
theorem DE.pushL (x : DE w H gd cl lv vn ve rv vf rf L R E r) {v : Value} {X : List Int} (hv : Fx w H (WbE gd lv vn ve rv) v X) (hb : Below w.heap.size w w1)
  (ho : w2.ownsRow H 53 1 lv' (L.length + 1) ((List.range L.length).map vf ++ [v])) (hg : w1.grownBy w2 lv.ownBlock) (hw : ∀ k, lv'.ownBlock = some k → lv.ownBlock = some k ∨ w1.heap.size ≤ k) :
  DE w2 H gd cl lv' vn ve rv (fun i => if i = L.length then v else vf i) rf (L ++ [X]) R E r := by
 have x1 := x.below hb
 have hv1 : Fx w1 H (WbE gd lv vn ve rv) v X := hv.off (Off.new (fun _ => False) hb) (fun k hk => hk.elim) fun k hk => .inl hk
 have hof : Off (WbE gd lv vn ve rv) w1 w2 := Off.grown hg fun k hk => .inr (.inr (.inl hk))
 have hwb : ∀ k, WbE gd lv' vn ve rv k → WbE gd lv vn ve rv k ∨ w1.heap.size ≤ k := fun k hk => by
  rcases hk with h | h | h
  ·exact .inl (.inl h)
  ·rcases hw k h with h1 | h1
   ·exact .inl (.inr (.inl h1))
   ·exact .inr h1
  ·exact .inl (.inr (.inr h))
 have st : ∀ k, k < w1.heap.size → lv.ownBlock ≠ some k → w2.heap[k]? = w1.heap[k]? := fun k hk hne => hg.block k hk fun e => hne e.symm
 have ap : ∀ u : Value, (∀ k, u.ownBlock = some k → k < w1.heap.size) → (∀ k, lv.ownBlock = some k → u.ownBlock ≠ some k) → ∀ k, lv'.ownBlock = some k → u.ownBlock ≠ some k := fun u h1 h2 k hk e => by
  rcases hw k hk with h3 | h3
  ·exact h2 k h3 e
  ·have := h1 k e
   omega
 refine ⟨(st gd x1.blk.lt x.gl).trans x1.blk, x.cl, x.gB, ?_, own6_stay x1.ownn fun j hj => st j (own6_lt x1.ownn j hj).1 fun e => x.ln j e hj, own6_stay x1.owne fun j hj => st j (own6_lt x1.owne j hj).1 fun e => x.le j e hj, own6_stay x1.ownr fun j hj => st j (own6_lt x1.ownr j hj).1 fun e => x.lr j e hj,
  fun i Y hY => ?_, fun i Y hY => (x1.rrow i Y hY).off hof (fun k hk => .inl hk) hwb, fun e => ?_, x.gn, x.ge, x.gr, ap vn (fun k hk => (own6_lt x1.ownn k hk).1) x.ln, ap ve (fun k hk => (own6_lt x1.owne k hk).1) x.le, ap rv (fun k hk => (own6_lt x1.ownr k hk).1) x.lr, x.ne, x.nr, x.er⟩
 ·rw [List.length_append, List.length_singleton, range_snoc]
  exact ho
 ·show Fx w2 H _ (if i = L.length then v else vf i) Y
  by_cases hi : i = L.length
  ·rw [if_pos hi]
   have e : Y = X := by
    rw [hi, List.getElem?_append_right (Nat.le_refl _), Nat.sub_self] at hY
    simpa using hY.symm
   rw [e]
   exact hv1.off hof (fun k hk => .inl hk) hwb
  ·rw [if_neg hi]
   have hlt : i < L.length := by
    have := (List.getElem?_eq_some_iff.1 hY).1
    rw [List.length_append, List.length_singleton] at this
    omega
   rw [List.getElem?_append_left hlt] at hY
   exact (x1.vrow i Y hY).off hof (fun k hk => .inl hk) hwb
 ·rcases hw gd e with h | h
  ·exact x.gl h
  ·have := x1.blk.lt
   omega
theorem DE.pushR (x : DE w H gd cl lv vn ve rv vf rf L R E r) {n : Int} (hb : Below w.heap.size w w1)
  (ho : w2.ownsRow H 3 1 rv' (r ++ [n]).length (nums .i64 (r ++ [n]))) (hg : w1.grownBy w2 rv.ownBlock) (hw : ∀ k, rv'.ownBlock = some k → rv.ownBlock = some k ∨ w1.heap.size ≤ k) :
  DE w2 H gd cl lv vn ve rv' vf rf L R E (r ++ [n]) := by
 have x1 := x.below hb
 have hof : Off (WbE gd lv vn ve rv) w1 w2 := Off.grown hg fun k hk => .inr (.inr (.inr (.inr (.inr hk))))
 have hwb : ∀ k, WbE gd lv vn ve rv' k → WbE gd lv vn ve rv k ∨ w1.heap.size ≤ k := fun k hk => by
  rcases hk with h | h | h | h | h
  ·exact .inl (.inl h)
  ·exact .inl (.inr (.inl h))
  ·exact .inl (.inr (.inr (.inl h)))
  ·exact .inl (.inr (.inr (.inr (.inl h))))
  ·rcases hw k h with h1 | h1
   ·exact .inl (.inr (.inr (.inr (.inr h1))))
   ·exact .inr h1
 have st : ∀ k, k < w1.heap.size → rv.ownBlock ≠ some k → w2.heap[k]? = w1.heap[k]? := fun k hk hne => hg.block k hk fun e => hne e.symm
 have ap : ∀ u : Value, (∀ k, u.ownBlock = some k → k < w1.heap.size) → (∀ k, u.ownBlock = some k → rv.ownBlock ≠ some k) → ∀ k, u.ownBlock = some k → rv'.ownBlock ≠ some k := fun u h1 h2 k hk e => by
  rcases hw k e with h3 | h3
  ·exact h2 k hk h3
  ·have := h1 k hk
   omega
 refine ⟨(st gd x1.blk.lt x.gr).trans x1.blk, x.cl, x.gB, own6_stay x1.ownl fun j hj => st j (own6_lt x1.ownl j hj).1 (x.lr j hj), own6_stay x1.ownn fun j hj => st j (own6_lt x1.ownn j hj).1 (x.nr j hj), own6_stay x1.owne fun j hj => st j (own6_lt x1.owne j hj).1 (x.er j hj), ho,
  fun i Y hY => (x1.vrow i Y hY).off hof (fun k hk => .inl hk) hwb, fun i Y hY => (x1.rrow i Y hY).off hof (fun k hk => .inl hk) hwb, x.gl, x.gn, x.ge, fun e => ?_, x.ln, x.le, ap lv (fun k hk => (own6_lt x1.ownl k hk).1) x.lr, x.ne, ap vn (fun k hk => (own6_lt x1.ownn k hk).1) x.nr, ap ve (fun k hk => (own6_lt x1.owne k hk).1) x.er⟩
 rcases hw gd e with h | h
 ·exact x.gr h
 ·have := x1.blk.lt
  omega
theorem DE.clear (x : DE w H gd cl lv vn ve rv vf rf L R E r) : DE w H gd cl lv vn ve (.slice none 0 0) vf rf L R E [] :=
 {x with ownr := ownN _ _ _, vrow := fun i X hX => ⟨(x.vrow i X hX).1, fun hne k hk => ⟨((x.vrow i X hX).2 hne k hk).1, fun hwb => ((x.vrow i X hX).2 hne k hk).2 (by
   rcases hwb with h | h | h | h | h
   ·exact .inl h
   ·exact .inr (.inl h)
   ·exact .inr (.inr (.inl h))
   ·exact .inr (.inr (.inr (.inl h)))
   ·cases h)⟩⟩, rrow := fun i X hX => ⟨(x.rrow i X hX).1, fun hne k hk => ⟨((x.rrow i X hX).2 hne k hk).1, fun hwb => ((x.rrow i X hX).2 hne k hk).2 (by
   rcases hwb with h | h | h | h | h
   ·exact .inl h
   ·exact .inr (.inl h)
   ·exact .inr (.inr (.inl h))
   ·exact .inr (.inr (.inr (.inl h)))
   ·cases h)⟩⟩, gr := fun h => (by cases h), lr := fun k _ h => (by cases h), nr := fun k _ h => (by cases h), er := fun k _ h => (by cases h) }
def WbN (gd : Nat) (vn ve : Value) (k : Nat) : Prop := k = gd ∨ vn.ownBlock = some k ∨ ve.ownBlock = some k
theorem DE.next (x : DE w H gd cl lv vn ve rv vf rf L R E r) {b : Bool} {w3 w4 : World} (hb1 : Below w.heap.size w w1)
  (hon : w2.ownsRow H 53 1 vn' (R.length + 1) ((List.range R.length).map rf ++ [rv])) (hg1 : w1.grownBy w2 vn.ownBlock) (hw1 : ∀ k, vn'.ownBlock = some k → vn.ownBlock = some k ∨ w1.heap.size ≤ k) (hb2 : Below w2.heap.size w2 w3)
  (hoe : w4.ownsRow H 4 1 ve' (E ++ [b]).length (bools (E ++ [b]))) (hg2 : w3.grownBy w4 ve.ownBlock) (hw2 : ∀ k, ve'.ownBlock = some k → ve.ownBlock = some k ∨ w3.heap.size ≤ k) :
  Blk w4 gd 31 (dcl cl vn ve) ∧ Blk (w4.setCell ⟨gd, 256, none⟩ vn') gd 31 (dcl cl vn' ve) ∧
   DE ((w4.setCell ⟨gd, 256, none⟩ vn').setCell ⟨gd, 257, none⟩ ve') H gd cl lv vn' ve' (.slice none 0 0) vf (fun i => if i = R.length then rv else rf i) L (R ++ [r]) (E ++ [b]) [] ∧
   Off (WbN gd vn ve) w ((w4.setCell ⟨gd, 256, none⟩ vn').setCell ⟨gd, 257, none⟩ ve') := by
 have s1 := hb1.size
 have s2 := hg1.size
 have s3 := hb2.size
 have s4 := hg2.size
 have ltn : ∀ k, vn.ownBlock = some k → k < w.heap.size := fun k hk => (own6_lt x.ownn k hk).1
 have lte : ∀ k, ve.ownBlock = some k → k < w.heap.size := fun k hk => (own6_lt x.owne k hk).1
 have st : ∀ k, k < w.heap.size → vn.ownBlock ≠ some k → ve.ownBlock ≠ some k → w4.heap[k]? = w.heap[k]? := fun k hk h1 h2 =>
  (hg2.block k (by omega) fun e => h2 e.symm).trans ((hb2.block k (by omega)).trans ((hg1.block k (by omega) fun e => h1 e.symm).trans (hb1.block k hk)))
 have fin : ∀ k, k ≠ gd → ((w4.setCell ⟨gd, 256, none⟩ vn').setCell ⟨gd, 257, none⟩ ve').heap[k]? = w4.heap[k]? := fun k hk =>
  (Below.heap_setCell _ ⟨gd, 257, none⟩ ve' k hk).trans (Below.heap_setCell w4 ⟨gd, 256, none⟩ vn' k hk)
 have hgd4 : Blk w4 gd 31 (dcl cl vn ve) := (st gd x.blk.lt x.gn x.ge).trans x.blk
 have hgd5 : Blk (w4.setCell ⟨gd, 256, none⟩ vn') gd 31 (dcl cl vn' ve) := by
  have := hgd4.set 256 vn'
  rwa [dcl_setn x.cl] at this
 have hgd6 : Blk ((w4.setCell ⟨gd, 256, none⟩ vn').setCell ⟨gd, 257, none⟩ ve') gd 31 (dcl cl vn' ve') := by
  have := hgd5.set 257 ve'
  rwa [dcl_sete x.cl] at this
 have hsz : ((w4.setCell ⟨gd, 256, none⟩ vn').setCell ⟨gd, 257, none⟩ ve').heap.size = w4.heap.size := by simp
 have hof : Off (WbN gd vn ve) w ((w4.setCell ⟨gd, 256, none⟩ vn').setCell ⟨gd, 257, none⟩ ve') := by
  refine ⟨?_, ?_, ?_, by rw [hsz]; omega, fun k hk hn => (fin k fun e => hn (.inl e)).trans (st k hk (fun e => hn (.inr (.inl e))) (fun e => hn (.inr (.inr e))))⟩
  ·exact hg2.os.trans (hb2.os.trans (hg1.os.trans hb1.os))
  ·exact hg2.tape.trans (hb2.tape.trans (hg1.tape.trans hb1.tape))
  ·exact hg2.output.trans (hb2.output.trans (hg1.output.trans hb1.output))
 have hof2 : Off (WbE gd lv vn ve rv) w ((w4.setCell ⟨gd, 256, none⟩ vn').setCell ⟨gd, 257, none⟩ ve') := hof.mono fun k _ hk => by
  rcases hk with h | h | h
  ·exact .inl h
  ·exact .inr (.inr (.inl h))
  ·exact .inr (.inr (.inr (.inl h)))
 -- what a block of the new values is
 have nn : ∀ k, vn'.ownBlock = some k → vn.ownBlock = some k ∨ w.heap.size ≤ k := fun k hk => by
  rcases hw1 k hk with h | h
  ·exact .inl h
  ·exact .inr (by omega)
 have nee : ∀ k, ve'.ownBlock = some k → ve.ownBlock = some k ∨ (w.heap.size ≤ k ∧ w2.heap.size ≤ k) := fun k hk => by
  rcases hw2 k hk with h | h
  ·exact .inl h
  ·exact .inr ⟨by omega, by omega⟩
 have n2 : ∀ k, vn'.ownBlock = some k → k < w2.heap.size := fun k hk => (own6_lt hon k hk).1
 have hwb : ∀ k, WbE gd lv vn' ve' (.slice none 0 0) k → WbE gd lv vn ve rv k ∨ w.heap.size ≤ k := fun k hk => by
  rcases hk with h | h | h | h | h
  ·exact .inl (.inl h)
  ·exact .inl (.inr (.inl h))
  ·rcases nn k h with h1 | h1
   ·exact .inl (.inr (.inr (.inl h1)))
   ·exact .inr h1
  ·rcases nee k h with h1 | h1
   ·exact .inl (.inr (.inr (.inr (.inl h1))))
   ·exact .inr h1.1
  ·cases h
 have gn' : vn'.ownBlock ≠ some gd := fun e => by
  rcases nn gd e with h | h
  ·exact x.gn h
  ·have := x.blk.lt; omega
 have ge' : ve'.ownBlock ≠ some gd := fun e => by
  rcases nee gd e with h | h
  ·exact x.ge h
  ·have := x.blk.lt; omega
 refine ⟨hgd4, hgd5, ⟨hgd6, x.cl, x.gB, own6_stay x.ownl fun j hj => (fin j fun e => x.gl (by rw [← e]; exact hj)).trans (st j (own6_lt x.ownl j hj).1 (x.ln j hj) (x.le j hj)), ?_, ?_, ownN _ _ _, fun i Y hY => (x.vrow i Y hY).off hof2 (fun k hk => .inl hk) hwb, fun i Y hY => ?_, x.gl, gn', ge', fun h => (by cases h), fun k hk e => ?_, fun k hk e => ?_, fun k _ h => (by cases h), fun k hk e => ?_, fun k _ h => (by cases h), fun k _ h => (by cases h)⟩, hof⟩
 ·rw [List.length_append, List.length_singleton, range_snoc]
  refine own6_stay hon fun j hj => (fin j fun e => gn' (by rw [← e]; exact hj)).trans ?_
  have hj2 := n2 j hj
  exact (hg2.block j (by omega) fun e => by
   rcases hw1 j hj with h | h
   ·exact x.ne j h e.symm
   ·have h3 := lte j e.symm; omega).trans (hb2.block j hj2)
 ·exact own6_stay hoe fun j hj => fin j fun e => ge' (by rw [← e]; exact hj)
 ·show Fx _ H _ (if i = R.length then rv else rf i) Y
  by_cases hi : i = R.length
  ·rw [if_pos hi]
   have e : Y = r := by
    rw [hi, List.getElem?_append_right (Nat.le_refl _), Nat.sub_self] at hY
    simpa using hY.symm
   rw [e]
   have hrow : Row w rv (nums .i64 r) := Row.of_own x.ownr
   have hfx : Fx w H (fun k => WbE gd lv vn ve (.slice none 0 0) k) rv r := ⟨hrow, fun _ k hk => ⟨(own6_lt x.ownr k hk).2, fun hwb => by
    rcases hwb with h | h | h | h | h
    ·exact x.gr (by rw [← h]; exact hk)
    ·exact x.lr k h hk
    ·exact x.nr k h hk
    ·exact x.er k h hk
    ·cases h⟩⟩
   refine hfx.off hof (fun k hk => .inl ?_) fun k hk => ?_
   ·rcases hk with h | h | h
    ·exact .inl h
    ·exact .inr (.inr (.inl h))
    ·exact .inr (.inr (.inr (.inl h)))
   ·rcases hk with h | h | h | h | h
    ·exact .inl (.inl h)
    ·exact .inl (.inr (.inl h))
    ·rcases nn k h with h1 | h1
     ·exact .inl (.inr (.inr (.inl h1)))
     ·exact .inr h1
    ·rcases nee k h with h1 | h1
     ·exact .inl (.inr (.inr (.inr (.inl h1))))
     ·exact .inr h1.1
    ·cases h
  ·rw [if_neg hi]
   have hlt : i < R.length := by
    have := (List.getElem?_eq_some_iff.1 hY).1
    rw [List.length_append, List.length_singleton] at this
    omega
   rw [List.getElem?_append_left hlt] at hY
   exact (x.rrow i Y hY).off hof2 (fun k hk => .inl hk) hwb
 ·rcases nn k e with h | h
  ·exact x.ln k hk h
  ·have := (own6_lt x.ownl k hk).1; omega
 ·rcases nee k e with h | h
  ·exact x.le k hk h
  ·have := (own6_lt x.ownl k hk).1; omega
 ·rcases nee k e with h | h
  ·rcases nn k hk with h1 | h1
   ·exact x.ne k h1 h
   ·have := lte k h; omega
  ·have := n2 k hk; omega
theorem DE.far {D : Nat → Prop} (x : DE w H gd cl lv vn ve rv vf rf L R E r) (ho : Off D w w') (hD : ∀ k, D k → k < H) : DE w' H gd cl lv vn ve rv vf rf L R E r := by
 have st : ∀ k, WbE gd lv vn ve rv k → w'.heap[k]? = w.heap[k]? := fun k hk => ho.block k (x.lt hk) fun hd => by
  have h1 := hD k hd
  have h2 := x.ge_ hk
  omega
 refine { x with blk := (st gd (.inl rfl)).trans x.blk, ownl := own6_stay x.ownl fun j hj => st j (.inr (.inl hj)), ownn := own6_stay x.ownn fun j hj => st j (.inr (.inr (.inl hj))), owne := own6_stay x.owne fun j hj => st j (.inr (.inr (.inr (.inl hj)))), ownr := own6_stay x.ownr fun j hj => st j (.inr (.inr (.inr (.inr hj)))), vrow := fun i X hX => (x.vrow i X hX).off ho (fun k hk => .inr (hD k hk)) fun k hk => .inl hk, rrow := fun i X hX => (x.rrow i X hX).off ho (fun k hk => .inr (hD k hk)) fun k hk => .inl hk }
theorem DE.dfa (x : DE w H gd cl lv vn ve rv vf rf L R E r) : DfaV w (dcl cl vn ve) ⟨cl, R, E⟩ :=
 ⟨x.cl, vn, ve, rf, rfl, Row.of_own x.ownn, fun i X hX => (x.rrow i X hX).1, Row.of_own x.owne⟩
end
set_option maxHeartbeats 4000000 in
set_option maxRecDepth 1000000 in
theorem refSame9_any (l m : List Int) (V U : Value) (w : World) (hl : Row w V (nums .i64 l)) (hm : Row w U (nums .i64 m)) :
  Calls Tryz.prog 46 #[V, U] w fun e w' => e = .returned (.bool (decide (l = m))) ∧ Below w.heap.size w w' := by
 have L0 := qH hl
 have M0 := qH hm
 obtain ⟨A, cap, rfl, a1, a2, a0, a3⟩ := hl
 obtain ⟨A2, cap2, rfl, b1, b2, b0, b3⟩ := hm
 rw [nums_length] at a1 L0 b1 M0 ⊢
 rw [nums_length]
 have HLN := qH (And.intro a1 a2)
 clear a3 a0 a2 a1 b0 b1 b2 b3
 by_cases hlen : l.length = m.length
 ·have HLE := qH hlen
  have h0 : ¬ ((l.length : Int) ≠ (m.length : Int)) := by omega
  rw [← hlen] at M0 ⊢
  clear h0 hlen
  go_enter Tryz.func46, Tryz.ntmps46
  go_wp2_with fail
  go_loopw [5] (fun iv wl => ∃ j : Nat, j ≤ l.length ∧ iv = .int .i64 (j : Int) ∧ l.take j = m.take j ∧ Below w.heap.size w wl) (fun iv _ => l.length - (intOf iv).toNat)
  case atStart => exact ⟨0, Nat.zero_le _, by simp, rfl, Below.refl _ _⟩
  obtain ⟨j, hj, rfl, he, hb⟩ := hrel
  have HE := qH he
  have BQ := qH hb
  clear he hb
  by_cases hjl : j < l.length
  ·have j1 : (j : Int) < (l.length : Int) := Int.ofNat_lt.2 hjl
   obtain ⟨x, hx⟩ : ∃ x, l[j]? = some x := ⟨_, List.getElem?_eq_getElem hjl⟩
   obtain ⟨y, hy⟩ : ∃ y, m[j]? = some y := ⟨_, List.getElem?_eq_getElem (by have := HLE.out; omega)⟩
   have HX := qH hx
   have HY := qH hy
   obtain ⟨bl, ol, rfl, hbl, hcl⟩ := (L0.out.below BQ.out).at_ (by rw [nums_length]; omega)
   obtain ⟨bm, om, rfl, hbm, hcm⟩ := (M0.out.below BQ.out).at_ (by rw [nums_length]; have := HLE.out; omega)
   have HCL := qH (hcl j (.int .i64 x) (by simp [nums, hx]))
   have HCM := qH (hcm j (.int .i64 y) (by simp [nums, hy]))
   have HBL := qH hbl
   have HBM := qH hbm
   have HJ := qH hjl
   have HMJ := qH (sub_next hjl)
   have e3 := wrap_len HJ.out HLN.out.1 HLN.out.2
   have e4 := wrap_len' HJ.out HLN.out.1 HLN.out.2
   clear hcl hcm hbl hbm hx hy hj hjl
   go_wp2_with fail
   refine sx_startB (B := wr.heap.size) (w0 := wr) (by kernel_rfl) (Below.refl _ _) (fun wd hwd hX => ?_)
   clear hwd
   refine sx_take (i := 0) (oi := ⟨some 17, _, _, _, _, _⟩) (v := ?_) rfl (by kernel_rfl) (by kernel_rfl) (by kernel_rfl) (fun _ _ _ h => h) rfl hX ?_ ?_; rotate_left; (intro W hW; go_simp; try with_reducible rfl); simp only [Act.put, qA, qB, qC]
   refine sx_take (i := 1) (oi := ⟨some 18, _, _, _, _, _⟩) (v := ?_) rfl (by kernel_rfl) (by kernel_rfl) (by kernel_rfl) (fun _ _ _ h => h) rfl hX ?_ ?_; rotate_left; (intro W hW; go_simp; try with_reducible rfl); simp only [Act.put, qA, qB, qC]
   refine sx_take (i := 2) (oi := ⟨some 19, _, _, _, _, _⟩) (v := ?_) rfl (by kernel_rfl) (by kernel_rfl) (by kernel_rfl) (fun _ _ _ h => h) rfl hX ?_ ?_; rotate_left; (intro W hW; go_simp; try with_reducible rfl); simp only [Act.put, qA, qB, qC]
   refine sx_take (i := 3) (oi := ⟨some 20, _, _, _, _, _⟩) (v := .int .i64 x) rfl (by kernel_rfl) (by kernel_rfl) (by kernel_rfl) (fun _ _ _ h => h) rfl hX (fun V hV => ld_int9 (.tmp 19) rfl rfl ((hV.cell (p := ⟨bl, ol + j, none⟩) HBL.out).trans HCL.out)) ?_; simp only [Act.put, qA, qB, qC]
   refine sx_take (i := 4) (oi := ⟨some 21, _, _, _, _, _⟩) (v := ?_) rfl (by kernel_rfl) (by kernel_rfl) (by kernel_rfl) (fun _ _ _ h => h) rfl hX ?_ ?_; rotate_left; (intro W hW; go_simp; try with_reducible rfl); simp only [Act.put, qA, qB, qC]
   refine sx_take (i := 5) (oi := ⟨some 22, _, _, _, _, _⟩) (v := ?_) rfl (by kernel_rfl) (by kernel_rfl) (by kernel_rfl) (fun _ _ _ h => h) rfl hX ?_ ?_; rotate_left; (intro W hW; go_simp; try with_reducible rfl); simp only [Act.put, qA, qB, qC]
   refine sx_take (i := 6) (oi := ⟨some 23, _, _, _, _, _⟩) (v := ?_) rfl (by kernel_rfl) (by kernel_rfl) (by kernel_rfl) (fun _ _ _ h => h) rfl hX ?_ ?_; rotate_left; (intro W hW; go_simp; try with_reducible rfl); simp only [Act.put, qA, qB, qC]
   refine sx_take (i := 7) (oi := ⟨some 24, _, _, _, _, _⟩) (v := .int .i64 y) rfl (by kernel_rfl) (by kernel_rfl) (by kernel_rfl) (fun _ _ _ h => h) rfl hX (fun V hV => ld_int9 (.tmp 23) rfl rfl ((hV.cell (p := ⟨bm, om + j, none⟩) HBM.out).trans HCM.out)) ?_; simp only [Act.put, qA, qB, qC]
   refine sx_take (i := 8) (oi := ⟨some 25, _, _, _, _, _⟩) (v := ?_) rfl (by kernel_rfl) (by kernel_rfl) (by kernel_rfl) (fun _ _ _ h => h) rfl hX ?_ ?_; rotate_left; (intro W hW; go_simp; try with_reducible rfl); simp only [Act.put, qA, qB, qC]
   refine wpAnyH_done (by kernel_rfl) ?_ _
   have BE := qH (BQ.out.trans (hX.mono BQ.out.size))
   clear hX
   by_cases hxy : x = y
   ·subst hxy
    have HE2 := qH (show l.take (j + 1) = m.take (j + 1) by rw [List.take_add_one, List.take_add_one, HE.out, HX.out, HY.out])
    go_wp2_with fail
    exact ⟨⟨j + 1, HJ.out, by congr 1, HE2.out, BE.out⟩, by simpa [intOf] using HMJ.out⟩
   ·have HT := qH (show decide (l = m) = false from decide_eq_false fun h => hxy (by have h1 := HX.out; rw [h, HY.out] at h1; exact (Option.some.inj h1).symm))
    go_wp2_with fail
    go_ret
    rw [HT.out]
    exact ⟨rfl, BE.out⟩
  ·obtain rfl : j = l.length := by omega
   have j1 : ¬ ((l.length : Int) < (l.length : Int)) := by omega
   have HT := qH (show decide (l = m) = true from decide_eq_true (by have h1 := HE.out; rw [List.take_length, HLE.out, List.take_length] at h1; exact h1))
   go_wp2_with fail
   go_ret
   rw [HT.out]
   exact ⟨rfl, BQ.out⟩
 ·have h0 : ¬ ((l.length : Int) = (m.length : Int)) := by omega
  have HT := qH (show decide (l = m) = false from decide_eq_false fun h => hlen (by rw [h]))
  clear hlen
  go_enter Tryz.func46, Tryz.ntmps46
  go_wp2_with fail
  go_ret
  rw [HT.out]
  exact ⟨rfl, Below.refl _ _⟩
def fndL (L : List (List Int)) (x : List Int) : Int := if x ∈ L then (ixOf L x : Int) else -1
theorem fndL_in {L : List (List Int)} {x : List Int} {j : Nat} (hn : L.Nodup) (h : L[j]? = some x) : fndL L x = (j : Int) := by
 unfold fndL
 rw [if_pos (List.mem_of_getElem? h), idx_is hn h]
theorem fndL_out {L : List (List Int)} {x : List Int} (h : ∀ m, m < L.length → L[m]? ≠ some x) : fndL L x = -1 := by
 unfold fndL
 rw [if_neg fun hx => ?_]
 obtain ⟨m, hm⟩ := List.mem_iff_getElem?.1 hx
 exact h m (List.getElem?_eq_some_iff.1 hm).1 hm
set_option maxHeartbeats 4000000 in
set_option maxRecDepth 1000000 in
theorem refFind9_any (L : List (List Int)) (x : List Int) (vf : Nat → Value) (V U : Value) (w : World) (hn : L.Nodup) (hl : Row w V ((List.range L.length).map vf)) (hr : ∀ i X, L[i]? = some X → Row w (vf i) (nums .i64 X)) (hx : Row w U (nums .i64 x)) :
  Calls Tryz.prog 27 #[V, U] w fun e w' => e = .returned (.int .i64 (fndL L x)) ∧ Below w.heap.size w w' := by
 have HND := qH hn
 have L0 := qH hl
 have R0 := qH hr
 have U0 := qH hx
 obtain ⟨A, cap, rfl, a1, a2, _⟩ := hl
 rw [show ((List.range L.length).map vf).length = L.length by simp] at a1 L0 ⊢
 have HLN := qH (And.intro a1 a2)
 obtain ⟨n, hnn⟩ : ∃ n, n = L.length := ⟨_, rfl⟩
 have HN := qH hnn
 rw [← hnn] at HLN L0 ⊢
 clear hn hr hx a1 a2 hnn
 go_enter Tryz.func27, Tryz.ntmps27
 go_wp2_with fail
 go_loopw [5] (fun iv wl => ∃ j : Nat, j ≤ n ∧ iv = .int .i64 (j : Int) ∧ (∀ m, m < j → L[m]? ≠ some x) ∧ Below w.heap.size w wl) (fun iv _ => n - (intOf iv).toNat)
 case atStart => exact ⟨0, Nat.zero_le _, by simp, fun m h => absurd h (Nat.not_lt_zero m), Below.refl _ _⟩
 obtain ⟨j, hj, rfl, hno, hb⟩ := hrel
 have HO := qH hno
 have BQ := qH hb
 clear hno hb
 obtain ⟨wq, hwq⟩ : ∃ v : World, v = wr := ⟨_, rfl⟩
 subst hwq
 by_cases hjn : j < n
 ·have j1 : (j : Int) < (n : Int) := Int.ofNat_lt.2 hjn
  have HJ := qH hjn
  have HMJ := qH (sub_next hjn)
  have e3 := wrap_len HJ.out HLN.out.1 HLN.out.2
  have e4 := wrap_len' HJ.out HLN.out.1 HLN.out.2
  obtain ⟨X, hX⟩ : ∃ X, L[j]? = some X := ⟨_, List.getElem?_eq_getElem (by rw [← HN.out]; exact hjn)⟩
  have HX := qH hX
  have hrj := (R0.out j X hX).below BQ.out
  have RJ := qH hrj
  obtain ⟨Aj, cj, hvj, _⟩ := hrj
  rw [hvj] at RJ
  obtain ⟨b, off, rfl, hbb, hcell⟩ := (L0.out.below BQ.out).at_ (by rw [List.length_map, List.length_range]; exact Nat.lt_of_le_of_lt (Nat.zero_le _) hjn)
  have hcj : wq.cell? ⟨b, off + j, none⟩ = some (.slice Aj (nums .i64 X).length cj) := hcell j _ (by rw [List.getElem?_map, List.getElem?_range hjn]; simp [hvj])
  obtain ⟨k, hk⟩ : ∃ k, k = (nums .i64 X).length := ⟨_, rfl⟩
  rw [← hk] at RJ hcj
  have UQ := qH (U0.out.below BQ.out)
  clear hj hjn hX hvj hbb hcell hk
  go_wp2_with fail
  refine (refSame9_any X x _ _ wq RJ.out UQ.out).mono ?_
  rintro e w4 ⟨rfl, hb⟩
  have B4 := qH (BQ.out.trans (hb.mono BQ.out.size))
  clear hb
  obtain ⟨q, hq⟩ : ∃ q, decide (X = x) = q := ⟨_, rfl⟩
  rw [hq]
  have HQ := qH hq
  clear hq
  cases q with
  | true =>
   have HT := qH (show fndL L x = (j : Int) from fndL_in HND.out (by rw [← of_decide_eq_true HQ.out]; exact HX.out))
   go_wp2_with fail
   go_ret
   rw [HT.out]
   exact ⟨rfl, B4.out⟩
  | false =>
   have HO2 := qH (show ∀ m, m < j + 1 → L[m]? ≠ some x from fun m hm => by
    rcases Nat.lt_succ_iff_lt_or_eq.1 hm with h | h
    ·exact HO.out m h
    ·rw [h, HX.out]
     exact fun e => of_decide_eq_false HQ.out (Option.some.inj e))
   go_wp2_with fail
   exact ⟨⟨j + 1, HJ.out, by congr 1, HO2.out, B4.out⟩, by simpa [intOf] using HMJ.out⟩
 ·obtain rfl : j = n := Nat.le_antisymm hj (Nat.not_lt.1 hjn)
  have j1 : ¬ ((j : Int) < (j : Int)) := Int.lt_irrefl _
  have HT := qH (show fndL L x = -1 from fndL_out (by rw [← HN.out]; exact HO.out))
  go_wp2_with fail
  go_ret
  rw [HT.out]
  exact ⟨rfl, BQ.out⟩
def Pl (S : List St) (a z most : Int) (i : Nat) (L R : List (List Int)) (E : List Bool) : Prop :=
 L.Nodup ∧ i ≤ L.length ∧ R.length = i ∧ E.length = i ∧ (∃ r, L.length ≤ (LN S a r).length) ∧
  ((L = LN S a i ∧ R = rowsI (sucN S) (LN S a i) i ∧ E = endsI (hasZ z) (LN S a i) i) ∨ most < (L.length : Int))
theorem Pl.zero (S : List St) (a z most : Int) : Pl S a z most 0 [clsN S [a]] [] [] :=
 ⟨by simp, Nat.zero_le _, rfl, rfl, ⟨0, by rw [LN_zero]; exact Nat.le_refl _⟩, .inl ⟨(LN_zero S a).symm, rfl, rfl⟩⟩
structure Inn (S : List St) (a : Int) (i kk : Nat) (X : List Int) (L : List (List Int)) (Lj : Nat → List (List Int)) (Rw : List Int) : Prop where
 zero : Lj 0 = L
 nd : ∀ j, (Lj j).Nodup
 at_ : ∀ j, (Lj j)[i]? = some X
 le : ∀ j, (Lj j).length ≤ (LN S a (i + 1)).length
 all : Lj kk = LN S a (i + 1)
 row : Rw = rowI (LN S a (i + 1)) (sucN S X)
 len : Rw.length = kk
 step : ∀ j, j < kk → ∃ (b : Nat) (y : List Int), b < 256 ∧ (fbB (setsN S) 256)[j]? = some (UInt8.ofNat b) ∧ y = stpN S X b ∧
  ((y ∈ Lj j ∧ Lj (j + 1) = Lj j ∧ Rw.take (j + 1) = Rw.take j ++ [((ixOf (Lj j) y : Nat) : Int)]) ∨ (y ∉ Lj j ∧ Lj (j + 1) = Lj j ++ [y] ∧ Rw.take (j + 1) = Rw.take j ++ [((Lj j).length : Int)]))
theorem inn_is {S : List St} {a : Int} {i kk : Nat} {X : List Int} (hX : (LN S a i)[i]? = some X) (hk : kk = (fbN S).length) :
  ∃ (Lj : Nat → List (List Int)) (Rw : List Int), Inn S a i kk X (LN S a i) Lj Rw := by
 have hs : LN S a (i + 1) = extL (LN S a i) (sucN S X) := Lq_step hX
 have hnd : (LN S a i).Nodup := Lq_nodup i
 have hlen : (sucN S X).length = kk := by rw [sucN_len, hk]
 refine ⟨fun j => extL (LN S a i) ((sucN S X).take j), rowI (LN S a (i + 1)) (sucN S X), ⟨rfl, fun j => extL_nodup _ _ hnd, fun j => ?_, fun j => ?_, ?_, rfl, by rw [rowI_len, hlen], fun j hj => ?_⟩⟩
 ·obtain ⟨M, hM⟩ := extL_pre ((sucN S X).take j) (LN S a i)
  show (extL (LN S a i) ((sucN S X).take j))[i]? = some X
  rw [hM, List.getElem?_append_left (List.getElem?_eq_some_iff.1 hX).1]
  exact hX
 ·rw [hs]
  exact extL_take_le _ _ _
 ·show extL (LN S a i) ((sucN S X).take kk) = _
  rw [← hlen, List.take_length, hs]
 ·obtain ⟨b, hb⟩ : ∃ b, (fbN S)[j]? = some b := ⟨_, List.getElem?_eq_getElem (by rw [← hk]; exact hj)⟩
  have hy := sucN_get (X := X) hb
  refine ⟨b, stpN S X b, fbN_lt (List.mem_of_getElem? hb), ?_, rfl, ?_⟩
  ·show ((fbN S).map UInt8.ofNat)[j]? = _
   rw [List.getElem?_map, hb]
   rfl
  ·obtain ⟨y, hye⟩ : ∃ y, y = stpN S X b := ⟨_, rfl⟩
   rw [← hye] at hy ⊢
   obtain ⟨M, hM⟩ : ∃ M, M = extL (LN S a i) ((sucN S X).take j) := ⟨_, rfl⟩
   have e1 : extL (LN S a i) ((sucN S X).take (j + 1)) = extL M [y] := by rw [hM]; exact extL_take hy
   obtain ⟨T, hT⟩ : ∃ T, LN S a (i + 1) = extL M [y] ++ T := by
    obtain ⟨T, hT⟩ := extL_pre ((sucN S X).drop (j + 1)) (extL M [y])
    refine ⟨T, ?_⟩
    rw [hs, ← List.take_append_drop (j + 1) (sucN S X), extL_app, e1, hT]
   have hrw : (rowI (LN S a (i + 1)) (sucN S X)).take (j + 1) = (rowI (LN S a (i + 1)) (sucN S X)).take j ++ [((ixOf (LN S a (i + 1)) y : Nat) : Int)] := by
    have hg : (rowI (LN S a (i + 1)) (sucN S X))[j]? = some ((ixOf (LN S a (i + 1)) y : Nat) : Int) := by
     unfold rowI
     rw [List.getElem?_map, hy, Option.map_some]
    rw [List.take_add_one, hg, Option.toList_some]
   show (y ∈ extL (LN S a i) ((sucN S X).take j) ∧ extL (LN S a i) ((sucN S X).take (j + 1)) = extL (LN S a i) ((sucN S X).take j) ∧ _) ∨ (y ∉ extL (LN S a i) ((sucN S X).take j) ∧ extL (LN S a i) ((sucN S X).take (j + 1)) = extL (LN S a i) ((sucN S X).take j) ++ [y] ∧ _)
   rw [e1, ← hM, hrw, hT]
   by_cases hm : y ∈ M
   ·left
    rw [extL_in hm, idx_app hm]
    exact ⟨hm, rfl, rfl⟩
   ·right
    rw [extL_new hm, idx_app (by simp), idx_new hm]
    exact ⟨hm, rfl, rfl⟩
theorem Pl.next {S : List St} {a z most : Int} {i kk : Nat} {X : List Int} {L R : List (List Int)} {E : List Bool} {Lj : Nat → List (List Int)} {Rw : List Int} (h : Pl S a z most i L R E) (hL : L = LN S a i) (hR : R = rowsI (sucN S) (LN S a i) i) (hE : E = endsI (hasZ z) (LN S a i) i)
  (hX : (LN S a i)[i]? = some X) (hI : Inn S a i kk X (LN S a i) Lj Rw) {j : Nat} (hj : j = kk ∨ most < ((Lj j).length : Int)) : Pl S a z most (i + 1) (Lj j) (R ++ [Rw.take j]) (E ++ [hasZ z X]) := by
 obtain ⟨_, _, h3, h4, _, _⟩ := h
 refine ⟨hI.nd j, (List.getElem?_eq_some_iff.1 (hI.at_ j)).1, by simp [h3], by simp [h4], ⟨i + 1, hI.le j⟩, ?_⟩
 rcases hj with hj | hj
 ·left
  subst hj
  refine ⟨hI.all, ?_, ?_⟩
  ·rw [hR, show rowsI (sucN S) (LN S a (i + 1)) (i + 1) = rowsI (sucN S) (LN S a i) i ++ [rowI (LN S a (i + 1)) (sucN S X)] from rowsI_next hX, ← hI.row]
   rw [List.take_of_length_le (Nat.le_of_eq hI.len)]
  ·rw [hE, show endsI (hasZ z) (LN S a (i + 1)) (i + 1) = endsI (hasZ z) (LN S a i) i ++ [hasZ z X] from endsI_next hX]
 ·exact .inr hj
theorem Pl.good {S : List St} {a z most : Int} {i : Nat} {L R : List (List Int)} {E : List Bool} (h : Pl S a z most i L R E) (hm : (L.length : Int) ≤ most) : L = LN S a i ∧ R = rowsI (sucN S) (LN S a i) i ∧ E = endsI (hasZ z) (LN S a i) i := by
 rcases h.2.2.2.2.2 with h | h
 ·exact h
 ·omega
theorem Pl.many {S : List St} {a z most : Int} {i : Nat} {L R : List (List Int)} {E : List Bool} (h : Pl S a z most i L R E) (hM : MayN S a z) (hm : most < (L.length : Int)) : mkN S a z most = (noDm, 7) := by
 obtain ⟨r, hr⟩ := h.2.2.2.2.1
 exact mkN_many hM (r := r) (by omega)
theorem Pl.done {S : List St} {a z most : Int} {i : Nat} {L R : List (List Int)} {E : List Bool} (h : Pl S a z most i L R E) (hM : MayN S a z) (hm : (L.length : Int) ≤ most) (hi : ¬ i < L.length) : mkN S a z most = (⟨ctab (setsN S) 256, R, E⟩, 0) := by
 obtain ⟨h1, h2, h3⟩ := h.good hm
 have hl : L.length = i := Nat.le_antisymm (Nat.not_lt.1 hi) h.2.1
 have hf : FitN S a i := by
  show (LN S a i).length = i
  rw [← h1]
  exact hl
 rw [mkN_ok hM hf (by omega), h2, h3]
 rfl
section
variable {P : Program} {ops : Array Oper} {Q : Exit → Act → World → Prop} {md : Region.Mode} {T S : World → Prop} {n : Nat}
def wpAnyC (P : Program) (md : Region.Mode) (ops : Array Oper) (Q : Exit → Act → World → Prop) (T S : World → Prop) (n : Nat) : Nat → Array Bool → Act → World → Prop
 | 0, listed, a, w => Region.ready md ops listed = [] ∧ Q .normal a w
 | fuel + 1, listed, a, w =>
  (Region.ready md ops listed = [] → Q .normal a w) ∧
  ∀ i ∈ Region.ready md ops listed, wpOp P ops Q i (fun a' w' => T w' ∧ (i < n → S w → S w') ∧ wpAnyC P md ops Q T S n fuel (listed.setIfInBounds i true) a' w') a w
theorem wpAny_of_C : ∀ (fuel : Nat) (listed : Array Bool) (a : Act) (w : World), wpAnyC P md ops Q T S n fuel listed a w → wpAny P md ops Q fuel listed a w
 | 0, _, _, _, h => h
 | fuel + 1, _, _, _, h => ⟨h.1, fun i hi => wpOp_mono (fun a' w' h' => wpAny_of_C fuel _ a' w' h'.2.2) (h.2 i hi)⟩
def allWait (md : Region.Mode) (ops : Array Oper) (n i : Nat) : Bool := (List.range ops.size).all fun j => decide (j < n) || waitsFor md ops j i
theorem allWait_spec {i j : Nat} (h : allWait md ops n i = true) {listed : Array Bool} (hi : i ∈ Region.ready md ops listed) (hj : j ∈ Region.ready md ops listed) : j < n := by
 unfold allWait at h
 rw [List.all_eq_true] at h
 obtain ⟨_, o, ho, _⟩ := mem_ready.1 hj
 have h2 := h j (List.mem_range.2 (Array.getElem?_eq_some_iff.1 ho).1)
 rw [Bool.or_eq_true, decide_eq_true_iff] at h2
 rcases h2 with h2 | h2
 ·exact h2
 ·exact absurd hj (waits_not h2 hi)
theorem wpAnyC_first {U : World → Prop} {i : Nat} {oi : Oper} {v : Value} (hi : ops[i]? = some oi) (hsel : ∀ (j : Nat) (o : Oper) cs b, ops[j]? = some o → o.op ≠ .select cs b)
  (hQ : ∀ c a w, Q (.panic c) (a.put oi.dst v) w → Q (.panic c) a w)
  (hU : ∀ (listed : Array Bool) (j : Nat) (w w' : World), i ∈ Region.ready md ops listed → j ∈ Region.ready md ops listed → U w → T w' → (j < n → S w → S w') → U w') :
  ∀ (fuel : Nat) (listed : Array Bool) (a : Act) (w : World),
   (∀ j oj, ops[j]? = some oj → j ≠ i → listed.getD j true = false → (∀ e ∈ oj.after, Region.binds md e = true → e.on ≠ i) → oi.apart ops oj = true) →
   i ∈ Region.ready md ops listed → YieldsIf P ops U oi v a → U w → T w →
   wpAnyC P md ops Q T S n fuel (listed.setIfInBounds i true) (a.put oi.dst v) w → wpAnyC P md ops Q T S n (fuel + 1) listed a w := by
 intro fuel
 induction fuel with
 | zero =>
  intro listed a w _ hr hy hS hT H
  refine ⟨fun h => (by rw [h] at hr; cases hr), fun j hj => ?_⟩
  by_cases hji : j = i
  ·subst hji; exact hy.wpOp hi hS ⟨hT, fun _ h => h, H⟩
  ·have := ready_mono hj hji
   rw [H.1] at this
   cases this
 | succ fuel ih =>
  intro listed a w hfree hr hy hS hT H
  refine ⟨fun h => (by rw [h] at hr; cases hr), fun j hj => ?_⟩
  by_cases hji : j = i
  ·subst hji; exact hy.wpOp hi hS ⟨hT, fun _ h => h, H⟩
  ·have h1 := H.2 j (ready_mono hj hji)
   obtain ⟨hjun, oj, hoj, hall⟩ := mem_ready.1 hj
   have hnot : ∀ e ∈ oj.after, Region.binds md e = true → e.on ≠ i := fun e he hb heq => by
    have h1 := hall e he hb
    have h0 := (mem_ready.1 hr).1
    rw [heq] at h1
    rcases Nat.lt_or_ge i listed.size with h' | h'
    ·simp [h'] at h0 h1; rw [h0] at h1; cases h1
    ·simp [Array.getElem?_eq_none h'] at h1
   have h2 := wpOp_putIf hoj (hfree j oj hoj hji hjun hnot) (fun cs b => hsel i oi cs b hi) (fun cs b => hsel j oj cs b hoj) hQ hy h1
   have hfree' : ∀ k ok, ops[k]? = some ok → k ≠ i → (listed.setIfInBounds j true).getD k true = false →
     (∀ e ∈ ok.after, Region.binds md e = true → e.on ≠ i) → oi.apart ops ok = true := fun k ok hk hki hun hno => by
    refine hfree k ok hk hki ?_ hno
    by_cases hjk : j = k
    ·subst hjk; exact hjun
    ·rw [getD_set_ne true hjk] at hun; exact hun
   refine wpOp_mono (fun a' w' h3 => ⟨h3.2.1, h3.2.2.1, ih (listed.setIfInBounds j true) a' w' hfree' (ready_mono hr (Ne.symm hji)) h3.1 (hU listed j w w' hr hj hS h3.2.1 h3.2.2.1) h3.2.1 ?_⟩) h2
   rw [Array.setIfInBounds_comm _ _ hji]
   exact h3.2.2.2
theorem mc_take {i : Nat} {oi : Oper} {v : Value} {fuel : Nat} {listed : Array Bool} {a : Act} {w : World} (hi : ops[i]? = some oi)
  (hs : Region.noSelect ops = true) (hf : Region.free md ops listed i = true) (hr : (Region.ready md ops listed).contains i = true)
  (hQ : ∀ c a w, Q (.panic c) (a.put oi.dst v) w → Q (.panic c) a w) (hw : Region.wanted oi (yielded ops a.tmps) = true) (hT : T w)
  (hy : ∀ W, T W → (execOp a.eval oi).run P W = .ok (.value v) W)
  (h : wpAnyC P md ops Q T S n fuel (listed.setIfInBounds i true) (a.put oi.dst v) w) : wpAnyC P md ops Q T S n (fuel + 1) listed a w :=
 wpAnyC_first (U := T) hi (Region.noSelect_spec hs) hQ (fun _ _ _ _ _ _ _ h _ => h) fuel listed a w (Region.free_spec hi hf) (by simpa using hr) (.inl ⟨hw, hy⟩) hT hT h
theorem mc_takeS {i : Nat} {oi : Oper} {v : Value} {fuel : Nat} {listed : Array Bool} {a : Act} {w : World} (hi : ops[i]? = some oi)
  (hs : Region.noSelect ops = true) (hf : Region.free md ops listed i = true) (hr : (Region.ready md ops listed).contains i = true)
  (hQ : ∀ c a w, Q (.panic c) (a.put oi.dst v) w → Q (.panic c) a w) (hw : Region.wanted oi (yielded ops a.tmps) = true) (hT : T w) (hS : S w)
  (hy : ∀ W, T W → S W → (execOp a.eval oi).run P W = .ok (.value v) W)
  (h : wpAnyC P md ops Q T S n fuel (listed.setIfInBounds i true) (a.put oi.dst v) w) (hwt : allWait md ops n i = true := by kernel_rfl) : wpAnyC P md ops Q T S n (fuel + 1) listed a w :=
 wpAnyC_first (U := fun W => T W ∧ S W) hi (Region.noSelect_spec hs) hQ (fun listed j w w' h1 h2 h3 h4 h5 => ⟨h4, h5 (allWait_spec hwt h1 h2) h3.2⟩) fuel listed a w (Region.free_spec hi hf) (by simpa using hr) (.inl ⟨hw, fun W hW => hy W hW.1 hW.2⟩) ⟨hT, hS⟩ hT h
theorem mc_actB {i : Nat} {o : Oper} {fuel : Nat} {listed : Array Bool} {a : Act} {w : World} (hi : ops[i]? = some o) (hr : Region.ready md ops listed = [i])
  (hw : Region.wanted o (yielded ops a.tmps) = true)
  (h : ∀ K : Act → World → Prop, (∀ a' w', T w' → S w' → wpAnyC P md ops Q T S n fuel (listed.setIfInBounds i true) a' w' → K a' w') → o.wp P a w K Q) :
  wpAnyC P md ops Q T S n (fuel + 1) listed a w := by
 refine ⟨fun h0 => (by rw [hr] at h0; cases h0), fun j hj => ?_⟩
 rw [hr] at hj
 have hji : j = i := by simpa using hj
 subst hji
 unfold wpOp
 rw [hi]
 simp only [hw, if_true]
 exact .inl (h _ fun a' w' ht hs hk => ⟨ht, fun _ _ => hs, hk⟩)
theorem mc_last {i : Nat} {o : Oper} {fuel : Nat} {listed : Array Bool} {a : Act} {w : World} (hi : ops[i]? = some o) (hr : Region.ready md ops listed = [i])
  (hw : Region.wanted o (yielded ops a.tmps) = true)
  (h : ∀ K : Act → World → Prop, (∀ a' w', T w' → wpAnyC P md ops Q T S n fuel (listed.setIfInBounds i true) a' w' → K a' w') → o.wp P a w K Q) (hin : decide (n ≤ i) = true := by rfl) :
  wpAnyC P md ops Q T S n (fuel + 1) listed a w := by
 refine ⟨fun h0 => (by rw [hr] at h0; cases h0), fun j hj => ?_⟩
 rw [hr] at hj
 have hji : j = i := by simpa using hj
 subst hji
 unfold wpOp
 rw [hi]
 simp only [hw, if_true]
 exact .inl (h _ fun a' w' ht hk => ⟨ht, fun h0 => absurd h0 (Nat.not_lt.2 (of_decide_eq_true hin)), hk⟩)
theorem wpAnyC_done {listed : Array Bool} {a : Act} {w : World} (hr : Region.ready md ops listed = []) (h : Q .normal a w) :
  ∀ fuel, wpAnyC P md ops Q T S n fuel listed a w
 | 0 => ⟨hr, h⟩
 | _ + 1 => ⟨fun _ => h, by rw [hr]; simp⟩
theorem mc_start {id : Nat} {a : Act} {w : World} (T S : World → Prop) (n : Nat) (hm : P.follows .mixedOrders = true)
  (h : ∀ wd, wd = w.drew → wpAnyC P .any ops Q T S n ops.size (Array.replicate ops.size false) a wd) : (Code.region id ops true).wp P Q a w :=
 wp_region_any hm (wpAny_of_C _ _ _ _ (h _ rfl))
end
end Go.Proofs.YteadghoojeehlaaGreatDoor
