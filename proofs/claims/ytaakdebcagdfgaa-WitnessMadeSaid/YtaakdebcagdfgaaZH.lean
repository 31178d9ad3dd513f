/-
  Texts of this proof, put together: ScI, PyG, PdA, SbZ, ScG, ScJ, ScK. No statement is proved here.
-/
import Derived.Test.YtaakdebcagdfgaaZD
import Derived.Test.YtaakdebcagdfgaaZC
import Derived.Test.YtaakdebcagdfgaaZB
import Derived.Test.YtaakdebcagdfgaaZG
import Derived.Test.YtaakdebcagdfgaaZF
import Derived.Test.YtaakdebcagdfgaaZE
import Derived.Test.YtaakdebcagdfgaaZA
import Derived.Test.YtaakdebcagdfgaaProg
import Derived.Shelf.Spec.TrailingZeros
import Derived.Shelf.SlSortCmp.WholeK
import Derived.Lib.OwnBridge
namespace Go.Proofs.Ytaakdebcagdfgaa
open Go.RowKit
set_option linter.unusedSimpArgs false
set_option linter.unusedVariables false
def Fx (w : World) (H : Nat) (Wb : Nat → Prop) (v : Value) (X : List Int) : Prop := Row w v (nums .i64 X) ∧ (X ≠ [] → ∀ k, v.ownBlock = some k → H ≤ k ∧ ¬ Wb k)
theorem Fx.lt {w : World} {H : Nat} {Wb : Nat → Prop} {v : Value} {X : List Int} (h : Fx w H Wb v X) (hne : X ≠ []) {k : Nat} (hk : v.ownBlock = some k) : k < w.heap.size := by
 obtain ⟨⟨A, cap, rfl, _, _, _, hc⟩, _⟩ := h
 obtain ⟨b, off, rfl, hb, _⟩ := hc (by intro e; apply hne; have := congrArg List.length e; rw [nums_length] at this; exact List.length_eq_zero_iff.1 this)
 have e : some b = some k := hk
 injection e with e
 omega
theorem Fx.off {w w' : World} {H : Nat} {Wb Wb' D : Nat → Prop} {v : Value} {X : List Int} (h : Fx w H Wb v X) (ho : Off D w w') (hD : ∀ k, D k → Wb k ∨ k < H) (hw : ∀ k, Wb' k → Wb k ∨ w.heap.size ≤ k) : Fx w' H Wb' v X := by
 have hlt := fun hne k hk => h.lt hne (k := k) hk
 obtain ⟨⟨A, cap, rfl, hl, hm, h0, hc⟩, hn⟩ := h
 refine ⟨⟨A, cap, rfl, hl, hm, h0, fun hne => ?_⟩, fun hne k hk => ⟨(hn hne k hk).1, fun hwb => ?_⟩⟩
 ·have hX : X ≠ [] := by rintro rfl; exact hne rfl
  obtain ⟨b, off, rfl, hb, hcell⟩ := hc hne
  have hnb := hn hX b rfl
  exact ⟨b, off, rfl, Nat.lt_of_lt_of_le hb ho.size, fun i u hu => ho.cell hb (fun hd => by
   rcases hD b hd with h1 | h1
   ·exact hnb.2 h1
   ·have := hnb.1; omega) (hcell i u hu)⟩
 ·rcases hw k hwb with h1 | h1
  ·exact (hn hne k hk).2 h1
  ·have := hlt hne k hk
   omega
theorem Fx.new {w w' : World} {H : Nat} {Wb : Nat → Prop} {v : Value} {X : List Int} (h : Row w' v (nums .i64 X)) (hb : ∀ k, v.ownBlock = some k → w.heap.size ≤ k) (hH : H ≤ w.heap.size) (hw : ∀ k, Wb k → k < w.heap.size) : Fx w' H Wb v X :=
 ⟨h, fun _ k hk => ⟨Nat.le_trans hH (hb k hk), fun hwb => by have h1 := hb k hk; have h2 := hw k hwb; omega⟩⟩
def WbE (gd : Nat) (lv vn ve rv : Value) (k : Nat) : Prop := k = gd ∨ lv.ownBlock = some k ∨ vn.ownBlock = some k ∨ ve.ownBlock = some k ∨ rv.ownBlock = some k
structure DE (w : World) (H gd : Nat) (cl : List UInt8) (lv vn ve rv : Value) (vf rf : Nat → Value) (L R : List (List Int)) (E : List Bool) (r : List Int) : Prop where
 blk : Blk w gd 28 (dcl cl vn ve)
 cl : cl.length = 256
 gB : H ≤ gd
 ownl : w.ownsRow H 47 1 lv L.length ((List.range L.length).map vf)
 ownn : w.ownsRow H 47 1 vn R.length ((List.range R.length).map rf)
 owne : w.ownsRow H 4 1 ve E.length (bools E)
 ownr : w.ownsRow H 3 1 rv r.length (nums .i64 r)
 vrow : ∀ i X, L[i]? = some X → Fx w H (WbE gd lv vn ve rv) (vf i) X
 rrow : ∀ i X, R[i]? = some X → Fx w H (WbE gd lv vn ve rv) (rf i) X
 gl : lv.ownBlock ≠ some gd
 gn : vn.ownBlock ≠ some gd
 ge : ve.ownBlock ≠ some gd
 gr : rv.ownBlock ≠ some gd
 ln : ∀ k, lv.ownBlock = some k → vn.ownBlock ≠ some k
 le : ∀ k, lv.ownBlock = some k → ve.ownBlock ≠ some k
 lr : ∀ k, lv.ownBlock = some k → rv.ownBlock ≠ some k
 ne : ∀ k, vn.ownBlock = some k → ve.ownBlock ≠ some k
 nr : ∀ k, vn.ownBlock = some k → rv.ownBlock ≠ some k
 er : ∀ k, ve.ownBlock = some k → rv.ownBlock ≠ some k
section
variable {w w1 w2 w' : World} {H gd : Nat} {cl : List UInt8} {lv vn ve rv lv' vn' ve' rv' : Value} {vf rf : Nat → Value} {L R : List (List Int)} {E : List Bool} {r : List Int}
theorem DE.lt (x : DE w H gd cl lv vn ve rv vf rf L R E r) {k : Nat} (h : WbE gd lv vn ve rv k) : k < w.heap.size := by
 rcases h with h | h | h | h | h
 ·rw [h]; exact x.blk.lt
 ·exact (own6_lt x.ownl k h).1
 ·exact (own6_lt x.ownn k h).1
 ·exact (own6_lt x.owne k h).1
 ·exact (own6_lt x.ownr k h).1
theorem DE.ge_ (x : DE w H gd cl lv vn ve rv vf rf L R E r) {k : Nat} (h : WbE gd lv vn ve rv k) : H ≤ k := by
 rcases h with h | h | h | h | h
 ·rw [h]; exact x.gB
 ·exact (own6_lt x.ownl k h).2
 ·exact (own6_lt x.ownn k h).2
 ·exact (own6_lt x.owne k h).2
 ·exact (own6_lt x.ownr k h).2
theorem DE.below (x : DE w H gd cl lv vn ve rv vf rf L R E r) (hb : Below w.heap.size w w') : DE w' H gd cl lv vn ve rv vf rf L R E r := by
 have ho : Off (WbE gd lv vn ve rv) w w' := Off.new _ hb
 have st : ∀ k, WbE gd lv vn ve rv k → w'.heap[k]? = w.heap[k]? := fun k hk => hb.block k (x.lt hk)
 refine { x with blk := (st gd (.inl rfl)).trans x.blk, ownl := own6_stay x.ownl fun j hj => st j (.inr (.inl hj)), ownn := own6_stay x.ownn fun j hj => st j (.inr (.inr (.inl hj))), owne := own6_stay x.owne fun j hj => st j (.inr (.inr (.inr (.inl hj)))), ownr := own6_stay x.ownr fun j hj => st j (.inr (.inr (.inr (.inr hj)))), vrow := fun i X hX => (x.vrow i X hX).off ho (fun k hk => .inl hk) fun k hk => .inl hk, rrow := fun i X hX => (x.rrow i X hX).off ho (fun k hk => .inl hk) fun k hk => .inl hk }
theorem DE.clear (x : DE w H gd cl lv vn ve rv vf rf L R E r) : DE w H gd cl lv vn ve (.slice none 0 0) vf rf L R E [] :=
 {x with ownr := ownN _ _ _, vrow := fun i X hX => ⟨(x.vrow i X hX).1, fun hne k hk => ⟨((x.vrow i X hX).2 hne k hk).1, fun hwb => ((x.vrow i X hX).2 hne k hk).2 (by
   rcases hwb with h | h | h | h | h
   ·exact .inl h
   ·exact .inr (.inl h)
   ·exact .inr (.inr (.inl h))
   ·exact .inr (.inr (.inr (.inl h)))
   ·cases h)⟩⟩, rrow := fun i X hX => ⟨(x.rrow i X hX).1, fun hne k hk => ⟨((x.rrow i X hX).2 hne k hk).1, fun hwb => ((x.rrow i X hX).2 hne k hk).2 (by
   rcases hwb with h | h | h | h | h
   ·exact .inl h
   ·exact .inr (.inl h)
   ·exact .inr (.inr (.inl h))
   ·exact .inr (.inr (.inr (.inl h)))
   ·cases h)⟩⟩, gr := fun h => (by cases h), lr := fun k _ h => (by cases h), nr := fun k _ h => (by cases h), er := fun k _ h => (by cases h) }
def WbN (gd : Nat) (vn ve : Value) (k : Nat) : Prop := k = gd ∨ vn.ownBlock = some k ∨ ve.ownBlock = some k
theorem DE.next (x : DE w H gd cl lv vn ve rv vf rf L R E r) {b : Bool} {w3 w4 : World} (hb1 : Below w.heap.size w w1)
  (hon : w2.ownsRow H 47 1 vn' (R.length + 1) ((List.range R.length).map rf ++ [rv])) (hg1 : w1.grownBy w2 vn.ownBlock) (hw1 : ∀ k, vn'.ownBlock = some k → vn.ownBlock = some k ∨ w1.heap.size ≤ k) (hb2 : Below w2.heap.size w2 w3)
  (hoe : w4.ownsRow H 4 1 ve' (E ++ [b]).length (bools (E ++ [b]))) (hg2 : w3.grownBy w4 ve.ownBlock) (hw2 : ∀ k, ve'.ownBlock = some k → ve.ownBlock = some k ∨ w3.heap.size ≤ k) :
  Blk w4 gd 28 (dcl cl vn ve) ∧ Blk (w4.setCell ⟨gd, 256, none⟩ vn') gd 28 (dcl cl vn' ve) ∧
   DE ((w4.setCell ⟨gd, 256, none⟩ vn').setCell ⟨gd, 257, none⟩ ve') H gd cl lv vn' ve' (.slice none 0 0) vf (fun i => if i = R.length then rv else rf i) L (R ++ [r]) (E ++ [b]) [] ∧
   Off (WbN gd vn ve) w ((w4.setCell ⟨gd, 256, none⟩ vn').setCell ⟨gd, 257, none⟩ ve') := by
 have s1 := hb1.size
 have s2 := hg1.size
 have s3 := hb2.size
 have s4 := hg2.size
 have ltn : ∀ k, vn.ownBlock = some k → k < w.heap.size := fun k hk => (own6_lt x.ownn k hk).1
 have lte : ∀ k, ve.ownBlock = some k → k < w.heap.size := fun k hk => (own6_lt x.owne k hk).1
 have st : ∀ k, k < w.heap.size → vn.ownBlock ≠ some k → ve.ownBlock ≠ some k → w4.heap[k]? = w.heap[k]? := fun k hk h1 h2 =>
  (hg2.block k (by omega) fun e => h2 e.symm).trans ((hb2.block k (by omega)).trans ((hg1.block k (by omega) fun e => h1 e.symm).trans (hb1.block k hk)))
 have fin : ∀ k, k ≠ gd → ((w4.setCell ⟨gd, 256, none⟩ vn').setCell ⟨gd, 257, none⟩ ve').heap[k]? = w4.heap[k]? := fun k hk =>
  (Below.heap_setCell _ ⟨gd, 257, none⟩ ve' k hk).trans (Below.heap_setCell w4 ⟨gd, 256, none⟩ vn' k hk)
 have hgd4 : Blk w4 gd 28 (dcl cl vn ve) := (st gd x.blk.lt x.gn x.ge).trans x.blk
 have hgd5 : Blk (w4.setCell ⟨gd, 256, none⟩ vn') gd 28 (dcl cl vn' ve) := by
  have := hgd4.set 256 vn'
  rwa [dcl_setn x.cl] at this
 have hgd6 : Blk ((w4.setCell ⟨gd, 256, none⟩ vn').setCell ⟨gd, 257, none⟩ ve') gd 28 (dcl cl vn' ve') := by
  have := hgd5.set 257 ve'
  rwa [dcl_sete x.cl] at this
 have hsz : ((w4.setCell ⟨gd, 256, none⟩ vn').setCell ⟨gd, 257, none⟩ ve').heap.size = w4.heap.size := by simp
 have hof : Off (WbN gd vn ve) w ((w4.setCell ⟨gd, 256, none⟩ vn').setCell ⟨gd, 257, none⟩ ve') := by
  refine ⟨?_, ?_, ?_, by rw [hsz]; omega, fun k hk hn => (fin k fun e => hn (.inl e)).trans (st k hk (fun e => hn (.inr (.inl e))) (fun e => hn (.inr (.inr e))))⟩
  ·exact hg2.os.trans (hb2.os.trans (hg1.os.trans hb1.os))
  ·exact hg2.tape.trans (hb2.tape.trans (hg1.tape.trans hb1.tape))
  ·exact hg2.output.trans (hb2.output.trans (hg1.output.trans hb1.output))
 have hof2 : Off (WbE gd lv vn ve rv) w ((w4.setCell ⟨gd, 256, none⟩ vn').setCell ⟨gd, 257, none⟩ ve') := hof.mono fun k _ hk => by
  rcases hk with h | h | h
  ·exact .inl h
  ·exact .inr (.inr (.inl h))
  ·exact .inr (.inr (.inr (.inl h)))
 -- what a block of the new values is
 have nn : ∀ k, vn'.ownBlock = some k → vn.ownBlock = some k ∨ w.heap.size ≤ k := fun k hk => by
  rcases hw1 k hk with h | h
  ·exact .inl h
  ·exact .inr (by omega)
 have nee : ∀ k, ve'.ownBlock = some k → ve.ownBlock = some k ∨ (w.heap.size ≤ k ∧ w2.heap.size ≤ k) := fun k hk => by
  rcases hw2 k hk with h | h
  ·exact .inl h
  ·exact .inr ⟨by omega, by omega⟩
 have n2 : ∀ k, vn'.ownBlock = some k → k < w2.heap.size := fun k hk => (own6_lt hon k hk).1
 have hwb : ∀ k, WbE gd lv vn' ve' (.slice none 0 0) k → WbE gd lv vn ve rv k ∨ w.heap.size ≤ k := fun k hk => by
  rcases hk with h | h | h | h | h
  ·exact .inl (.inl h)
  ·exact .inl (.inr (.inl h))
  ·rcases nn k h with h1 | h1
   ·exact .inl (.inr (.inr (.inl h1)))
   ·exact .inr h1
  ·rcases nee k h with h1 | h1
   ·exact .inl (.inr (.inr (.inr (.inl h1))))
   ·exact .inr h1.1
  ·cases h
 have gn' : vn'.ownBlock ≠ some gd := fun e => by
  rcases nn gd e with h | h
  ·exact x.gn h
  ·have := x.blk.lt; omega
 have ge' : ve'.ownBlock ≠ some gd := fun e => by
  rcases nee gd e with h | h
  ·exact x.ge h
  ·have := x.blk.lt; omega
 refine ⟨hgd4, hgd5, ⟨hgd6, x.cl, x.gB, own6_stay x.ownl fun j hj => (fin j fun e => x.gl (by rw [← e]; exact hj)).trans (st j (own6_lt x.ownl j hj).1 (x.ln j hj) (x.le j hj)), ?_, ?_, ownN _ _ _, fun i Y hY => (x.vrow i Y hY).off hof2 (fun k hk => .inl hk) hwb, fun i Y hY => ?_, x.gl, gn', ge', fun h => (by cases h), fun k hk e => ?_, fun k hk e => ?_, fun k _ h => (by cases h), fun k hk e => ?_, fun k _ h => (by cases h), fun k _ h => (by cases h)⟩, hof⟩
 ·rw [List.length_append, List.length_singleton, range_snoc]
  refine own6_stay hon fun j hj => (fin j fun e => gn' (by rw [← e]; exact hj)).trans ?_
  have hj2 := n2 j hj
  exact (hg2.block j (by omega) fun e => by
   rcases hw1 j hj with h | h
   ·exact x.ne j h e.symm
   ·have h3 := lte j e.symm; omega).trans (hb2.block j hj2)
 ·exact own6_stay hoe fun j hj => fin j fun e => ge' (by rw [← e]; exact hj)
 ·show Fx _ H _ (if i = R.length then rv else rf i) Y
  by_cases hi : i = R.length
  ·rw [if_pos hi]
   have e : Y = r := by
    rw [hi, List.getElem?_append_right (Nat.le_refl _), Nat.sub_self] at hY
    simpa using hY.symm
   rw [e]
   have hrow : Row w rv (nums .i64 r) := Row.of_own x.ownr
   have hfx : Fx w H (fun k => WbE gd lv vn ve (.slice none 0 0) k) rv r := ⟨hrow, fun _ k hk => ⟨(own6_lt x.ownr k hk).2, fun hwb => by
    rcases hwb with h | h | h | h | h
    ·exact x.gr (by rw [← h]; exact hk)
    ·exact x.lr k h hk
    ·exact x.nr k h hk
    ·exact x.er k h hk
    ·cases h⟩⟩
   refine hfx.off hof (fun k hk => .inl ?_) fun k hk => ?_
   ·rcases hk with h | h | h
    ·exact .inl h
    ·exact .inr (.inr (.inl h))
    ·exact .inr (.inr (.inr (.inl h)))
   ·rcases hk with h | h | h | h | h
    ·exact .inl (.inl h)
    ·exact .inl (.inr (.inl h))
    ·rcases nn k h with h1 | h1
     ·exact .inl (.inr (.inr (.inl h1)))
     ·exact .inr h1
    ·rcases nee k h with h1 | h1
     ·exact .inl (.inr (.inr (.inr (.inl h1))))
     ·exact .inr h1.1
    ·cases h
  ·rw [if_neg hi]
   have hlt : i < R.length := by
    have := (List.getElem?_eq_some_iff.1 hY).1
    rw [List.length_append, List.length_singleton] at this
    omega
   rw [List.getElem?_append_left hlt] at hY
   exact (x.rrow i Y hY).off hof2 (fun k hk => .inl hk) hwb
 ·rcases nn k e with h | h
  ·exact x.ln k hk h
  ·have := (own6_lt x.ownl k hk).1; omega
 ·rcases nee k e with h | h
  ·exact x.le k hk h
  ·have := (own6_lt x.ownl k hk).1; omega
 ·rcases nee k e with h | h
  ·rcases nn k hk with h1 | h1
   ·exact x.ne k h1 h
   ·have := lte k h; omega
  ·have := n2 k hk; omega
theorem DE.far {D : Nat → Prop} (x : DE w H gd cl lv vn ve rv vf rf L R E r) (ho : Off D w w') (hD : ∀ k, D k → k < H) : DE w' H gd cl lv vn ve rv vf rf L R E r := by
 have st : ∀ k, WbE gd lv vn ve rv k → w'.heap[k]? = w.heap[k]? := fun k hk => ho.block k (x.lt hk) fun hd => by
  have h1 := hD k hd
  have h2 := x.ge_ hk
  omega
 refine { x with blk := (st gd (.inl rfl)).trans x.blk, ownl := own6_stay x.ownl fun j hj => st j (.inr (.inl hj)), ownn := own6_stay x.ownn fun j hj => st j (.inr (.inr (.inl hj))), owne := own6_stay x.owne fun j hj => st j (.inr (.inr (.inr (.inl hj)))), ownr := own6_stay x.ownr fun j hj => st j (.inr (.inr (.inr (.inr hj)))), vrow := fun i X hX => (x.vrow i X hX).off ho (fun k hk => .inr (hD k hk)) fun k hk => .inl hk, rrow := fun i X hX => (x.rrow i X hX).off ho (fun k hk => .inr (hD k hk)) fun k hk => .inl hk }
theorem DE.dfa (x : DE w H gd cl lv vn ve rv vf rf L R E r) : DfaV w (dcl cl vn ve) ⟨cl, R, E⟩ :=
 ⟨x.cl, vn, ve, rf, rfl, Row.of_own x.ownn, fun i X hX => (x.rrow i X hX).1, Row.of_own x.owne⟩
end
theorem built_picks (A : Option Addr) (n c : Nat) : Try.prog.built 73 [(0, .slice A n c)] = some #[.slice A n c, .int .i64 0] := by kernel_rfl
set_option maxHeartbeats 4000000 in
set_option maxRecDepth 1000000 in
theorem made_any (V : Value) (ps : List UInt8) (w : World) (hr : Row w V (bvs ps)) (hl : ps.length ≤ 1048576) :
  Calls Try.prog 22 #[V] w fun e w' => e = .returned (.pointer (some ⟨w.heap.size, 0, none⟩)) ∧ Below w.heap.size w w' ∧ Pk w' w.heap.size V ps 0 := by
 have R := qH hr
 obtain ⟨A, cap, rfl, _⟩ := hr
 obtain ⟨n, hn⟩ : ∃ n, n = (bvs ps).length := ⟨_, rfl⟩
 rw [← hn] at R ⊢
 obtain ⟨cs, hcs⟩ : ∃ cs, cs = [Value.slice A n cap, .int .i64 0] := ⟨_, rfl⟩
 have HB := qH (show Try.prog.built 73 [(0, .slice A n cap)] = some cs.toArray by rw [hcs]; exact built_picks A n cap)
 have HC := qH hcs
 clear hn hcs
 go_enter Try.func22, Try.ntmps22
 go_wp2_with (first
  | ((with_reducible refine atDst 4 ?_); refine wpList_bld rfl 73 _ rfl cs HB.out ?_; (try simp only [Act.put, qA, qB, qC]))
  | ((with_reducible refine atDst 5 ?_); refine wpList_box rfl 73 _ rfl cs rfl (Below.refl w.heap.size w) (Nat.le_refl _) ?_; intro w1 hk1 hb1 hs1 _; have K1 := qH hk1; have B1 := qH hb1; clear hk1 hb1 hs1; (try simp only [Act.put, qA, qB, qC])))
 go_ret
 have hk := K1.out
 rw [HC.out] at hk
 exact ⟨rfl, B1.out, ⟨hk, R.out.toB.below B1.out, Nat.zero_le _, hl⟩⟩
def tyU : Nat → TypeId
 | 0 => 47
 | 1 => 4
 | _ => 3
structure Apt (w : World) (H m : Nat) (U : Nat → Value) (X : Nat → List Value) : Prop where
 own : ∀ i, i < m → w.ownsRow H (tyU i) 1 (U i) (X i).length (X i)
 inj : ∀ i j, i < m → j < m → i ≠ j → ∀ k, (U i).ownBlock = some k → (U j).ownBlock ≠ some k
def putX (X : Nat → List Value) (s : Nat) (l : List Value) : Nat → List Value := fun i => if i = s then l else X i
theorem putX_at (X : Nat → List Value) (s : Nat) (l : List Value) : putX X s l s = l := if_pos rfl
theorem putX_ne {X : Nat → List Value} {s i : Nat} {l : List Value} (h : i ≠ s) : putX X s l i = X i := if_neg h
section
variable {w w' : World} {H m : Nat} {U : Nat → Value} {X : Nat → List Value}
theorem Apt.stay (h : Apt w H m U X) (hs : ∀ k, H ≤ k → k < w.heap.size → w'.heap[k]? = w.heap[k]?) : Apt w' H m U X :=
 ⟨fun i hi => own6_stay (h.own i hi) fun j hj => hs j (own6_lt (h.own i hi) j hj).2 (own6_lt (h.own i hi) j hj).1, h.inj⟩
theorem Apt.below (h : Apt w H m U X) (hb : Below w.heap.size w w') : Apt w' H m U X := h.stay fun k _ hk => hb.block k hk
theorem Apt.lt (h : Apt w H m U X) {i : Nat} (hi : i < m) : ∀ k, (U i).ownBlock = some k → k < w.heap.size ∧ H ≤ k := own6_lt (h.own i hi)
theorem Apt.grow (h : Apt w H m U X) {s : Nat} (hs : s < m) {v : Value} {l : List Value} (ho : w'.ownsRow H (tyU s) 1 v l.length l) (hg : w.grownBy w' (U s).ownBlock) (hw : ∀ k, v.ownBlock = some k → (U s).ownBlock = some k ∨ w.heap.size ≤ k) :
  Apt w' H m (putV U s v) (putX X s l) := by
 have hkeep : ∀ i, i < m → i ≠ s → ∀ k, (U i).ownBlock = some k → w'.heap[k]? = w.heap[k]? := fun i hi hne k hk =>
  hg.block k (h.lt hi k hk).1 fun e => h.inj i s hi hs hne k hk (by first | exact e | exact e.symm)
 refine ⟨fun i hi => ?_, fun i j hi hj hij k hk => ?_⟩
 ·by_cases hne : i = s
  ·subst hne
   rw [putV_at, putX_at]
   exact ho
  ·rw [putV_ne hne, putX_ne hne]
   exact own6_stay (h.own i hi) fun j hj => hkeep i hi hne j hj
 ·by_cases hi2 : i = s
  ·have hj2 : j ≠ s := fun e => hij (by rw [hi2, e])
   rw [hi2, putV_at] at hk
   rw [putV_ne hj2]
   rcases hw k hk with e | e
   ·exact h.inj s j hs hj (Ne.symm hj2) k e
   ·exact fun e2 => absurd (h.lt hj k e2).1 (Nat.not_lt.2 e)
  ·rw [putV_ne hi2] at hk
   by_cases hj2 : j = s
   ·rw [hj2, putV_at]
    intro e2
    rcases hw k e2 with e | e
    ·exact h.inj s i hs hi (Ne.symm hi2) k e hk
    ·exact absurd (h.lt hi k hk).1 (Nat.not_lt.2 e)
   ·rw [putV_ne hj2]
    exact h.inj i j hi hj hij k hk
theorem Apt.more (h : Apt w H m U X) : Apt w H (m + 1) (putV U m (.slice none 0 0)) (putX X m []) := by
 refine ⟨fun i hi => ?_, fun i j hi hj hij k hk => ?_⟩
 ·by_cases hne : i = m
  ·subst hne
   rw [putV_at, putX_at]
   exact ownC_nil _ _ _
  ·rw [putV_ne hne, putX_ne hne]
   exact h.own i (by omega)
 ·by_cases hi2 : i = m
  ·rw [hi2, putV_at] at hk
   cases (show (none : Option Nat) = some k from hk)
  ·rw [putV_ne hi2] at hk
   by_cases hj2 : j = m
   ·rw [hj2, putV_at]
    intro e
    cases (show (none : Option Nat) = some k from e)
   ·rw [putV_ne hj2]
    exact h.inj i j (by omega) (by omega) hij k hk
theorem Apt.fewer (h : Apt w H (m + 1) U X) : Apt w H m U X := ⟨fun i hi => h.own i (by omega), fun i j hi hj => h.inj i j (by omega) (by omega)⟩
theorem Apt.set (h : Apt w H m U X) {s : Nat} (hs : s < m) {g n cap : Nat} (hv : U s = .slice (some ⟨g, 0, none⟩) n cap) {q : Nat} (hq : q < (X s).length) (u : Value) : Apt (w.setCell ⟨g, q, none⟩ u) H m U (putX X s ((X s).set q u)) := by
 refine ⟨fun i hi => ?_, h.inj⟩
 by_cases hne : i = s
 ·subst hne
  rw [putX_at, List.length_set]
  have h1 := h.own i hi
  rw [hv] at h1 ⊢
  have h2 : n = (X i).length := by
   rcases h1.2 with ⟨e, _⟩ | ⟨g', cap', cur, e, _⟩
   ·cases e
   ·injection e
  rw [← h2] at h1 ⊢
  exact own_set h1 hq u
 ·rw [putX_ne hne]
  refine own6_stay (h.own i hi) fun j hj => Below.heap_setCell w ⟨g, q, none⟩ u j fun e => h.inj s i hs hi (Ne.symm hne) g (by rw [hv]; rfl) (by rw [hj]; exact congrArg some e)
end
def DfaA (w : World) (H : Nat) (cs : List Value) (D : Dm) : Prop :=
 ∃ (U : Nat → Value) (X : Nat → List Value), D.cl.length = 256 ∧ cs = dcl D.cl (U 0) (U 1) ∧ Apt w H (2 + D.next.length) U X ∧ X 0 = (List.range D.next.length).map (fun q => U (q + 2)) ∧ X 1 = bools D.ends ∧ ∀ i r, D.next[i]? = some r → X (i + 2) = nums .i64 r
theorem DfaA.dfa {w : World} {H : Nat} {cs : List Value} {D : Dm} (h : DfaA w H cs D) : DfaV w cs D := by
 obtain ⟨U, X, h1, h2, h3, h4, h5, h6⟩ := h
 have r0 : Row w (U 0) (X 0) := Row.of_own (h3.own 0 (by omega))
 have r1 : Row w (U 1) (X 1) := Row.of_own (h3.own 1 (by omega))
 refine ⟨h1, U 0, U 1, fun q => U (q + 2), h2, by rwa [h4] at r0, fun i r hr => ?_, by rwa [h5] at r1⟩
 have hi := (List.getElem?_eq_some_iff.1 hr).1
 have r2 : Row w (U (i + 2)) (X (i + 2)) := Row.of_own (h3.own (i + 2) (by omega))
 rwa [h6 i r hr] at r2
theorem stD_lt {D : Dm} (h : MayD D) (hl : D.cl.length = 256) {s : Nat} (hs : s < D.next.length) (b : UInt8) :
  ∃ (r : List Int) (x : Int) (c : UInt8), D.next[s]? = some r ∧ D.cl[b.toNat]? = some c ∧ c.toNat < r.length ∧ r[c.toNat]? = some x ∧ x = (stD D s b : Int) ∧ stD D s b < D.next.length := by
 obtain ⟨r, hr⟩ : ∃ r, D.next[s]? = some r := ⟨_, List.getElem?_eq_getElem hs⟩
 obtain ⟨c, hc⟩ : ∃ c, D.cl[b.toNat]? = some c := ⟨_, List.getElem?_eq_getElem (by rw [hl]; exact b.toNat_lt)⟩
 have hm := List.mem_of_getElem? hr
 have hk : c.toNat < r.length := by rw [h.rows r hm]; exact clsA_lt hl hc
 obtain ⟨x, hx⟩ : ∃ x, r[c.toNat]? = some x := ⟨_, List.getElem?_eq_getElem hk⟩
 have h2 := h.to r hm x (List.mem_of_getElem? hx)
 have e : stD D s b = x.toNat := by
  unfold stD
  rw [hr, List.getD_eq_getElem?_getD, List.getD_eq_getElem?_getD, hc]
  show (r[c.toNat]?.getD 0).toNat = _
  rw [hx]
  rfl
 exact ⟨r, x, c, hr, hc, hk, hx, by rw [e]; omega, by rw [e]; omega⟩
theorem toD_lt {D : Dm} (h : MayD D) (hl : D.cl.length = 256) : ∀ (w : List UInt8) (s : Nat), s < D.next.length → toD D s w < D.next.length
 | [], _, hs => hs
 | b :: w, s, hs => by
  obtain ⟨_, _, _, _, _, _, _, _, h1⟩ := stD_lt h hl hs b
  exact toD_lt h hl w _ h1
set_option maxHeartbeats 8000000 in
set_option maxRecDepth 1000000 in
theorem refTo11_any (D : Dm) (s : Nat) (W : List UInt8) (cs : List Value) (V : Value) (w : World) (hv : DfaV w cs D) (hm : MayD D) (hs : s < D.next.length) (hw : Row w V (bvs W)) :
  Calls Try.prog 34 #[.agg cs.toArray, .int .i64 (s : Int), V] w fun e w' => e = .returned (.int .i64 (toD D s W : Int)) ∧ Below w.heap.size w w' := by
 have V0 := qH hv
 have HM := qH hm
 have HDS := qH hv.size
 have W0 := qH hw
 obtain ⟨An, Ae, cn, ce, vf, hl, hcs, hn, hr, he⟩ := hv.form
 have HL := qH hl
 obtain ⟨n, hnn⟩ : ∃ n, n = D.next.length := ⟨_, rfl⟩
 have HN := qH hnn
 rw [hm.ends, ← hnn] at hcs
 rw [← hnn] at hn hs
 have HCS := qH hcs
 have HRN := qH hn
 have HR := qH hr
 have HS := qH hs
 have HNF := qH (show n ≤ 2000 by rw [hnn]; exact hm.few)
 obtain ⟨Aw, cw, rfl, a1, a2, _⟩ := hw
 rw [bvs_length] at W0 a1 ⊢
 have HLN := qH (And.intro a1 a2)
 have i1 : ¬ ((s : Int) < 0) := by omega
 have i2 : ¬ ((n : Int) ≤ (s : Int)) := by omega
 clear hv hm hl hcs hn hr he hnn hs a1 a2
 go_enter Try.func34, Try.ntmps34
 go_wp2_with (first
  | ((with_reducible refine atDst 3 ?_); refine wpList_box rfl 28 _ rfl cs rfl (Below.refl w.heap.size w) (Nat.le_refl _) ?_; intro w1 hk1 hb1 hs1 _; have K1 := qH hk1; have B1 := qH hb1; clear hk1 hb1 hs1; (try simp only [Act.put, qA, qB, qC]))
  | ((with_reducible refine atDst 8 ?_); refine wpList_ldArr rfl 28 _ rfl w.heap.size rfl 28 _ _ K1.out Try.underlying28 rfl HDS.out ?_; (try simp only [Act.put, qA, qB, qC])))
 refine (refMay11_any D cs w1 (V0.out.below B1.out) HM.out).mono ?_
 rintro e w2 ⟨rfl, hb⟩
 have K2 := qH (K1.out.below hb K1.out.lt)
 have B2 := qH (B1.out.trans (hb.mono B1.out.size))
 have c256 : w2.cell? ⟨w.heap.size, 256, none⟩ = some (.slice An n cn) := by rw [K2.out.cell 256, HCS.out]; exact dcl_n HL.out
 have C256 := qH c256
 have HT1 := qH (show w.heap.size < w2.heap.size from K2.out.lt)
 clear hb
 go_wp2_with fail
 clear c256 i1 i2
 go_loopw [1, 7] (fun v jv wl => ∃ j : Nat, j ≤ W.length ∧ jv = .int .i64 (j : Int) ∧ v = .int .i64 (toD D s (W.take j) : Int) ∧ Below w2.heap.size w2 wl) (fun _ jv _ => W.length - (intOf jv).toNat)
 case atStart => exact ⟨0, Nat.zero_le _, by simp, rfl, Below.refl _ _⟩
 obtain ⟨j, hj, rfl, rfl, hb⟩ := hrel
 have BQ := qH hb
 obtain ⟨wq, hwq⟩ : ∃ v : World, v = wr := ⟨_, rfl⟩
 subst hwq
 clear hb
 by_cases hjl : j < W.length
 ·have x1 : (j : Int) < (W.length : Int) := Int.ofNat_lt.2 hjl
  have HJ := qH hjl
  have HMJ := qH (sub_next hjl)
  have e3 := wrap_len HJ.out HLN.out.1 HLN.out.2
  have e4 := wrap_len' HJ.out HLN.out.1 HLN.out.2
  obtain ⟨b, hb⟩ : ∃ b, W[j]? = some b := ⟨_, List.getElem?_eq_getElem hjl⟩
  obtain ⟨p, hp⟩ : ∃ p, p = toD D s (W.take j) := ⟨_, rfl⟩
  have hpn : p < n := by rw [hp, HN.out]; exact toD_lt HM.out HL.out _ _ (by rw [← HN.out]; exact HS.out)
  obtain ⟨r, x, c, hr, hc, hk, hx, hxe, _⟩ := stD_lt HM.out HL.out (s := p) (by rw [← HN.out]; exact hpn) b
  have HNX := qH (show toD D s (W.take (j + 1)) = stD D p b by rw [toD_take hb, hp])
  have HXE := qH hxe
  have y1 : (p : Int) < (n : Int) := Int.ofNat_lt.2 hpn
  have BW := qH (B2.out.trans (BQ.out.mono B2.out.size))
  obtain ⟨bw, ow, rfl, hlw, hcw⟩ := (W0.out.below BW.out).at_ (by rw [bvs_length]; exact Nat.lt_of_le_of_lt (Nat.zero_le _) hjl)
  obtain ⟨bn, on, rfl, hln, hcn⟩ := (HRN.out.below BW.out).at_ (by rw [List.length_map, List.length_range]; exact Nat.lt_of_le_of_lt (Nat.zero_le _) hpn)
  have hri := (HR.out p r hr).below BW.out
  have hri2 := hri
  obtain ⟨Ar, cr, hvr, _⟩ := hri2
  rw [nums_length] at hvr
  have HCI := qH (show wq.cell? ⟨bn, on + p, none⟩ = some (.slice Ar r.length cr) from hcn p _ (by simp [hpn, hvr]))
  rw [hvr] at hri
  obtain ⟨br, or, rfl, hlr, hcr⟩ := hri.at_ (by rw [nums_length]; exact Nat.lt_of_le_of_lt (Nat.zero_le _) hk)
  obtain ⟨bb, hbb⟩ : ∃ bb, bb = b.toNat := ⟨_, rfl⟩
  obtain ⟨q, hq⟩ : ∃ q, q = c.toNat := ⟨_, rfl⟩
  have HCB := qH (show wq.cell? ⟨bw, ow + j, none⟩ = some (.int .u8 (bb : Int)) by rw [hbb]; exact hcw j _ (bvs_get _ _ _ hb))
  have HCX := qH (show wq.cell? ⟨br, or + q, none⟩ = some (.int .i64 x) by rw [hq]; exact hcr _ _ (by simp [nums, hx]))
  have HBB := qH (show bb < 256 by rw [hbb]; exact b.toNat_lt)
  have KQ := qH (K2.out.below BQ.out K2.out.lt)
  have HCQ := qH (show wq.cell? ⟨w.heap.size, bb, none⟩ = some (.int .u8 (q : Int)) by
   rw [KQ.out.cell bb, HCS.out, dcl_cl HL.out HBB.out, bvs_get _ _ _ (by rw [hbb]; exact hc), hq])
  have C256q := qH ((BQ.out.cell (p := ⟨w.heap.size, 256, none⟩) HT1.out).trans C256.out)
  have HTq := qH (Nat.lt_of_lt_of_le HT1.out BQ.out.size)
  have y2 : (bb : Int) < 256 := Int.ofNat_lt.2 HBB.out
  have y3 : (q : Int) < (r.length : Int) := by rw [hq]; exact Int.ofNat_lt.2 hk
  have HLW := qH hlw
  have HLN2 := qH hln
  have HLR := qH hlr
  rw [← hp]
  clear hj hjl hb hp hpn hr hc hk hx hxe hlw hcw hln hcn hri hvr hlr hcr hbb hq
  go_wp2_with fail
  refine sx_startB (B := wq.heap.size) (w0 := wq) (by kernel_rfl) (Below.refl _ _) (fun wd hwd hX => ?_)
  clear hwd
  refine sx_take (i := 0) (oi := ⟨some 28, _, _, _, _, _⟩) (v := ?_) rfl (by kernel_rfl) (by kernel_rfl) (by kernel_rfl) (fun _ _ _ h => h) rfl hX ?_ ?_; rotate_left; (intro W hW; go_simp; try with_reducible rfl); simp only [Act.put, qA, qB, qC]
  refine sx_take (i := 1) (oi := ⟨some 29, _, _, _, _, _⟩) (v := .slice (some ⟨bn, on, none⟩) n cn) rfl (by kernel_rfl) (by kernel_rfl) (by kernel_rfl) (fun _ _ _ h => h) rfl hX (fun V hV => ld_inss (.tmp 28) rfl rfl ((hV.cell (p := ⟨w.heap.size, 256, none⟩) HTq.out).trans C256q.out)) ?_; simp only [Act.put, qA, qB, qC]
  refine sx_take (i := 2) (oi := ⟨some 30, _, _, _, _, _⟩) (v := ?_) rfl (by kernel_rfl) (by kernel_rfl) (by kernel_rfl) (fun _ _ _ h => h) rfl hX ?_ ?_; rotate_left; (intro W hW; go_simp; try with_reducible rfl); simp only [Act.put, qA, qB, qC]
  refine sx_take (i := 3) (oi := ⟨some 31, _, _, _, _, _⟩) (v := ?_) rfl (by kernel_rfl) (by kernel_rfl) (by kernel_rfl) (fun _ _ _ h => h) rfl hX ?_ ?_; rotate_left; (intro W hW; go_simp; try with_reducible rfl); simp only [Act.put, qA, qB, qC]
  refine sx_take (i := 4) (oi := ⟨some 32, _, _, _, _, _⟩) (v := .slice (some ⟨br, or, none⟩) r.length cr) rfl (by kernel_rfl) (by kernel_rfl) (by kernel_rfl) (fun _ _ _ h => h) rfl hX (fun V hV => ld_ints (.tmp 31) rfl rfl ((hV.cell (p := ⟨bn, on + p, none⟩) HLN2.out).trans HCI.out)) ?_; simp only [Act.put, qA, qB, qC]
  refine sx_take (i := 5) (oi := ⟨some 33, _, _, _, _, _⟩) (v := ?_) rfl (by kernel_rfl) (by kernel_rfl) (by kernel_rfl) (fun _ _ _ h => h) rfl hX ?_ ?_; rotate_left; (intro W hW; go_simp; try with_reducible rfl); simp only [Act.put, qA, qB, qC]
  refine sx_take (i := 6) (oi := ⟨some 34, _, _, _, _, _⟩) (v := ?_) rfl (by kernel_rfl) (by kernel_rfl) (by kernel_rfl) (fun _ _ _ h => h) rfl hX ?_ ?_; rotate_left; (intro W hW; go_simp; try with_reducible rfl); simp only [Act.put, qA, qB, qC]
  refine sx_take (i := 7) (oi := ⟨some 35, _, _, _, _, _⟩) (v := ?_) rfl (by kernel_rfl) (by kernel_rfl) (by kernel_rfl) (fun _ _ _ h => h) rfl hX ?_ ?_; rotate_left; (intro W hW; go_simp; try with_reducible rfl); simp only [Act.put, qA, qB, qC]
  refine sx_take (i := 8) (oi := ⟨some 36, _, _, _, _, _⟩) (v := .int .u8 (bb : Int)) rfl (by kernel_rfl) (by kernel_rfl) (by kernel_rfl) (fun _ _ _ h => h) rfl hX (fun V hV => ld_u9 (.tmp 35) rfl rfl ((hV.cell (p := ⟨bw, ow + j, none⟩) HLW.out).trans HCB.out)) ?_; simp only [Act.put, qA, qB, qC]
  refine sx_take (i := 9) (oi := ⟨some 37, _, _, _, _, _⟩) (v := ?_) rfl (by kernel_rfl) (by kernel_rfl) (by kernel_rfl) (fun _ _ _ h => h) rfl hX ?_ ?_; rotate_left; (intro W hW; go_simp; try with_reducible rfl); simp only [Act.put, qA, qB, qC]
  refine sx_take (i := 10) (oi := ⟨some 38, _, _, _, _, _⟩) (v := ?_) rfl (by kernel_rfl) (by kernel_rfl) (by kernel_rfl) (fun _ _ _ h => h) rfl hX ?_ ?_; rotate_left; (intro W hW; go_simp; try with_reducible rfl); simp only [Act.put, qA, qB, qC]
  refine sx_take (i := 11) (oi := ⟨some 39, _, _, _, _, _⟩) (v := .int .u8 (q : Int)) rfl (by kernel_rfl) (by kernel_rfl) (by kernel_rfl) (fun _ _ _ h => h) rfl hX (fun V hV => ld_u9 (.tmp 38) rfl rfl ((hV.cell (p := ⟨w.heap.size, bb, none⟩) HTq.out).trans HCQ.out)) ?_; simp only [Act.put, qA, qB, qC]
  refine sx_take (i := 12) (oi := ⟨some 40, _, _, _, _, _⟩) (v := ?_) rfl (by kernel_rfl) (by kernel_rfl) (by kernel_rfl) (fun _ _ _ h => h) rfl hX ?_ ?_; rotate_left; (intro W hW; go_simp; try with_reducible rfl); simp only [Act.put, qA, qB, qC]
  refine sx_take (i := 13) (oi := ⟨some 41, _, _, _, _, _⟩) (v := .int .i64 x) rfl (by kernel_rfl) (by kernel_rfl) (by kernel_rfl) (fun _ _ _ h => h) rfl hX (fun V hV => ld_int9 (.tmp 40) rfl rfl ((hV.cell (p := ⟨br, or + q, none⟩) HLR.out).trans HCX.out)) ?_; simp only [Act.put, qA, qB, qC]
  refine sx_take (i := 14) (oi := ⟨some 1, _, _, _, _, _⟩) (v := ?_) rfl (by kernel_rfl) (by kernel_rfl) (by kernel_rfl) (fun _ _ _ h => h) rfl hX ?_ ?_; rotate_left; (intro W hW; go_simp; try with_reducible rfl); simp only [Act.put, qA, qB, qC]
  refine wpAnyH_done (by kernel_rfl) ?_ _
  have BE := qH (BQ.out.trans (hX.mono BQ.out.size))
  clear hX
  go_wp2_with fail
  exact ⟨⟨j + 1, HJ.out, by congr 1, by rw [HNX.out, HXE.out], BE.out⟩, by simpa [intOf] using HMJ.out⟩
 ·obtain rfl : j = W.length := by omega
  have x1 : ¬ ((W.length : Int) < (W.length : Int)) := Int.lt_irrefl _
  have BE := qH (B2.out.trans (BQ.out.mono B2.out.size))
  have HTK := qH (show W.take W.length = W from List.take_length)
  rw [HTK.out]
  clear hj hjl
  go_wp2_with fail
  go_ret
  exact ⟨rfl, BE.out⟩
def fF (cls : Nat → Nat) (N : Nat) : Nat → Nat → Nat
 | 0, _ => 0
 | d + 1, c => if cls (N - (d + 1)) = c then N - (d + 1) else fF cls N d c
theorem fF_spec (cls : Nat → Nat) (N c : Nat) : ∀ d, d ≤ N → (∃ b, N - d ≤ b ∧ b < N ∧ cls b = c) → cls (fF cls N d c) = c ∧ N - d ≤ fF cls N d c ∧ fF cls N d c < N ∧ ∀ b, N - d ≤ b → b < fF cls N d c → cls b ≠ c
 | 0, _, ⟨b, h1, h2, _⟩ => absurd h2 (by omega)
 | d + 1, hd, ⟨b, h1, h2, h3⟩ => by
  unfold fF
  by_cases he : cls (N - (d + 1)) = c
  ·rw [if_pos he]
   exact ⟨he, Nat.le_refl _, by omega, fun b' hb1 hb2 => by omega⟩
  ·rw [if_neg he]
   have hne : b ≠ N - (d + 1) := fun e => he (by rw [← e]; exact h3)
   obtain ⟨i1, i2, i3, i4⟩ := fF_spec cls N c d (by omega) ⟨b, by omega, h2, h3⟩
   refine ⟨i1, by omega, i3, fun b' hb1 hb2 => ?_⟩
   by_cases e : b' = N - (d + 1)
   ·rw [e]; exact he
   ·exact i4 b' (by omega) hb2
def crow (cls : Nat → Nat) (N k d : Nat) : List Value := (List.range k).map fun c => .int .u8 (fF cls N d c : Int)
theorem crow_len (cls : Nat → Nat) (N k d : Nat) : (crow cls N k d).length = k := by simp [crow]
theorem crow_zero (cls : Nat → Nat) (N k : Nat) : List.replicate k (Value.int .u8 0) = crow cls N k 0 := by
 unfold crow fF
 rw [List.map_const']
 simp
theorem crow_set (cls : Nat → Nat) {N k d p : Nat} (hp : p = N - (d + 1)) : (crow cls N k d).set (cls p) (.int .u8 (p : Int)) = crow cls N k (d + 1) := by
 apply List.ext_getElem?
 intro i
 unfold crow
 by_cases hi : i < k
 ·by_cases hc : cls p = i
  ·rw [hc, List.getElem?_set_self (by simp [hi])]
   simp only [List.getElem?_map, List.getElem?_range hi, Option.map_some, fF]
   rw [← hp, if_pos hc]
  ·rw [List.getElem?_set_ne hc]
   simp only [List.getElem?_map, List.getElem?_range hi, Option.map_some, fF]
   rw [← hp, if_neg hc]
 ·rw [List.getElem?_eq_none (by rw [List.length_set]; simp; omega), List.getElem?_eq_none (by simp; omega)]
theorem fF_first (ps : List (Nat → Bool)) (N k : Nat) {f : Nat} (hf : (firstJ ps N)[k]? = some f) : fF (clsOf ps) N N k = f := by
 obtain ⟨hk, hfe⟩ := List.getElem?_eq_some_iff.1 hf
 have hm : f ∈ firstJ ps N := List.mem_of_getElem? hf
 have hfN := firstJ_lt ps N f hm
 have h1 : clsOf ps f = k := (clsOf_is ps N f hfN k hk).2 (by rw [hfe]; exact alikeS_refl _ _)
 have h2 : ∀ b, b < f → clsOf ps b ≠ k := fun b hb e => by
  have h3 := (clsOf_is ps N b (by omega) k hk).1 e
  rw [hfe, (firstJ_facts ps N).2.1 f hm b hb] at h3
  cases h3
 obtain ⟨i1, _, i3, i4⟩ := fF_spec (clsOf ps) N k N (Nat.le_refl _) ⟨f, by omega, hfN, h1⟩
 rcases Nat.lt_trichotomy (fF (clsOf ps) N N k) f with h | h | h
 ·exact absurd i1 (h2 _ h)
 ·exact h
 ·exact absurd h1 (i4 f (by omega) h)
theorem crow_all (ps : List (Nat → Bool)) (N k : Nat) (hN : N ≤ 256) (hk : k = (firstJ ps N).length) : crow (clsOf ps) N k N = bvs (fbB ps N) := by
 apply List.ext_getElem?
 intro i
 unfold crow
 by_cases hi : i < k
 ·obtain ⟨f, hf⟩ : ∃ f, (firstJ ps N)[i]? = some f := ⟨_, List.getElem?_eq_getElem (by rw [← hk]; exact hi)⟩
  have hlt := firstJ_lt ps N f (List.mem_of_getElem? hf)
  rw [List.getElem?_map, List.getElem?_range hi, Option.map_some, fF_first ps N i hf]
  rw [bvs_get _ i (UInt8.ofNat f) (by unfold fbB; rw [List.getElem?_map, hf]; rfl)]
  unfold bv
  rw [UInt8.toNat_ofNat', Nat.mod_eq_of_lt (by omega)]
 ·rw [List.getElem?_eq_none (by simp; omega), List.getElem?_eq_none (by rw [bvs_length, fbB_len]; omega)]
theorem le_k256 {k : Nat} (h : k ≤ 256) : k ≤ 9223372036854775807 := by omega
set_option maxHeartbeats 4000000 in
set_option maxRecDepth 1000000 in
theorem refFirst9_any (ps : List (Nat → Bool)) (cl : List UInt8) (hcl : cl = ctab ps 256) (k : Nat) (hk : k = (firstJ ps 256).length) (w : World) :
  Calls Try.prog 27 #[.agg (bvs cl).toArray, .int .i64 (k : Int)] w fun e w' => ∃ v, e = .returned v ∧ Row w' v (bvs (fbB ps 256)) ∧ Below w.heap.size w w' := by
 obtain ⟨N, hN⟩ : ∃ N, N = 256 := ⟨_, rfl⟩
 have HNN := qH hN
 have HCL := qH (show ∀ b, b < 256 → cl[b]? = some (UInt8.ofNat (clsOf ps b)) by rw [hcl]; exact fun b hb => ctab_at ps hb)
 have HLT := qH (show ∀ b, b < 256 → clsOf ps b < k by rw [hk]; exact fun b hb => clsOf_lt ps hb)
 have HL := qH (show cl.length = 256 by rw [hcl]; exact ctab_length _ _)
 have HK := qH (show k ≤ 256 by rw [hk]; exact firstJ_len ps 256)
 have HFB := qH (show crow (clsOf ps) N k N = bvs (fbB ps 256) by rw [← hN] at hk ⊢; exact crow_all ps N k (by omega) hk)
 obtain ⟨fb, hfb⟩ : ∃ l, l = bvs (fbB ps 256) := ⟨_, rfl⟩
 obtain ⟨cls, hcls⟩ : ∃ cls, cls = clsOf ps := ⟨_, rfl⟩
 rw [← hfb, ← hcls] at HFB
 rw [← hcls] at HCL HLT
 rw [← hfb]
 clear hcl hk hN hfb hcls
 obtain ⟨i1, hi1, hy0, hy1, hy2⟩ := infoP inf_u8
 have HY2 := qH (show i1.bytes * k ≤ 281474976710656 by have := HK.out; rw [hy2]; omega)
 have HK3 := qH (le_k256 HK.out)
 clear hy2
 go_enter Try.func27, Try.ntmps27
 go_wp2_with (first
  | ((with_reducible refine atDst 2 ?_); refine wpList_box rfl 24 _ rfl (bvs cl) rfl (Below.refl w.heap.size w) (Nat.le_refl _) ?_; intro w1 hk1 hb1 hs1 _; have K1 := qH hk1; have B1 := qH hb1; clear hk1 hb1 hs1; (try simp only [Act.put, qA, qB, qC]))
  | ((with_reducible refine atDst 8 ?_); refine wpList_mk w1 rfl (.tmp 7) (.tmp 7) 22 rfl 5 i1 (.int .u8 0) Try.underlying22 hi1 hy0 hy1 rfl k .i64 .i64 _ _ rfl rfl rfl rfl HY2.out HK3.out ?_; intro w2 hk hb hs; have K2 := qH hk; have B2 := qH hb; clear hk hb hs; (try simp only [Act.put, qA, qB, qC])))
 go_loopw [6] (fun iv wl => ∃ (d : Nat) (x : Int), d ≤ 256 ∧ iv = .int .i64 x ∧ x = 255 - (d : Int) ∧ Blk wl w1.heap.size 5 (crow cls N k d) ∧ Below w1.heap.size w1 wl) (fun iv _ => (intOf iv + 1).toNat)
 case atStart => exact ⟨0, 255, Nat.zero_le _, rfl, by omega, by rw [← crow_zero]; exact K2.out, B2.out⟩
 clear K2 B2
 obtain ⟨d, x, hd, rfl, hx, ht, hb⟩ := hrel
 have TQ := qH ht
 have BQ := qH hb
 have KQ := qH (K1.out.below hb K1.out.lt)
 clear ht hb
 by_cases hdn : d < 256
 ·obtain ⟨p, hp⟩ : ∃ p : Nat, p = 255 - d := ⟨_, rfl⟩
  have hxp : x = (p : Int) := by omega
  have hp256 : p < 256 := by omega
  have HD := qH hdn
  have HNX := qH (show (p : Int) - 1 = 255 - ((d + 1 : Nat) : Int) by omega)
  have HMD := qH (show ((p : Int) - 1 + 1).toNat < ((p : Int) + 1).toNat by omega)
  have HPN := qH (show p = N - (d + 1) by have := HNN.out; omega)
  subst hxp
  obtain ⟨q, hq⟩ : ∃ q, q = cls p := ⟨_, rfl⟩
  have hqk : q < k := by rw [hq]; exact HLT.out p hp256
  have p1 : (p : Int) < 256 := Int.ofNat_lt.2 hp256
  have p2 : decide ((0 : Int) ≤ (p : Int)) = true := decide_eq_true (Int.natCast_nonneg p)
  have q1 : (q : Int) < (k : Int) := Int.ofNat_lt.2 hqk
  have e1 : wrap64 ((p : Int) - 1) = (p : Int) - 1 := IntWalk.wrap64_in _ (by omega)
  have e2 : IntKind.i64.wrap ((p : Int) - 1) = (p : Int) - 1 := IntWalk.i64_in _ (by omega)
  have e3 := wrap_256 p hp256
  have e4 := wrap_256' p hp256
  have e5 := wrap_256'' p hp256
  have hcq : wr.cell? ⟨w.heap.size, p, none⟩ = some (.int .u8 (q : Int)) := by
   rw [KQ.out.cell p, bvs_get _ _ _ (HCL.out p hp256), ← hq]
   exact congrArg some (bv_ofNat (Nat.lt_of_lt_of_le hqk HK.out))
  have hfz := TQ.out.frozen q
  obtain ⟨u, hu⟩ : ∃ u, (crow cls N k d)[q]? = some u := ⟨_, List.getElem?_eq_getElem (by rw [crow_len]; exact hqk)⟩
  have hcu := TQ.out.cell q
  rw [hu] at hcu
  have TE := qH (show Blk (wr.setCell ⟨w1.heap.size, q, none⟩ (.int .u8 (p : Int))) w1.heap.size 5 (crow cls N k (d + 1)) by
   have := TQ.out.set q (.int .u8 (p : Int))
   rw [hq, crow_set cls HPN.out, ← hq] at this
   exact this)
  have BE := qH (BQ.out.setCell (p := ⟨w1.heap.size, q, none⟩) (Nat.le_refl _) (Value.int .u8 (p : Int)))
  clear hd hdn hx hp hp256 hq hqk hu
  go_wp2_with fail
  exact ⟨⟨d + 1, _, HD.out, rfl, HNX.out, TE.out, BE.out⟩, by simp [intOf]⟩
 ·obtain rfl : d = 256 := by omega
  have hx1 : x = -1 := by omega
  subst hx1
  have RE := qH (show Row wr (.slice (some ⟨w1.heap.size, 0, none⟩) k k) fb by
   rw [← HFB.out]
   have h := TQ.out
   rw [← HNN.out] at h
   exact rowB h (crow_len _ _ _ _) (Nat.le_trans HK.out (by decide)))
  have BE := qH (B1.out.trans (BQ.out.mono B1.out.size))
  clear hd hdn hx TQ
  go_wp2_with fail
  go_ret
  exact ⟨_, rfl, RE.out, BE.out⟩
def Pl (S : List St) (a z most : Int) (i : Nat) (L R : List (List Int)) (E : List Bool) : Prop :=
 L.Nodup ∧ i ≤ L.length ∧ R.length = i ∧ E.length = i ∧ (∃ r, L.length ≤ (LN S a r).length) ∧
  ((L = LN S a i ∧ R = rowsI (sucN S) (LN S a i) i ∧ E = endsI (hasZ z) (LN S a i) i) ∨ most < (L.length : Int))
theorem Pl.zero (S : List St) (a z most : Int) : Pl S a z most 0 [clsN S [a]] [] [] :=
 ⟨by simp, Nat.zero_le _, rfl, rfl, ⟨0, by rw [LN_zero]; exact Nat.le_refl _⟩, .inl ⟨(LN_zero S a).symm, rfl, rfl⟩⟩
structure Inn (S : List St) (a : Int) (i kk : Nat) (X : List Int) (L : List (List Int)) (Lj : Nat → List (List Int)) (Rw : List Int) : Prop where
 zero : Lj 0 = L
 nd : ∀ j, (Lj j).Nodup
 at_ : ∀ j, (Lj j)[i]? = some X
 le : ∀ j, (Lj j).length ≤ (LN S a (i + 1)).length
 all : Lj kk = LN S a (i + 1)
 row : Rw = rowI (LN S a (i + 1)) (sucN S X)
 len : Rw.length = kk
 step : ∀ j, j < kk → ∃ (b : Nat) (y : List Int), b < 256 ∧ (fbB (setsN S) 256)[j]? = some (UInt8.ofNat b) ∧ y = stpN S X b ∧
  ((y ∈ Lj j ∧ Lj (j + 1) = Lj j ∧ Rw.take (j + 1) = Rw.take j ++ [((ixOf (Lj j) y : Nat) : Int)]) ∨ (y ∉ Lj j ∧ Lj (j + 1) = Lj j ++ [y] ∧ Rw.take (j + 1) = Rw.take j ++ [((Lj j).length : Int)]))
theorem Pl.next {S : List St} {a z most : Int} {i kk : Nat} {X : List Int} {L R : List (List Int)} {E : List Bool} {Lj : Nat → List (List Int)} {Rw : List Int} (h : Pl S a z most i L R E) (hL : L = LN S a i) (hR : R = rowsI (sucN S) (LN S a i) i) (hE : E = endsI (hasZ z) (LN S a i) i)
  (hX : (LN S a i)[i]? = some X) (hI : Inn S a i kk X (LN S a i) Lj Rw) {j : Nat} (hj : j = kk ∨ most < ((Lj j).length : Int)) : Pl S a z most (i + 1) (Lj j) (R ++ [Rw.take j]) (E ++ [hasZ z X]) := by
 obtain ⟨_, _, h3, h4, _, _⟩ := h
 refine ⟨hI.nd j, (List.getElem?_eq_some_iff.1 (hI.at_ j)).1, by simp [h3], by simp [h4], ⟨i + 1, hI.le j⟩, ?_⟩
 rcases hj with hj | hj
 ·left
  subst hj
  refine ⟨hI.all, ?_, ?_⟩
  ·rw [hR, show rowsI (sucN S) (LN S a (i + 1)) (i + 1) = rowsI (sucN S) (LN S a i) i ++ [rowI (LN S a (i + 1)) (sucN S X)] from rowsI_next hX, ← hI.row]
   rw [List.take_of_length_le (Nat.le_of_eq hI.len)]
  ·rw [hE, show endsI (hasZ z) (LN S a (i + 1)) (i + 1) = endsI (hasZ z) (LN S a i) i ++ [hasZ z X] from endsI_next hX]
 ·exact .inr hj
theorem Pl.good {S : List St} {a z most : Int} {i : Nat} {L R : List (List Int)} {E : List Bool} (h : Pl S a z most i L R E) (hm : (L.length : Int) ≤ most) : L = LN S a i ∧ R = rowsI (sucN S) (LN S a i) i ∧ E = endsI (hasZ z) (LN S a i) i := by
 rcases h.2.2.2.2.2 with h | h
 ·exact h
 ·omega
theorem Pl.many {S : List St} {a z most : Int} {i : Nat} {L R : List (List Int)} {E : List Bool} (h : Pl S a z most i L R E) (hM : MayN S a z) (hm : most < (L.length : Int)) : mkN S a z most = (noDm, 7) := by
 obtain ⟨r, hr⟩ := h.2.2.2.2.1
 exact mkN_many hM (r := r) (by omega)
theorem Pl.done {S : List St} {a z most : Int} {i : Nat} {L R : List (List Int)} {E : List Bool} (h : Pl S a z most i L R E) (hM : MayN S a z) (hm : (L.length : Int) ≤ most) (hi : ¬ i < L.length) : mkN S a z most = (⟨ctab (setsN S) 256, R, E⟩, 0) := by
 obtain ⟨h1, h2, h3⟩ := h.good hm
 have hl : L.length = i := Nat.le_antisymm (Nat.not_lt.1 hi) h.2.1
 have hf : FitN S a i := by
  show (LN S a i).length = i
  rw [← h1]
  exact hl
 rw [mkN_ok hM hf (by omega), h2, h3]
 rfl
section
variable {P : Program} {o : Oper} {a : Act} {w : World} {K : Act → World → Prop} {Q : Exit → Act → World → Prop}
theorem wp_bldVk (t e : TypeId) (x : Operand) (ho : o.op = .buildSlice t 1 #[(0, x)]) (i : TypeInfo) (z : Value) (ht : P.underlying t = some (.slice e)) (hi : P.info? e = some i) (hz : i.zero = some z) (hs : i.size = 1) (hzc : z.cells = #[z]) (v : Value) (hx : a.eval x = v) (hv : v.cells = #[v])
  (h : ∀ w', Blk w' w.heap.size e [v] → Below w.heap.size w w' → K (a.put o.dst (.slice (some ⟨w.heap.size, 0, none⟩) 1 1)) w') : o.wp P a w K Q := by
 have hzv : (zeroValue e).run P w = .ok z w := by simp [zeroValue, typeInfo, hi, hz]
 have hrun : (Instr.buildSlice t 1 #[(0, v)]).run P w = .ok (.slice (some ⟨w.heap.size, 0, none⟩) 1 1) (w.alloc (.cells [v].toArray e)) := by
  simp [Instr.buildSlice, run_underlying ht, sizeOf, typeInfo, hi, hs, hzv, hzc, hv, Instr.fill, Array.range_succ, Array.range_zero', newRow]
 unfold Oper.wp
 simp only [execOp, ho, List.map_toArray, List.map_cons, List.map_nil, hx, hrun, Sem.run_bind, Result.andThen_ok, Sem.run_pure]
 exact h _ (Blk.new w e _) ((Below.refl _ _).alloc (Nat.le_refl _) _)
end
theorem Fx.slice {w : World} {H : Nat} {Wb : Nat → Prop} {v : Value} {X : List Int} (h : Fx w H Wb v X) : ∃ A c, v = .slice A X.length c := by
 obtain ⟨⟨A, c, h1, _⟩, _⟩ := h
 rw [nums_length] at h1
 exact ⟨A, c, h1⟩
end Go.Proofs.Ytaakdebcagdfgaa
