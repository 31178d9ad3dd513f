/-
  Texts of this proof, put together: SbR, ScI, ScF, ScJ. No statement is proved here.
-/
import Derived.Test.YteadghoojeehlaaGreatDoorXY
import Derived.Test.YteadghoojeehlaaGreatDoorXU
import Derived.Test.YteadghoojeehlaaGreatDoorXT
import Derived.Test.YteadghoojeehlaaGreatDoorXP
import Derived.Test.YteadghoojeehlaaGreatDoorXM
import Derived.Test.YteadghoojeehlaaGreatDoorXQ
import Derived.Test.YteadghoojeehlaaGreatDoorXS
namespace Go.Proofs.YteadghoojeehlaaGreatDoor
open Go.RowKit
set_option linter.unusedSimpArgs false
set_option linter.unusedVariables false
def dcl (cl : List UInt8) (vn ve : Value) : List Value := bvs cl ++ [vn, ve]
section
variable {cl : List UInt8} {vn ve : Value}
theorem dcl_len (hl : cl.length = 256) : (dcl cl vn ve).length = 258 := by simp [dcl, bvs_length, hl]
theorem dcl_end (hl : cl.length = 256) (i : Nat) : (dcl cl vn ve)[256 + i]? = [vn, ve][i]? := by
 unfold dcl
 rw [List.getElem?_append_right (by rw [bvs_length, hl]; omega), bvs_length, hl, Nat.add_sub_cancel_left]
theorem dcl_n (hl : cl.length = 256) : (dcl cl vn ve)[256]? = some vn := dcl_end hl 0
theorem dcl_e (hl : cl.length = 256) : (dcl cl vn ve)[257]? = some ve := dcl_end hl 1
theorem dcl_cl (hl : cl.length = 256) {i : Nat} (hi : i < 256) : (dcl cl vn ve)[i]? = (bvs cl)[i]? := by
 unfold dcl
 rw [List.getElem?_append_left (by rw [bvs_length, hl]; exact hi)]
theorem dcl_set (hl : cl.length = 256) (i : Nat) (v : Value) : (dcl cl vn ve).set (256 + i) v = bvs cl ++ [vn, ve].set i v := by
 unfold dcl
 rw [List.set_append_right _ _ (by rw [bvs_length, hl]; omega), bvs_length, hl, Nat.add_sub_cancel_left]
theorem dcl_setn (hl : cl.length = 256) (v : Value) : (dcl cl vn ve).set 256 v = dcl cl v ve := dcl_set hl 0 v
theorem dcl_sete (hl : cl.length = 256) (v : Value) : (dcl cl vn ve).set 257 v = dcl cl vn v := dcl_set hl 1 v
theorem dcl_one {A : Option Addr} {n c : Nat} {A' : Option Addr} {n' c' : Nat} : (dcl cl (.slice A n c) (.slice A' n' c')).all (·.oneCell') = true := by
 unfold dcl
 rw [List.all_append, bvs_all']
 rfl
theorem size_dfa (hl : cl.length = 256) : (Tryz.prog.info? 31).map (·.size) = some (dcl cl vn ve).length := by
 rw [dcl_len hl]
 kernel_rfl
end
theorem inf_dfa : (Tryz.prog.info? 31).map (fun i => i.zero) = some (some (.agg (dcl (ctab [] 0) (.slice none 0 0) (.slice none 0 0)).toArray)) := by kernel_rfl
theorem built_d0 : Tryz.prog.built 31 [] = some (dcl (ctab [] 0) (.slice none 0 0) (.slice none 0 0)).toArray := by kernel_rfl
theorem ctab_no : ctab [] 0 = List.replicate 256 0 := by
 unfold ctab
 rw [List.map_congr_left (g := fun _ => 0) fun b _ => if_neg (by omega), List.map_const']
 simp
def DfaV (w : World) (cs : List Value) (D : Dm) : Prop :=
 D.cl.length = 256 ∧ ∃ (vn ve : Value) (vf : Nat → Value), cs = dcl D.cl vn ve ∧ Row w vn ((List.range D.next.length).map vf) ∧ (∀ i r, D.next[i]? = some r → Row w (vf i) (nums .i64 r)) ∧ Row w ve (bools D.ends)
theorem DfaV.below {w w' : World} {cs : List Value} {D : Dm} (h : DfaV w cs D) (hb : Below w.heap.size w w') : DfaV w' cs D := by
 obtain ⟨hl, vn, ve, vf, h1, h2, h3, h4⟩ := h
 exact ⟨hl, vn, ve, vf, h1, h2.below hb, fun i r hr => (h3 i r hr).below hb, h4.below hb⟩
theorem dfaV_no (w : World) : DfaV w (dcl (ctab [] 0) (.slice none 0 0) (.slice none 0 0)) noDm :=
 ⟨List.length_replicate .., .slice none 0 0, .slice none 0 0, fun _ => undef, by unfold noDm; rw [ctab_no], Row.nil w, fun i r h => absurd h (by show ¬ ([] : List (List Int))[i]? = some r; simp), Row.nil w⟩
def IntR (w : World) (base gd : Nat) (vn ve qv v : Value) (l : List Int) : Prop :=
 ∃ h, v = .slice (some ⟨h, 0, none⟩) l.length l.length ∧ Blk w h 3 (nums .i64 l) ∧ base ≤ h ∧ h ≠ gd ∧ vn.ownBlock ≠ some h ∧ ve.ownBlock ≠ some h ∧ qv.ownBlock ≠ some h ∧ l.length ≤ 256
structure DV (w : World) (base gd : Nat) (cl : List UInt8) (qv vn ve : Value) (vf : Nat → Value) (r : Nat) (R : List (List Int)) (E : List Bool) : Prop where
 blk : Blk w gd 31 (dcl cl vn ve)
 cl : cl.length = 256
 gB : base ≤ gd
 ownn : w.ownsRow base 53 1 vn r ((List.range r).map vf)
 owne : w.ownsRow base 4 1 ve E.length (bools E)
 rows : ∀ i l, R[i]? = some l → IntR w base gd vn ve qv (vf i) l
 qn : ∀ k, qv.ownBlock = some k → k ≠ gd ∧ vn.ownBlock ≠ some k ∧ ve.ownBlock ≠ some k
 nd : vn.ownBlock ≠ some gd
 ed : ve.ownBlock ≠ some gd
 ne : ∀ k, vn.ownBlock = some k → ve.ownBlock ≠ some k
 len : R.length = r
section
variable {w w' w'' : World} {base gd g mr mn r : Nat} {cl : List UInt8} {qv qv' vn ve vn' ve' : Value} {vf : Nat → Value} {R : List (List Int)} {E : List Bool}
theorem DV.mstep (x : DV w base gd cl qv vn ve vf r R E) (y : MStep w w' g mr mn qv qv') (hg : g < base) (hr : mr < base) (hn : mn < base) : DV w' base gd cl qv' vn ve vf r R E := by
 have st : ∀ k, k < w.heap.size → base ≤ k → qv.ownBlock ≠ some k → w'.heap[k]? = w.heap[k]? := fun k hk hb hq => y.off.block k hk (by
  rintro (e | e | e | e)
  ·omega
  ·omega
  ·omega
  ·exact hq e)
 have ln : ∀ k, vn.ownBlock = some k → k < w.heap.size := fun k hk => (own6_lt x.ownn k hk).1
 have le : ∀ k, ve.ownBlock = some k → k < w.heap.size := fun k hk => (own6_lt x.owne k hk).1
 refine ⟨(st gd x.blk.lt x.gB fun e => (x.qn gd e).1 rfl).trans x.blk, x.cl, x.gB, own6_stay x.ownn fun j hj => st j (ln j hj) (own_above x.ownn j hj) fun e => (x.qn j e).2.1 hj, own6_stay x.owne fun j hj => st j (le j hj) (own_above x.owne j hj) fun e => (x.qn j e).2.2 hj, fun i l hl => ?_, fun k hk => ?_, x.nd, x.ed, x.ne, x.len⟩
 ·obtain ⟨h, h1, h2, h3, h4, h5, h6, h7, h8⟩ := x.rows i l hl
  refine ⟨h, h1, (st h h2.lt h3 h7).trans h2, h3, h4, h5, h6, fun e => ?_, h8⟩
  rcases y.new h e with e | e
  ·exact h7 e
  ·have := h2.lt; omega
 ·rcases y.new k hk with e | e
  ·exact x.qn k e
  ·have := x.blk.lt
   exact ⟨by omega, fun e' => by have := ln k e'; omega, fun e' => by have := le k e'; omega⟩
theorem DV.below (x : DV w base gd cl qv vn ve vf r R E) (hb : Below w.heap.size w w') : DV w' base gd cl qv vn ve vf r R E := by
 have ln : ∀ k, vn.ownBlock = some k → k < w.heap.size := fun k hk => (own6_lt x.ownn k hk).1
 have le : ∀ k, ve.ownBlock = some k → k < w.heap.size := fun k hk => (own6_lt x.owne k hk).1
 refine { x with blk := (hb.block gd x.blk.lt).trans x.blk, ownn := own6_stay x.ownn fun j hj => hb.block j (ln j hj), owne := own6_stay x.owne fun j hj => hb.block j (le j hj), rows := fun i l hl => ?_ }
 obtain ⟨h, h1, h2, h3⟩ := x.rows i l hl
 exact ⟨h, h1, (hb.block h h2.lt).trans h2, h3⟩
theorem DV.ends (x : DV w base gd cl qv vn ve vf r R E) (hb : Below w.heap.size w w') (b : Bool) (ho : w''.ownsRow base 4 1 ve' (E ++ [b]).length (bools (E ++ [b]))) (hg : w'.grownBy w'' ve.ownBlock) (hw : ∀ k, ve'.ownBlock = some k → ve.ownBlock = some k ∨ w'.heap.size ≤ k) (hq : ∀ k, qv.ownBlock = some k → k < w.heap.size) :
  Blk w'' gd 31 (dcl cl vn ve) ∧ DV (w''.setCell ⟨gd, 257, none⟩ ve') base gd cl qv vn ve' vf r R (E ++ [b]) ∧ Off (fun k => k = gd ∨ ve.ownBlock = some k) w (w''.setCell ⟨gd, 257, none⟩ ve') := by
 have ln : ∀ k, vn.ownBlock = some k → k < w.heap.size := fun k hk => (own6_lt x.ownn k hk).1
 have st : ∀ k, k < w.heap.size → k ≠ gd → ve.ownBlock ≠ some k → (w''.setCell ⟨gd, 257, none⟩ ve').heap[k]? = w.heap[k]? := fun k hk h1 h2 => by
  rw [Below.heap_setCell w'' ⟨gd, 257, none⟩ ve' k h1]
  exact (hg.block k (Nat.lt_of_lt_of_le hk hb.size) (fun e => h2 e.symm)).trans (hb.block k hk)
 have hgd : Blk w'' gd 31 (dcl cl vn ve) := ((hg.block gd (Nat.lt_of_lt_of_le x.blk.lt hb.size) (fun e => x.ed e.symm)).trans (hb.block gd x.blk.lt)).trans x.blk
 have ne' : ∀ k, k < w.heap.size → ve.ownBlock ≠ some k → ve'.ownBlock ≠ some k := fun k hk h1 e => by
  rcases hw k e with e | e
  ·exact h1 e
  ·have := hb.size; omega
 refine ⟨hgd, ⟨by have := hgd.set 257 ve'; rw [dcl_sete x.cl] at this; exact this, x.cl, x.gB, own6_stay x.ownn fun j hj => st j (ln j hj) (fun e => x.nd (by rw [← e]; exact hj)) (x.ne j hj), ?_, fun i l hl => ?_, fun k hk => ?_, x.nd, ne' gd x.blk.lt x.ed, fun k hk => ne' k (ln k hk) (x.ne k hk), x.len⟩, ?_⟩
 ·refine own6_stay ho fun j hj => Below.heap_setCell w'' ⟨gd, 257, none⟩ ve' j (fun e => ne' gd x.blk.lt x.ed (by rw [← show j = gd from e]; exact hj))
 ·obtain ⟨h, h1, h2, h3, h4, h5, h6, h7⟩ := x.rows i l hl
  exact ⟨h, h1, (st h h2.lt h4 h6).trans h2, h3, h4, h5, ne' h h2.lt h6, h7⟩
 ·obtain ⟨h1, h2, h3⟩ := x.qn k hk
  exact ⟨h1, h2, ne' k (hq k hk) h3⟩
 ·refine ⟨hg.os.trans hb.os, hg.tape.trans hb.tape, hg.output.trans hb.output, ?_, fun k hk hn => st k hk (fun e => hn (.inl e)) (fun e => hn (.inr e))⟩
  have h1 := hg.size
  have h2 := hb.size
  simp
  omega
theorem DV.next (x : DV w base gd cl qv vn ve vf r R E) {h : Nat} {l : List Int} (hh : Blk w h 3 (nums .i64 l)) (hb2 : base ≤ h) (hgd2 : h ≠ gd) (hvn : vn.ownBlock ≠ some h) (hve : ve.ownBlock ≠ some h) (hqh : qv.ownBlock ≠ some h) (hlen : l.length ≤ 256) (hb : Below w.heap.size w w')
  (ho : w''.ownsRow base 53 1 vn' (r + 1) ((List.range r).map vf ++ [.slice (some ⟨h, 0, none⟩) l.length l.length])) (hg : w'.grownBy w'' vn.ownBlock) (hw : ∀ k, vn'.ownBlock = some k → vn.ownBlock = some k ∨ w'.heap.size ≤ k) (hq : ∀ k, qv.ownBlock = some k → k < w.heap.size) :
  Blk w'' gd 31 (dcl cl vn ve) ∧ DV (w''.setCell ⟨gd, 256, none⟩ vn') base gd cl qv vn' ve (fun i => if i = r then .slice (some ⟨h, 0, none⟩) l.length l.length else vf i) (r + 1) (R ++ [l]) E ∧ Off (fun k => k = gd ∨ vn.ownBlock = some k) w (w''.setCell ⟨gd, 256, none⟩ vn') := by
 have le : ∀ k, ve.ownBlock = some k → k < w.heap.size := fun k hk => (own6_lt x.owne k hk).1
 have st : ∀ k, k < w.heap.size → k ≠ gd → vn.ownBlock ≠ some k → (w''.setCell ⟨gd, 256, none⟩ vn').heap[k]? = w.heap[k]? := fun k hk h1 h2 => by
  rw [Below.heap_setCell w'' ⟨gd, 256, none⟩ vn' k h1]
  exact (hg.block k (Nat.lt_of_lt_of_le hk hb.size) (fun e => h2 e.symm)).trans (hb.block k hk)
 have hgd : Blk w'' gd 31 (dcl cl vn ve) := ((hg.block gd (Nat.lt_of_lt_of_le x.blk.lt hb.size) (fun e => x.nd e.symm)).trans (hb.block gd x.blk.lt)).trans x.blk
 have ne' : ∀ k, k < w.heap.size → vn.ownBlock ≠ some k → vn'.ownBlock ≠ some k := fun k hk h1 e => by
  rcases hw k e with e | e
  ·exact h1 e
  ·have := hb.size; omega
 refine ⟨hgd, ⟨by have := hgd.set 256 vn'; rw [dcl_setn x.cl] at this; exact this, x.cl, x.gB, ?_, own6_stay x.owne fun j hj => st j (le j hj) (fun e => x.ed (by rw [← e]; exact hj)) (fun e => x.ne j e hj), fun i m hm => ?_, fun k hk => ?_, ne' gd x.blk.lt x.nd, x.ed, fun k hk e => ?_, by rw [List.length_append, x.len]; rfl⟩, ?_⟩
 ·rw [range_snoc]
  exact own6_stay ho fun j hj => Below.heap_setCell w'' ⟨gd, 256, none⟩ vn' j (fun e => ne' gd x.blk.lt x.nd (by rw [← show j = gd from e]; exact hj))
 ·show IntR _ base gd vn' ve qv (if i = r then _ else vf i) m
  by_cases hir : i = r
  ·rw [if_pos hir]
   have hml : m = l := by
    subst hir
    rw [← x.len, List.getElem?_append_right (Nat.le_refl _), Nat.sub_self] at hm
    simpa using hm.symm
   subst hml
   exact ⟨h, rfl, (st h hh.lt hgd2 hvn).trans hh, hb2, hgd2, ne' h hh.lt hvn, hve, hqh, hlen⟩
  ·rw [if_neg hir]
   have hi : i < R.length := by
    have := (List.getElem?_eq_some_iff.1 hm).1
    rw [List.length_append, List.length_singleton] at this
    have := x.len
    omega
   rw [List.getElem?_append_left hi] at hm
   obtain ⟨h', h1, h2, h3, h4, h5, h6, h7⟩ := x.rows i m hm
   exact ⟨h', h1, (st h' h2.lt h4 h5).trans h2, h3, h4, ne' h' h2.lt h5, h6, h7⟩
 ·obtain ⟨h1, h2, h3⟩ := x.qn k hk
  exact ⟨h1, ne' k (hq k hk) h2, h3⟩
 ·rcases hw k hk with e' | e'
  ·exact x.ne k e' e
  ·have h1 := le k e
   have h2 := hb.size
   omega
 ·refine ⟨hg.os.trans hb.os, hg.tape.trans hb.tape, hg.output.trans hb.output, ?_, fun k hk hn => st k hk (fun e => hn (.inl e)) (fun e => hn (.inr e))⟩
  have h1 := hg.size
  have h2 := hb.size
  simp
  omega
theorem DV.dfa (x : DV w base gd cl qv vn ve vf r R E) : DfaV w (dcl cl vn ve) ⟨cl, R, E⟩ :=
 ⟨x.cl, vn, ve, vf, rfl, by
  show Row w vn ((List.range R.length).map vf)
  rw [x.len]
  exact Row.of_own x.ownn, fun i l hl => by
  obtain ⟨h, h1, h2, _, _, _, _, _, h8⟩ := x.rows i l hl
  rw [h1]
  exact rowB (n := l.length) h2 (nums_length .i64 l) (by omega), Row.of_own x.owne⟩
end
def Fx (w : World) (H : Nat) (Wb : Nat → Prop) (v : Value) (X : List Int) : Prop := Row w v (nums .i64 X) ∧ (X ≠ [] → ∀ k, v.ownBlock = some k → H ≤ k ∧ ¬ Wb k)
theorem Fx.lt {w : World} {H : Nat} {Wb : Nat → Prop} {v : Value} {X : List Int} (h : Fx w H Wb v X) (hne : X ≠ []) {k : Nat} (hk : v.ownBlock = some k) : k < w.heap.size := by
 obtain ⟨⟨A, cap, rfl, _, _, _, hc⟩, _⟩ := h
 obtain ⟨b, off, rfl, hb, _⟩ := hc (by intro e; apply hne; have := congrArg List.length e; rw [nums_length] at this; exact List.length_eq_zero_iff.1 this)
 have e : some b = some k := hk
 injection e with e
 omega
theorem Fx.off {w w' : World} {H : Nat} {Wb Wb' D : Nat → Prop} {v : Value} {X : List Int} (h : Fx w H Wb v X) (ho : Off D w w') (hD : ∀ k, D k → Wb k ∨ k < H) (hw : ∀ k, Wb' k → Wb k ∨ w.heap.size ≤ k) : Fx w' H Wb' v X := by
 have hlt := fun hne k hk => h.lt hne (k := k) hk
 obtain ⟨⟨A, cap, rfl, hl, hm, h0, hc⟩, hn⟩ := h
 refine ⟨⟨A, cap, rfl, hl, hm, h0, fun hne => ?_⟩, fun hne k hk => ⟨(hn hne k hk).1, fun hwb => ?_⟩⟩
 ·have hX : X ≠ [] := by rintro rfl; exact hne rfl
  obtain ⟨b, off, rfl, hb, hcell⟩ := hc hne
  have hnb := hn hX b rfl
  exact ⟨b, off, rfl, Nat.lt_of_lt_of_le hb ho.size, fun i u hu => ho.cell hb (fun hd => by
   rcases hD b hd with h1 | h1
   ·exact hnb.2 h1
   ·have := hnb.1; omega) (hcell i u hu)⟩
 ·rcases hw k hwb with h1 | h1
  ·exact (hn hne k hk).2 h1
  ·have := hlt hne k hk
   omega
theorem Fx.new {w w' : World} {H : Nat} {Wb : Nat → Prop} {v : Value} {X : List Int} (h : Row w' v (nums .i64 X)) (hb : ∀ k, v.ownBlock = some k → w.heap.size ≤ k) (hH : H ≤ w.heap.size) (hw : ∀ k, Wb k → k < w.heap.size) : Fx w' H Wb v X :=
 ⟨h, fun _ k hk => ⟨Nat.le_trans hH (hb k hk), fun hwb => by have h1 := hb k hk; have h2 := hw k hwb; omega⟩⟩
def WbE (gd : Nat) (lv vn ve rv : Value) (k : Nat) : Prop := k = gd ∨ lv.ownBlock = some k ∨ vn.ownBlock = some k ∨ ve.ownBlock = some k ∨ rv.ownBlock = some k
structure DE (w : World) (H gd : Nat) (cl : List UInt8) (lv vn ve rv : Value) (vf rf : Nat → Value) (L R : List (List Int)) (E : List Bool) (r : List Int) : Prop where
 blk : Blk w gd 31 (dcl cl vn ve)
 cl : cl.length = 256
 gB : H ≤ gd
 ownl : w.ownsRow H 53 1 lv L.length ((List.range L.length).map vf)
 ownn : w.ownsRow H 53 1 vn R.length ((List.range R.length).map rf)
 owne : w.ownsRow H 4 1 ve E.length (bools E)
 ownr : w.ownsRow H 3 1 rv r.length (nums .i64 r)
 vrow : ∀ i X, L[i]? = some X → Fx w H (WbE gd lv vn ve rv) (vf i) X
 rrow : ∀ i X, R[i]? = some X → Fx w H (WbE gd lv vn ve rv) (rf i) X
 gl : lv.ownBlock ≠ some gd
 gn : vn.ownBlock ≠ some gd
 ge : ve.ownBlock ≠ some gd
 gr : rv.ownBlock ≠ some gd
 ln : ∀ k, lv.ownBlock = some k → vn.ownBlock ≠ some k
 le : ∀ k, lv.ownBlock = some k → ve.ownBlock ≠ some k
 lr : ∀ k, lv.ownBlock = some k → rv.ownBlock ≠ some k
 ne : ∀ k, vn.ownBlock = some k → ve.ownBlock ≠ some k
 nr : ∀ k, vn.ownBlock = some k → rv.ownBlock ≠ some k
 er : ∀ k, ve.ownBlock = some k → rv.ownBlock ≠ some k
section
variable {w w1 w2 w' : World} {H gd : Nat} {cl : List UInt8} {lv vn ve rv lv' vn' ve' rv' : Value} {vf rf : Nat → Value} {L R : List (List Int)} {E : List Bool} {r : List Int}
theorem DE.lt (x : DE w H gd cl lv vn ve rv vf rf L R E r) {k : Nat} (h : WbE gd lv vn ve rv k) : k < w.heap.size := by
 rcases h with h | h | h | h | h
 ·rw [h]; exact x.blk.lt
 ·exact (own6_lt x.ownl k h).1
 ·exact (own6_lt x.ownn k h).1
 ·exact (own6_lt x.owne k h).1
 ·exact (own6_lt x.ownr k h).1
theorem DE.ge_ (x : DE w H gd cl lv vn ve rv vf rf L R E r) {k : Nat} (h : WbE gd lv vn ve rv k) : H ≤ k := by
 rcases h with h | h | h | h | h
 ·rw [h]; exact x.gB
 ·exact (own6_lt x.ownl k h).2
 ·exact (own6_lt x.ownn k h).2
 ·exact (own6_lt x.owne k h).2
 ·exact (own6_lt x.ownr k h).2
theorem DE.below (x : DE w H gd cl lv vn ve rv vf rf L R E r) (hb : Below w.heap.size w w') : DE w' H gd cl lv vn ve rv vf rf L R E r := by
 have ho : Off (WbE gd lv vn ve rv) w w' := Off.new _ hb
 have st : ∀ k, WbE gd lv vn ve rv k → w'.heap[k]? = w.heap[k]? := fun k hk => hb.block k (x.lt hk)
 refine { x with blk := (st gd (.inl rfl)).trans x.blk, ownl := own6_stay x.ownl fun j hj => st j (.inr (.inl hj)), ownn := own6_stay x.ownn fun j hj => st j (.inr (.inr (.inl hj))), owne := own6_stay x.owne fun j hj => st j (.inr (.inr (.inr (.inl hj)))), ownr := own6_stay x.ownr fun j hj => st j (.inr (.inr (.inr (.inr hj)))), vrow := fun i X hX => (x.vrow i X hX).off ho (fun k hk => .inl hk) fun k hk => .inl hk, rrow := fun i X hX => (x.rrow i X hX).off ho (fun k hk => .inl hk) fun k hk => .inl hk }
theorem DE.pushL (x : DE w H gd cl lv vn ve rv vf rf L R E r) {v : Value} {X : List Int} (hv : Fx w H (WbE gd lv vn ve rv) v X) (hb : Below w.heap.size w w1)
  (ho : w2.ownsRow H 53 1 lv' (L.length + 1) ((List.range L.length).map vf ++ [v])) (hg : w1.grownBy w2 lv.ownBlock) (hw : ∀ k, lv'.ownBlock = some k → lv.ownBlock = some k ∨ w1.heap.size ≤ k) :
  DE w2 H gd cl lv' vn ve rv (fun i => if i = L.length then v else vf i) rf (L ++ [X]) R E r := by
 have x1 := x.below hb
 have hv1 : Fx w1 H (WbE gd lv vn ve rv) v X := hv.off (Off.new (fun _ => False) hb) (fun k hk => hk.elim) fun k hk => .inl hk
 have hof : Off (WbE gd lv vn ve rv) w1 w2 := Off.grown hg fun k hk => .inr (.inr (.inl hk))
 have hwb : ∀ k, WbE gd lv' vn ve rv k → WbE gd lv vn ve rv k ∨ w1.heap.size ≤ k := fun k hk => by
  rcases hk with h | h | h
  ·exact .inl (.inl h)
  ·rcases hw k h with h1 | h1
   ·exact .inl (.inr (.inl h1))
   ·exact .inr h1
  ·exact .inl (.inr (.inr h))
 have st : ∀ k, k < w1.heap.size → lv.ownBlock ≠ some k → w2.heap[k]? = w1.heap[k]? := fun k hk hne => hg.block k hk fun e => hne e.symm
 have ap : ∀ u : Value, (∀ k, u.ownBlock = some k → k < w1.heap.size) → (∀ k, lv.ownBlock = some k → u.ownBlock ≠ some k) → ∀ k, lv'.ownBlock = some k → u.ownBlock ≠ some k := fun u h1 h2 k hk e => by
  rcases hw k hk with h3 | h3
  ·exact h2 k h3 e
  ·have := h1 k e
   omega
 refine ⟨(st gd x1.blk.lt x.gl).trans x1.blk, x.cl, x.gB, ?_, own6_stay x1.ownn fun j hj => st j (own6_lt x1.ownn j hj).1 fun e => x.ln j e hj, own6_stay x1.owne fun j hj => st j (own6_lt x1.owne j hj).1 fun e => x.le j e hj, own6_stay x1.ownr fun j hj => st j (own6_lt x1.ownr j hj).1 fun e => x.lr j e hj,
  fun i Y hY => ?_, fun i Y hY => (x1.rrow i Y hY).off hof (fun k hk => .inl hk) hwb, fun e => ?_, x.gn, x.ge, x.gr, ap vn (fun k hk => (own6_lt x1.ownn k hk).1) x.ln, ap ve (fun k hk => (own6_lt x1.owne k hk).1) x.le, ap rv (fun k hk => (own6_lt x1.ownr k hk).1) x.lr, x.ne, x.nr, x.er⟩
 ·rw [List.length_append, List.length_singleton, range_snoc]
  exact ho
 ·show Fx w2 H _ (if i = L.length then v else vf i) Y
  by_cases hi : i = L.length
  ·rw [if_pos hi]
   have e : Y = X := by
    rw [hi, List.getElem?_append_right (Nat.le_refl _), Nat.sub_self] at hY
    simpa using hY.symm
   rw [e]
   exact hv1.off hof (fun k hk => .inl hk) hwb
  ·rw [if_neg hi]
   have hlt : i < L.length := by
    have := (List.getElem?_eq_some_iff.1 hY).1
    rw [List.length_append, List.length_singleton] at this
    omega
   rw [List.getElem?_append_left hlt] at hY
   exact (x1.vrow i Y hY).off hof (fun k hk => .inl hk) hwb
 ·rcases hw gd e with h | h
  ·exact x.gl h
  ·have := x1.blk.lt
   omega
theorem DE.pushR (x : DE w H gd cl lv vn ve rv vf rf L R E r) {n : Int} (hb : Below w.heap.size w w1)
  (ho : w2.ownsRow H 3 1 rv' (r ++ [n]).length (nums .i64 (r ++ [n]))) (hg : w1.grownBy w2 rv.ownBlock) (hw : ∀ k, rv'.ownBlock = some k → rv.ownBlock = some k ∨ w1.heap.size ≤ k) :
  DE w2 H gd cl lv vn ve rv' vf rf L R E (r ++ [n]) := by
 have x1 := x.below hb
 have hof : Off (WbE gd lv vn ve rv) w1 w2 := Off.grown hg fun k hk => .inr (.inr (.inr (.inr (.inr hk))))
 have hwb : ∀ k, WbE gd lv vn ve rv' k → WbE gd lv vn ve rv k ∨ w1.heap.size ≤ k := fun k hk => by
  rcases hk with h | h | h | h | h
  ·exact .inl (.inl h)
  ·exact .inl (.inr (.inl h))
  ·exact .inl (.inr (.inr (.inl h)))
  ·exact .inl (.inr (.inr (.inr (.inl h))))
  ·rcases hw k h with h1 | h1
   ·exact .inl (.inr (.inr (.inr (.inr h1))))
   ·exact .inr h1
 have st : ∀ k, k < w1.heap.size → rv.ownBlock ≠ some k → w2.heap[k]? = w1.heap[k]? := fun k hk hne => hg.block k hk fun e => hne e.symm
 have ap : ∀ u : Value, (∀ k, u.ownBlock = some k → k < w1.heap.size) → (∀ k, u.ownBlock = some k → rv.ownBlock ≠ some k) → ∀ k, u.ownBlock = some k → rv'.ownBlock ≠ some k := fun u h1 h2 k hk e => by
  rcases hw k e with h3 | h3
  ·exact h2 k hk h3
  ·have := h1 k hk
   omega
 refine ⟨(st gd x1.blk.lt x.gr).trans x1.blk, x.cl, x.gB, own6_stay x1.ownl fun j hj => st j (own6_lt x1.ownl j hj).1 (x.lr j hj), own6_stay x1.ownn fun j hj => st j (own6_lt x1.ownn j hj).1 (x.nr j hj), own6_stay x1.owne fun j hj => st j (own6_lt x1.owne j hj).1 (x.er j hj), ho,
  fun i Y hY => (x1.vrow i Y hY).off hof (fun k hk => .inl hk) hwb, fun i Y hY => (x1.rrow i Y hY).off hof (fun k hk => .inl hk) hwb, x.gl, x.gn, x.ge, fun e => ?_, x.ln, x.le, ap lv (fun k hk => (own6_lt x1.ownl k hk).1) x.lr, x.ne, ap vn (fun k hk => (own6_lt x1.ownn k hk).1) x.nr, ap ve (fun k hk => (own6_lt x1.owne k hk).1) x.er⟩
 rcases hw gd e with h | h
 ·exact x.gr h
 ·have := x1.blk.lt
  omega
theorem DE.clear (x : DE w H gd cl lv vn ve rv vf rf L R E r) : DE w H gd cl lv vn ve (.slice none 0 0) vf rf L R E [] :=
 {x with ownr := ownN _ _ _, vrow := fun i X hX => ⟨(x.vrow i X hX).1, fun hne k hk => ⟨((x.vrow i X hX).2 hne k hk).1, fun hwb => ((x.vrow i X hX).2 hne k hk).2 (by
   rcases hwb with h | h | h | h | h
   ·exact .inl h
   ·exact .inr (.inl h)
   ·exact .inr (.inr (.inl h))
   ·exact .inr (.inr (.inr (.inl h)))
   ·cases h)⟩⟩, rrow := fun i X hX => ⟨(x.rrow i X hX).1, fun hne k hk => ⟨((x.rrow i X hX).2 hne k hk).1, fun hwb => ((x.rrow i X hX).2 hne k hk).2 (by
   rcases hwb with h | h | h | h | h
   ·exact .inl h
   ·exact .inr (.inl h)
   ·exact .inr (.inr (.inl h))
   ·exact .inr (.inr (.inr (.inl h)))
   ·cases h)⟩⟩, gr := fun h => (by cases h), lr := fun k _ h => (by cases h), nr := fun k _ h => (by cases h), er := fun k _ h => (by cases h) }
def WbN (gd : Nat) (vn ve : Value) (k : Nat) : Prop := k = gd ∨ vn.ownBlock = some k ∨ ve.ownBlock = some k
theorem DE.next (x : DE w H gd cl lv vn ve rv vf rf L R E r) {b : Bool} {w3 w4 : World} (hb1 : Below w.heap.size w w1)
  (hon : w2.ownsRow H 53 1 vn' (R.length + 1) ((List.range R.length).map rf ++ [rv])) (hg1 : w1.grownBy w2 vn.ownBlock) (hw1 : ∀ k, vn'.ownBlock = some k → vn.ownBlock = some k ∨ w1.heap.size ≤ k) (hb2 : Below w2.heap.size w2 w3)
  (hoe : w4.ownsRow H 4 1 ve' (E ++ [b]).length (bools (E ++ [b]))) (hg2 : w3.grownBy w4 ve.ownBlock) (hw2 : ∀ k, ve'.ownBlock = some k → ve.ownBlock = some k ∨ w3.heap.size ≤ k) :
  Blk w4 gd 31 (dcl cl vn ve) ∧ Blk (w4.setCell ⟨gd, 256, none⟩ vn') gd 31 (dcl cl vn' ve) ∧
   DE ((w4.setCell ⟨gd, 256, none⟩ vn').setCell ⟨gd, 257, none⟩ ve') H gd cl lv vn' ve' (.slice none 0 0) vf (fun i => if i = R.length then rv else rf i) L (R ++ [r]) (E ++ [b]) [] ∧
   Off (WbN gd vn ve) w ((w4.setCell ⟨gd, 256, none⟩ vn').setCell ⟨gd, 257, none⟩ ve') := by
 have s1 := hb1.size
 have s2 := hg1.size
 have s3 := hb2.size
 have s4 := hg2.size
 have ltn : ∀ k, vn.ownBlock = some k → k < w.heap.size := fun k hk => (own6_lt x.ownn k hk).1
 have lte : ∀ k, ve.ownBlock = some k → k < w.heap.size := fun k hk => (own6_lt x.owne k hk).1
 have st : ∀ k, k < w.heap.size → vn.ownBlock ≠ some k → ve.ownBlock ≠ some k → w4.heap[k]? = w.heap[k]? := fun k hk h1 h2 =>
  (hg2.block k (by omega) fun e => h2 e.symm).trans ((hb2.block k (by omega)).trans ((hg1.block k (by omega) fun e => h1 e.symm).trans (hb1.block k hk)))
 have fin : ∀ k, k ≠ gd → ((w4.setCell ⟨gd, 256, none⟩ vn').setCell ⟨gd, 257, none⟩ ve').heap[k]? = w4.heap[k]? := fun k hk =>
  (Below.heap_setCell _ ⟨gd, 257, none⟩ ve' k hk).trans (Below.heap_setCell w4 ⟨gd, 256, none⟩ vn' k hk)
 have hgd4 : Blk w4 gd 31 (dcl cl vn ve) := (st gd x.blk.lt x.gn x.ge).trans x.blk
 have hgd5 : Blk (w4.setCell ⟨gd, 256, none⟩ vn') gd 31 (dcl cl vn' ve) := by
  have := hgd4.set 256 vn'
  rwa [dcl_setn x.cl] at this
 have hgd6 : Blk ((w4.setCell ⟨gd, 256, none⟩ vn').setCell ⟨gd, 257, none⟩ ve') gd 31 (dcl cl vn' ve') := by
  have := hgd5.set 257 ve'
  rwa [dcl_sete x.cl] at this
 have hsz : ((w4.setCell ⟨gd, 256, none⟩ vn').setCell ⟨gd, 257, none⟩ ve').heap.size = w4.heap.size := by simp
 have hof : Off (WbN gd vn ve) w ((w4.setCell ⟨gd, 256, none⟩ vn').setCell ⟨gd, 257, none⟩ ve') := by
  refine ⟨?_, ?_, ?_, by rw [hsz]; omega, fun k hk hn => (fin k fun e => hn (.inl e)).trans (st k hk (fun e => hn (.inr (.inl e))) (fun e => hn (.inr (.inr e))))⟩
  ·exact hg2.os.trans (hb2.os.trans (hg1.os.trans hb1.os))
  ·exact hg2.tape.trans (hb2.tape.trans (hg1.tape.trans hb1.tape))
  ·exact hg2.output.trans (hb2.output.trans (hg1.output.trans hb1.output))
 have hof2 : Off (WbE gd lv vn ve rv) w ((w4.setCell ⟨gd, 256, none⟩ vn').setCell ⟨gd, 257, none⟩ ve') := hof.mono fun k _ hk => by
  rcases hk with h | h | h
  ·exact .inl h
  ·exact .inr (.inr (.inl h))
  ·exact .inr (.inr (.inr (.inl h)))
 -- what a block of the new values is
 have nn : ∀ k, vn'.ownBlock = some k → vn.ownBlock = some k ∨ w.heap.size ≤ k := fun k hk => by
  rcases hw1 k hk with h | h
  ·exact .inl h
  ·exact .inr (by omega)
 have nee : ∀ k, ve'.ownBlock = some k → ve.ownBlock = some k ∨ (w.heap.size ≤ k ∧ w2.heap.size ≤ k) := fun k hk => by
  rcases hw2 k hk with h | h
  ·exact .inl h
  ·exact .inr ⟨by omega, by omega⟩
 have n2 : ∀ k, vn'.ownBlock = some k → k < w2.heap.size := fun k hk => (own6_lt hon k hk).1
 have hwb : ∀ k, WbE gd lv vn' ve' (.slice none 0 0) k → WbE gd lv vn ve rv k ∨ w.heap.size ≤ k := fun k hk => by
  rcases hk with h | h | h | h | h
  ·exact .inl (.inl h)
  ·exact .inl (.inr (.inl h))
  ·rcases nn k h with h1 | h1
   ·exact .inl (.inr (.inr (.inl h1)))
   ·exact .inr h1
  ·rcases nee k h with h1 | h1
   ·exact .inl (.inr (.inr (.inr (.inl h1))))
   ·exact .inr h1.1
  ·cases h
 have gn' : vn'.ownBlock ≠ some gd := fun e => by
  rcases nn gd e with h | h
  ·exact x.gn h
  ·have := x.blk.lt; omega
 have ge' : ve'.ownBlock ≠ some gd := fun e => by
  rcases nee gd e with h | h
  ·exact x.ge h
  ·have := x.blk.lt; omega
 refine ⟨hgd4, hgd5, ⟨hgd6, x.cl, x.gB, own6_stay x.ownl fun j hj => (fin j fun e => x.gl (by rw [← e]; exact hj)).trans (st j (own6_lt x.ownl j hj).1 (x.ln j hj) (x.le j hj)), ?_, ?_, ownN _ _ _, fun i Y hY => (x.vrow i Y hY).off hof2 (fun k hk => .inl hk) hwb, fun i Y hY => ?_, x.gl, gn', ge', fun h => (by cases h), fun k hk e => ?_, fun k hk e => ?_, fun k _ h => (by cases h), fun k hk e => ?_, fun k _ h => (by cases h), fun k _ h => (by cases h)⟩, hof⟩
 ·rw [List.length_append, List.length_singleton, range_snoc]
  refine own6_stay hon fun j hj => (fin j fun e => gn' (by rw [← e]; exact hj)).trans ?_
  have hj2 := n2 j hj
  exact (hg2.block j (by omega) fun e => by
   rcases hw1 j hj with h | h
   ·exact x.ne j h e.symm
   ·have h3 := lte j e.symm; omega).trans (hb2.block j hj2)
 ·exact own6_stay hoe fun j hj => fin j fun e => ge' (by rw [← e]; exact hj)
 ·show Fx _ H _ (if i = R.length then rv else rf i) Y
  by_cases hi : i = R.length
  ·rw [if_pos hi]
   have e : Y = r := by
    rw [hi, List.getElem?_append_right (Nat.le_refl _), Nat.sub_self] at hY
    simpa using hY.symm
   rw [e]
   have hrow : Row w rv (nums .i64 r) := Row.of_own x.ownr
   have hfx : Fx w H (fun k => WbE gd lv vn ve (.slice none 0 0) k) rv r := ⟨hrow, fun _ k hk => ⟨(own6_lt x.ownr k hk).2, fun hwb => by
    rcases hwb with h | h | h | h | h
    ·exact x.gr (by rw [← h]; exact hk)
    ·exact x.lr k h hk
    ·exact x.nr k h hk
    ·exact x.er k h hk
    ·cases h⟩⟩
   refine hfx.off hof (fun k hk => .inl ?_) fun k hk => ?_
   ·rcases hk with h | h | h
    ·exact .inl h
    ·exact .inr (.inr (.inl h))
    ·exact .inr (.inr (.inr (.inl h)))
   ·rcases hk with h | h | h | h | h
    ·exact .inl (.inl h)
    ·exact .inl (.inr (.inl h))
    ·rcases nn k h with h1 | h1
     ·exact .inl (.inr (.inr (.inl h1)))
     ·exact .inr h1
    ·rcases nee k h with h1 | h1
     ·exact .inl (.inr (.inr (.inr (.inl h1))))
     ·exact .inr h1.1
    ·cases h
  ·rw [if_neg hi]
   have hlt : i < R.length := by
    have := (List.getElem?_eq_some_iff.1 hY).1
    rw [List.length_append, List.length_singleton] at this
    omega
   rw [List.getElem?_append_left hlt] at hY
   exact (x.rrow i Y hY).off hof2 (fun k hk => .inl hk) hwb
 ·rcases nn k e with h | h
  ·exact x.ln k hk h
  ·have := (own6_lt x.ownl k hk).1; omega
 ·rcases nee k e with h | h
  ·exact x.le k hk h
  ·have := (own6_lt x.ownl k hk).1; omega
 ·rcases nee k e with h | h
  ·rcases nn k hk with h1 | h1
   ·exact x.ne k h1 h
   ·have := lte k h; omega
  ·have := n2 k hk; omega
theorem DE.far {D : Nat → Prop} (x : DE w H gd cl lv vn ve rv vf rf L R E r) (ho : Off D w w') (hD : ∀ k, D k → k < H) : DE w' H gd cl lv vn ve rv vf rf L R E r := by
 have st : ∀ k, WbE gd lv vn ve rv k → w'.heap[k]? = w.heap[k]? := fun k hk => ho.block k (x.lt hk) fun hd => by
  have h1 := hD k hd
  have h2 := x.ge_ hk
  omega
 refine { x with blk := (st gd (.inl rfl)).trans x.blk, ownl := own6_stay x.ownl fun j hj => st j (.inr (.inl hj)), ownn := own6_stay x.ownn fun j hj => st j (.inr (.inr (.inl hj))), owne := own6_stay x.owne fun j hj => st j (.inr (.inr (.inr (.inl hj)))), ownr := own6_stay x.ownr fun j hj => st j (.inr (.inr (.inr (.inr hj)))), vrow := fun i X hX => (x.vrow i X hX).off ho (fun k hk => .inr (hD k hk)) fun k hk => .inl hk, rrow := fun i X hX => (x.rrow i X hX).off ho (fun k hk => .inr (hD k hk)) fun k hk => .inl hk }
theorem DE.dfa (x : DE w H gd cl lv vn ve rv vf rf L R E r) : DfaV w (dcl cl vn ve) ⟨cl, R, E⟩ :=
 ⟨x.cl, vn, ve, rf, rfl, Row.of_own x.ownn, fun i X hX => (x.rrow i X hX).1, Row.of_own x.owne⟩
end
set_option maxHeartbeats 4000000 in
set_option maxRecDepth 1000000 in
theorem refSame9_any (l m : List Int) (V U : Value) (w : World) (hl : Row w V (nums .i64 l)) (hm : Row w U (nums .i64 m)) :
  Calls Tryz.prog 46 #[V, U] w fun e w' => e = .returned (.bool (decide (l = m))) ∧ Below w.heap.size w w' := by
 have L0 := qH hl
 have M0 := qH hm
 obtain ⟨A, cap, rfl, a1, a2, a0, a3⟩ := hl
 obtain ⟨A2, cap2, rfl, b1, b2, b0, b3⟩ := hm
 rw [nums_length] at a1 L0 b1 M0 ⊢
 rw [nums_length]
 have HLN := qH (And.intro a1 a2)
 clear a3 a0 a2 a1 b0 b1 b2 b3
 by_cases hlen : l.length = m.length
 ·have HLE := qH hlen
  have h0 : ¬ ((l.length : Int) ≠ (m.length : Int)) := by omega
  rw [← hlen] at M0 ⊢
  clear h0 hlen
  go_enter Tryz.func46, Tryz.ntmps46
  go_wp2_with fail
  go_loopw [5] (fun iv wl => ∃ j : Nat, j ≤ l.length ∧ iv = .int .i64 (j : Int) ∧ l.take j = m.take j ∧ Below w.heap.size w wl) (fun iv _ => l.length - (intOf iv).toNat)
  case atStart => exact ⟨0, Nat.zero_le _, by simp, rfl, Below.refl _ _⟩
  obtain ⟨j, hj, rfl, he, hb⟩ := hrel
  have HE := qH he
  have BQ := qH hb
  clear he hb
  by_cases hjl : j < l.length
  ·have j1 : (j : Int) < (l.length : Int) := Int.ofNat_lt.2 hjl
   obtain ⟨x, hx⟩ : ∃ x, l[j]? = some x := ⟨_, List.getElem?_eq_getElem hjl⟩
   obtain ⟨y, hy⟩ : ∃ y, m[j]? = some y := ⟨_, List.getElem?_eq_getElem (by have := HLE.out; omega)⟩
   have HX := qH hx
   have HY := qH hy
   obtain ⟨bl, ol, rfl, hbl, hcl⟩ := (L0.out.below BQ.out).at_ (by rw [nums_length]; omega)
   obtain ⟨bm, om, rfl, hbm, hcm⟩ := (M0.out.below BQ.out).at_ (by rw [nums_length]; have := HLE.out; omega)
   have HCL := qH (hcl j (.int .i64 x) (by simp [nums, hx]))
   have HCM := qH (hcm j (.int .i64 y) (by simp [nums, hy]))
   have HBL := qH hbl
   have HBM := qH hbm
   have HJ := qH hjl
   have HMJ := qH (sub_next hjl)
   have e3 := wrap_len HJ.out HLN.out.1 HLN.out.2
   have e4 := wrap_len' HJ.out HLN.out.1 HLN.out.2
   clear hcl hcm hbl hbm hx hy hj hjl
   go_wp2_with fail
   refine sx_startB (B := wr.heap.size) (w0 := wr) (by kernel_rfl) (Below.refl _ _) (fun wd hwd hX => ?_)
   clear hwd
   refine sx_take (i := 0) (oi := ⟨some 17, _, _, _, _, _⟩) (v := ?_) rfl (by kernel_rfl) (by kernel_rfl) (by kernel_rfl) (fun _ _ _ h => h) rfl hX ?_ ?_; rotate_left; (intro W hW; go_simp; try with_reducible rfl); simp only [Act.put, qA, qB, qC]
   refine sx_take (i := 1) (oi := ⟨some 18, _, _, _, _, _⟩) (v := ?_) rfl (by kernel_rfl) (by kernel_rfl) (by kernel_rfl) (fun _ _ _ h => h) rfl hX ?_ ?_; rotate_left; (intro W hW; go_simp; try with_reducible rfl); simp only [Act.put, qA, qB, qC]
   refine sx_take (i := 2) (oi := ⟨some 19, _, _, _, _, _⟩) (v := ?_) rfl (by kernel_rfl) (by kernel_rfl) (by kernel_rfl) (fun _ _ _ h => h) rfl hX ?_ ?_; rotate_left; (intro W hW; go_simp; try with_reducible rfl); simp only [Act.put, qA, qB, qC]
   refine sx_take (i := 3) (oi := ⟨some 20, _, _, _, _, _⟩) (v := .int .i64 x) rfl (by kernel_rfl) (by kernel_rfl) (by kernel_rfl) (fun _ _ _ h => h) rfl hX (fun V hV => ld_int9 (.tmp 19) rfl rfl ((hV.cell (p := ⟨bl, ol + j, none⟩) HBL.out).trans HCL.out)) ?_; simp only [Act.put, qA, qB, qC]
   refine sx_take (i := 4) (oi := ⟨some 21, _, _, _, _, _⟩) (v := ?_) rfl (by kernel_rfl) (by kernel_rfl) (by kernel_rfl) (fun _ _ _ h => h) rfl hX ?_ ?_; rotate_left; (intro W hW; go_simp; try with_reducible rfl); simp only [Act.put, qA, qB, qC]
   refine sx_take (i := 5) (oi := ⟨some 22, _, _, _, _, _⟩) (v := ?_) rfl (by kernel_rfl) (by kernel_rfl) (by kernel_rfl) (fun _ _ _ h => h) rfl hX ?_ ?_; rotate_left; (intro W hW; go_simp; try with_reducible rfl); simp only [Act.put, qA, qB, qC]
   refine sx_take (i := 6) (oi := ⟨some 23, _, _, _, _, _⟩) (v := ?_) rfl (by kernel_rfl) (by kernel_rfl) (by kernel_rfl) (fun _ _ _ h => h) rfl hX ?_ ?_; rotate_left; (intro W hW; go_simp; try with_reducible rfl); simp only [Act.put, qA, qB, qC]
   refine sx_take (i := 7) (oi := ⟨some 24, _, _, _, _, _⟩) (v := .int .i64 y) rfl (by kernel_rfl) (by kernel_rfl) (by kernel_rfl) (fun _ _ _ h => h) rfl hX (fun V hV => ld_int9 (.tmp 23) rfl rfl ((hV.cell (p := ⟨bm, om + j, none⟩) HBM.out).trans HCM.out)) ?_; simp only [Act.put, qA, qB, qC]
   refine sx_take (i := 8) (oi := ⟨some 25, _, _, _, _, _⟩) (v := ?_) rfl (by kernel_rfl) (by kernel_rfl) (by kernel_rfl) (fun _ _ _ h => h) rfl hX ?_ ?_; rotate_left; (intro W hW; go_simp; try with_reducible rfl); simp only [Act.put, qA, qB, qC]
   refine wpAnyH_done (by kernel_rfl) ?_ _
   have BE := qH (BQ.out.trans (hX.mono BQ.out.size))
   clear hX
   by_cases hxy : x = y
   ·subst hxy
    have HE2 := qH (show l.take (j + 1) = m.take (j + 1) by rw [List.take_add_one, List.take_add_one, HE.out, HX.out, HY.out])
    go_wp2_with fail
    exact ⟨⟨j + 1, HJ.out, by congr 1, HE2.out, BE.out⟩, by simpa [intOf] using HMJ.out⟩
   ·have HT := qH (show decide (l = m) = false from decide_eq_false fun h => hxy (by have h1 := HX.out; rw [h, HY.out] at h1; exact (Option.some.inj h1).symm))
    go_wp2_with fail
    go_ret
    rw [HT.out]
    exact ⟨rfl, BE.out⟩
  ·obtain rfl : j = l.length := by omega
   have j1 : ¬ ((l.length : Int) < (l.length : Int)) := by omega
   have HT := qH (show decide (l = m) = true from decide_eq_true (by have h1 := HE.out; rw [List.take_length, HLE.out, List.take_length] at h1; exact h1))
   go_wp2_with fail
   go_ret
   rw [HT.out]
   exact ⟨rfl, BQ.out⟩
 ·have h0 : ¬ ((l.length : Int) = (m.length : Int)) := by omega
  have HT := qH (show decide (l = m) = false from decide_eq_false fun h => hlen (by rw [h]))
  clear hlen
  go_enter Tryz.func46, Tryz.ntmps46
  go_wp2_with fail
  go_ret
  rw [HT.out]
  exact ⟨rfl, Below.refl _ _⟩
def fndL (L : List (List Int)) (x : List Int) : Int := if x ∈ L then (ixOf L x : Int) else -1
theorem fndL_in {L : List (List Int)} {x : List Int} {j : Nat} (hn : L.Nodup) (h : L[j]? = some x) : fndL L x = (j : Int) := by
 unfold fndL
 rw [if_pos (List.mem_of_getElem? h), idx_is hn h]
theorem fndL_out {L : List (List Int)} {x : List Int} (h : ∀ m, m < L.length → L[m]? ≠ some x) : fndL L x = -1 := by
 unfold fndL
 rw [if_neg fun hx => ?_]
 obtain ⟨m, hm⟩ := List.mem_iff_getElem?.1 hx
 exact h m (List.getElem?_eq_some_iff.1 hm).1 hm
set_option maxHeartbeats 4000000 in
set_option maxRecDepth 1000000 in
theorem refFind9_any (L : List (List Int)) (x : List Int) (vf : Nat → Value) (V U : Value) (w : World) (hn : L.Nodup) (hl : Row w V ((List.range L.length).map vf)) (hr : ∀ i X, L[i]? = some X → Row w (vf i) (nums .i64 X)) (hx : Row w U (nums .i64 x)) :
  Calls Tryz.prog 27 #[V, U] w fun e w' => e = .returned (.int .i64 (fndL L x)) ∧ Below w.heap.size w w' := by
 have HND := qH hn
 have L0 := qH hl
 have R0 := qH hr
 have U0 := qH hx
 obtain ⟨A, cap, rfl, a1, a2, _⟩ := hl
 rw [show ((List.range L.length).map vf).length = L.length by simp] at a1 L0 ⊢
 have HLN := qH (And.intro a1 a2)
 obtain ⟨n, hnn⟩ : ∃ n, n = L.length := ⟨_, rfl⟩
 have HN := qH hnn
 rw [← hnn] at HLN L0 ⊢
 clear hn hr hx a1 a2 hnn
 go_enter Tryz.func27, Tryz.ntmps27
 go_wp2_with fail
 go_loopw [5] (fun iv wl => ∃ j : Nat, j ≤ n ∧ iv = .int .i64 (j : Int) ∧ (∀ m, m < j → L[m]? ≠ some x) ∧ Below w.heap.size w wl) (fun iv _ => n - (intOf iv).toNat)
 case atStart => exact ⟨0, Nat.zero_le _, by simp, fun m h => absurd h (Nat.not_lt_zero m), Below.refl _ _⟩
 obtain ⟨j, hj, rfl, hno, hb⟩ := hrel
 have HO := qH hno
 have BQ := qH hb
 clear hno hb
 obtain ⟨wq, hwq⟩ : ∃ v : World, v = wr := ⟨_, rfl⟩
 subst hwq
 by_cases hjn : j < n
 ·have j1 : (j : Int) < (n : Int) := Int.ofNat_lt.2 hjn
  have HJ := qH hjn
  have HMJ := qH (sub_next hjn)
  have e3 := wrap_len HJ.out HLN.out.1 HLN.out.2
  have e4 := wrap_len' HJ.out HLN.out.1 HLN.out.2
  obtain ⟨X, hX⟩ : ∃ X, L[j]? = some X := ⟨_, List.getElem?_eq_getElem (by rw [← HN.out]; exact hjn)⟩
  have HX := qH hX
  have hrj := (R0.out j X hX).below BQ.out
  have RJ := qH hrj
  obtain ⟨Aj, cj, hvj, _⟩ := hrj
  rw [hvj] at RJ
  obtain ⟨b, off, rfl, hbb, hcell⟩ := (L0.out.below BQ.out).at_ (by rw [List.length_map, List.length_range]; exact Nat.lt_of_le_of_lt (Nat.zero_le _) hjn)
  have hcj : wq.cell? ⟨b, off + j, none⟩ = some (.slice Aj (nums .i64 X).length cj) := hcell j _ (by rw [List.getElem?_map, List.getElem?_range hjn]; simp [hvj])
  obtain ⟨k, hk⟩ : ∃ k, k = (nums .i64 X).length := ⟨_, rfl⟩
  rw [← hk] at RJ hcj
  have UQ := qH (U0.out.below BQ.out)
  clear hj hjn hX hvj hbb hcell hk
  go_wp2_with fail
  refine (refSame9_any X x _ _ wq RJ.out UQ.out).mono ?_
  rintro e w4 ⟨rfl, hb⟩
  have B4 := qH (BQ.out.trans (hb.mono BQ.out.size))
  clear hb
  obtain ⟨q, hq⟩ : ∃ q, decide (X = x) = q := ⟨_, rfl⟩
  rw [hq]
  have HQ := qH hq
  clear hq
  cases q with
  | true =>
   have HT := qH (show fndL L x = (j : Int) from fndL_in HND.out (by rw [← of_decide_eq_true HQ.out]; exact HX.out))
   go_wp2_with fail
   go_ret
   rw [HT.out]
   exact ⟨rfl, B4.out⟩
  | false =>
   have HO2 := qH (show ∀ m, m < j + 1 → L[m]? ≠ some x from fun m hm => by
    rcases Nat.lt_succ_iff_lt_or_eq.1 hm with h | h
    ·exact HO.out m h
    ·rw [h, HX.out]
     exact fun e => of_decide_eq_false HQ.out (Option.some.inj e))
   go_wp2_with fail
   exact ⟨⟨j + 1, HJ.out, by congr 1, HO2.out, B4.out⟩, by simpa [intOf] using HMJ.out⟩
 ·obtain rfl : j = n := Nat.le_antisymm hj (Nat.not_lt.1 hjn)
  have j1 : ¬ ((j : Int) < (j : Int)) := Int.lt_irrefl _
  have HT := qH (show fndL L x = -1 from fndL_out (by rw [← HN.out]; exact HO.out))
  go_wp2_with fail
  go_ret
  rw [HT.out]
  exact ⟨rfl, BQ.out⟩
def Pl (S : List St) (a z most : Int) (i : Nat) (L R : List (List Int)) (E : List Bool) : Prop :=
 L.Nodup ∧ i ≤ L.length ∧ R.length = i ∧ E.length = i ∧ (∃ r, L.length ≤ (LN S a r).length) ∧
  ((L = LN S a i ∧ R = rowsI (sucN S) (LN S a i) i ∧ E = endsI (hasZ z) (LN S a i) i) ∨ most < (L.length : Int))
theorem Pl.zero (S : List St) (a z most : Int) : Pl S a z most 0 [clsN S [a]] [] [] :=
 ⟨by simp, Nat.zero_le _, rfl, rfl, ⟨0, by rw [LN_zero]; exact Nat.le_refl _⟩, .inl ⟨(LN_zero S a).symm, rfl, rfl⟩⟩
structure Inn (S : List St) (a : Int) (i kk : Nat) (X : List Int) (L : List (List Int)) (Lj : Nat → List (List Int)) (Rw : List Int) : Prop where
 zero : Lj 0 = L
 nd : ∀ j, (Lj j).Nodup
 at_ : ∀ j, (Lj j)[i]? = some X
 le : ∀ j, (Lj j).length ≤ (LN S a (i + 1)).length
 all : Lj kk = LN S a (i + 1)
 row : Rw = rowI (LN S a (i + 1)) (sucN S X)
 len : Rw.length = kk
 step : ∀ j, j < kk → ∃ (b : Nat) (y : List Int), b < 256 ∧ (fbB (setsN S) 256)[j]? = some (UInt8.ofNat b) ∧ y = stpN S X b ∧
  ((y ∈ Lj j ∧ Lj (j + 1) = Lj j ∧ Rw.take (j + 1) = Rw.take j ++ [((ixOf (Lj j) y : Nat) : Int)]) ∨ (y ∉ Lj j ∧ Lj (j + 1) = Lj j ++ [y] ∧ Rw.take (j + 1) = Rw.take j ++ [((Lj j).length : Int)]))
theorem inn_is {S : List St} {a : Int} {i kk : Nat} {X : List Int} (hX : (LN S a i)[i]? = some X) (hk : kk = (fbN S).length) :
  ∃ (Lj : Nat → List (List Int)) (Rw : List Int), Inn S a i kk X (LN S a i) Lj Rw := by
 have hs : LN S a (i + 1) = extL (LN S a i) (sucN S X) := Lq_step hX
 have hnd : (LN S a i).Nodup := Lq_nodup i
 have hlen : (sucN S X).length = kk := by rw [sucN_len, hk]
 refine ⟨fun j => extL (LN S a i) ((sucN S X).take j), rowI (LN S a (i + 1)) (sucN S X), ⟨rfl, fun j => extL_nodup _ _ hnd, fun j => ?_, fun j => ?_, ?_, rfl, by rw [rowI_len, hlen], fun j hj => ?_⟩⟩
 ·obtain ⟨M, hM⟩ := extL_pre ((sucN S X).take j) (LN S a i)
  show (extL (LN S a i) ((sucN S X).take j))[i]? = some X
  rw [hM, List.getElem?_append_left (List.getElem?_eq_some_iff.1 hX).1]
  exact hX
 ·rw [hs]
  exact extL_take_le _ _ _
 ·show extL (LN S a i) ((sucN S X).take kk) = _
  rw [← hlen, List.take_length, hs]
 ·obtain ⟨b, hb⟩ : ∃ b, (fbN S)[j]? = some b := ⟨_, List.getElem?_eq_getElem (by rw [← hk]; exact hj)⟩
  have hy := sucN_get (X := X) hb
  refine ⟨b, stpN S X b, fbN_lt (List.mem_of_getElem? hb), ?_, rfl, ?_⟩
  ·show ((fbN S).map UInt8.ofNat)[j]? = _
   rw [List.getElem?_map, hb]
   rfl
  ·obtain ⟨y, hye⟩ : ∃ y, y = stpN S X b := ⟨_, rfl⟩
   rw [← hye] at hy ⊢
   obtain ⟨M, hM⟩ : ∃ M, M = extL (LN S a i) ((sucN S X).take j) := ⟨_, rfl⟩
   have e1 : extL (LN S a i) ((sucN S X).take (j + 1)) = extL M [y] := by rw [hM]; exact extL_take hy
   obtain ⟨T, hT⟩ : ∃ T, LN S a (i + 1) = extL M [y] ++ T := by
    obtain ⟨T, hT⟩ := extL_pre ((sucN S X).drop (j + 1)) (extL M [y])
    refine ⟨T, ?_⟩
    rw [hs, ← List.take_append_drop (j + 1) (sucN S X), extL_app, e1, hT]
   have hrw : (rowI (LN S a (i + 1)) (sucN S X)).take (j + 1) = (rowI (LN S a (i + 1)) (sucN S X)).take j ++ [((ixOf (LN S a (i + 1)) y : Nat) : Int)] := by
    have hg : (rowI (LN S a (i + 1)) (sucN S X))[j]? = some ((ixOf (LN S a (i + 1)) y : Nat) : Int) := by
     unfold rowI
     rw [List.getElem?_map, hy, Option.map_some]
    rw [List.take_add_one, hg, Option.toList_some]
   show (y ∈ extL (LN S a i) ((sucN S X).take j) ∧ extL (LN S a i) ((sucN S X).take (j + 1)) = extL (LN S a i) ((sucN S X).take j) ∧ _) ∨ (y ∉ extL (LN S a i) ((sucN S X).take j) ∧ extL (LN S a i) ((sucN S X).take (j + 1)) = extL (LN S a i) ((sucN S X).take j) ++ [y] ∧ _)
   rw [e1, ← hM, hrw, hT]
   by_cases hm : y ∈ M
   ·left
    rw [extL_in hm, idx_app hm]
    exact ⟨hm, rfl, rfl⟩
   ·right
    rw [extL_new hm, idx_app (by simp), idx_new hm]
    exact ⟨hm, rfl, rfl⟩
theorem Pl.next {S : List St} {a z most : Int} {i kk : Nat} {X : List Int} {L R : List (List Int)} {E : List Bool} {Lj : Nat → List (List Int)} {Rw : List Int} (h : Pl S a z most i L R E) (hL : L = LN S a i) (hR : R = rowsI (sucN S) (LN S a i) i) (hE : E = endsI (hasZ z) (LN S a i) i)
  (hX : (LN S a i)[i]? = some X) (hI : Inn S a i kk X (LN S a i) Lj Rw) {j : Nat} (hj : j = kk ∨ most < ((Lj j).length : Int)) : Pl S a z most (i + 1) (Lj j) (R ++ [Rw.take j]) (E ++ [hasZ z X]) := by
 obtain ⟨_, _, h3, h4, _, _⟩ := h
 refine ⟨hI.nd j, (List.getElem?_eq_some_iff.1 (hI.at_ j)).1, by simp [h3], by simp [h4], ⟨i + 1, hI.le j⟩, ?_⟩
 rcases hj with hj | hj
 ·left
  subst hj
  refine ⟨hI.all, ?_, ?_⟩
  ·rw [hR, show rowsI (sucN S) (LN S a (i + 1)) (i + 1) = rowsI (sucN S) (LN S a i) i ++ [rowI (LN S a (i + 1)) (sucN S X)] from rowsI_next hX, ← hI.row]
   rw [List.take_of_length_le (Nat.le_of_eq hI.len)]
  ·rw [hE, show endsI (hasZ z) (LN S a (i + 1)) (i + 1) = endsI (hasZ z) (LN S a i) i ++ [hasZ z X] from endsI_next hX]
 ·exact .inr hj
theorem Pl.good {S : List St} {a z most : Int} {i : Nat} {L R : List (List Int)} {E : List Bool} (h : Pl S a z most i L R E) (hm : (L.length : Int) ≤ most) : L = LN S a i ∧ R = rowsI (sucN S) (LN S a i) i ∧ E = endsI (hasZ z) (LN S a i) i := by
 rcases h.2.2.2.2.2 with h | h
 ·exact h
 ·omega
theorem Pl.many {S : List St} {a z most : Int} {i : Nat} {L R : List (List Int)} {E : List Bool} (h : Pl S a z most i L R E) (hM : MayN S a z) (hm : most < (L.length : Int)) : mkN S a z most = (noDm, 7) := by
 obtain ⟨r, hr⟩ := h.2.2.2.2.1
 exact mkN_many hM (r := r) (by omega)
theorem Pl.done {S : List St} {a z most : Int} {i : Nat} {L R : List (List Int)} {E : List Bool} (h : Pl S a z most i L R E) (hM : MayN S a z) (hm : (L.length : Int) ≤ most) (hi : ¬ i < L.length) : mkN S a z most = (⟨ctab (setsN S) 256, R, E⟩, 0) := by
 obtain ⟨h1, h2, h3⟩ := h.good hm
 have hl : L.length = i := Nat.le_antisymm (Nat.not_lt.1 hi) h.2.1
 have hf : FitN S a i := by
  show (LN S a i).length = i
  rw [← h1]
  exact hl
 rw [mkN_ok hM hf (by omega), h2, h3]
 rfl
end Go.Proofs.YteadghoojeehlaaGreatDoor
