/-
  Texts of this proof, put together: SbR. No statement is proved here.
-/
import Derived.Test.YteadghoojeehlaaDoorVQ
namespace Go.Proofs.YteadghoojeehlaaDoor
open Go.RowKit
set_option linter.unusedSimpArgs false
set_option linter.unusedVariables false
def dcl (cl : List UInt8) (vn ve : Value) : List Value := bvs cl ++ [vn, ve]
section
variable {cl : List UInt8} {vn ve : Value}
theorem dcl_len (hl : cl.length = 256) : (dcl cl vn ve).length = 258 := by simp [dcl, bvs_length, hl]
theorem dcl_end (hl : cl.length = 256) (i : Nat) : (dcl cl vn ve)[256 + i]? = [vn, ve][i]? := by
 unfold dcl
 rw [List.getElem?_append_right (by rw [bvs_length, hl]; omega), bvs_length, hl, Nat.add_sub_cancel_left]
theorem dcl_n (hl : cl.length = 256) : (dcl cl vn ve)[256]? = some vn := dcl_end hl 0
theorem dcl_e (hl : cl.length = 256) : (dcl cl vn ve)[257]? = some ve := dcl_end hl 1
theorem dcl_cl (hl : cl.length = 256) {i : Nat} (hi : i < 256) : (dcl cl vn ve)[i]? = (bvs cl)[i]? := by
 unfold dcl
 rw [List.getElem?_append_left (by rw [bvs_length, hl]; exact hi)]
theorem dcl_set (hl : cl.length = 256) (i : Nat) (v : Value) : (dcl cl vn ve).set (256 + i) v = bvs cl ++ [vn, ve].set i v := by
 unfold dcl
 rw [List.set_append_right _ _ (by rw [bvs_length, hl]; omega), bvs_length, hl, Nat.add_sub_cancel_left]
theorem dcl_setn (hl : cl.length = 256) (v : Value) : (dcl cl vn ve).set 256 v = dcl cl v ve := dcl_set hl 0 v
theorem dcl_sete (hl : cl.length = 256) (v : Value) : (dcl cl vn ve).set 257 v = dcl cl vn v := dcl_set hl 1 v
theorem dcl_one {A : Option Addr} {n c : Nat} {A' : Option Addr} {n' c' : Nat} : (dcl cl (.slice A n c) (.slice A' n' c')).all (·.oneCell') = true := by
 unfold dcl
 rw [List.all_append, bvs_all']
 rfl
theorem size_dfa (hl : cl.length = 256) : (Tryd.prog.info? 32).map (·.size) = some (dcl cl vn ve).length := by
 rw [dcl_len hl]
 kernel_rfl
end
theorem inf_dfa : (Tryd.prog.info? 32).map (fun i => i.zero) = some (some (.agg (dcl (ctab [] 0) (.slice none 0 0) (.slice none 0 0)).toArray)) := by kernel_rfl
theorem built_d0 : Tryd.prog.built 32 [] = some (dcl (ctab [] 0) (.slice none 0 0) (.slice none 0 0)).toArray := by kernel_rfl
theorem ctab_no : ctab [] 0 = List.replicate 256 0 := by
 unfold ctab
 rw [List.map_congr_left (g := fun _ => 0) fun b _ => if_neg (by omega), List.map_const']
 simp
def DfaV (w : World) (cs : List Value) (D : Dm) : Prop :=
 D.cl.length = 256 ∧ ∃ (vn ve : Value) (vf : Nat → Value), cs = dcl D.cl vn ve ∧ Row w vn ((List.range D.next.length).map vf) ∧ (∀ i r, D.next[i]? = some r → Row w (vf i) (nums .i64 r)) ∧ Row w ve (bools D.ends)
theorem DfaV.below {w w' : World} {cs : List Value} {D : Dm} (h : DfaV w cs D) (hb : Below w.heap.size w w') : DfaV w' cs D := by
 obtain ⟨hl, vn, ve, vf, h1, h2, h3, h4⟩ := h
 exact ⟨hl, vn, ve, vf, h1, h2.below hb, fun i r hr => (h3 i r hr).below hb, h4.below hb⟩
theorem dfaV_no (w : World) : DfaV w (dcl (ctab [] 0) (.slice none 0 0) (.slice none 0 0)) noDm :=
 ⟨List.length_replicate .., .slice none 0 0, .slice none 0 0, fun _ => undef, by unfold noDm; rw [ctab_no], Row.nil w, fun i r h => absurd h (by show ¬ ([] : List (List Int))[i]? = some r; simp), Row.nil w⟩
def IntR (w : World) (base gd : Nat) (vn ve qv v : Value) (l : List Int) : Prop :=
 ∃ h, v = .slice (some ⟨h, 0, none⟩) l.length l.length ∧ Blk w h 3 (nums .i64 l) ∧ base ≤ h ∧ h ≠ gd ∧ vn.ownBlock ≠ some h ∧ ve.ownBlock ≠ some h ∧ qv.ownBlock ≠ some h ∧ l.length ≤ 256
structure DV (w : World) (base gd : Nat) (cl : List UInt8) (qv vn ve : Value) (vf : Nat → Value) (r : Nat) (R : List (List Int)) (E : List Bool) : Prop where
 blk : Blk w gd 32 (dcl cl vn ve)
 cl : cl.length = 256
 gB : base ≤ gd
 ownn : w.ownsRow base 43 1 vn r ((List.range r).map vf)
 owne : w.ownsRow base 4 1 ve E.length (bools E)
 rows : ∀ i l, R[i]? = some l → IntR w base gd vn ve qv (vf i) l
 qn : ∀ k, qv.ownBlock = some k → k ≠ gd ∧ vn.ownBlock ≠ some k ∧ ve.ownBlock ≠ some k
 nd : vn.ownBlock ≠ some gd
 ed : ve.ownBlock ≠ some gd
 ne : ∀ k, vn.ownBlock = some k → ve.ownBlock ≠ some k
 len : R.length = r
section
variable {w w' w'' : World} {base gd g mr mn r : Nat} {cl : List UInt8} {qv qv' vn ve vn' ve' : Value} {vf : Nat → Value} {R : List (List Int)} {E : List Bool}
theorem DV.mstep (x : DV w base gd cl qv vn ve vf r R E) (y : MStep w w' g mr mn qv qv') (hg : g < base) (hr : mr < base) (hn : mn < base) : DV w' base gd cl qv' vn ve vf r R E := by
 have st : ∀ k, k < w.heap.size → base ≤ k → qv.ownBlock ≠ some k → w'.heap[k]? = w.heap[k]? := fun k hk hb hq => y.off.block k hk (by
  rintro (e | e | e | e)
  ·omega
  ·omega
  ·omega
  ·exact hq e)
 have ln : ∀ k, vn.ownBlock = some k → k < w.heap.size := fun k hk => (own6_lt x.ownn k hk).1
 have le : ∀ k, ve.ownBlock = some k → k < w.heap.size := fun k hk => (own6_lt x.owne k hk).1
 refine ⟨(st gd x.blk.lt x.gB fun e => (x.qn gd e).1 rfl).trans x.blk, x.cl, x.gB, own6_stay x.ownn fun j hj => st j (ln j hj) (own_above x.ownn j hj) fun e => (x.qn j e).2.1 hj, own6_stay x.owne fun j hj => st j (le j hj) (own_above x.owne j hj) fun e => (x.qn j e).2.2 hj, fun i l hl => ?_, fun k hk => ?_, x.nd, x.ed, x.ne, x.len⟩
 ·obtain ⟨h, h1, h2, h3, h4, h5, h6, h7, h8⟩ := x.rows i l hl
  refine ⟨h, h1, (st h h2.lt h3 h7).trans h2, h3, h4, h5, h6, fun e => ?_, h8⟩
  rcases y.new h e with e | e
  ·exact h7 e
  ·have := h2.lt; omega
 ·rcases y.new k hk with e | e
  ·exact x.qn k e
  ·have := x.blk.lt
   exact ⟨by omega, fun e' => by have := ln k e'; omega, fun e' => by have := le k e'; omega⟩
theorem DV.below (x : DV w base gd cl qv vn ve vf r R E) (hb : Below w.heap.size w w') : DV w' base gd cl qv vn ve vf r R E := by
 have ln : ∀ k, vn.ownBlock = some k → k < w.heap.size := fun k hk => (own6_lt x.ownn k hk).1
 have le : ∀ k, ve.ownBlock = some k → k < w.heap.size := fun k hk => (own6_lt x.owne k hk).1
 refine { x with blk := (hb.block gd x.blk.lt).trans x.blk, ownn := own6_stay x.ownn fun j hj => hb.block j (ln j hj), owne := own6_stay x.owne fun j hj => hb.block j (le j hj), rows := fun i l hl => ?_ }
 obtain ⟨h, h1, h2, h3⟩ := x.rows i l hl
 exact ⟨h, h1, (hb.block h h2.lt).trans h2, h3⟩
theorem DV.ends (x : DV w base gd cl qv vn ve vf r R E) (hb : Below w.heap.size w w') (b : Bool) (ho : w''.ownsRow base 4 1 ve' (E ++ [b]).length (bools (E ++ [b]))) (hg : w'.grownBy w'' ve.ownBlock) (hw : ∀ k, ve'.ownBlock = some k → ve.ownBlock = some k ∨ w'.heap.size ≤ k) (hq : ∀ k, qv.ownBlock = some k → k < w.heap.size) :
  Blk w'' gd 32 (dcl cl vn ve) ∧ DV (w''.setCell ⟨gd, 257, none⟩ ve') base gd cl qv vn ve' vf r R (E ++ [b]) ∧ Off (fun k => k = gd ∨ ve.ownBlock = some k) w (w''.setCell ⟨gd, 257, none⟩ ve') := by
 have ln : ∀ k, vn.ownBlock = some k → k < w.heap.size := fun k hk => (own6_lt x.ownn k hk).1
 have st : ∀ k, k < w.heap.size → k ≠ gd → ve.ownBlock ≠ some k → (w''.setCell ⟨gd, 257, none⟩ ve').heap[k]? = w.heap[k]? := fun k hk h1 h2 => by
  rw [Below.heap_setCell w'' ⟨gd, 257, none⟩ ve' k h1]
  exact (hg.block k (Nat.lt_of_lt_of_le hk hb.size) (fun e => h2 e.symm)).trans (hb.block k hk)
 have hgd : Blk w'' gd 32 (dcl cl vn ve) := ((hg.block gd (Nat.lt_of_lt_of_le x.blk.lt hb.size) (fun e => x.ed e.symm)).trans (hb.block gd x.blk.lt)).trans x.blk
 have ne' : ∀ k, k < w.heap.size → ve.ownBlock ≠ some k → ve'.ownBlock ≠ some k := fun k hk h1 e => by
  rcases hw k e with e | e
  ·exact h1 e
  ·have := hb.size; omega
 refine ⟨hgd, ⟨by have := hgd.set 257 ve'; rw [dcl_sete x.cl] at this; exact this, x.cl, x.gB, own6_stay x.ownn fun j hj => st j (ln j hj) (fun e => x.nd (by rw [← e]; exact hj)) (x.ne j hj), ?_, fun i l hl => ?_, fun k hk => ?_, x.nd, ne' gd x.blk.lt x.ed, fun k hk => ne' k (ln k hk) (x.ne k hk), x.len⟩, ?_⟩
 ·refine own6_stay ho fun j hj => Below.heap_setCell w'' ⟨gd, 257, none⟩ ve' j (fun e => ne' gd x.blk.lt x.ed (by rw [← show j = gd from e]; exact hj))
 ·obtain ⟨h, h1, h2, h3, h4, h5, h6, h7⟩ := x.rows i l hl
  exact ⟨h, h1, (st h h2.lt h4 h6).trans h2, h3, h4, h5, ne' h h2.lt h6, h7⟩
 ·obtain ⟨h1, h2, h3⟩ := x.qn k hk
  exact ⟨h1, h2, ne' k (hq k hk) h3⟩
 ·refine ⟨hg.os.trans hb.os, hg.tape.trans hb.tape, hg.output.trans hb.output, ?_, fun k hk hn => st k hk (fun e => hn (.inl e)) (fun e => hn (.inr e))⟩
  have h1 := hg.size
  have h2 := hb.size
  simp
  omega
theorem DV.next (x : DV w base gd cl qv vn ve vf r R E) {h : Nat} {l : List Int} (hh : Blk w h 3 (nums .i64 l)) (hb2 : base ≤ h) (hgd2 : h ≠ gd) (hvn : vn.ownBlock ≠ some h) (hve : ve.ownBlock ≠ some h) (hqh : qv.ownBlock ≠ some h) (hlen : l.length ≤ 256) (hb : Below w.heap.size w w')
  (ho : w''.ownsRow base 43 1 vn' (r + 1) ((List.range r).map vf ++ [.slice (some ⟨h, 0, none⟩) l.length l.length])) (hg : w'.grownBy w'' vn.ownBlock) (hw : ∀ k, vn'.ownBlock = some k → vn.ownBlock = some k ∨ w'.heap.size ≤ k) (hq : ∀ k, qv.ownBlock = some k → k < w.heap.size) :
  Blk w'' gd 32 (dcl cl vn ve) ∧ DV (w''.setCell ⟨gd, 256, none⟩ vn') base gd cl qv vn' ve (fun i => if i = r then .slice (some ⟨h, 0, none⟩) l.length l.length else vf i) (r + 1) (R ++ [l]) E ∧ Off (fun k => k = gd ∨ vn.ownBlock = some k) w (w''.setCell ⟨gd, 256, none⟩ vn') := by
 have le : ∀ k, ve.ownBlock = some k → k < w.heap.size := fun k hk => (own6_lt x.owne k hk).1
 have st : ∀ k, k < w.heap.size → k ≠ gd → vn.ownBlock ≠ some k → (w''.setCell ⟨gd, 256, none⟩ vn').heap[k]? = w.heap[k]? := fun k hk h1 h2 => by
  rw [Below.heap_setCell w'' ⟨gd, 256, none⟩ vn' k h1]
  exact (hg.block k (Nat.lt_of_lt_of_le hk hb.size) (fun e => h2 e.symm)).trans (hb.block k hk)
 have hgd : Blk w'' gd 32 (dcl cl vn ve) := ((hg.block gd (Nat.lt_of_lt_of_le x.blk.lt hb.size) (fun e => x.nd e.symm)).trans (hb.block gd x.blk.lt)).trans x.blk
 have ne' : ∀ k, k < w.heap.size → vn.ownBlock ≠ some k → vn'.ownBlock ≠ some k := fun k hk h1 e => by
  rcases hw k e with e | e
  ·exact h1 e
  ·have := hb.size; omega
 refine ⟨hgd, ⟨by have := hgd.set 256 vn'; rw [dcl_setn x.cl] at this; exact this, x.cl, x.gB, ?_, own6_stay x.owne fun j hj => st j (le j hj) (fun e => x.ed (by rw [← e]; exact hj)) (fun e => x.ne j e hj), fun i m hm => ?_, fun k hk => ?_, ne' gd x.blk.lt x.nd, x.ed, fun k hk e => ?_, by rw [List.length_append, x.len]; rfl⟩, ?_⟩
 ·rw [range_snoc]
  exact own6_stay ho fun j hj => Below.heap_setCell w'' ⟨gd, 256, none⟩ vn' j (fun e => ne' gd x.blk.lt x.nd (by rw [← show j = gd from e]; exact hj))
 ·show IntR _ base gd vn' ve qv (if i = r then _ else vf i) m
  by_cases hir : i = r
  ·rw [if_pos hir]
   have hml : m = l := by
    subst hir
    rw [← x.len, List.getElem?_append_right (Nat.le_refl _), Nat.sub_self] at hm
    simpa using hm.symm
   subst hml
   exact ⟨h, rfl, (st h hh.lt hgd2 hvn).trans hh, hb2, hgd2, ne' h hh.lt hvn, hve, hqh, hlen⟩
  ·rw [if_neg hir]
   have hi : i < R.length := by
    have := (List.getElem?_eq_some_iff.1 hm).1
    rw [List.length_append, List.length_singleton] at this
    have := x.len
    omega
   rw [List.getElem?_append_left hi] at hm
   obtain ⟨h', h1, h2, h3, h4, h5, h6, h7⟩ := x.rows i m hm
   exact ⟨h', h1, (st h' h2.lt h4 h5).trans h2, h3, h4, ne' h' h2.lt h5, h6, h7⟩
 ·obtain ⟨h1, h2, h3⟩ := x.qn k hk
  exact ⟨h1, ne' k (hq k hk) h2, h3⟩
 ·rcases hw k hk with e' | e'
  ·exact x.ne k e' e
  ·have h1 := le k e
   have h2 := hb.size
   omega
 ·refine ⟨hg.os.trans hb.os, hg.tape.trans hb.tape, hg.output.trans hb.output, ?_, fun k hk hn => st k hk (fun e => hn (.inl e)) (fun e => hn (.inr e))⟩
  have h1 := hg.size
  have h2 := hb.size
  simp
  omega
theorem DV.dfa (x : DV w base gd cl qv vn ve vf r R E) : DfaV w (dcl cl vn ve) ⟨cl, R, E⟩ :=
 ⟨x.cl, vn, ve, vf, rfl, by
  show Row w vn ((List.range R.length).map vf)
  rw [x.len]
  exact Row.of_own x.ownn, fun i l hl => by
  obtain ⟨h, h1, h2, _, _, _, _, _, h8⟩ := x.rows i l hl
  rw [h1]
  exact rowB (n := l.length) h2 (nums_length .i64 l) (by omega), Row.of_own x.owne⟩
end
end Go.Proofs.YteadghoojeehlaaDoor
