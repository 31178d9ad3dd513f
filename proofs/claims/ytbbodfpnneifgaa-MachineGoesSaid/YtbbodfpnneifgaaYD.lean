/-
  Texts of this proof, put together: SbR, SbS, SbT, SbU. No statement is proved here.
-/
import Derived.Test.YtbbodfpnneifgaaYC
namespace Go.Proofs.Ytbbodfpnneifgaa
open Go.RowKit
set_option linter.unusedSimpArgs false
set_option linter.unusedVariables false
def dcl (cl : List UInt8) (vn ve : Value) : List Value := bvs cl ++ [vn, ve]
section
variable {cl : List UInt8} {vn ve : Value}
theorem dcl_len (hl : cl.length = 256) : (dcl cl vn ve).length = 258 := by simp [dcl, bvs_length, hl]
theorem dcl_end (hl : cl.length = 256) (i : Nat) : (dcl cl vn ve)[256 + i]? = [vn, ve][i]? := by
 unfold dcl
 rw [List.getElem?_append_right (by rw [bvs_length, hl]; omega), bvs_length, hl, Nat.add_sub_cancel_left]
theorem dcl_n (hl : cl.length = 256) : (dcl cl vn ve)[256]? = some vn := dcl_end hl 0
theorem dcl_e (hl : cl.length = 256) : (dcl cl vn ve)[257]? = some ve := dcl_end hl 1
theorem dcl_cl (hl : cl.length = 256) {i : Nat} (hi : i < 256) : (dcl cl vn ve)[i]? = (bvs cl)[i]? := by
 unfold dcl
 rw [List.getElem?_append_left (by rw [bvs_length, hl]; exact hi)]
theorem dcl_set (hl : cl.length = 256) (i : Nat) (v : Value) : (dcl cl vn ve).set (256 + i) v = bvs cl ++ [vn, ve].set i v := by
 unfold dcl
 rw [List.set_append_right _ _ (by rw [bvs_length, hl]; omega), bvs_length, hl, Nat.add_sub_cancel_left]
theorem dcl_setn (hl : cl.length = 256) (v : Value) : (dcl cl vn ve).set 256 v = dcl cl v ve := dcl_set hl 0 v
theorem dcl_sete (hl : cl.length = 256) (v : Value) : (dcl cl vn ve).set 257 v = dcl cl vn v := dcl_set hl 1 v
theorem dcl_one {A : Option Addr} {n c : Nat} {A' : Option Addr} {n' c' : Nat} : (dcl cl (.slice A n c) (.slice A' n' c')).all (·.oneCell') = true := by
 unfold dcl
 rw [List.all_append, bvs_all']
 rfl
theorem size_dfa (hl : cl.length = 256) : (Try.prog.info? 28).map (·.size) = some (dcl cl vn ve).length := by
 rw [dcl_len hl]
 kernel_rfl
end
theorem inf_dfa : (Try.prog.info? 28).map (fun i => i.zero) = some (some (.agg (dcl (ctab [] 0) (.slice none 0 0) (.slice none 0 0)).toArray)) := by kernel_rfl
theorem built_d0 : Try.prog.built 28 [] = some (dcl (ctab [] 0) (.slice none 0 0) (.slice none 0 0)).toArray := by kernel_rfl
theorem ctab_no : ctab [] 0 = List.replicate 256 0 := by
 unfold ctab
 rw [List.map_congr_left (g := fun _ => 0) fun b _ => if_neg (by omega), List.map_const']
 simp
def DfaV (w : World) (cs : List Value) (D : Dm) : Prop :=
 D.cl.length = 256 ∧ ∃ (vn ve : Value) (vf : Nat → Value), cs = dcl D.cl vn ve ∧ Row w vn ((List.range D.next.length).map vf) ∧ (∀ i r, D.next[i]? = some r → Row w (vf i) (nums .i64 r)) ∧ Row w ve (bools D.ends)
theorem DfaV.below {w w' : World} {cs : List Value} {D : Dm} (h : DfaV w cs D) (hb : Below w.heap.size w w') : DfaV w' cs D := by
 obtain ⟨hl, vn, ve, vf, h1, h2, h3, h4⟩ := h
 exact ⟨hl, vn, ve, vf, h1, h2.below hb, fun i r hr => (h3 i r hr).below hb, h4.below hb⟩
theorem dfaV_no (w : World) : DfaV w (dcl (ctab [] 0) (.slice none 0 0) (.slice none 0 0)) noDm :=
 ⟨List.length_replicate .., .slice none 0 0, .slice none 0 0, fun _ => undef, by unfold noDm; rw [ctab_no], Row.nil w, fun i r h => absurd h (by show ¬ ([] : List (List Int))[i]? = some r; simp), Row.nil w⟩
def IntR (w : World) (base gd : Nat) (vn ve qv v : Value) (l : List Int) : Prop :=
 ∃ h, v = .slice (some ⟨h, 0, none⟩) l.length l.length ∧ Blk w h 3 (nums .i64 l) ∧ base ≤ h ∧ h ≠ gd ∧ vn.ownBlock ≠ some h ∧ ve.ownBlock ≠ some h ∧ qv.ownBlock ≠ some h ∧ l.length ≤ 256
structure DV (w : World) (base gd : Nat) (cl : List UInt8) (qv vn ve : Value) (vf : Nat → Value) (r : Nat) (R : List (List Int)) (E : List Bool) : Prop where
 blk : Blk w gd 28 (dcl cl vn ve)
 cl : cl.length = 256
 gB : base ≤ gd
 ownn : w.ownsRow base 41 1 vn r ((List.range r).map vf)
 owne : w.ownsRow base 4 1 ve E.length (bools E)
 rows : ∀ i l, R[i]? = some l → IntR w base gd vn ve qv (vf i) l
 qn : ∀ k, qv.ownBlock = some k → k ≠ gd ∧ vn.ownBlock ≠ some k ∧ ve.ownBlock ≠ some k
 nd : vn.ownBlock ≠ some gd
 ed : ve.ownBlock ≠ some gd
 ne : ∀ k, vn.ownBlock = some k → ve.ownBlock ≠ some k
 len : R.length = r
section
variable {w w' w'' : World} {base gd g mr mn r : Nat} {cl : List UInt8} {qv qv' vn ve vn' ve' : Value} {vf : Nat → Value} {R : List (List Int)} {E : List Bool}
theorem DV.below (x : DV w base gd cl qv vn ve vf r R E) (hb : Below w.heap.size w w') : DV w' base gd cl qv vn ve vf r R E := by
 have ln : ∀ k, vn.ownBlock = some k → k < w.heap.size := fun k hk => (own6_lt x.ownn k hk).1
 have le : ∀ k, ve.ownBlock = some k → k < w.heap.size := fun k hk => (own6_lt x.owne k hk).1
 refine { x with blk := (hb.block gd x.blk.lt).trans x.blk, ownn := own6_stay x.ownn fun j hj => hb.block j (ln j hj), owne := own6_stay x.owne fun j hj => hb.block j (le j hj), rows := fun i l hl => ?_ }
 obtain ⟨h, h1, h2, h3⟩ := x.rows i l hl
 exact ⟨h, h1, (hb.block h h2.lt).trans h2, h3⟩
theorem DV.ends (x : DV w base gd cl qv vn ve vf r R E) (hb : Below w.heap.size w w') (b : Bool) (ho : w''.ownsRow base 4 1 ve' (E ++ [b]).length (bools (E ++ [b]))) (hg : w'.grownBy w'' ve.ownBlock) (hw : ∀ k, ve'.ownBlock = some k → ve.ownBlock = some k ∨ w'.heap.size ≤ k) (hq : ∀ k, qv.ownBlock = some k → k < w.heap.size) :
  Blk w'' gd 28 (dcl cl vn ve) ∧ DV (w''.setCell ⟨gd, 257, none⟩ ve') base gd cl qv vn ve' vf r R (E ++ [b]) ∧ Off (fun k => k = gd ∨ ve.ownBlock = some k) w (w''.setCell ⟨gd, 257, none⟩ ve') := by
 have ln : ∀ k, vn.ownBlock = some k → k < w.heap.size := fun k hk => (own6_lt x.ownn k hk).1
 have st : ∀ k, k < w.heap.size → k ≠ gd → ve.ownBlock ≠ some k → (w''.setCell ⟨gd, 257, none⟩ ve').heap[k]? = w.heap[k]? := fun k hk h1 h2 => by
  rw [Below.heap_setCell w'' ⟨gd, 257, none⟩ ve' k h1]
  exact (hg.block k (Nat.lt_of_lt_of_le hk hb.size) (fun e => h2 e.symm)).trans (hb.block k hk)
 have hgd : Blk w'' gd 28 (dcl cl vn ve) := ((hg.block gd (Nat.lt_of_lt_of_le x.blk.lt hb.size) (fun e => x.ed e.symm)).trans (hb.block gd x.blk.lt)).trans x.blk
 have ne' : ∀ k, k < w.heap.size → ve.ownBlock ≠ some k → ve'.ownBlock ≠ some k := fun k hk h1 e => by
  rcases hw k e with e | e
  ·exact h1 e
  ·have := hb.size; omega
 refine ⟨hgd, ⟨by have := hgd.set 257 ve'; rw [dcl_sete x.cl] at this; exact this, x.cl, x.gB, own6_stay x.ownn fun j hj => st j (ln j hj) (fun e => x.nd (by rw [← e]; exact hj)) (x.ne j hj), ?_, fun i l hl => ?_, fun k hk => ?_, x.nd, ne' gd x.blk.lt x.ed, fun k hk => ne' k (ln k hk) (x.ne k hk), x.len⟩, ?_⟩
 ·refine own6_stay ho fun j hj => Below.heap_setCell w'' ⟨gd, 257, none⟩ ve' j (fun e => ne' gd x.blk.lt x.ed (by rw [← show j = gd from e]; exact hj))
 ·obtain ⟨h, h1, h2, h3, h4, h5, h6, h7⟩ := x.rows i l hl
  exact ⟨h, h1, (st h h2.lt h4 h6).trans h2, h3, h4, h5, ne' h h2.lt h6, h7⟩
 ·obtain ⟨h1, h2, h3⟩ := x.qn k hk
  exact ⟨h1, h2, ne' k (hq k hk) h3⟩
 ·refine ⟨hg.os.trans hb.os, hg.tape.trans hb.tape, hg.output.trans hb.output, ?_, fun k hk hn => st k hk (fun e => hn (.inl e)) (fun e => hn (.inr e))⟩
  have h1 := hg.size
  have h2 := hb.size
  simp
  omega
theorem DV.next (x : DV w base gd cl qv vn ve vf r R E) {h : Nat} {l : List Int} (hh : Blk w h 3 (nums .i64 l)) (hb2 : base ≤ h) (hgd2 : h ≠ gd) (hvn : vn.ownBlock ≠ some h) (hve : ve.ownBlock ≠ some h) (hqh : qv.ownBlock ≠ some h) (hlen : l.length ≤ 256) (hb : Below w.heap.size w w')
  (ho : w''.ownsRow base 41 1 vn' (r + 1) ((List.range r).map vf ++ [.slice (some ⟨h, 0, none⟩) l.length l.length])) (hg : w'.grownBy w'' vn.ownBlock) (hw : ∀ k, vn'.ownBlock = some k → vn.ownBlock = some k ∨ w'.heap.size ≤ k) (hq : ∀ k, qv.ownBlock = some k → k < w.heap.size) :
  Blk w'' gd 28 (dcl cl vn ve) ∧ DV (w''.setCell ⟨gd, 256, none⟩ vn') base gd cl qv vn' ve (fun i => if i = r then .slice (some ⟨h, 0, none⟩) l.length l.length else vf i) (r + 1) (R ++ [l]) E ∧ Off (fun k => k = gd ∨ vn.ownBlock = some k) w (w''.setCell ⟨gd, 256, none⟩ vn') := by
 have le : ∀ k, ve.ownBlock = some k → k < w.heap.size := fun k hk => (own6_lt x.owne k hk).1
 have st : ∀ k, k < w.heap.size → k ≠ gd → vn.ownBlock ≠ some k → (w''.setCell ⟨gd, 256, none⟩ vn').heap[k]? = w.heap[k]? := fun k hk h1 h2 => by
  rw [Below.heap_setCell w'' ⟨gd, 256, none⟩ vn' k h1]
  exact (hg.block k (Nat.lt_of_lt_of_le hk hb.size) (fun e => h2 e.symm)).trans (hb.block k hk)
 have hgd : Blk w'' gd 28 (dcl cl vn ve) := ((hg.block gd (Nat.lt_of_lt_of_le x.blk.lt hb.size) (fun e => x.nd e.symm)).trans (hb.block gd x.blk.lt)).trans x.blk
 have ne' : ∀ k, k < w.heap.size → vn.ownBlock ≠ some k → vn'.ownBlock ≠ some k := fun k hk h1 e => by
  rcases hw k e with e | e
  ·exact h1 e
  ·have := hb.size; omega
 refine ⟨hgd, ⟨by have := hgd.set 256 vn'; rw [dcl_setn x.cl] at this; exact this, x.cl, x.gB, ?_, own6_stay x.owne fun j hj => st j (le j hj) (fun e => x.ed (by rw [← e]; exact hj)) (fun e => x.ne j e hj), fun i m hm => ?_, fun k hk => ?_, ne' gd x.blk.lt x.nd, x.ed, fun k hk e => ?_, by rw [List.length_append, x.len]; rfl⟩, ?_⟩
 ·rw [range_snoc]
  exact own6_stay ho fun j hj => Below.heap_setCell w'' ⟨gd, 256, none⟩ vn' j (fun e => ne' gd x.blk.lt x.nd (by rw [← show j = gd from e]; exact hj))
 ·show IntR _ base gd vn' ve qv (if i = r then _ else vf i) m
  by_cases hir : i = r
  ·rw [if_pos hir]
   have hml : m = l := by
    subst hir
    rw [← x.len, List.getElem?_append_right (Nat.le_refl _), Nat.sub_self] at hm
    simpa using hm.symm
   subst hml
   exact ⟨h, rfl, (st h hh.lt hgd2 hvn).trans hh, hb2, hgd2, ne' h hh.lt hvn, hve, hqh, hlen⟩
  ·rw [if_neg hir]
   have hi : i < R.length := by
    have := (List.getElem?_eq_some_iff.1 hm).1
    rw [List.length_append, List.length_singleton] at this
    have := x.len
    omega
   rw [List.getElem?_append_left hi] at hm
   obtain ⟨h', h1, h2, h3, h4, h5, h6, h7⟩ := x.rows i m hm
   exact ⟨h', h1, (st h' h2.lt h4 h5).trans h2, h3, h4, ne' h' h2.lt h5, h6, h7⟩
 ·obtain ⟨h1, h2, h3⟩ := x.qn k hk
  exact ⟨h1, ne' k (hq k hk) h2, h3⟩
 ·rcases hw k hk with e' | e'
  ·exact x.ne k e' e
  ·have h1 := le k e
   have h2 := hb.size
   omega
 ·refine ⟨hg.os.trans hb.os, hg.tape.trans hb.tape, hg.output.trans hb.output, ?_, fun k hk hn => st k hk (fun e => hn (.inl e)) (fun e => hn (.inr e))⟩
  have h1 := hg.size
  have h2 := hb.size
  simp
  omega
theorem DV.dfa (x : DV w base gd cl qv vn ve vf r R E) : DfaV w (dcl cl vn ve) ⟨cl, R, E⟩ :=
 ⟨x.cl, vn, ve, vf, rfl, by
  show Row w vn ((List.range R.length).map vf)
  rw [x.len]
  exact Row.of_own x.ownn, fun i l hl => by
  obtain ⟨h, h1, h2, _, _, _, _, _, h8⟩ := x.rows i l hl
  rw [h1]
  exact rowB (n := l.length) h2 (nums_length .i64 l) (by omega), Row.of_own x.owne⟩
end
theorem ld_bls {ev : Operand → Value} {o : Oper} (x : Operand) (ho : o.op = .load 26 x) {p : Addr} (hx : ev x = .pointer (some p)) {A : Option Addr} {n c : Nat} {W : World} (hc : W.cell? p = some (.slice A n c)) : (execOp ev o).run Try.prog W = .ok (.value (.slice A n c)) W := by
 simp only [execOp, ho, hx]
 go_simp
theorem ld_inss {ev : Operand → Value} {o : Oper} (x : Operand) (ho : o.op = .load 25 x) {p : Addr} (hx : ev x = .pointer (some p)) {A : Option Addr} {n c : Nat} {W : World} (hc : W.cell? p = some (.slice A n c)) : (execOp ev o).run Try.prog W = .ok (.value (.slice A n c)) W := by
 simp only [execOp, ho, hx]
 go_simp
theorem wp_stBls {o : Oper} {a : Act} {K : Act → World → Prop} {Q : Exit → Act → World → Prop} {w : World} (x y : Operand) (ho : o.op = .store 26 x y) {p : Addr} (hx : a.eval x = .pointer (some p)) {A : Option Addr} {n c : Nat} (hy : a.eval y = .slice A n c) {v : Value} (hc : w.cell? p = some v) (hf : w.frozen? p = false)
  (h : K (a.put o.dst undef) (w.setCell p (.slice A n c))) : o.wp Try.prog a w K Q := by
 unfold Oper.wp
 simp only [execOp, ho, hx, hy]
 go_simp
 exact h
theorem wp_stIns {o : Oper} {a : Act} {K : Act → World → Prop} {Q : Exit → Act → World → Prop} {w : World} (x y : Operand) (ho : o.op = .store 25 x y) {p : Addr} (hx : a.eval x = .pointer (some p)) {A : Option Addr} {n c : Nat} (hy : a.eval y = .slice A n c) {v : Value} (hc : w.cell? p = some v) (hf : w.frozen? p = false)
  (h : K (a.put o.dst undef) (w.setCell p (.slice A n c))) : o.wp Try.prog a w K Q := by
 unfold Oper.wp
 simp only [execOp, ho, hx, hy]
 go_simp
 exact h
theorem inf_sl : (Try.prog.info? 41).map (fun i => (i.zero, i.size, i.bytes)) = some (some (.slice none 0 0), 1, 24) := by kernel_rfl
def clsD (cl : List UInt8) (i : Nat) : Nat := (cl.take i).foldl (fun n c => max n (c.toNat + 1)) 0
theorem clsD_zero (cl : List UInt8) : clsD cl 0 = 0 := rfl
theorem clsD_next {cl : List UInt8} {i : Nat} {c : UInt8} (h : cl[i]? = some c) : clsD cl (i + 1) = max (clsD cl i) (c.toNat + 1) := by
 obtain ⟨hi, rfl⟩ := List.getElem?_eq_some_iff.1 h
 unfold clsD
 rw [List.take_succ_eq_append_getElem hi, List.foldl_append]
 rfl
theorem clsD_le (cl : List UInt8) : ∀ i, clsD cl i ≤ 256
 | 0 => Nat.zero_le _
 | i + 1 => by
  rcases Nat.lt_or_ge i cl.length with h | h
  ·rw [clsD_next (List.getElem?_eq_getElem h)]
   have h1 := clsD_le cl i
   have h2 := (cl[i]).toNat_lt
   omega
  ·have : clsD cl (i + 1) = clsD cl i := by
    unfold clsD
    rw [List.take_of_length_le h, List.take_of_length_le (by omega)]
   rw [this]
   exact clsD_le cl i
def clsA (cl : List UInt8) : Nat := clsD cl 256
theorem clsD_lt {cl : List UInt8} {j : Nat} {c : UInt8} (h : cl[j]? = some c) : ∀ i, j < i → c.toNat < clsD cl i
 | 0, hj => absurd hj (Nat.not_lt_zero j)
 | i + 1, hj => by
  rcases Nat.lt_or_ge i cl.length with hi | hi
  ·rw [clsD_next (List.getElem?_eq_getElem hi)]
   rcases Nat.lt_or_ge j i with h1 | h1
   ·have := clsD_lt h i h1
    omega
   ·obtain rfl : i = j := by omega
    have h2 : cl[i] = c := Option.some.inj ((List.getElem?_eq_getElem hi).symm.trans h)
    rw [h2]
    omega
  ·have hjl := (List.getElem?_eq_some_iff.1 h).1
   have : clsD cl (i + 1) = clsD cl i := by
    unfold clsD
    rw [List.take_of_length_le hi, List.take_of_length_le (by omega)]
   rw [this]
   exact clsD_lt h i (by omega)
theorem clsA_lt {cl : List UInt8} (hl : cl.length = 256) {j : Nat} {c : UInt8} (h : cl[j]? = some c) : c.toNat < clsA cl :=
 clsD_lt h 256 (by have := (List.getElem?_eq_some_iff.1 h).1; omega)
theorem lt_256 {i : Nat} (h : i < 256) : i ≤ 4611686018427387904 := by omega
theorem sub_256 {i : Nat} (h : i < 256) : 256 - (i + 1) < 256 - i := by omega
theorem max_int' (m x : Nat) : Value.int .i64 (max (m : Int) ((x : Int) + 1)) = Value.int .i64 ((max m (x + 1) : Nat) : Int) := by
 congr 1
 omega
set_option maxHeartbeats 4000000 in
set_option maxRecDepth 1000000 in
theorem refClasses11_any (D : Dm) (cs : List Value) (w : World) (hv : DfaV w cs D) :
  Calls Try.prog 41 #[.agg cs.toArray] w fun e w' => e = .returned (.int .i64 (clsA D.cl : Int)) ∧ Below w.heap.size w w' := by
 obtain ⟨hl, vn, ve, vf, hcs, _, _, _⟩ := hv
 have HL := qH hl
 have HCS := qH hcs
 obtain ⟨cl, hcl⟩ : ∃ cl, cl = D.cl := ⟨_, rfl⟩
 rw [← hcl] at HL HCS ⊢
 clear hl hcs hcl
 go_enter Try.func41, Try.ntmps41
 go_wp2_with ((with_reducible refine atDst 1 ?_); refine wpList_box rfl 28 _ rfl cs rfl (Below.refl w.heap.size w) (Nat.le_refl _) ?_; intro w1 hk1 hb1 hs1 _; have K1 := qH hk1; have B1 := qH hb1; clear hk1 hb1 hs1; (try simp only [Act.put, qA, qB, qC]))
 go_loopw [3, 4] (fun v iv wl => ∃ i : Nat, i ≤ 256 ∧ iv = .int .i64 (i : Int) ∧ v = .int .i64 (clsD cl i : Int) ∧ wl = w1) (fun _ iv _ => 256 - (intOf iv).toNat)
 case atStart => exact ⟨0, Nat.zero_le _, by simp, by simp [clsD_zero], rfl⟩
 obtain ⟨i, hi, rfl, rfl, hw⟩ := hrel
 have hw2 := hw.symm
 subst hw2
 clear hw
 by_cases hin : i < 256
 ·have x1 : (i : Int) < 256 := Int.ofNat_lt.2 hin
  have HI := qH hin
  have HMI := qH (sub_256 hin)
  obtain ⟨c, hc⟩ : ∃ c, cl[i]? = some c := ⟨_, List.getElem?_eq_getElem (by rw [HL.out]; exact hin)⟩
  obtain ⟨x, hx⟩ : ∃ x, x = c.toNat := ⟨_, rfl⟩
  have HX2 := qH (show x < 256 by rw [hx]; exact c.toNat_lt)
  have hcx : w1.cell? ⟨w.heap.size, i, none⟩ = some (.int .u8 (x : Int)) := by
   rw [K1.out.cell i, HCS.out, dcl_cl HL.out hin, bvs_get _ _ _ hc, hx]
  obtain ⟨m, hm⟩ : ∃ m, m = clsD cl i := ⟨_, rfl⟩
  have HNX := qH (show max m (x + 1) = clsD cl (i + 1) by rw [clsD_next hc, hm, hx])
  rw [← hm]
  have e3 := wrap_one i (lt_256 hin)
  have e4 := wrap_one' i (lt_256 hin)
  have f3 := wrap_one x (lt_256 HX2.out)
  have f4 := wrap_one' x (lt_256 HX2.out)
  have g4 : IntKind.i64.wrap (x : Int) = (x : Int) := IntWalk.i64_in _ (by have := HX2.out; omega)
  clear hi hin hc hx hm
  go_wp2_with fail
  exact ⟨⟨i + 1, HI.out, by congr 1, by rw [← HNX.out]; exact max_int' m x, trivial⟩, by simpa [intOf] using HMI.out⟩
 ·obtain rfl : i = 256 := by omega
  have x1 : ¬ ((256 : Int) < 256) := Int.lt_irrefl _
  clear hi hin
  go_wp2_with fail
  go_ret
  exact ⟨rfl, B1.out⟩
structure MayD (D : Dm) : Prop where
 pos : 1 ≤ D.next.length
 few : D.next.length ≤ 2000
 ends : D.ends.length = D.next.length
 rows : ∀ r ∈ D.next, r.length = clsA D.cl
 to : ∀ r ∈ D.next, ∀ x ∈ r, 0 ≤ x ∧ x < (D.next.length : Int)
theorem DfaV.form {w : World} {cs : List Value} {D : Dm} (h : DfaV w cs D) : ∃ (An Ae : Option Addr) (cn ce : Nat) (vf : Nat → Value), D.cl.length = 256 ∧ cs = dcl D.cl (.slice An D.next.length cn) (.slice Ae D.ends.length ce) ∧
  Row w (.slice An D.next.length cn) ((List.range D.next.length).map vf) ∧ (∀ i r, D.next[i]? = some r → Row w (vf i) (nums .i64 r)) ∧ Row w (.slice Ae D.ends.length ce) (bools D.ends) := by
 obtain ⟨hl, vn, ve, vf, hcs, hn, hr, he⟩ := h
 have hn' := hn
 have he' := he
 obtain ⟨An, cn, rfl, _⟩ := hn
 obtain ⟨Ae, ce, rfl, _⟩ := he
 rw [show ((List.range D.next.length).map vf).length = D.next.length by simp] at hcs hn'
 rw [bools_length] at hcs he'
 exact ⟨An, Ae, cn, ce, vf, hl, hcs, hn', hr, he'⟩
theorem DfaV.size {w : World} {cs : List Value} {D : Dm} (h : DfaV w cs D) : (Try.prog.info? 28).map (·.size) = some cs.length := by
 obtain ⟨hl, vn, ve, vf, hcs, _⟩ := h
 rw [hcs]
 exact size_dfa hl
theorem clsA_le (cl : List UInt8) : clsA cl ≤ 256 := clsD_le cl 256
theorem lt_k256 {i k : Nat} (h : i < k) (hk : k ≤ 256) : i ≤ 4611686018427387904 := by omega
set_option maxHeartbeats 4000000 in
set_option maxRecDepth 1000000 in
theorem refMay11_any (D : Dm) (cs : List Value) (w : World) (hv : DfaV w cs D) (hm : MayD D) :
  Calls Try.prog 30 #[.agg cs.toArray] w fun e w' => e = .returned (.bool true) ∧ Below w.heap.size w w' := by
 have V0 := qH hv
 have HM := qH hm
 have HDS := qH hv.size
 obtain ⟨An, Ae, cn, ce, vf, hl, hcs, hn, hr, he⟩ := hv.form
 have HL := qH hl
 obtain ⟨n, hnn⟩ : ∃ n, n = D.next.length := ⟨_, rfl⟩
 have HN := qH hnn
 rw [hm.ends, ← hnn] at hcs
 rw [← hnn] at hn
 have HCS := qH hcs
 have HRN := qH hn
 have HR := qH hr
 have HNP := qH (show 1 ≤ n by rw [hnn]; exact hm.pos)
 have HNF := qH (show n ≤ 2000 by rw [hnn]; exact hm.few)
 obtain ⟨k, hk⟩ : ∃ k, k = clsA D.cl := ⟨_, rfl⟩
 have HK := qH hk
 have HK2 := qH (show k ≤ 256 by rw [hk]; exact clsA_le _)
 clear hv hm hl hcs hn hr he hnn hk
 go_enter Try.func30, Try.ntmps30
 go_wp2_with ((with_reducible refine atDst 1 ?_); refine wpList_box rfl 28 _ rfl cs rfl (Below.refl w.heap.size w) (Nat.le_refl _) ?_; intro w1 hk1 hb1 hs1 _; have K1 := qH hk1; have B1 := qH hb1; clear hk1 hb1 hs1; (try simp only [Act.put, qA, qB, qC]))
 have C256 := qH (show w1.cell? ⟨w.heap.size, 256, none⟩ = some (.slice An n cn) by rw [K1.out.cell 256, HCS.out]; exact dcl_n HL.out)
 refine sx_startB (B := w1.heap.size) (w0 := w1) (by kernel_rfl) (Below.refl _ _) (fun wd hwd hX => ?_)
 clear hwd
 refine sx_take (i := 0) (oi := ⟨some 7, _, _, _, _, _⟩) (v := ?_) rfl (by kernel_rfl) (by kernel_rfl) (by kernel_rfl) (fun _ _ _ h => h) rfl hX ?_ ?_; rotate_left; (intro W hW; go_simp; try with_reducible rfl); simp only [Act.put, qA, qB, qC]
 refine sx_take (i := 1) (oi := ⟨some 8, _, _, _, _, _⟩) (v := .slice An n cn) rfl (by kernel_rfl) (by kernel_rfl) (by kernel_rfl) (fun _ _ _ h => h) rfl hX (fun V hV => ld_inss (.tmp 7) rfl rfl ((hV.cell (p := ⟨w.heap.size, 256, none⟩) K1.out.lt).trans C256.out)) ?_; simp only [Act.put, qA, qB, qC]
 refine sx_take (i := 2) (oi := ⟨some 9, _, _, _, _, _⟩) (v := ?_) rfl (by kernel_rfl) (by kernel_rfl) (by kernel_rfl) (fun _ _ _ h => h) rfl hX ?_ ?_; rotate_left; (intro W hW; go_simp; try with_reducible rfl); simp only [Act.put, qA, qB, qC]
 refine sx_take (i := 3) (oi := ⟨some 10, _, _, _, _, _⟩) (v := .agg cs.toArray) rfl (by kernel_rfl) (by kernel_rfl) (by kernel_rfl) (fun _ _ _ h => h) rfl hX (ld_blk 28 _ rfl w.heap.size rfl 28 cs _ K1.out K1.out.lt Try.underlying28 rfl HDS.out) ?_; simp only [Act.put, qA, qB, qC]
 refine sx_actB (i := 4) (o := ⟨some 11, _, _, _, _, _⟩) rfl (by kernel_rfl) rfl hX (fun K hK => ?_)
 go_wp2_with fail
 refine (refClasses11_any D cs wd (V0.out.below (B1.out.trans (hX.mono B1.out.size)))).mono ?_
 rintro e w2 ⟨rfl, hb⟩
 rw [← HK.out]
 go_wp2_with fail
 refine hK _ _ (hb.mono hX.size) ?_
 clear hK K
 (try simp only [Act.put, qA, qB, qC])
 replace hX := hX.trans (hb.mono hX.size)
 clear hb
 refine sx_take (i := 5) (oi := ⟨some 3, _, _, _, _, _⟩) (v := ?_) rfl (by kernel_rfl) (by kernel_rfl) (by kernel_rfl) (fun _ _ _ h => h) rfl hX ?_ ?_; rotate_left; (intro W hW; go_simp; try with_reducible rfl); simp only [Act.put, qA, qB, qC]
 refine sx_take (i := 6) (oi := ⟨some 4, _, _, _, _, _⟩) (v := ?_) rfl (by kernel_rfl) (by kernel_rfl) (by kernel_rfl) (fun _ _ _ h => h) rfl hX ?_ ?_; rotate_left; (intro W hW; go_simp; try with_reducible rfl); simp only [Act.put, qA, qB, qC]
 refine wpAnyH_done (by kernel_rfl) ?_ _
 have B2 := qH (B1.out.trans (hX.mono B1.out.size))
 have K2 := qH (K1.out.below hX K1.out.lt)
 have c256 : w2.cell? ⟨w.heap.size, 256, none⟩ = some (.slice An n cn) := by rw [K2.out.cell 256, HCS.out]; exact dcl_n HL.out
 have c257 : w2.cell? ⟨w.heap.size, 257, none⟩ = some (.slice Ae n ce) := by rw [K2.out.cell 257, HCS.out]; exact dcl_e HL.out
 have d1 : decide ((n : Int) < 1) = false := decide_eq_false (by have := HNP.out; omega)
 have d2 : decide ((2000 : Int) < (n : Int)) = false := decide_eq_false (by have := HNF.out; omega)
 clear hX
 go_wp2_with fail
 go_loopw [5] (fun iv wl => ∃ i : Nat, i ≤ n ∧ iv = .int .i64 (i : Int) ∧ wl = w2) (fun iv _ => n - (intOf iv).toNat)
 case atStart => exact ⟨0, Nat.zero_le _, by simp, rfl⟩
 obtain ⟨i, hi, rfl, hw⟩ := hrel
 have hw2 := hw.symm
 subst hw2
 clear hw
 by_cases hin : i < n
 ·have x1 : (i : Int) < (n : Int) := Int.ofNat_lt.2 hin
  have HI := qH hin
  have HMI := qH (sub_next hin)
  have e3 := wrap_one i (lt_bigN hin HNF.out)
  have e4 := wrap_one' i (lt_bigN hin HNF.out)
  obtain ⟨r, hr⟩ : ∃ r, D.next[i]? = some r := ⟨_, List.getElem?_eq_getElem (by rw [← HN.out]; exact hin)⟩
  have HRM := qH (List.mem_of_getElem? hr)
  have HRL := qH (show r.length = k by rw [HM.out.rows r HRM.out, HK.out])
  have hri := (HR.out i r hr).below B2.out
  have HRI := qH hri
  obtain ⟨Ar, cr, hvr, _⟩ := hri
  rw [nums_length, HRL.out] at hvr
  obtain ⟨b, off, rfl, _, hcc⟩ := (HRN.out.below B2.out).at_ (by simp; exact Nat.lt_of_lt_of_le Nat.zero_lt_one HNP.out)
  have hci : w2.cell? ⟨b, off + i, none⟩ = some (.slice Ar k cr) := hcc i _ (by simp [hin, hvr])
  rw [hvr] at HRI
  clear hi hin hr hcc
  go_wp2_with fail
  go_loopw [6] (fun jv wl => ∃ j : Nat, j ≤ k ∧ jv = .int .i64 (j : Int) ∧ wl = w2) (fun jv _ => k - (intOf jv).toNat)
  case atStart => exact ⟨0, Nat.zero_le _, by simp, rfl⟩
  obtain ⟨j, hj, rfl, hw⟩ := hrel
  have hw2 := hw.symm
  subst hw2
  clear hw
  by_cases hjk : j < k
  ·have y1 : (j : Int) < (k : Int) := Int.ofNat_lt.2 hjk
   have HJ := qH hjk
   have HMJ := qH (sub_next hjk)
   have f3 := wrap_one j (lt_k256 hjk HK2.out)
   have f4 := wrap_one' j (lt_k256 hjk HK2.out)
   obtain ⟨x, hx⟩ : ∃ x, r[j]? = some x := ⟨_, List.getElem?_eq_getElem (by rw [HRL.out]; exact hjk)⟩
   have hto := HM.out.to r HRM.out x (List.mem_of_getElem? hx)
   obtain ⟨br, or, rfl, _, hcr⟩ := HRI.out.at_ (by rw [nums_length, HRL.out]; exact Nat.lt_of_le_of_lt (Nat.zero_le _) hjk)
   have hcx : w2.cell? ⟨br, or + j, none⟩ = some (.int .i64 x) := hcr j _ (by simp [nums, hx])
   have z1 : ¬ (x < 0) := by omega
   have z2 : ¬ ((n : Int) ≤ x) := by have := HN.out; omega
   clear hj hjk hx hcr hto
   go_wp2_with fail
   exact ⟨⟨j + 1, HJ.out, by congr 1, trivial⟩, by simpa [intOf] using HMJ.out⟩
  ·obtain rfl : j = k := by omega
   have y1 : ¬ ((j : Int) < (j : Int)) := Int.lt_irrefl _
   clear hj hjk
   go_wp2_with fail
   exact ⟨⟨i + 1, HI.out, by congr 1, trivial⟩, by simpa [intOf] using HMI.out⟩
 ·obtain rfl : i = n := by omega
  have x1 : ¬ ((i : Int) < (i : Int)) := Int.lt_irrefl _
  clear hi hin
  go_wp2_with fail
  go_ret
  exact ⟨rfl, B2.out⟩
end Go.Proofs.Ytbbodfpnneifgaa
