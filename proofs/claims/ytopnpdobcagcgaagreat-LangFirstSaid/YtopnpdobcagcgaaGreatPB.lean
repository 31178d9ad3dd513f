/-
  Texts of this proof, put together: (SetB) What the document's answer to byteset (Range, And, Not, List) answers and leaves. No statement is proved here. (RowS) A slice of sets of bytes: how it reads. No statement is proved here. (SetC) What the document's answer to byteset (SetLess, alike, Classes, Parts) answers and leaves. No statement is proved here. (SetS) Blocks of sets of bytes: made, read, written at one place. No statement is proved here. (SetQ) Sets of bytes, compared. No statement is proved here. (SetO) The line of sets of bytes: plain facts. No statement is proved here. (RegS) A region that draws its order, walked once, under whatever is kept by all its operations. No statement is proved here. (GrA) Draws and blocks of one's own alone: what it is, and laws of the walk. No statement is proved here.
-/
import Derived.Test.YtopnpdobcagcgaaGreatPA
import Derived.Deep.MidRow
import Derived.Deep.Slices
import Derived.ProofKit
import Derived.OpenShut
import Derived.ChangeOld
import Derived.DataReads
import Derived.Laws.MakeOwn
import Derived.Laws.IdiomCopy
import Derived.Sort.Grow
namespace Go.Proofs.YtopnpdobcagcgaaGreat
open Go.RowKit
set_option linter.unusedSimpArgs false
set_option linter.unusedVariables false
def tab (p : Nat → Bool) : List Bool := (List.range 256).map p
theorem tab_length (p : Nat → Bool) : (tab p).length = 256 := by simp [tab]
theorem tab_set (p : Nat → Bool) (j : Nat) (x : Bool) (hj : j < 256) : (bools (tab p)).set j (.bool x) = bools (tab fun b => if b = j then x else p b) := by
 apply List.ext_getElem
 ·simp [bools, tab]
 ·intro i h1 h2
  have hi : i < 256 := by simpa [bools, tab] using h1
  simp only [bools, tab, List.getElem_set, List.getElem_map, List.getElem_range]
  by_cases h : j = i
  ·subst h
   simp
  ·rw [if_neg h, if_neg (fun e => h e.symm)]
theorem tab_congr {p q : Nat → Bool} (h : ∀ b, b < 256 → p b = q b) : tab p = tab q := by
 unfold tab
 exact List.map_congr_left fun b hb => h b (List.mem_range.1 hb)
theorem where_tab (p : Nat → Bool) (w : World) :
  Calls Tryz.prog 79 #[.agg (bools (tab p)).toArray] w fun e w' => e = .returned (.agg (wds p).toArray) ∧ Below w.heap.size w w' := by
 have := refWhere_any (tab p) (tab_length p) w
 rwa [wds_congr (q := p) fun b hb => by simp [List.getD, tab, hb]] at this
theorem tab_zero : ∃ i : TypeInfo, Tryz.prog.info? 81 = some i ∧ i.zero = some (.agg (bools (tab fun _ => false)).toArray) := by
 have h : ((Tryz.prog.info? 81).map (·.zero)) = some (some (.agg (bools (tab fun _ => false)).toArray)) := by kernel_rfl
 cases hi : Tryz.prog.info? 81 with
 | none => rw [hi] at h; cases h
 | some i =>
  rw [hi] at h
  exact ⟨i, rfl, by simpa using h⟩
theorem tab_round {w : World} {g j : Nat} {t : TypeId} {r : Nat → Bool} (h : Blk w g t (bools (tab fun b => decide (b < j) && r b))) (hj : j < 256) :
  Blk (w.setCell ⟨g, j, none⟩ (.bool (r j))) g t (bools (tab fun b => decide (b < j + 1) && r b)) := by
 have := h.set j (.bool (r j))
 rw [tab_set _ _ _ hj] at this
 rw [tab_congr (q := fun b => if b = j then r j else decide (b < j) && r b) (fun b hb => ?_)]
 ·exact this
 ·by_cases hbj : b = j
  ·rw [if_pos hbj, hbj, decide_eq_true (by omega), Bool.true_and]
  ·rw [if_neg hbj]
   congr 1
   exact decide_eq_decide.2 (by omega)
theorem tab_done {w : World} {g : Nat} {t : TypeId} {r : Nat → Bool} (h : Blk w g t (bools (tab fun b => decide (b < 256) && r b))) : Blk w g t (bools (tab r)) := by
 rwa [tab_congr (q := r) fun b hb => by rw [decide_eq_true hb, Bool.true_and]] at h
set_option maxHeartbeats 2000000 in
set_option maxRecDepth 100000 in
theorem refRange_any (f t : Nat) (hf : f < 256) (ht : t < 256) (w : World) :
  Calls Tryz.prog 68 #[.int .u8 (f : Int), .int .u8 (t : Int)] w fun e w' => e = .returned (.agg (wds fun b => decide (f ≤ b ∧ b ≤ t)).toArray) ∧ Below w.heap.size w w' := by
 obtain ⟨r, hr⟩ : ∃ r : Nat → Bool, r = fun b => decide (f ≤ b ∧ b ≤ t) := ⟨_, rfl⟩
 rw [← hr]
 have HR := Lib.hid hr
 clear hr
 obtain ⟨i0, hi0, hz0⟩ := info_set
 obtain ⟨i1, hi1, hy0⟩ := tab_zero
 obtain ⟨z, hz⟩ : ∃ z : Nat → Bool, z = fun _ => false := ⟨_, rfl⟩
 rw [← hz] at hz0 hy0
 have HZ := Lib.hid hz
 clear hz
 have hw1 : IntKind.i64.wrap (f : Int) = (f : Int) := IntWalk.i64_in _ (by omega)
 have hw2 : IntKind.i64.wrap (t : Int) = (t : Int) := IntWalk.i64_in _ (by omega)
 go_enter Tryz.func68, Tryz.ntmps68
 go_wp2_with (first
  | ((with_reducible refine atDst 4 ?_); refine wpList_new rfl 26 rfl i0 _ (wds z) hi0 hz0 rfl (Below.refl w.heap.size w) (Nat.le_refl _) ?_; intro w1 hk1 hb1 hs1 _; have K1 := Lib.hid hk1; have B1 := Lib.hid hb1; clear hk1 hb1 hs1)
  | ((with_reducible refine atDst 5 ?_); refine wpList_new rfl 81 rfl i1 _ (bools (tab z)) hi1 hy0 rfl (Below.refl w1.heap.size w1) (Nat.le_refl _) ?_; intro w2 hk2 hb2 hs2 ho2; have K2 := Lib.hid hk2; have B2 := Lib.hid hb2; clear hk2 hb2 hs2 ho2))
 go_loopw [6] (fun i wl => ∃ j : Nat, f ≤ j ∧ (j ≤ f ∨ j ≤ t + 1) ∧ i = .int .i64 (j : Int) ∧ Blk wl w1.heap.size 81 (bools (tab fun b => decide (f ≤ b ∧ b < j))) ∧ Below w1.heap.size w1 wl) (fun i _ => 256 - (intOf i).toNat)
 case atStart => exact ⟨f, by omega, by omega, by simp, by rw [tab_congr (q := z) (fun b hb => by rw [HZ.out]; exact decide_eq_false (by omega))]; exact K2.out, B2.out⟩
 case round =>
  obtain ⟨j, hfj, hj, rfl, hk, hb⟩ := hrel
  have HK := Lib.hid hk
  have HB := Lib.hid hb
  clear hk hb
  by_cases hjl : j ≤ t
  ·have j1 : (j : Int) ≤ (t : Int) := by omega
   have hc := HK.out.cell j
   rw [bools_get _ _ (by rw [tab_length]; omega)] at hc
   have hfz := HK.out.frozen j
   have j2 : (j : Int) < 256 := by omega
   go_wp2_with fail
   refine ⟨⟨j + 1, by omega, by omega, by congr 1, ?_, HB.out.setCell (p := ⟨w1.heap.size, j, none⟩) (Nat.le_refl _) _⟩, by simp [intOf] <;> omega⟩
   have := HK.out.set j (.bool true)
   rw [tab_set _ _ _ (by omega)] at this
   rw [tab_congr (q := fun b => if b = j then true else decide (f ≤ b ∧ b < j)) (fun b hb => ?_)]
   ·exact this
   ·by_cases hbj : b = j
    ·rw [if_pos hbj]; exact decide_eq_true (by omega)
    ·rw [if_neg hbj]; exact decide_eq_decide.2 (by omega)
  ·have j1 : ¬ ((j : Int) ≤ (t : Int)) := by omega
   have hk9 := HK.out
   rw [tab_congr (q := r) (fun b hb => by rw [HR.out]; exact decide_eq_decide.2 (by omega))] at hk9
   have K9 := Lib.hid hk9
   have KA := Lib.hid (K1.out.below HB.out K1.out.lt)
   have B9 := Lib.hid (B1.out.trans (HB.out.mono B1.out.size))
   clear hk9 HK
   go_wp2_with ((with_reducible refine atDst 17 ?_); refine wpList_ldArr rfl 81 _ rfl w1.heap.size rfl 81 _ _ K9.out Tryz.underlying81 rfl (size_tab (tab_length _)) ?_)
   refine (where_tab r wr).mono ?_
   rintro e w4 ⟨rfl, hb4⟩
   have K10 := Lib.hid (Blk.below KA.out hb4 (Blk.lt KA.out))
   have B10 := Lib.hid (B9.out.trans (hb4.mono B9.out.size))
   clear hb4
   go_wp2_with ((with_reducible refine atStore 26 4 18 ?_); refine wpList_stBlk rfl 26 _ _ rfl w.heap.size (wds r) rfl rfl 26 _ K10.out (size_set r) rfl (wds_all _) B10.out (Nat.le_refl _) ?_; intro w5 hk5 hb5 hs5 _; have K5 := Lib.hid hk5; have B5 := Lib.hid hb5; clear hk5 hb5)
   refine bodyPost_ret (results_blk rfl _ _ w.heap.size 26 _ _ rfl K5.out Tryz.underlying26 rfl (size_set r)) rfl ?_
   exact ⟨rfl, B5.out⟩
/-! ### List -/
set_option maxHeartbeats 2000000 in
set_option maxRecDepth 100000 in
theorem refList_any (p : Nat → Bool) (w : World) :
  Calls Tryz.prog 58 #[.agg (wds p).toArray] w fun e w' => ∃ v, e = .returned v ∧ w'.ownsRow w.heap.size 5 1 v (memJ p 256).length (bvs (memJ p 256)) ∧ Below w.heap.size w w' := by
 obtain ⟨i1, hi1, hy0, hy1, hy2⟩ := infoP inf_u8
 go_enter Tryz.func58, Tryz.ntmps58
 go_wp2_with ((with_reducible refine atDst 1 ?_); refine wpList_box rfl 26 _ rfl (wds p) rfl (Below.refl w.heap.size w) (Nat.le_refl _) ?_; intro w1 hk1 hb1 hs1 _; have K1 := Lib.hid hk1; have B1 := Lib.hid hb1; clear hk1 hb1 hs1)
 go_loopw [3, 4] (fun v i wl => ∃ j : Nat, j ≤ 256 ∧ i = .int .i64 (j : Int) ∧ wl.ownsRow w1.heap.size 5 1 v (memJ p j).length (bvs (memJ p j)) ∧ Below w1.heap.size w1 wl) (fun _ i _ => 256 - (intOf i).toNat)
 case atStart => exact ⟨0, by omega, by simp, ownN _ _ _, Below.refl _ _⟩
 case round =>
  obtain ⟨j, hj, rfl, ho, hb⟩ := hrel
  have HO := Lib.hid ho
  have HB := Lib.hid hb
  clear ho hb
  by_cases hjl : j < 256
  ·have j1 : (j : Int) < 256 := by omega
   have hw8 : IntKind.u8.wrap (j : Int) = (j : Int) := IntWalk.u8_in _ (by omega)
   have KR := Lib.hid (K1.out.below HB.out K1.out.lt)
   go_wp2_with ((with_reducible refine atDst 9 ?_); refine wpList_ldArr rfl 26 _ rfl w.heap.size rfl 26 _ _ KR.out Tryz.underlying26 rfl (size_set p) ?_)
   refine (refHas_any p j hjl wr).mono ?_
   rintro e w2 ⟨rfl, hb2⟩
   have B2 := Lib.hid (HB.out.trans (hb2.mono HB.out.size))
   have O2 := Lib.hid (ownBelow HO.out hb2 (Nat.le_refl _))
   clear hb2
   have HLN := Lib.hid (memJ_len p j)
   cases hq : p j with
   | true =>
    have HM := Lib.hid (show memJ p (j + 1) = memJ p j ++ [UInt8.ofNat j] by rw [memJ_succ, hq]; rfl)
    clear hq
    have R1 := Lib.hid (rowB (n := 1) (show Blk (w2.alloc (.cells #[.int .u8 (j : Int)] 5)) w2.heap.size 5 (bvs [UInt8.ofNat j]) by
     have := Blk.new w2 5 (bvs [UInt8.ofNat j])
     rw [show bvs [UInt8.ofNat j] = [.int .u8 (j : Int)] from congrArg (fun x => [x]) (bv_ofNat hjl)] at this ⊢
     exact this) rfl (by omega))
    go_wp2_with ((with_reducible refine atDst 17 ?_); refine wpList_appR (w0 := w1) rfl (.tmp 13) (.tmp 16) 22 rfl 5 i1 (.int .u8 0) 1 Tryz.underlying22 hi1 hy0 hy1 hy2 rfl _ _ _ rfl (O2.out.alloc _) _ (bvs [UInt8.ofNat j]) rfl R1.out (bvs_one _) (by have := HLN.out; rw [bvs_length]; simp; omega) (by omega) (B2.out.alloc B2.out.size _) ?_; intro v3 w3 ho3 _ hb3 _; have O3 := Lib.hid ho3; have B3 := Lib.hid hb3; clear ho3 hb3)
    refine ⟨⟨j + 1, by omega, by congr 1, ?_, B3.out⟩, by simp [intOf] <;> omega⟩
    rw [HM.out, bvs_append, List.length_append]
    exact O3.out
   | false =>
    have HM := Lib.hid (show memJ p (j + 1) = memJ p j by rw [memJ_succ, hq]; rfl)
    clear hq
    go_wp2_with fail
    refine ⟨⟨j + 1, by omega, by congr 1, ?_, B2.out⟩, by simp [intOf] <;> omega⟩
    rw [HM.out]
    exact O2.out
  ·obtain rfl : j = 256 := by omega
   have j1 : ¬ ((256 : Int) < 256) := by omega
   have HO2 := Lib.hid (ownMono HO.out B1.out.size)
   have B9 := Lib.hid (B1.out.trans (HB.out.mono B1.out.size))
   clear HO
   go_wp2_with fail
   go_ret
   exact ⟨_, rfl, HO2.out, B9.out⟩
/-! ### Not -/
set_option maxHeartbeats 2000000 in
set_option maxRecDepth 100000 in
theorem refNot_any (p : Nat → Bool) (w : World) :
  Calls Tryz.prog 69 #[.agg (wds p).toArray] w fun e w' => e = .returned (.agg (wds fun b => !p b).toArray) ∧ Below w.heap.size w w' := by
 obtain ⟨r, hr⟩ : ∃ r : Nat → Bool, r = fun b => !p b := ⟨_, rfl⟩
 rw [← hr]
 have HR := Lib.hid hr
 clear hr
 obtain ⟨i0, hi0, hz0⟩ := info_set
 obtain ⟨i1, hi1, hy0⟩ := tab_zero
 obtain ⟨z, hz⟩ : ∃ z : Nat → Bool, z = fun _ => false := ⟨_, rfl⟩
 rw [← hz] at hz0 hy0
 have HZ := Lib.hid hz
 clear hz
 go_enter Tryz.func69, Tryz.ntmps69
 go_wp2_with (first
  | ((with_reducible refine atDst 1 ?_); refine wpList_box rfl 26 _ rfl (wds p) rfl (Below.refl w.heap.size w) (Nat.le_refl _) ?_; intro w1 hk1 hb1 hs1 _; have K1 := Lib.hid hk1; have B1 := Lib.hid hb1; clear hk1 hb1 hs1)
  | ((with_reducible refine atDst 2 ?_); refine wpList_new rfl 26 rfl i0 _ (wds z) hi0 hz0 rfl B1.out B1.out.size ?_; intro w2 hk2 hb2 hs2 ho2; have K2 := Lib.hid hk2; have B2 := Lib.hid hb2; have K1a := Lib.hid (show Blk w2 w.heap.size 26 (wds p) from (ho2 _ K1.out.lt).trans K1.out); clear hk2 hb2 hs2 ho2)
  | ((with_reducible refine atDst 3 ?_); refine wpList_new rfl 81 rfl i1 _ (bools (tab z)) hi1 hy0 rfl (Below.refl w2.heap.size w2) (Nat.le_refl _) ?_; intro w3 hk3 hb3 hs3 ho3; have K3 := Lib.hid hk3; have B3 := Lib.hid hb3; clear hk3 hb3 hs3 ho3))
 go_loopw [4] (fun i wl => ∃ j : Nat, j ≤ 256 ∧ i = .int .i64 (j : Int) ∧ Blk wl w2.heap.size 81 (bools (tab fun b => decide (b < j) && r b)) ∧ Below w2.heap.size w2 wl) (fun i _ => 256 - (intOf i).toNat)
 case atStart => exact ⟨0, by omega, by simp, by rw [tab_congr (q := z) (fun b hb => by rw [HZ.out]; simp)]; exact K3.out, B3.out⟩
 case round =>
  obtain ⟨j, hj, rfl, hk, hb⟩ := hrel
  have HK := Lib.hid hk
  have HB := Lib.hid hb
  clear hk hb
  by_cases hjl : j < 256
  ·have j1 : (j : Int) < 256 := by omega
   have hw8 : IntKind.u8.wrap (j : Int) = (j : Int) := IntWalk.u8_in _ (by omega)
   have KR := Lib.hid (K1a.out.below HB.out K1a.out.lt)
   go_wp2_with ((with_reducible refine atDst 10 ?_); refine wpList_ldArr rfl 26 _ rfl w.heap.size rfl 26 _ _ KR.out Tryz.underlying26 rfl (size_set p) ?_)
   refine (refHas_any p j hjl wr).mono ?_
   rintro e w4 ⟨rfl, hb4⟩
   obtain ⟨q, hq⟩ : ∃ q, q = p j := ⟨_, rfl⟩
   rw [← hq]
   have HQ := Lib.hid (show (!q) = r j by rw [hq, HR.out])
   have K4 := Lib.hid (HK.out.below hb4 HK.out.lt)
   have B4 := Lib.hid (HB.out.trans (hb4.mono HB.out.size))
   have hc := K4.out.cell j
   rw [bools_get _ _ (by rw [tab_length]; omega)] at hc
   have hfz := K4.out.frozen j
   clear hb4 hq
   go_wp2_with fail
   refine ⟨⟨j + 1, by omega, by congr 1, ?_, B4.out.setCell (p := ⟨w2.heap.size, j, none⟩) (Nat.le_refl _) _⟩, by simp [intOf] <;> omega⟩
   rw [HQ.out]
   exact tab_round K4.out hjl
  ·obtain rfl : j = 256 := by omega
   have j1 : ¬ ((256 : Int) < 256) := by omega
   have K9 := Lib.hid (tab_done HK.out)
   have KA := Lib.hid (K2.out.below HB.out K2.out.lt)
   have B9 := Lib.hid (B2.out.trans (HB.out.mono B2.out.size))
   clear HK
   go_wp2_with ((with_reducible refine atDst 16 ?_); refine wpList_ldArr rfl 81 _ rfl w2.heap.size rfl 81 _ _ K9.out Tryz.underlying81 rfl (size_tab (tab_length _)) ?_)
   refine (where_tab r wr).mono ?_
   rintro e w4 ⟨rfl, hb4⟩
   have K10 := Lib.hid (Blk.below KA.out hb4 (Blk.lt KA.out))
   have B10 := Lib.hid (B9.out.trans (hb4.mono B9.out.size))
   clear hb4
   go_wp2_with ((with_reducible refine atStore 26 2 17 ?_); refine wpList_stBlk rfl 26 _ _ rfl w1.heap.size (wds r) rfl rfl 26 _ K10.out (size_set r) rfl (wds_all _) B10.out B1.out.size ?_; intro w5 hk5 hb5 hs5 _; have K5 := Lib.hid hk5; have B5 := Lib.hid hb5; clear hk5 hb5)
   refine bodyPost_ret (results_blk rfl _ _ w1.heap.size 26 _ _ rfl K5.out Tryz.underlying26 rfl (size_set r)) rfl ?_
   exact ⟨rfl, B5.out⟩
theorem ld_blk {P : Program} {a : Act} {oi : Oper} {B : Nat} {w0 : World} (ty : TypeId) (x : Operand) (ho : oi.op = .load ty x) (g : Nat) (hx : a.eval x = .pointer (some ⟨g, 0, none⟩)) (t : TypeId) (cs : List Value) (d : TypeDesc)
  (hg : Blk w0 g t cs) (hB : g < B) (hu : P.underlying ty = some d) (hd : (match d with | .struct _ | .array _ _ => true | _ => false) = true) (hi : (P.info? ty).map (·.size) = some cs.length) :
  ∀ W, Below B w0 W → (execOp a.eval oi).run P W = .ok (.value (.agg cs.toArray)) W := by
 intro W hW
 have hl := run_loadVar_row (P := P) W g t ty cs.toArray (0, 0) d (hg.below hW hB) hu hd (by simpa using hi)
 simp [execOp, ho, hx, Instr.loadAt, Instr.sureAddr, asAddr, hl]
/-! ### Or -/
theorem wds_or (p q : Nat → Bool) : (wds fun b => decide (UInt8.ofNat b ∈ memJ p 256 ++ memJ q 256)) = wds fun b => p b || q b := by
 refine wds_congr fun b hb => ?_
 have h1 := memJ_mem p b hb
 have h2 := memJ_mem q b hb
 rw [← h1, ← h2, Bool.eq_iff_iff, Bool.or_eq_true, decide_eq_true_iff, decide_eq_true_iff, decide_eq_true_iff, List.mem_append]
set_option maxHeartbeats 2000000 in
set_option maxRecDepth 100000 in
theorem refOr_any (p q : Nat → Bool) (w : World) :
  Calls Tryz.prog 36 #[.agg (wds p).toArray, .agg (wds q).toArray] w fun e w' => e = .returned (.agg (wds fun b => p b || q b).toArray) ∧ Below w.heap.size w w' := by
 obtain ⟨r, hr⟩ : ∃ r : Nat → Bool, r = fun b => p b || q b := ⟨_, rfl⟩
 have hor := wds_or p q
 rw [← hr] at hor ⊢
 have HR := Lib.hid hor
 clear hr hor
 obtain ⟨i0, hi0, hz0⟩ := info_set
 obtain ⟨i1, hi1, hy0, hy1, hy2⟩ := infoP inf_u8
 obtain ⟨z, hz⟩ : ∃ z : Nat → Bool, z = fun _ => false := ⟨_, rfl⟩
 rw [← hz] at hz0
 clear hz
 have LP := Lib.hid (memJ_len p 256)
 have LQ := Lib.hid (memJ_len q 256)
 go_enter Tryz.func36, Tryz.ntmps36
 go_wp2_with (first
  | ((with_reducible refine atDst 2 ?_); refine wpList_box rfl 26 _ rfl (wds p) rfl (Below.refl w.heap.size w) (Nat.le_refl _) ?_; intro w1 hk1 hb1 hs1 _; have K1 := Lib.hid hk1; have B1 := Lib.hid hb1; clear hk1 hb1 hs1)
  | ((with_reducible refine atDst 3 ?_); refine wpList_box rfl 26 _ rfl (wds q) rfl B1.out B1.out.size ?_; intro w2 hk2 hb2 hs2 ho2; have L2 := Lib.hid hk2; have B2 := Lib.hid hb2; have K2 := Lib.hid (show Blk w2 w.heap.size 26 (wds p) from (ho2 _ K1.out.lt).trans K1.out); clear hk2 hb2 hs2 ho2)
  | ((with_reducible refine atDst 4 ?_); refine wpList_new rfl 26 rfl i0 _ (wds z) hi0 hz0 rfl B2.out B2.out.size ?_; intro w3 hk3 hb3 hs3 ho3; have M3 := Lib.hid hk3; have B3 := Lib.hid hb3; have K3 := Lib.hid (show Blk w3 w.heap.size 26 (wds p) from (ho3 _ K2.out.lt).trans K2.out); have L3 := Lib.hid (show Blk w3 w1.heap.size 26 (wds q) from (ho3 _ L2.out.lt).trans L2.out); clear hk3 hb3 hs3 ho3))
 refine sx_startB (B := w2.heap.size) (w0 := w3) (by kernel_rfl) (Below.refl _ _) (fun wd hwd hX => ?_)
 have MD := Lib.hid (show Blk wd w2.heap.size 26 (wds z) by rw [hwd]; exact M3.out.drew)
 have SD := Lib.hid (Nat.le_trans (Nat.le_of_lt M3.out.lt) hX.size)
 have BD := Lib.hid (show Below w.heap.size w wd by rw [hwd]; exact B3.out.drew)
 clear hwd
 refine sx_take (i := 0) (oi := ⟨some 5, _, _, _, _, _⟩) (v := .agg (wds p).toArray) rfl (by kernel_rfl) (by kernel_rfl) (by kernel_rfl) (fun _ _ _ h => h) rfl hX (ld_blk 26 _ rfl w.heap.size rfl 26 _ _ K3.out K2.out.lt Tryz.underlying26 rfl (size_set p)) ?_
 simp only [Act.put, qA, qB, qC]
 refine sx_take (i := 2) (oi := ⟨some 7, _, _, _, _, _⟩) (v := .agg (wds q).toArray) rfl (by kernel_rfl) (by kernel_rfl) (by kernel_rfl) (fun _ _ _ h => h) rfl hX (ld_blk 26 _ rfl w1.heap.size rfl 26 _ _ L3.out L2.out.lt Tryz.underlying26 rfl (size_set q)) ?_
 simp only [Act.put, qA, qB, qC]
 refine sx_actB (i := 1) (o := ⟨some 6, _, _, _, _, _⟩) rfl (by kernel_rfl) rfl hX (fun K hK => ?_)
 go_wp2_with fail
 refine (refList_any p wd).mono ?_
 rintro e w5 ⟨v5, rfl, ho5, hb5⟩
 refine hK _ _ (hb5.mono SD.out) ?_
 clear hK K
 replace hX := hX.trans (hb5.mono SD.out)
 have O5 := Lib.hid ho5
 have M5 := Lib.hid (MD.out.below hb5 MD.out.lt)
 have S5 := Lib.hid (Nat.le_trans SD.out hb5.size)
 have BB5 := Lib.hid (BD.out.trans (hb5.mono BD.out.size))
 have D5 := Lib.hid hb5.size
 clear ho5 hb5
 refine sx_actB (i := 3) (o := ⟨some 8, _, _, _, _, _⟩) rfl (by kernel_rfl) rfl hX (fun K hK => ?_)
 go_wp2_with fail
 refine (refList_any q w5).mono ?_
 rintro e w6 ⟨v6, rfl, ho6, hb6⟩
 refine hK _ _ (hb6.mono S5.out) ?_
 clear hK K
 replace hX := hX.trans (hb6.mono S5.out)
 have O6 := Lib.hid (ownBelow O5.out hb6 (Nat.le_refl _))
 have R6 := Lib.hid (Row.of_own ho6)
 have M6 := Lib.hid (M5.out.below hb6 M5.out.lt)
 have S6 := Lib.hid (Nat.le_trans S5.out hb6.size)
 have BB6 := Lib.hid (BB5.out.trans (hb6.mono BB5.out.size))
 have D6 := Lib.hid (Nat.le_trans D5.out hb6.size)
 clear ho6 hb6
 refine sx_actB (i := 4) (o := ⟨some 9, _, _, _, _, _⟩) rfl (by kernel_rfl) rfl hX (fun K hK => ?_)
 refine wp_appG (base := wd.heap.size) (.tmp 6) (.tmp 8) 22 rfl 5 i1 (.int .u8 0) 1 Tryz.underlying22 hi1 hy0 hy1 hy2 rfl _ _ _ rfl O6.out _ (bvs (memJ q 256)) rfl R6.out (bvs_one _) (by have := LP.out; have := LQ.out; rw [bvs_length]; omega) (by omega) D6.out ?_
 intro v7 w7 ho7 hg7
 have hb7 : Below wd.heap.size w6 w7 := (Below.refl _ _).grown hg7 D6.out (own_above O6.out)
 refine hK _ _ (hb7.mono SD.out) ?_
 clear hK K
 replace hX := hX.trans (hb7.mono SD.out)
 have R7 := Lib.hid (Row.of_own ho7)
 have M7 := Lib.hid (M6.out.below hb7 MD.out.lt)
 have S7 := Lib.hid (Nat.le_trans S6.out hb7.size)
 have BB7 := Lib.hid (BB6.out.trans (hb7.mono BD.out.size))
 clear ho7 hg7 hb7
 refine sx_actB (i := 5) (o := ⟨some 10, _, _, _, _, _⟩) rfl (by kernel_rfl) rfl hX (fun K hK => ?_)
 go_wp2_with fail
 refine (refOf_any v7 (memJ p 256 ++ memJ q 256) w7 (by rw [bvs_append]; exact R7.out) (by have := LP.out; have := LQ.out; rw [List.length_append]; omega)).mono ?_
 rintro e w8 ⟨rfl, hb8⟩
 rw [HR.out]
 refine hK _ _ (hb8.mono S7.out) ?_
 clear hK K
 replace hX := hX.trans (hb8.mono S7.out)
 have M8 := Lib.hid (M7.out.below hb8 M7.out.lt)
 have BB8 := Lib.hid (BB7.out.trans (hb8.mono BB7.out.size))
 clear hb8
 refine sx_actB (i := 6) (o := ⟨none, _, _, _, _, _⟩) rfl (by kernel_rfl) rfl hX (fun K hK => ?_)
 refine wp_stBlk 26 _ _ rfl w2.heap.size (wds r) rfl rfl 26 _ M8.out (size_set r) rfl (wds_all _) BB8.out B2.out.size ?_
 intro w9 hk9 hb9 hs9 ho9 hbs9
 refine hK _ _ (hbs9 _ (Nat.le_refl _)) ?_
 clear hK K
 refine wpAnyH_done (by kernel_rfl) ?_ _
 go_wp2_with fail
 refine bodyPost_ret (results_blk rfl _ _ w2.heap.size 26 _ _ rfl hk9 Tryz.underlying26 rfl (size_set r)) rfl ?_
 exact ⟨rfl, hb9⟩
end Go.Proofs.YtopnpdobcagcgaaGreat
namespace Go.Proofs.YtopnpdobcagcgaaGreat
open Go.RowKit Go.ChangeShapes Go.WideShapes
set_option linter.unusedSimpArgs false
set_option linter.unusedVariables false
def RowS (w : World) (v : Value) (ps : List (Nat → Bool)) : Prop :=
 ∃ A cap, v = .slice A ps.length cap ∧ ps.length ≤ cap ∧ cap ≤ maxLen ∧ (A = none → cap = 0) ∧
  (ps ≠ [] → ∃ b off, A = some ⟨b, off, none⟩ ∧ b < w.heap.size ∧ ∀ i p, ps[i]? = some p → w.rangeAt b (off + i * 4) (wds p))
theorem RowS.nil (w : World) : RowS w (.slice none 0 0) [] := ⟨none, 0, rfl, Nat.le_refl _, Nat.zero_le _, fun _ => rfl, fun h => absurd rfl h⟩
theorem range_below {w w' : World} {B b o : Nat} {cs : List Value} (h : w.rangeAt b o cs) (hb : Below B w w') (hB : b < B) : w'.rangeAt b o cs :=
 fun j v hv => (hb.cell (p := ⟨b, o + j, none⟩) hB).trans (h j v hv)
theorem RowS.below {w w' : World} {v : Value} {ps : List (Nat → Bool)} (h : RowS w v ps) (hb : Below w.heap.size w w') : RowS w' v ps := by
 obtain ⟨A, cap, hv, h1, h2, h0, h3⟩ := h
 refine ⟨A, cap, hv, h1, h2, h0, fun hne => ?_⟩
 obtain ⟨b, off, hA, hlt, hc⟩ := h3 hne
 exact ⟨b, off, hA, Nat.lt_of_lt_of_le hlt hb.size, fun i p hp => range_below (hc i p hp) hb hlt⟩
theorem RowS.at_ {w : World} {A : Option Addr} {n cap : Nat} {ps : List (Nat → Bool)} (h : RowS w (.slice A n cap) ps) (hne : 0 < ps.length) : ∃ b off, A = some ⟨b, off, none⟩ ∧ b < w.heap.size ∧ ∀ i p, ps[i]? = some p → w.rangeAt b (off + i * 4) (wds p) := by
 obtain ⟨A', cap', he, _, _, _, h3⟩ := h
 injection he with hA _ _
 subst hA
 exact h3 (by rintro rfl; simp at hne)
theorem RowS.len {w : World} {A : Option Addr} {n cap : Nat} {ps : List (Nat → Bool)} (h : RowS w (.slice A n cap) ps) : n = ps.length ∧ n ≤ cap ∧ cap ≤ maxLen := by
 obtain ⟨A', cap', he, h1, h2, h0, _⟩ := h
 injection he with hA hn hc
 subst hn
 subst hc
 exact ⟨rfl, h1, h2⟩
theorem ld_mid {P : Program} {a : Act} {oi : Oper} {B : Nat} {w0 : World} (ty : TypeId) (x : Operand) (ho : oi.op = .load ty x) (b o : Nat) (hx : a.eval x = .pointer (some ⟨b, o, none⟩)) (cs : List Value) (d : TypeDesc)
  (hg : w0.rangeAt b o cs) (hB : b < B) (hu : P.underlying ty = some d) (hd : d.isRow = true) (hi : (P.info? ty).map (·.size) = some cs.length) :
  ∀ W, Below B w0 W → (execOp a.eval oi).run P W = .ok (.value (.agg cs.toArray)) W := by
 intro W hW
 have hl := run_loadAt_mid (P := P) W b o ty cs d (range_below hg hW hB) hu hd hi
 simp only [execOp, ho, hx, Sem.run_bind, hl, Result.andThen_ok, Sem.run_pure]
end Go.Proofs.YtopnpdobcagcgaaGreat
namespace Go.Proofs.YtopnpdobcagcgaaGreat
open Go.RowKit
set_option linter.unusedSimpArgs false
set_option linter.unusedVariables false
def lessS (p q : Nat → Bool) : Bool := match (List.range 256).find? fun b => p b != q b with
 | some b => p b
 | none => false
theorem lessS_at {p q : Nat → Bool} {j : Nat} (hj : j < 256) (h : ∀ b, b < j → p b = q b) (hne : p j ≠ q j) : lessS p q = p j := by
 have : (List.range 256).find? (fun b => p b != q b) = some j := by
  rw [List.find?_range_eq_some]
  exact ⟨by simpa using hne, List.mem_range.2 hj, fun b hb => by simp [h b hb]⟩
 unfold lessS
 rw [this]
theorem lessS_none {p q : Nat → Bool} (h : ∀ b, b < 256 → p b = q b) : lessS p q = false := by
 have : (List.range 256).find? (fun b => p b != q b) = none := by
  rw [List.find?_eq_none]
  intro b hb
  simp [h b (List.mem_range.1 hb)]
 unfold lessS
 rw [this]
set_option maxHeartbeats 2000000 in
set_option maxRecDepth 100000 in
theorem refSetLess_any (p q : Nat → Bool) (w : World) :
  Calls Tryz.prog 87 #[.agg (wds p).toArray, .agg (wds q).toArray] w fun e w' => e = .returned (.bool (lessS p q)) ∧ Below w.heap.size w w' := by
 go_enter Tryz.func87, Tryz.ntmps87
 go_wp2_with (first
  | ((with_reducible refine atDst 2 ?_); refine wpList_box rfl 26 _ rfl (wds p) rfl (Below.refl w.heap.size w) (Nat.le_refl _) ?_; intro w1 hk1 hb1 hs1 _; have K1 := Lib.hid hk1; have B1 := Lib.hid hb1; clear hk1 hb1 hs1)
  | ((with_reducible refine atDst 3 ?_); refine wpList_box rfl 26 _ rfl (wds q) rfl B1.out B1.out.size ?_; intro w2 hk2 hb2 hs2 ho2; have L2 := Lib.hid hk2; have B2 := Lib.hid hb2; have K2 := Lib.hid (show Blk w2 w.heap.size 26 (wds p) from (ho2 _ K1.out.lt).trans K1.out); clear hk2 hb2 hs2 ho2))
 go_loopw [5] (fun i wl => ∃ j : Nat, j ≤ 256 ∧ i = .int .i64 (j : Int) ∧ (∀ b, b < j → p b = q b) ∧ Below w2.heap.size w2 wl) (fun i _ => 256 - (intOf i).toNat)
 case atStart => exact ⟨0, by omega, by simp, fun b hb => by omega, Below.refl _ _⟩
 case round =>
  obtain ⟨j, hj, rfl, hpq, hb⟩ := hrel
  have HPQ := Lib.hid hpq
  have HB := Lib.hid hb
  clear hpq hb
  by_cases hjl : j < 256
  ·have j1 : (j : Int) < 256 := by omega
   have hw8 : IntKind.u8.wrap (j : Int) = (j : Int) := IntWalk.u8_in _ (by omega)
   have KR := Lib.hid (K2.out.below HB.out K2.out.lt)
   have LR := Lib.hid (L2.out.below HB.out L2.out.lt)
   have SR := Lib.hid HB.out.size
   go_wp2_with fail
   refine sx_startB (B := w2.heap.size) (w0 := wr) (by kernel_rfl) (Below.refl _ _) (fun wd hwd hX => ?_)
   have SD := Lib.hid (Nat.le_trans SR.out hX.size)
   clear hwd
   refine sx_take (i := 0) (oi := ⟨some 10, _, _, _, _, _⟩) (v := .agg (wds p).toArray) rfl (by kernel_rfl) (by kernel_rfl) (by kernel_rfl) (fun _ _ _ h => h) rfl hX (ld_blk 26 _ rfl w.heap.size rfl 26 _ _ KR.out K2.out.lt Tryz.underlying26 rfl (size_set p)) ?_
   simp only [Act.put, qA, qB, qC]
   refine sx_take (i := 4) (oi := ⟨some 14, _, _, _, _, _⟩) (v := .agg (wds q).toArray) rfl (by kernel_rfl) (by kernel_rfl) (by kernel_rfl) (fun _ _ _ h => h) rfl hX (ld_blk 26 _ rfl w1.heap.size rfl 26 _ _ LR.out L2.out.lt Tryz.underlying26 rfl (size_set q)) ?_
   simp only [Act.put, qA, qB, qC]
   refine sx_take (i := 1) (oi := ⟨some 11, _, _, _, _, _⟩) (v := ?_) rfl (by kernel_rfl) (by kernel_rfl) (by kernel_rfl) (fun _ _ _ h => h) rfl hX ?_ ?_; rotate_left; (intro W hW; go_simp; try with_reducible rfl); simp only [Act.put, qA, qB, qC]
   refine sx_take (i := 2) (oi := ⟨some 12, _, _, _, _, _⟩) (v := ?_) rfl (by kernel_rfl) (by kernel_rfl) (by kernel_rfl) (fun _ _ _ h => h) rfl hX ?_ ?_; rotate_left; (intro W hW; go_simp; try with_reducible rfl); simp only [Act.put, qA, qB, qC]
   refine sx_take (i := 5) (oi := ⟨some 15, _, _, _, _, _⟩) (v := ?_) rfl (by kernel_rfl) (by kernel_rfl) (by kernel_rfl) (fun _ _ _ h => h) rfl hX ?_ ?_; rotate_left; (intro W hW; go_simp; try with_reducible rfl); simp only [Act.put, qA, qB, qC]
   refine sx_take (i := 6) (oi := ⟨some 16, _, _, _, _, _⟩) (v := ?_) rfl (by kernel_rfl) (by kernel_rfl) (by kernel_rfl) (fun _ _ _ h => h) rfl hX ?_ ?_; rotate_left; (intro W hW; go_simp; try with_reducible rfl); simp only [Act.put, qA, qB, qC]
   refine sx_actB (i := 3) (o := ⟨some 13, _, _, _, _, _⟩) rfl (by kernel_rfl) rfl hX (fun K hK => ?_)
   go_wp2_with fail
   refine (refHas_any p j hjl wd).mono ?_
   rintro e w5 ⟨rfl, hb5⟩
   refine hK _ _ (hb5.mono SD.out) ?_
   clear hK K
   replace hX := hX.trans (hb5.mono SD.out)
   have S5 := Lib.hid (Nat.le_trans SD.out hb5.size)
   clear hb5
   refine sx_actB (i := 7) (o := ⟨some 17, _, _, _, _, _⟩) rfl (by kernel_rfl) rfl hX (fun K hK => ?_)
   go_wp2_with fail
   refine (refHas_any q j hjl w5).mono ?_
   rintro e w6 ⟨rfl, hb6⟩
   refine hK _ _ (hb6.mono S5.out) ?_
   clear hK K
   replace hX := hX.trans (hb6.mono S5.out)
   have K6 := Lib.hid (KR.out.below hX K2.out.lt)
   have B6 := Lib.hid (HB.out.trans hX)
   clear hb6
   obtain ⟨x, hx⟩ : ∃ x, x = p j := ⟨_, rfl⟩
   obtain ⟨y, hy⟩ : ∃ y, y = q j := ⟨_, rfl⟩
   rw [← hx, ← hy]
   have HXX := Lib.hid hx
   have HYY := Lib.hid hy
   clear hx hy
   by_cases hxy : x = y
   ·have hne : (x == y) = true := by simp [hxy]
    have HE := Lib.hid hxy
    clear hxy
    refine sx_take (i := 8) (oi := ⟨some 18, _, _, _, _, _⟩) (v := ?_) rfl (by kernel_rfl) (by kernel_rfl) (by kernel_rfl) (fun _ _ _ h => h) rfl hX ?_ ?_; rotate_left; (intro W hW; go_simp; try with_reducible rfl); simp only [Act.put, qA, qB, qC]
    refine wpAnyH_done (by kernel_rfl) ?_ _
    go_wp2_with fail
    refine ⟨⟨j + 1, by omega, by congr 1, fun b hb => ?_, B6.out⟩, by simp [intOf] <;> omega⟩
    rcases Nat.lt_or_ge b j with h | h
    ·exact HPQ.out b h
    ·obtain rfl : b = j := by omega
     rw [← HXX.out, ← HYY.out, HE.out]
   ·have hne : (x == y) = false := by simpa using hxy
    have HL := Lib.hid (lessS_at hjl HPQ.out (by rw [← HXX.out, ← HYY.out]; exact hxy))
    clear hxy
    refine sx_take (i := 8) (oi := ⟨some 18, _, _, _, _, _⟩) (v := ?_) rfl (by kernel_rfl) (by kernel_rfl) (by kernel_rfl) (fun _ _ _ h => h) rfl hX ?_ ?_; rotate_left; (intro W hW; go_simp; try with_reducible rfl); simp only [Act.put, qA, qB, qC]
    refine wpAnyH_done (by kernel_rfl) ?_ _
    go_wp2_with ((with_reducible refine atDst 19 ?_); refine wpList_ldArr rfl 26 _ rfl w.heap.size rfl 26 _ _ K6.out Tryz.underlying26 rfl (size_set p) ?_)
    refine (refHas_any p j hjl w6).mono ?_
    rintro e w7 ⟨rfl, hb7⟩
    have B7 := Lib.hid ((B2.out.trans (B6.out.mono B2.out.size)).trans (hb7.mono (Nat.le_trans (Nat.le_trans B2.out.size HB.out.size) hX.size)))
    clear hb7
    go_wp2_with fail
    go_ret
    rw [HL.out]
    exact ⟨rfl, B7.out⟩
  ·obtain rfl : j = 256 := by omega
   have j1 : ¬ ((256 : Int) < 256) := by omega
   have HL := Lib.hid (lessS_none HPQ.out)
   go_wp2_with fail
   go_ret
   rw [HL.out]
   exact ⟨rfl, B2.out.trans (HB.out.mono B2.out.size)⟩
end Go.Proofs.YtopnpdobcagcgaaGreat
namespace Go.Proofs.YtopnpdobcagcgaaGreat
open Go.RowKit
set_option linter.unusedSimpArgs false
set_option linter.unusedVariables false
def sets (qs : List (Nat → Bool)) : List Value := qs.flatMap wds
theorem sets_cons (q : Nat → Bool) (qs : List (Nat → Bool)) : sets (q :: qs) = wds q ++ sets qs := rfl
theorem sets_get : ∀ {qs : List (Nat → Bool)} {k : Nat} {q : Nat → Bool}, qs[k]? = some q → ∀ i, i < 4 → (sets qs)[k * 4 + i]? = (wds q)[i]?
 | [], k, q, h, _, _ => by simp at h
 | p :: r, 0, q, h, i, hi => by
  have : p = q := by simpa using h
  subst this
  rw [sets_cons, List.getElem?_append_left (by rw [wds_length]; omega), Nat.zero_mul, Nat.zero_add]
 | p :: r, k + 1, q, h, i, hi => by
  have h' : r[k]? = some q := by simpa using h
  rw [sets_cons, List.getElem?_append_right (by rw [wds_length]; omega), wds_length, show (k + 1) * 4 + i - 4 = k * 4 + i from by omega]
  exact sets_get h' i hi
theorem Blk.range {w : World} {g : Nat} {t : TypeId} {qs : List (Nat → Bool)} (h : Blk w g t (sets qs)) {k : Nat} {q : Nat → Bool} (hq : qs[k]? = some q) : w.rangeAt g (k * 4) (wds q) := by
 intro j v hv
 have hj : j < 4 := by
  have := (List.getElem?_eq_some_iff.1 hv).1
  rwa [wds_length] at this
 rw [h.cell, sets_get hq j hj, hv]
theorem Blk.there {w : World} {g o n : Nat} {t : TypeId} {cs : List Value} (h : Blk w g t cs) (ho : o + n ≤ cs.length) : w.there g o n := by
 intro j hj
 refine ⟨?_, h.frozen _⟩
 rw [h.cell, List.getElem?_eq_getElem (by omega)]
 rfl
theorem splice_cons {cs : List Value} {o : Nat} {v : Value} {r : List Value} (h : o + (r.length + 1) ≤ cs.length) : splice (cs.set o v) (o + 1) r = splice cs o (v :: r) := by
 unfold splice
 rw [List.take_set, List.drop_set, if_pos (by omega), List.length_cons]
 have ho : o < cs.length := by omega
 rw [List.take_succ_eq_append_getElem ho, List.set_append_right _ _ (by simp; omega)]
 simp only [List.length_take, Nat.min_eq_left (Nat.le_of_lt ho), Nat.sub_self, List.set_cons_zero, List.append_assoc, List.cons_append, List.nil_append]
 rw [show o + 1 + r.length = o + (r.length + 1) from by omega]
theorem Blk.setCells {g : Nat} {t : TypeId} : ∀ {vs : List Value} {w : World} {cs : List Value} {o : Nat}, Blk w g t cs → o + vs.length ≤ cs.length → Blk (w.setCells g o vs) g t (splice cs o vs)
 | [], w, cs, o, h, _ => by simpa [World.setCells, splice] using h
 | v :: r, w, cs, o, h, hl => by
  have hl' : o + (r.length + 1) ≤ cs.length := by simpa using hl
  have := Blk.setCells (vs := r) (o := o + 1) (h.set o v) (by rw [List.length_set]; omega)
  rw [splice_cons hl'] at this
  exact this
section
variable {P : Program} {w : World} {ops : Array Oper} {rest : List Oper} {o : Oper} {a : Act} {Q : Exit → Act → World → Prop}
end
end Go.Proofs.YtopnpdobcagcgaaGreat
namespace Go.Proofs.YtopnpdobcagcgaaGreat
open Go.RowKit
set_option linter.unusedSimpArgs false
set_option linter.unusedVariables false
theorem all_range_int : ∀ (xs ys : List Int), xs.length = ys.length → ((List.range xs.length).all fun i => xs.getD i 0 == ys.getD i 0) = (xs == ys)
 | [], [], _ => rfl
 | x :: xs, y :: ys, h => by
  have ih := all_range_int xs ys (by simpa using h)
  rw [List.length_cons, List.range_succ_eq_map, List.all_cons, List.all_map]
  simp only [List.getD_cons_zero, Function.comp_def, List.getD_cons_succ, ih]
  simp [List.cons_beq_cons]
 | [], _ :: _, h => by simp at h
 | _ :: _, [], h => by simp at h
section
variable {P : Program} (w : World)
theorem run_equalIn_nums (d : Nat) (t e : TypeId) (n : Nat) (k : IntKind) (ht : P.underlying t = some (.array n e)) (he : P.underlying e = some (.int k)) (hsz : ∀ w, (sizeOf e).run P w = .ok 1 w)
  (xs ys : List Int) (hx : xs.length = n) (hy : ys.length = n) :
  (Op.equalIn (d + 2) t (.agg (nums k xs).toArray) (.agg (nums k ys).toArray)).run P w = .ok (xs == ys) w := by
 rw [← all_range_int xs ys (hx.trans hy.symm), hx, List.range_eq_range', Op.equalIn]
 simp only [Sem.run_bind, run_underlying ht, Result.andThen_ok, hsz, Std.Legacy.Range.forIn_eq_forIn_range', Std.Legacy.Range.size, Nat.sub_zero, Nat.add_sub_cancel, Nat.div_one]
 have hl : ∀ i ∈ List.range' 0 n 1, i < n := fun i hi => by simpa using (List.mem_range'_1.1 hi).2
 generalize List.range' 0 n 1 = l at hl ⊢
 induction l with
 | nil => simp
 | cons i l ih =>
  have hi : i < n := hl i (by simp)
  have px : (part e (nums k xs).toArray (i * 1)).run P w = .ok (.int k (xs.getD i 0)) w := by
   simp [part, isAgg, run_underlying he, List.getD, nums, List.getElem?_eq_getElem (show i < xs.length by omega)]
  have py : (part e (nums k ys).toArray (i * 1)).run P w = .ok (.int k (ys.getD i 0)) w := by
   simp [part, isAgg, run_underlying he, List.getD, nums, List.getElem?_eq_getElem (show i < ys.length by omega)]
  have pe : (Op.equalIn (d + 1) e (.int k (xs.getD i 0)) (.int k (ys.getD i 0))).run P w = .ok (xs.getD i 0 == ys.getD i 0) w := run_equalIn_int w d e k k _ _ he
  simp only [List.forIn_cons, Sem.run_bind, px, py, pe, Result.andThen_ok, List.all_cons]
  cases hb : (xs.getD i 0 == ys.getD i 0)
  ·simp
  ·simp only [Bool.not_true, Bool.false_eq_true, if_false, Sem.run_pure, Result.andThen_ok, Bool.true_and]
   exact ih fun j hj => hl j (by simp [hj])
def eqS (p q : Nat → Bool) : Bool := [(word p 0 : Int), (word p 1 : Int), (word p 2 : Int), (word p 3 : Int)] == [(word q 0 : Int), (word q 1 : Int), (word q 2 : Int), (word q 3 : Int)]
theorem eqS_self (p : Nat → Bool) : eqS p p = true := by simp [eqS]
theorem eqS_iff (p q : Nat → Bool) : eqS p q = true ↔ ∀ b, b < 256 → p b = q b := by
 constructor
 ·intro h
  have h' : [(word p 0 : Int), (word p 1 : Int), (word p 2 : Int), (word p 3 : Int)] = [(word q 0 : Int), (word q 1 : Int), (word q 2 : Int), (word q 3 : Int)] := by simpa [eqS] using h
  refine wds_inj ?_
  unfold wds
  simp only [List.cons.injEq, and_true] at h'
  rw [h'.1, h'.2.1, h'.2.2.1, h'.2.2.2]
 ·intro h
  unfold eqS
  rw [word_congr h 0 (by omega), word_congr h 1 (by omega), word_congr h 2 (by omega), word_congr h 3 (by omega)]
  simp
section
variable (t e : TypeId) (ht : P.underlying t = some (.array 4 e)) (he : P.underlying e = some (.int .u64)) (hsz : ∀ w, (sizeOf e).run P w = .ok 1 w) (p q : Nat → Bool)
include ht he hsz
theorem run_eql_sets : (binOp .eql t (.agg (wds p).toArray) (.agg (wds q).toArray)).run P w = .ok (.bool (eqS p q)) w := by
 have := run_equalIn_nums (P := P) w 9998 t e 4 .u64 ht he hsz [(word p 0 : Int), (word p 1 : Int), (word p 2 : Int), (word p 3 : Int)] [(word q 0 : Int), (word q 1 : Int), (word q 2 : Int), (word q 3 : Int)] rfl rfl
 rw [run_eql_struct]
 have e1 : (wds p).toArray = (nums .u64 [(word p 0 : Int), (word p 1 : Int), (word p 2 : Int), (word p 3 : Int)]).toArray := rfl
 have e2 : (wds q).toArray = (nums .u64 [(word q 0 : Int), (word q 1 : Int), (word q 2 : Int), (word q 3 : Int)]).toArray := rfl
 rw [e1, e2, this]
 rfl
theorem run_neq_sets : (binOp .neq t (.agg (wds p).toArray) (.agg (wds q).toArray)).run P w = .ok (.bool (!eqS p q)) w := by
 have := run_equalIn_nums (P := P) w 9998 t e 4 .u64 ht he hsz [(word p 0 : Int), (word p 1 : Int), (word p 2 : Int), (word p 3 : Int)] [(word q 0 : Int), (word q 1 : Int), (word q 2 : Int), (word q 3 : Int)] rfl rfl
 rw [run_neq_struct]
 have e1 : (wds p).toArray = (nums .u64 [(word p 0 : Int), (word p 1 : Int), (word p 2 : Int), (word p 3 : Int)]).toArray := rfl
 have e2 : (wds q).toArray = (nums .u64 [(word q 0 : Int), (word q 1 : Int), (word q 2 : Int), (word q 3 : Int)]).toArray := rfl
 rw [e1, e2, this]
 rfl
end
end
section
variable {P : Program} {w : World} {ops : Array Oper} {rest : List Oper} {o : Oper} {a : Act} {Q : Exit → Act → World → Prop}
theorem wpList_eqSet (hgd : Region.wanted o (yielded ops a.tmps) = true) (t e : TypeId) (x y : Operand) (oT : TypeId) (ho : o.op = .binOp .eql t x y oT) (hm : P.eqGuardType P.depth t = false)
  (ht : P.underlying t = some (.array 4 e)) (he : P.underlying e = some (.int .u64)) (hsz : ∀ w, (sizeOf e).run P w = .ok 1 w)
  (p q : Nat → Bool) (ex : a.eval x = .agg (wds p).toArray) (ey : a.eval y = .agg (wds q).toArray)
  (h : wpList P ops Q rest (a.put o.dst (.bool (eqS p q))) w) : wpList P ops Q (o :: rest) a w := by
 refine BigFrame.wpList_want hgd fun K hK => ?_
 unfold Oper.wp
 simp only [execOp, ho, ex, ey, Sem.run_bind, run_eqGuard_agg w .eql t x y _ _ hm, Result.andThen_ok, run_eql_sets w t e ht he hsz p q, Sem.run_pure]
 exact hK _ _ h
theorem wpList_eqSet_is (hgd : Region.wanted o (yielded ops a.tmps) = true) {b : Bool} {p q : Nat → Bool} (hb : eqS p q = b) (t e : TypeId) (x y : Operand) (oT : TypeId) (ho : o.op = .binOp .eql t x y oT) (hm : P.eqGuardType P.depth t = false)
  (ht : P.underlying t = some (.array 4 e)) (he : P.underlying e = some (.int .u64)) (hsz : ∀ w, (sizeOf e).run P w = .ok 1 w)
  (ex : a.eval x = .agg (wds p).toArray) (ey : a.eval y = .agg (wds q).toArray)
  (h : wpList P ops Q rest (a.put o.dst (.bool b)) w) : wpList P ops Q (o :: rest) a w :=
 wpList_eqSet hgd t e x y oT ho hm ht he hsz p q ex ey (hb ▸ h)
theorem eq_any {oi : Oper} (t e : TypeId) (x y : Operand) (oT : TypeId) (ho : oi.op = .binOp .eql t x y oT) (hm : P.eqGuardType P.depth t = false)
  (ht : P.underlying t = some (.array 4 e)) (he : P.underlying e = some (.int .u64)) (hsz : ∀ w, (sizeOf e).run P w = .ok 1 w)
  (p q : Nat → Bool) (ex : a.eval x = .agg (wds p).toArray) (ey : a.eval y = .agg (wds q).toArray) {S : World → Prop} :
  ∀ W, S W → (execOp a.eval oi).run P W = .ok (.value (.bool (eqS p q))) W := by
 intro W _
 simp only [execOp, ho, ex, ey, Sem.run_bind, run_eqGuard_agg W .eql t x y _ _ hm, Result.andThen_ok, run_eql_sets W t e ht he hsz p q, Sem.run_pure]
theorem eq_is {b : Bool} {p q : Nat → Bool} (hb : (eqS p q) = b) {oi : Oper} (t e : TypeId) (x y : Operand) (oT : TypeId) (ho : oi.op = .binOp .eql t x y oT) (hm : P.eqGuardType P.depth t = false)
  (ht : P.underlying t = some (.array 4 e)) (he : P.underlying e = some (.int .u64)) (hsz : ∀ w, (sizeOf e).run P w = .ok 1 w)
  (ex : a.eval x = .agg (wds p).toArray) (ey : a.eval y = .agg (wds q).toArray) {S : World → Prop} :
  ∀ W, S W → (execOp a.eval oi).run P W = .ok (.value (.bool b)) W := hb ▸ eq_any t e x y oT ho hm ht he hsz p q ex ey
end
end Go.Proofs.YtopnpdobcagcgaaGreat
namespace Go.Proofs.YtopnpdobcagcgaaGreat
open Go.RowKit
set_option linter.unusedSimpArgs false
set_option linter.unusedVariables false
theorem lessS_iff (p q : Nat → Bool) : lessS p q = true ↔ ∃ j, j < 256 ∧ (∀ b, b < j → p b = q b) ∧ p j = true ∧ q j = false := by
 constructor
 ·intro h
  unfold lessS at h
  cases hf : (List.range 256).find? fun b => p b != q b with
  | none => rw [hf] at h; cases h
  | some j =>
   rw [hf] at h
   obtain ⟨h1, h2, h3⟩ := List.find?_range_eq_some.1 hf
   have hp : p j = true := h
   refine ⟨j, List.mem_range.1 h2, fun b hb => by simpa using h3 b hb, hp, ?_⟩
   rw [hp] at h1
   simpa using h1
 ·rintro ⟨j, hj, h1, h2, h3⟩
  rw [lessS_at hj h1 (by rw [h2, h3]; decide)]
  exact h2
theorem lessS_trans {p q r : Nat → Bool} (h : lessS p q = true) (k : lessS q r = true) : lessS p r = true := by
 obtain ⟨i, hi, a1, a2, a3⟩ := (lessS_iff p q).1 h
 obtain ⟨j, hj, b1, b2, b3⟩ := (lessS_iff q r).1 k
 rcases Nat.lt_trichotomy i j with hl | rfl | hl
 ·exact (lessS_iff p r).2 ⟨i, hi, fun b hb => (a1 b hb).trans (b1 b (by omega)), a2, by rw [← b1 i hl]; exact a3⟩
 ·rw [a3] at b2; cases b2
 ·exact (lessS_iff p r).2 ⟨j, hj, fun b hb => (a1 b (by omega)).trans (b1 b hb), by rw [a1 j hl]; exact b2, b3⟩
theorem lessS_ne {p q : Nat → Bool} (h : lessS p q = true) : eqS p q = false := by
 obtain ⟨i, hi, a1, a2, a3⟩ := (lessS_iff p q).1 h
 rw [Bool.eq_false_iff]
 intro he
 have := (eqS_iff p q).1 he i hi
 rw [a2, a3] at this
 cases this
theorem lessS_not {p q : Nat → Bool} (h : lessS p q = false) : eqS p q = !lessS q p := by
 cases hk : lessS q p with
 | true =>
  obtain ⟨i, hi, a1, a2, a3⟩ := (lessS_iff q p).1 hk
  rw [Bool.not_true, Bool.eq_false_iff]
  intro he
  have := (eqS_iff p q).1 he i hi
  rw [a2, a3] at this
  cases this
 | false =>
  rw [Bool.not_false]
  refine (eqS_iff p q).2 ?_
  have : ∀ j, j ≤ 256 → ∀ b, b < j → p b = q b := by
   intro j
   induction j with
   | zero => intro _ b hb; omega
   | succ j ih =>
    intro hj b hb
    rcases Nat.lt_or_ge b j with h' | h'
    ·exact ih (by omega) b h'
    ·obtain rfl : b = j := by omega
     by_cases hne : p b = q b
     ·exact hne
     ·have e1 := lessS_at (p := p) (q := q) (by omega) (ih (by omega)) hne
      have e2 := lessS_at (p := q) (q := p) (by omega) (fun c hc => (ih (by omega) c hc).symm) (fun e => hne e.symm)
      rw [← e1, ← e2, h, hk]
  exact this 256 (Nat.le_refl _)
theorem lessS_irrefl (p : Nat → Bool) : lessS p p = false := lessS_none fun _ _ => rfl
theorem lessS_congr {p p' q q' : Nat → Bool} (h : ∀ b, b < 256 → p b = p' b) (k : ∀ b, b < 256 → q b = q' b) : lessS p q = lessS p' q' := by
 rw [Bool.eq_iff_iff, lessS_iff, lessS_iff]
 constructor
 ·rintro ⟨j, hj, h1, h2, h3⟩
  exact ⟨j, hj, fun b hb => by rw [← h b (by omega), ← k b (by omega)]; exact h1 b hb, by rw [← h j hj]; exact h2, by rw [← k j hj]; exact h3⟩
 ·rintro ⟨j, hj, h1, h2, h3⟩
  exact ⟨j, hj, fun b hb => by rw [h b (by omega), k b (by omega)]; exact h1 b hb, by rw [h j hj]; exact h2, by rw [k j hj]; exact h3⟩
end Go.Proofs.YtopnpdobcagcgaaGreat
namespace Go.Proofs.YtopnpdobcagcgaaGreat
open Go.RowKit
section
variable {P : Program} {ops : Array Oper} {Q : Exit → Act → World → Prop} {md : Region.Mode} {S : World → Prop}
theorem sxs_start {id : Nat} {a : Act} {w : World} (hm : P.follows .mixedOrders = true)
  (h : ∀ wd, wd = w.drew → wpAnyH P .any ops Q S ops.size (Array.replicate ops.size false) a wd) : (Code.region id ops true).wp P Q a w :=
 wp_region_held hm (h _ rfl)
theorem sxs_take {i : Nat} {oi : Oper} {v : Value} {fuel : Nat} {listed : Array Bool} {a : Act} {w : World} (hi : ops[i]? = some oi)
  (hs : Region.noSelect ops = true) (hf : Region.free md ops listed i = true) (hr : (Region.ready md ops listed).contains i = true)
  (hQ : ∀ c a w, Q (.panic c) (a.put oi.dst v) w → Q (.panic c) a w) (hw : Region.wanted oi (yielded ops a.tmps) = true) (hS : S w)
  (hy : ∀ W, S W → (execOp a.eval oi).run P W = .ok (.value v) W)
  (h : wpAnyH P md ops Q S fuel (listed.setIfInBounds i true) (a.put oi.dst v) w) : wpAnyH P md ops Q S (fuel + 1) listed a w :=
 wpAnyH_take hi hs hf hr hQ (.inl ⟨hw, hy⟩) hS h
theorem sxs_act {i : Nat} {o : Oper} {fuel : Nat} {listed : Array Bool} {a : Act} {w : World} (hi : ops[i]? = some o) (hr : Region.ready md ops listed = [i])
  (hw : Region.wanted o (yielded ops a.tmps) = true)
  (h : ∀ K : Act → World → Prop, (∀ a' w', S w' → wpAnyH P md ops Q S fuel (listed.setIfInBounds i true) a' w' → K a' w') → o.wp P a w K Q) :
  wpAnyH P md ops Q S (fuel + 1) listed a w := by
 refine wpAnyH_all hr (by simp) (fun j hj => ?_)
 have hji : j = i := by simpa using hj
 subst hji
 unfold wpOp
 rw [hi]
 simp only [hw, if_true]
 exact .inl (h _ fun a' w' hx hk => ⟨hx, hk⟩)
end
theorem ld_keep {P : Program} {a : Act} {oi : Oper} {w0 W : World} (ty : TypeId) (x : Operand) (ho : oi.op = .load ty x) (b o : Nat) (hx : a.eval x = .pointer (some ⟨b, o, none⟩)) (cs : List Value) (d : TypeDesc)
  (hg : w0.rangeAt b o cs) (hb : W.heap[b]? = w0.heap[b]?) (hu : P.underlying ty = some d) (hd : d.isRow = true) (hi : (P.info? ty).map (·.size) = some cs.length) :
  (execOp a.eval oi).run P W = .ok (.value (.agg cs.toArray)) W := by
 have hr : W.rangeAt b o cs := fun j v hv => by
  have := hg j v hv
  unfold World.cell? at this ⊢
  simp only [hb]
  exact this
 have hl := run_loadAt_mid (P := P) W b o ty cs d hr hu hd hi
 simp only [execOp, ho, hx, Sem.run_bind, hl, Result.andThen_ok, Sem.run_pure]
end Go.Proofs.YtopnpdobcagcgaaGreat
namespace Go.Proofs.YtopnpdobcagcgaaGreat
open Go.RowKit
set_option linter.unusedSimpArgs false
set_option linter.unusedVariables false
def Gr (w w' : World) : Prop := ∃ q os, w' = Sort.grow (w.drewN q) os
theorem Gr.refl (w : World) : Gr w w := ⟨0, #[], by rw [Sort.grow_empty]; rfl⟩
theorem Gr.alloc {w w' : World} (h : Gr w w') (o : Obj) : Gr w (w'.alloc o) := by
 obtain ⟨q, os, rfl⟩ := h
 exact ⟨q, os ++ #[o], by rw [Sort.alloc_eq_grow, Sort.grow_grow]⟩
theorem grow_drewN (w : World) (os : Array Obj) (n : Nat) : (Sort.grow w os).drewN n = Sort.grow (w.drewN n) os := rfl
theorem Gr.drewN {w w' : World} (h : Gr w w') (n : Nat) : Gr w (w'.drewN n) := by
 obtain ⟨q, os, rfl⟩ := h
 exact ⟨q + n, os, by rw [grow_drewN, World.drewN_drewN]⟩
theorem Gr.trans {w w' w'' : World} (h : Gr w w') (k : Gr w' w'') : Gr w w'' := by
 obtain ⟨q, os, rfl⟩ := h
 obtain ⟨r, os', rfl⟩ := k
 exact ⟨q + r, os ++ os', by rw [grow_drewN, World.drewN_drewN, Sort.grow_grow]⟩
theorem Gr.below {w w' : World} (h : Gr w w') : Below w.heap.size w w' := by
 obtain ⟨q, os, rfl⟩ := h
 refine ⟨rfl, rfl, rfl, by simp [Sort.grow], fun k hk => ?_⟩
 show (w.heap ++ os)[k]? = _
 rw [Array.getElem?_append_left hk]
theorem wpList_boxE {P : Program} {w : World} {ops : Array Oper} {rest : List Oper} {o : Oper} {a : Act} {Q : Exit → Act → World → Prop} (hgd : Region.wanted o (yielded ops a.tmps) = true) (ty : TypeId) (x : Operand) (ho : o.op = .box ty x) (cs : List Value) (hx : a.eval x = .agg cs.toArray)
  (h : ∀ w', Blk w' w.heap.size ty cs → Gr w w' → w'.heap.size = w.heap.size + 1 → (∀ k, k < w.heap.size → w'.heap[k]? = w.heap[k]?) → wpList P ops Q rest (a.put o.dst (.pointer (some ⟨w.heap.size, 0, none⟩))) w') :
  wpList P ops Q (o :: rest) a w := by
 refine BigFrame.wpList_want hgd fun K hK => ?_
 unfold Oper.wp
 have hrun : (Instr.box ty (.agg cs.toArray)).run P w = .ok (.pointer (some ⟨w.heap.size, 0, none⟩)) (w.alloc (.cells cs.toArray ty)) := by
  simp [Instr.box, newVar, Value.cells, run_newRow_blk]
 simp only [execOp, ho, hx, hrun, Sem.run_bind, Result.andThen_ok, Sem.run_pure]
 exact hK _ _ (h _ (Blk.new w ty cs) ((Gr.refl w).alloc _) (by simp) (fun k hk => Below.heap_alloc w _ k hk))
theorem Gr.of {w w' : World} (h : Below w.heap.size w w') (hd : w.drawn ≤ w'.drawn) : Gr w w' := by
 refine ⟨w'.drawn - w.drawn, w'.heap.extract w.heap.size w'.heap.size, ?_⟩
 have hh : w'.heap = w.heap ++ w'.heap.extract w.heap.size w'.heap.size := by
  apply Array.ext_getElem?
  intro i
  by_cases hi : i < w.heap.size
  ·rw [Array.getElem?_append_left hi]
   exact h.block i hi
  ·rw [Array.getElem?_append_right (by omega), Array.getElem?_extract]
   have hs := h.size
   by_cases h2 : i < w'.heap.size
   ·rw [if_pos (by omega)]
    congr 1
    omega
   ·rw [if_neg (by omega), Array.getElem?_eq_none (by omega)]
 obtain ⟨heap, tape, drawn, os, output⟩ := w
 obtain ⟨heap', tape', drawn', os', output'⟩ := w'
 have h1 := h.os
 have h2 := h.tape
 have h3 := h.output
 simp only at h1 h2 h3 hh hd
 subst h1 h2 h3
 unfold Sort.grow World.drewN
 simp only [World.mk.injEq, and_true, true_and]
 exact ⟨hh, by omega⟩
theorem Gr.drawn {w w' : World} (h : Gr w w') : w.drawn ≤ w'.drawn := by
 obtain ⟨q, os, rfl⟩ := h
 show w.drawn ≤ w.drawn + q
 omega
theorem Gr.size {w w' : World} (h : Gr w w') : w.heap.size ≤ w'.heap.size := h.below.size
section
variable {P : Program} {w : World} {ops : Array Oper} {rest : List Oper} {o : Oper} {a : Act} {Q : Exit → Act → World → Prop}
theorem wpList_newE {w0 : World} (hgd : Region.wanted o (yielded ops a.tmps) = true) (ty : TypeId) (ho : o.op = .alloc ty) (i : TypeInfo) (z : Value) (cs : List Value) (hi : P.info? ty = some i) (hz : i.zero = some z) (hc : z.cells = cs.toArray)
  (hb : Gr w0 w)
  (h : ∀ w', Blk w' w.heap.size ty cs → Gr w0 w' → w'.heap.size = w.heap.size + 1 → (∀ k, k < w.heap.size → w'.heap[k]? = w.heap[k]?) → wpList P ops Q rest (a.put o.dst (.pointer (some ⟨w.heap.size, 0, none⟩))) w') :
  wpList P ops Q (o :: rest) a w := by
 refine BigFrame.wpList_want hgd fun K hK => ?_
 unfold Oper.wp
 have hrun : (Instr.alloc ty true (.tuple #[])).run P w = .ok (.pointer (some ⟨w.heap.size, 0, none⟩)) (w.alloc (.cells cs.toArray ty)) := by
  have hzv : (zeroValue ty).run P w = .ok z w := by simp [zeroValue, typeInfo, hi, hz]
  simp [Instr.alloc, hzv, newVar, hc, run_newRow_blk]
 simp only [execOp, ho, hrun, Sem.run_bind, Result.andThen_ok, Sem.run_pure]
 exact hK _ _ (h _ (Blk.new w ty cs) (hb.alloc _) (by simp) (fun k hk => Below.heap_alloc w _ k hk))
theorem wpList_stE {w0 : World} (hgd : o.guard = none) (ty : TypeId) (x y : Operand) (ho : o.op = .store ty x y)
  (g : Nat) (cs : List Value) (hx : a.eval x = .pointer (some ⟨g, 0, none⟩)) (hy : a.eval y = .agg cs.toArray)
  (t : TypeId) (old : List Value) (hg : Blk w g t old) (hi : (P.info? ty).map (·.size) = some cs.length)
  (hold : old.length = cs.length) (h1 : cs.all (·.oneCell') = true) (hb : Gr w0 w) (hB : w0.heap.size ≤ g)
  (h : ∀ w', Blk w' g t cs → Gr w0 w' → w'.heap.size = w.heap.size → (∀ k, k ≠ g → w'.heap[k]? = w.heap[k]?) → wpList P ops Q rest (a.put o.dst undef) w') : wpList P ops Q (o :: rest) a w :=
 wpList_store_row hgd ty x y ho g cs.toArray hx hy t old.toArray hg (by simpa using hi) (by simpa using hold) (by simpa using h1)
  (h _ (setRow_heap w g old.toArray cs.toArray t (0, 0) hg) (Gr.of (below_setRow hb.below hB _) hb.drawn) (by simp) (fun k hk => setRow_other w g k _ hk))
end
end Go.Proofs.YtopnpdobcagcgaaGreat
