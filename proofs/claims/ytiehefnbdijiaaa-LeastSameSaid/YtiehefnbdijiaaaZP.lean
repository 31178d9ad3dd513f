/-
  Texts of this proof, put together: LkG, LpI, LpJ. No statement is proved here.
-/
import Derived.Test.YtiehefnbdijiaaaZN
import Derived.Test.YtiehefnbdijiaaaZI
import Derived.Test.YtiehefnbdijiaaaZD
import Derived.Test.YtiehefnbdijiaaaZF
namespace Go.Proofs.Ytiehefnbdijiaaa
open Go.RowKit
set_option linter.unusedSimpArgs false
set_option linter.unusedVariables false
theorem tch_bnd {x n : Nat} (h : x ≤ n) (hn : n ≤ 2000) : x + 1 ≤ 2097152 := by omega
theorem len_i {i n : Nat} (h : i ≤ n) (hn : n ≤ 2000) : i ≤ 4611686018427387904 := by omega
theorem lk_eq0 {ev : Operand → Value} {o : Oper} (x : Operand) {r : TypeId} (ho : o.op = .binOp .eql 3 x (.const (.int .i64 0)) r) {p : Int} (hx : ev x = .int .i64 p) {c : Bool} (hc : (p == 0) = c) (W : World) (hk : ev (.const (.int .i64 0)) = .int .i64 0) : (execOp ev o).run Try.prog W = .ok (.value (.bool c)) W := by
 subst hc
 simp only [execOp, ho, hx, hk]
 go_simp
theorem lk_add1 {ev : Operand → Value} {o : Oper} (x : Operand) {r : TypeId} (ho : o.op = .binOp .add 3 x (.const (.int .i64 1)) r) {p : Nat} (hx : ev x = .int .i64 (p : Int)) {q : Nat} (hq : q = p + 1) (hp : p ≤ 4611686018427387904) (W : World) (hk : ev (.const (.int .i64 1)) = .int .i64 1) : (execOp ev o).run Try.prog W = .ok (.value (.int .i64 (q : Int))) W := by
 have e3 := wrap_one p hp
 have e4 := wrap_one' p hp
 subst hq
 simp only [execOp, ho, hx, hk]
 go_simp
theorem lk_lss {ev : Operand → Value} {o : Oper} (x y : Operand) {r : TypeId} (ho : o.op = .binOp .lss 3 x y r) {p q : Nat} (hx : ev x = .int .i64 (p : Int)) (hy : ev y = .int .i64 (q : Int)) {c : Bool} (hc : decide (p < q) = c) (W : World) : (execOp ev o).run Try.prog W = .ok (.value (.bool c)) W := by
 have h2 : decide ((p : Int) < (q : Int)) = c := by rw [← hc]; simp
 simp only [execOp, ho, hx, hy]
 rw [← h2]
 go_simp
theorem off_grow {D : Nat → Prop} {w w1 w2 : World} {r : Option Nat} (h : Off D w w1) (hg : w1.grownBy w2 r) (hr : ∀ k, r = some k → w.heap.size ≤ k) : Off D w w2 :=
 ⟨hg.os.trans h.os, hg.tape.trans h.tape, hg.output.trans h.output, Nat.le_trans h.size hg.size, fun k hk hn => (hg.block k (Nat.lt_of_lt_of_le hk h.size) fun e => by have := hr k e.symm; omega).trans (h.block k hk hn)⟩
set_option maxHeartbeats 8000000 in
set_option maxRecDepth 1000000 in
theorem lCut_any {H p n m : Nat} {D : Nat → Prop} {a : Nat → Nat} (l : List Nat) (lv : Value) (w : World) (h : PtV w H p D n m a (fun _ => false) (fun _ => 0)) (hpn : Pn n m a) (hn : n ≤ 2000) (hr : Row w lv (nat64 l)) (hld : l.Nodup) (hll : ∀ s ∈ l, s < n) (hlD : ∀ k, lv.ownBlock = some k → ¬ D k) :
  Calls Try.prog 32 #[.pointer (some ⟨p, 0, none⟩), lv] w fun e w' => e = .returned (.tuple #[]) ∧ CutE w H p D n l m a w' := by
 have HV := qH h
 have HSZ := qH h.size
 have HRL := qH hr
 have HLD := qH hld
 have HLL := qH hll
 have HLV := qH hlD
 have HPN := qH hpn
 have HNF := qH hn
 have HMN := qH hpn.le
 obtain ⟨Al, cl, rfl, _⟩ := hr
 obtain ⟨len, hlen⟩ : ∃ x, x = l.length := ⟨_, rfl⟩
 rw [nat64_len, ← hlen] at HRL HLV ⊢
 have HLEN := qH hlen
 have HLN := qH (show len ≤ n by
  have h1 := nodup_sub l (List.range n) hld fun s hs => List.mem_range.2 (hll s hs)
  rw [List.length_range] at h1
  rw [hlen]
  exact h1)
 obtain ⟨⟨U, X, hu, hd⟩, hdB, hdl⟩ := h
 have HU := qH hu
 have HD := qH hd
 have HDL := qH hdl
 obtain ⟨i1, hi1, hy0, hy1, hy2⟩ := infoP inf_int
 have P0 := qH (show PtU w H p n m U X (prt n a) a (fI l 0) (cntK a (l.take 0)) from hu.congr (fun _ _ => rfl) (fun s _ => (fI_zero l s).symm) (fun s _ => (cntK_none a s l).symm))
 clear hu hd hdB hdl hpn hn hld hll hlD hlen
 go_enter Try.func32, Try.ntmps32
 go_wp2_with fail
 go_loopw [4, 13] (fun tv iv wl => ∃ (i : Nat) (Y : Nat → List Value), i ≤ len ∧ iv = .int .i64 (i : Int) ∧ PtU wl H p n m U Y (prt n a) a (fI l i) (cntK a (l.take i)) ∧ wl.ownsRow w.heap.size 3 1 tv (tchL a (l.take i)).length (nat64 (tchL a (l.take i))) ∧ Off D w wl) (fun _ iv _ => len - (intOf iv).toNat)
 case atStart => exact ⟨0, X, Nat.zero_le _, rfl, P0.out, ownC_nil _ _ _, Off.refl _ _⟩
 clear P0
 obtain ⟨i, Y, hi, rfl, hp, ht, ho⟩ := hrel
 obtain ⟨wl, hwl⟩ : ∃ v : World, v = wr := ⟨_, rfl⟩
 subst hwl
 have PI := qH hp
 have TI := qH ht
 have OI := qH ho
 have HI := qH hi
 obtain ⟨tl, htl⟩ : ∃ x, x = (tchL a (l.take i)).length := ⟨_, rfl⟩
 have HTL := qH htl
 rw [← htl] at TI
 obtain ⟨At, ct, htv⟩ := ownC_slice TI.out
 subst htv
 clear hi hp ht ho htl
 by_cases hin : i < len
 ·have x1 : (i : Int) < (len : Int) := Int.ofNat_lt.2 hin
  have HIN := qH hin
  have HMI := qH (sub_next hin)
  have e3 := wrap_one i (len_i (Nat.le_trans HI.out HLN.out) HNF.out)
  have e4 := wrap_one' i (len_i (Nat.le_trans HI.out HLN.out) HNF.out)
  obtain ⟨s, hs⟩ : ∃ s, l[i]? = some s := ⟨_, List.getElem?_eq_getElem (by rw [← HLEN.out]; exact hin)⟩
  have HS := qH hs
  have HSN := qH (HLL.out s (List.mem_of_getElem? hs))
  have HN0 := qH (show 0 < n from Nat.lt_of_le_of_lt (Nat.zero_le _) HSN.out)
  have HAM := qH (HPN.out.lt s HSN.out)
  have HAN := qH (Nat.lt_of_lt_of_le HAM.out HMN.out)
  obtain ⟨g1, c1, hU1, hg1, _⟩ := PI.out.val (i := 1) (by omega) PI.out.l1 HN0.out
  obtain ⟨g2, c2, hU2, hg2, _⟩ := PI.out.val (i := 2) (by omega) PI.out.l2 HN0.out
  obtain ⟨g3, c3, hU3, hg3, _⟩ := PI.out.val (i := 3) (by omega) PI.out.l3 HN0.out
  have HU1 := qH hU1
  have HU2 := qH hU2
  have HU3 := qH hU3
  have CP1 := qH (show wl.cell? ⟨p, 1, none⟩ = some (.slice (some ⟨g2, 0, none⟩) n c2) by rw [PI.out.blk.cell 1, ← hU2]; rfl)
  have CP2 := qH (show wl.cell? ⟨p, 2, none⟩ = some (.slice (some ⟨g1, 0, none⟩) n c1) by rw [PI.out.blk.cell 2, ← hU1]; rfl)
  have CP3 := qH (show wl.cell? ⟨p, 3, none⟩ = some (.slice (some ⟨g3, 0, none⟩) n c3) by rw [PI.out.blk.cell 3, ← hU3]; rfl)
  have CA := qH (show wl.cell? ⟨g2, s, none⟩ = some (.int .i64 (a s : Int)) from PI.out.at_ hU2 HSN.out)
  obtain ⟨x, hx⟩ : ∃ x, x = cntK a (l.take i) (a s) := ⟨_, rfl⟩
  have HX := qH hx
  have HXB := qH (show x ≤ 2000 by
   have h1 := cntK_le a (l.take i) (a s)
   rw [← hx, List.length_take] at h1
   have := HI.out; have := HLN.out; have := HNF.out
   omega)
  have CC := qH (PI.out.cell (i := 3) (q := a s) (by omega) hU3 (by rw [PI.out.x3]; exact ncs_get _ HAN.out))
  rw [← hx] at CC
  have DG1 := qH (HD.out g1 (.inr ⟨1, by omega, by rw [hU1]; rfl⟩))
  have DG3 := qH (HD.out g3 (.inr ⟨3, by omega, by rw [hU3]; rfl⟩))
  have RLW := qH (HRL.out.off OI.out HLV.out)
  obtain ⟨b1, o1, rfl, _, hc1⟩ := RLW.out.at_ (by rw [nat64_len, ← HLEN.out]; exact Nat.lt_of_le_of_lt (Nat.zero_le _) hin)
  have c16 : wl.cell? ⟨b1, o1 + i, none⟩ = some (.int .i64 (s : Int)) := hc1 i _ (nat64_get hs)
  obtain ⟨az, has⟩ : ∃ x, x = a s := ⟨_, rfl⟩
  have HAS := qH has
  rw [← has] at HAM HAN CA HX CC
  obtain ⟨q, hq⟩ : ∃ q, ((x : Int) == 0) = q := ⟨_, rfl⟩
  have HQ := qH hq
  clear hin hs hU1 hU2 hU3 hg1 hg2 hg3 hx hc1 has hq
  go_wp2_with fail
  refine sg_start (S := IsW wl.drew) (by kernel_rfl) rfl (fun wd hwd => ?_)
  have hX : IsW wl.drew wd := hwd
  clear hwd
  refine sg_take (i := 0) (oi := ⟨some 17, _, _, _, _, _⟩) (v := ?_) rfl (by kernel_rfl) (by kernel_rfl) (by kernel_rfl) (fun _ _ _ h => h) rfl hX ?_ ?_; rotate_left; (intro W hW; go_simp; try with_reducible rfl); simp only [Act.put, qA, qB, qC]
  refine sg_take (i := 1) (oi := ⟨some 18, _, _, _, _, _⟩) (v := ?_) rfl (by kernel_rfl) (by kernel_rfl) (by kernel_rfl) (fun _ _ _ h => h) rfl hX ?_ ?_; rotate_left; (intro W hW; go_simp; try with_reducible rfl); simp only [Act.put, qA, qB, qC]
  refine sg_take (i := 2) (oi := ⟨some 19, _, _, _, _, _⟩) (v := ?_) rfl (by kernel_rfl) (by kernel_rfl) (by kernel_rfl) (fun _ _ _ h => h) rfl hX ?_ ?_; rotate_left; (intro W hW; go_simp; try with_reducible rfl); simp only [Act.put, qA, qB, qC]
  refine sg_take (i := 3) (oi := ⟨some 20, _, _, _, _, _⟩) (v := .slice (some ⟨g3, 0, none⟩) n c3) rfl (by kernel_rfl) (by kernel_rfl) (by kernel_rfl) (fun _ _ _ h => h) rfl hX (fun W hW => lk_ldIs (.tmp 19) rfl rfl (lk_isc hW CP3.out)) ?_; simp only [Act.put, qA, qB, qC]
  refine sg_take (i := 4) (oi := ⟨some 21, _, _, _, _, _⟩) (v := ?_) rfl (by kernel_rfl) (by kernel_rfl) (by kernel_rfl) (fun _ _ _ h => h) rfl hX ?_ ?_; rotate_left; (intro W hW; go_simp; try with_reducible rfl); simp only [Act.put, qA, qB, qC]
  refine sg_take (i := 5) (oi := ⟨some 22, _, _, _, _, _⟩) (v := ?_) rfl (by kernel_rfl) (by kernel_rfl) (by kernel_rfl) (fun _ _ _ h => h) rfl hX ?_ ?_; rotate_left; (intro W hW; go_simp; try with_reducible rfl); simp only [Act.put, qA, qB, qC]
  refine sg_take (i := 6) (oi := ⟨some 23, _, _, _, _, _⟩) (v := ?_) rfl (by kernel_rfl) (by kernel_rfl) (by kernel_rfl) (fun _ _ _ h => h) rfl hX ?_ ?_; rotate_left; (intro W hW; go_simp; try with_reducible rfl); simp only [Act.put, qA, qB, qC]
  refine sg_take (i := 7) (oi := ⟨some 24, _, _, _, _, _⟩) (v := .slice (some ⟨g2, 0, none⟩) n c2) rfl (by kernel_rfl) (by kernel_rfl) (by kernel_rfl) (fun _ _ _ h => h) rfl hX (fun W hW => lk_ldIs (.tmp 23) rfl rfl (lk_isc hW CP1.out)) ?_; simp only [Act.put, qA, qB, qC]
  refine sg_take (i := 8) (oi := ⟨some 25, _, _, _, _, _⟩) (v := ?_) rfl (by kernel_rfl) (by kernel_rfl) (by kernel_rfl) (fun _ _ _ h => h) rfl hX ?_ ?_; rotate_left; (intro W hW; go_simp; try with_reducible rfl); simp only [Act.put, qA, qB, qC]
  refine sg_take (i := 9) (oi := ⟨some 26, _, _, _, _, _⟩) (v := .pointer (some ⟨g2, s, none⟩)) rfl (by kernel_rfl) (by kernel_rfl) (by kernel_rfl) (fun _ _ _ h => h) rfl hX (fun W hW => lk_ixI0 (.tmp 24) (.tmp 25) rfl rfl rfl HSN.out W) ?_; simp only [Act.put, qA, qB, qC]
  refine sg_take (i := 10) (oi := ⟨some 27, _, _, _, _, _⟩) (v := .int .i64 (az : Int)) rfl (by kernel_rfl) (by kernel_rfl) (by kernel_rfl) (fun _ _ _ h => h) rfl hX (fun W hW => lk_ldI (.tmp 26) rfl rfl (lk_isc hW CA.out)) ?_; simp only [Act.put, qA, qB, qC]
  refine sg_take (i := 11) (oi := ⟨some 28, _, _, _, _, _⟩) (v := .pointer (some ⟨g3, az, none⟩)) rfl (by kernel_rfl) (by kernel_rfl) (by kernel_rfl) (fun _ _ _ h => h) rfl hX (fun W hW => lk_ixI0 (.tmp 20) (.tmp 27) rfl rfl rfl HAN.out W) ?_; simp only [Act.put, qA, qB, qC]
  refine sg_take (i := 12) (oi := ⟨some 29, _, _, _, _, _⟩) (v := .int .i64 (x : Int)) rfl (by kernel_rfl) (by kernel_rfl) (by kernel_rfl) (fun _ _ _ h => h) rfl hX (fun W hW => lk_ldI (.tmp 28) rfl rfl (lk_isc hW CC.out.1)) ?_; simp only [Act.put, qA, qB, qC]
  refine sg_take (i := 13) (oi := ⟨some 30, _, _, _, _, _⟩) (v := .bool q) rfl (by kernel_rfl) (by kernel_rfl) (by kernel_rfl) (fun _ _ _ h => h) rfl hX (fun W hW => lk_eq0 (.tmp 29) rfl rfl HQ.out W rfl) ?_; simp only [Act.put, qA, qB, qC]
  refine wpAnyH_done (by kernel_rfl) ?_ _
  have BD := qH (lk_isb hX)
  clear hX c16
  have PD := qH (PI.out.below BD.out)
  have TD := qH (own6_stay TI.out fun j hj => BD.out.block j (own6_lt TI.out j hj).1)
  have OD := qH (OI.out.then BD.out)
  have HTN := qH (show tl + 1 ≤ 2097152 from tch_bnd (by
   rw [HTL.out]
   exact Nat.le_trans (tchL_le HPN.out fun s hs => HLL.out s (List.mem_of_mem_take hs)) HMN.out) HNF.out)
  have HT2 := qH (tchL_take (a := a) HS.out)
  rw [← HAS.out] at HT2
  have FW := qH (show ∀ k, Pf p (4 + m) U k → k < w.heap.size from fun k hk => HDL.out k (HD.out k hk))
  cases q
  focus
   have HX0 := qH (show x ≠ 0 by
    intro e
    have h1 := beq_eq_false_iff_ne.1 HQ.out
    omega)
   have HNEW := qH (show tchL a (l.take (i + 1)) = tchL a (l.take i) by
    rw [HT2.out]
    refine extL_in (Classical.byContradiction fun hm => HX0.out ?_)
    rw [HX.out]
    exact cntK_zero.2 hm)
   go_wp2_with fail
   obtain ⟨wx, hwx⟩ : ∃ v : World, v = wd := ⟨_, rfl⟩
   subst hwx
   obtain ⟨v2, hv2⟩ : ∃ v, v = Value.slice At tl ct := ⟨_, rfl⟩
   have PX := qH PD.out
   have OX := qH OD.out
   have TX := qH (show wx.ownsRow w.heap.size 3 1 v2 (nat64 (tchL a (l.take (i + 1)))).length (nat64 (tchL a (l.take (i + 1)))) by
    rw [HNEW.out, nat64_len, ← HTL.out, hv2]
    exact TD.out)
   rw [← hv2]
   clear HNEW HX0 hv2 PD OD TD
  rotate_left
  focus
   have HX0 := qH (show x = 0 by have h1 := beq_iff_eq.1 HQ.out; omega)
   have HNEW := qH (show tchL a (l.take (i + 1)) = tchL a (l.take i) ++ [az] by
    rw [HT2.out]
    exact extL_new (cntK_zero.1 (by rw [← HX.out, HX0.out])))
   have s1 : (s : Int) < (n : Int) := Int.ofNat_lt.2 HSN.out
   have cp1 : wd.cell? ⟨p, 1, none⟩ = some (.slice (some ⟨g2, 0, none⟩) n c2) := by rw [PD.out.blk.cell 1, ← HU2.out]; rfl
   have ca : wd.cell? ⟨g2, s, none⟩ = some (.int .i64 (az : Int)) := by rw [HAS.out]; exact PD.out.at_ HU2.out HSN.out
   go_wp2_with (first
    | ((with_reducible refine atDst 39 ?_); refine wpList_plain rfl fun K hK => wp_bldI 38 3 (.tmp 38) rfl i1 Try.underlying38 hi1 0 hy0 hy1 (az : Int) rfl ?_; intro wb hr hb; have RB := qH hr; have BB := qH hb; have TB := qH (own6_stay TD.out fun j hj => hb.block j (own6_lt TD.out j hj).1); clear hr hb; refine hK _ _ ?_; clear hK K; (try simp only [Act.put, qA, qB, qC]))
    | ((with_reducible refine atDst 40 ?_); refine wpList_appW (base := w.heap.size) rfl (.tmp 31) (.tmp 39) 38 rfl 3 i1 (.int .i64 0) 8 Try.underlying38 hi1 hy0 hy1 hy2 rfl _ _ _ rfl TB.out _ (nums .i64 [(az : Int)]) rfl RB.out (nums_one _ _) (by rw [nums_length, List.length_singleton]; exact HTN.out) (by decide) (Nat.le_trans OD.out.size BB.out.size) ?_; intro v2 wx ho hgr hwr; have TX := qH (nat64_snoc_own ho HTL.out HNEW.out); have HGR := qH hgr; clear ho hgr hwr; (try simp only [Act.put, qA, qB, qC])))
   have PX := qH (show PtU wx H p n m U Y (prt n a) a (fI l i) (cntK a (l.take i)) from (PD.out.below BB.out).stay fun k hk => HGR.out.block k ((PD.out.below BB.out).lt hk).1 fun e => by
    have h1 := (own6_lt TB.out k e.symm).2
    have h2 := FW.out k hk
    omega)
   have OX := qH (off_grow (OD.out.then BB.out) HGR.out fun k hk => (own6_lt TB.out k hk).2)
   clear HNEW HX0 s1 cp1 ca RB BB TB HGR PD OD TD
  rotate_left
  all_goals
   have AP1 := qH (show wx.cell? ⟨p, 1, none⟩ = some (.slice (some ⟨g2, 0, none⟩) n c2) by rw [PX.out.blk.cell 1, ← HU2.out]; rfl)
   have AP3 := qH (show wx.cell? ⟨p, 3, none⟩ = some (.slice (some ⟨g3, 0, none⟩) n c3) by rw [PX.out.blk.cell 3, ← HU3.out]; rfl)
   have AA := qH (show wx.cell? ⟨g2, s, none⟩ = some (.int .i64 (az : Int)) by rw [HAS.out]; exact PX.out.at_ HU2.out HSN.out)
   have AC := qH (PX.out.cell (i := 3) (q := az) (by omega) HU3.out (by rw [PX.out.x3]; exact ncs_get _ HAN.out))
   rw [← HX.out] at AC
   obtain ⟨y, hy⟩ : ∃ y, y = x + 1 := ⟨_, rfl⟩
   have HY := qH hy
   clear hy
   refine sb_start (IsW wx.drew) 15 (by kernel_rfl) (fun we hwe => ?_)
   have hX : IsW wx.drew we := hwe
   clear hwe
   refine sb_take (i := 0) (oi := ⟨some 41, _, _, _, _, _⟩) (v := ?_) rfl (by kernel_rfl) (by kernel_rfl) (by kernel_rfl) (fun _ _ _ h => h) rfl hX ?_ ?_; rotate_left; (intro W hW; go_simp; try with_reducible rfl); simp only [Act.put, qA, qB, qC]
   refine sb_take (i := 1) (oi := ⟨some 42, _, _, _, _, _⟩) (v := ?_) rfl (by kernel_rfl) (by kernel_rfl) (by kernel_rfl) (fun _ _ _ h => h) rfl hX ?_ ?_; rotate_left; (intro W hW; go_simp; try with_reducible rfl); simp only [Act.put, qA, qB, qC]
   refine sb_take (i := 2) (oi := ⟨some 43, _, _, _, _, _⟩) (v := ?_) rfl (by kernel_rfl) (by kernel_rfl) (by kernel_rfl) (fun _ _ _ h => h) rfl hX ?_ ?_; rotate_left; (intro W hW; go_simp; try with_reducible rfl); simp only [Act.put, qA, qB, qC]
   refine sb_take (i := 3) (oi := ⟨some 44, _, _, _, _, _⟩) (v := .slice (some ⟨g3, 0, none⟩) n c3) rfl (by kernel_rfl) (by kernel_rfl) (by kernel_rfl) (fun _ _ _ h => h) rfl hX (fun W hW => lk_ldIs (.tmp 43) rfl rfl (lk_isc hW AP3.out)) ?_; simp only [Act.put, qA, qB, qC]
   refine sb_take (i := 4) (oi := ⟨some 45, _, _, _, _, _⟩) (v := ?_) rfl (by kernel_rfl) (by kernel_rfl) (by kernel_rfl) (fun _ _ _ h => h) rfl hX ?_ ?_; rotate_left; (intro W hW; go_simp; try with_reducible rfl); simp only [Act.put, qA, qB, qC]
   refine sb_take (i := 5) (oi := ⟨some 46, _, _, _, _, _⟩) (v := ?_) rfl (by kernel_rfl) (by kernel_rfl) (by kernel_rfl) (fun _ _ _ h => h) rfl hX ?_ ?_; rotate_left; (intro W hW; go_simp; try with_reducible rfl); simp only [Act.put, qA, qB, qC]
   refine sb_take (i := 6) (oi := ⟨some 47, _, _, _, _, _⟩) (v := ?_) rfl (by kernel_rfl) (by kernel_rfl) (by kernel_rfl) (fun _ _ _ h => h) rfl hX ?_ ?_; rotate_left; (intro W hW; go_simp; try with_reducible rfl); simp only [Act.put, qA, qB, qC]
   refine sb_take (i := 7) (oi := ⟨some 48, _, _, _, _, _⟩) (v := .slice (some ⟨g2, 0, none⟩) n c2) rfl (by kernel_rfl) (by kernel_rfl) (by kernel_rfl) (fun _ _ _ h => h) rfl hX (fun W hW => lk_ldIs (.tmp 47) rfl rfl (lk_isc hW AP1.out)) ?_; simp only [Act.put, qA, qB, qC]
   refine sb_take (i := 8) (oi := ⟨some 49, _, _, _, _, _⟩) (v := ?_) rfl (by kernel_rfl) (by kernel_rfl) (by kernel_rfl) (fun _ _ _ h => h) rfl hX ?_ ?_; rotate_left; (intro W hW; go_simp; try with_reducible rfl); simp only [Act.put, qA, qB, qC]
   refine sb_take (i := 9) (oi := ⟨some 50, _, _, _, _, _⟩) (v := .pointer (some ⟨g2, s, none⟩)) rfl (by kernel_rfl) (by kernel_rfl) (by kernel_rfl) (fun _ _ _ h => h) rfl hX (fun W hW => lk_ixI0 (.tmp 48) (.tmp 49) rfl rfl rfl HSN.out W) ?_; simp only [Act.put, qA, qB, qC]
   refine sb_take (i := 10) (oi := ⟨some 51, _, _, _, _, _⟩) (v := .int .i64 (az : Int)) rfl (by kernel_rfl) (by kernel_rfl) (by kernel_rfl) (fun _ _ _ h => h) rfl hX (fun W hW => lk_ldI (.tmp 50) rfl rfl (lk_isc hW AA.out)) ?_; simp only [Act.put, qA, qB, qC]
   refine sb_take (i := 11) (oi := ⟨some 52, _, _, _, _, _⟩) (v := .pointer (some ⟨g3, az, none⟩)) rfl (by kernel_rfl) (by kernel_rfl) (by kernel_rfl) (fun _ _ _ h => h) rfl hX (fun W hW => lk_ixI0 (.tmp 44) (.tmp 51) rfl rfl rfl HAN.out W) ?_; simp only [Act.put, qA, qB, qC]
   refine sb_take (i := 12) (oi := ⟨some 53, _, _, _, _, _⟩) (v := .int .i64 (x : Int)) rfl (by kernel_rfl) (by kernel_rfl) (by kernel_rfl) (fun _ _ _ h => h) rfl hX (fun W hW => lk_ldI (.tmp 52) rfl rfl (lk_isc hW AC.out.1)) ?_; simp only [Act.put, qA, qB, qC]
   refine sb_take (i := 13) (oi := ⟨some 54, _, _, _, _, _⟩) (v := .int .i64 (y : Int)) rfl (by kernel_rfl) (by kernel_rfl) (by kernel_rfl) (fun _ _ _ h => h) rfl hX (fun W hW => lk_add1 (.tmp 53) rfl rfl HY.out (Nat.le_trans HXB.out (by decide)) W rfl) ?_; simp only [Act.put, qA, qB, qC]
   refine sb_take (i := 14) (oi := ⟨some 55, _, _, _, _, _⟩) (v := .pointer (some ⟨g3, az, none⟩)) rfl (by kernel_rfl) (by kernel_rfl) (by kernel_rfl) (fun _ _ _ h => h) rfl hX (fun W hW => lk_ixI0 (.tmp 44) (.tmp 51) rfl rfl rfl HAN.out W) ?_; simp only [Act.put, qA, qB, qC]
   refine sb_last (o := ⟨none, _, _, _, _, _⟩) rfl (by kernel_rfl) rfl (fun K hK => ?_)
   refine wp_stI (.tmp 55) (.tmp 54) rfl g3 az rfl (y : Int) rfl _ (lk_isc hX AC.out.1) (lk_isf hX AC.out.2) ?_
   refine hK _ _ ?_
   clear hK K
   refine wpAnyB_done (by kernel_rfl) ?_ _
   have BE := qH (lk_isb hX)
   clear hX
   have PY := qH (((PX.out.below BE.out).setC HU3.out HAN.out y).congrC (c' := cntK a (l.take (i + 1))) (fun q _ => by
    have h1 := cntK_upd HS.out (x := y) (by rw [HY.out, HX.out, HAS.out]) q
    rw [← HAS.out] at h1
    exact h1))
   have OY := qH (show Off D w (we.setCell ⟨g3, az, none⟩ (.int .i64 (y : Int))) from (OX.out.then BE.out).trans (Off.set we az _ DG3.out))
   have s1 : (s : Int) < (n : Int) := Int.ofNat_lt.2 HSN.out
   have cp2 : (we.setCell ⟨g3, az, none⟩ (.int .i64 (y : Int))).cell? ⟨p, 2, none⟩ = some (.slice (some ⟨g1, 0, none⟩) n c1) := by rw [PY.out.blk.cell 2, ← HU1.out]; rfl
   have hci := PY.out.cell (i := 1) (q := s) (by omega) HU1.out (by rw [PY.out.x1]; exact bcs_get _ HSN.out)
   have ci1 := hci.1
   have ci2 := hci.2
   have PZ := qH ((PY.out.setI HU1.out HSN.out true).congrI (I' := fI l (i + 1)) (fun q _ => fI_next HS.out q))
   have OZ := qH (OY.out.trans (Off.set (we.setCell ⟨g3, az, none⟩ (.int .i64 (y : Int))) s (.bool true) DG1.out))
   have TZ := qH (show ((we.setCell ⟨g3, az, none⟩ (.int .i64 (y : Int))).setCell ⟨g1, s, none⟩ (.bool true)).ownsRow w.heap.size 3 1 v2 (tchL a (l.take (i + 1))).length (nat64 (tchL a (l.take (i + 1)))) by
    rw [← nat64_len]
    have h1 : we.ownsRow w.heap.size 3 1 v2 (nat64 (tchL a (l.take (i + 1)))).length (nat64 (tchL a (l.take (i + 1)))) := own6_stay TX.out fun j hj => BE.out.block j (own6_lt TX.out j hj).1
    exact own_far (own_far h1 (FW.out g3 (.inr ⟨3, by omega, by rw [HU3.out]; rfl⟩)) _) (FW.out g1 (.inr ⟨1, by omega, by rw [HU1.out]; rfl⟩)) _)
   clear hci
   go_wp2_with fail
   exact ⟨⟨i + 1, _, HIN.out, rfl, PZ.out, TZ.out, OZ.out⟩, by simpa [intOf] using HMI.out⟩
 ·obtain rfl : i = len := Nat.le_antisymm HI.out (Nat.le_of_not_lt hin)
  have x1 : ¬ ((i : Int) < (i : Int)) := Int.lt_irrefl _
  obtain ⟨w1, hw1⟩ : ∃ v : World, v = wl := ⟨_, rfl⟩
  subst hw1
  obtain ⟨T, hT⟩ : ∃ T, T = tchL a l := ⟨_, rfl⟩
  have HT := qH hT
  have hTT : tchL a (l.take i) = T := by rw [hT, HLEN.out, List.take_length]
  rw [hTT] at TI HTL
  have HTD := qH (show T.Nodup by rw [hT]; exact tchL_nodup a l)
  have HTM := qH (show ∀ k ∈ T, (∃ s ∈ l, a s = k) ∧ k < m from fun k hk => by
   rw [hT] at hk
   obtain ⟨s, h1, h2⟩ := tchL_mem.1 hk
   exact ⟨⟨s, h1, h2⟩, by rw [← h2]; exact HPN.out.lt s (HLL.out s h1)⟩)
  have HTN := qH (show tl ≤ n by
   rw [HTL.out, hT]
   exact Nat.le_trans (tchL_le HPN.out HLL.out) HMN.out)
  have PP0 := qH (show PPost w1 H p D n m a (gI l 0) (cT a l T 0) w1 from PPost.refl ⟨⟨U, Y, PI.out.congr (fun _ _ => rfl) (fun s _ => fI_all (by rw [← HLEN.out]; exact Nat.le_refl _) s) (fun s _ => cT_zero (by rw [← HLEN.out]; exact Nat.le_refl _) s), HD.out⟩, HV.out.dB, fun k hk => Nat.lt_of_lt_of_le (HDL.out k hk) OI.out.size⟩)
  have RT := qH (Row.of_own TI.out)
  have HTV := qH (show ∀ k, (Value.slice At tl ct).ownBlock = some k → ¬ D k from fun k hk hd => by
   have h1 := (own6_lt TI.out k hk).2
   have h2 := HDL.out k hd
   omega)
  have RLW := qH (HRL.out.off OI.out HLV.out)
  clear hin PI TI hT hTT
  go_wp2_with fail
  go_loopw [65] (fun jv wl => ∃ (j m' : Nat) (a' : Nat → Nat), j ≤ tl ∧ jv = .int .i64 (j : Int) ∧ CutJ n l m a T j m' a' ∧ PPost w1 H p D n m' a' (gI l 0) (cT a l T j) wl) (fun jv _ => tl - (intOf jv).toNat)
  case atStart => exact ⟨0, m, a, Nat.zero_le _, rfl, CutJ.zero HPN.out, PP0.out⟩
  clear PP0
  obtain ⟨j, m', a', hj, rfl, hcj, hpp⟩ := hrel
  obtain ⟨wl, hwl⟩ : ∃ v : World, v = wr := ⟨_, rfl⟩
  subst hwl
  have HJ := qH hj
  have CJ := qH hcj
  have PJ := qH hpp
  have HM'N := qH hcj.pn.le
  clear hj hcj hpp
  by_cases hjn : j < tl
  ·have x2 : (j : Int) < (tl : Int) := Int.ofNat_lt.2 hjn
   have HJN := qH hjn
   have HMJ := qH (sub_next hjn)
   have e3 := wrap_one j (len_i (Nat.le_trans HJ.out HTN.out) HNF.out)
   have e4 := wrap_one' j (len_i (Nat.le_trans HJ.out HTN.out) HNF.out)
   obtain ⟨k, hk⟩ : ∃ k, T[j]? = some k := ⟨_, List.getElem?_eq_getElem (by rw [← HTL.out]; exact hjn)⟩
   have HK := qH hk
   have HKM := qH (HTM.out k (List.mem_of_getElem? hk)).2
   have HKM' := qH (Nat.lt_of_lt_of_le HKM.out CJ.out.le)
   have HKN := qH (Nat.lt_of_lt_of_le HKM'.out HM'N.out)
   have HN0 := qH (Nat.lt_of_le_of_lt (Nat.zero_le k) HKN.out)
   have HNT := qH (not_mem_take HTD.out hk)
   have RTW := qH (RT.out.off PJ.out.off HTV.out)
   obtain ⟨bt, ot, rfl, _, hct⟩ := RTW.out.at_ (by rw [nat64_len, ← HTL.out]; exact Nat.lt_of_le_of_lt (Nat.zero_le _) hjn)
   have c68 : wl.cell? ⟨bt, ot + j, none⟩ = some (.int .i64 (k : Int)) := hct j _ (nat64_get hk)
   obtain ⟨V, Z, hv, hvd⟩ := PJ.out.pt.is
   obtain ⟨g0, c0, hV0, _⟩ := hv.val (i := 0) (by omega) hv.l0 (by have := HKM'.out; omega)
   obtain ⟨g3, c3, hV3, _⟩ := hv.val (i := 3) (by omega) hv.l3 HN0.out
   have CP0 := qH (show wl.cell? ⟨p, 0, none⟩ = some (.slice (some ⟨g0, 0, none⟩) m' c0) by rw [hv.blk.cell 0, ← hV0]; rfl)
   have CP3 := qH (show wl.cell? ⟨p, 3, none⟩ = some (.slice (some ⟨g3, 0, none⟩) n c3) by rw [hv.blk.cell 3, ← hV3]; rfl)
   obtain ⟨x, hx⟩ : ∃ x, x = cntK a l k := ⟨_, rfl⟩
   obtain ⟨y, hy⟩ : ∃ y, y = (prt n a k).length := ⟨_, rfl⟩
   obtain ⟨Ak, ck, hVk⟩ : ∃ A c, V (k + 4) = .slice A y c := by
    obtain ⟨A, c, e⟩ := ownC_slice (hv.part HKM'.out)
    exact ⟨A, c, by rw [e, hy, CJ.out.prt HKM.out HNT.out]⟩
   have CC := qH (show wl.cell? ⟨g3, k, none⟩ = some (.int .i64 (x : Int)) by rw [hv.cnt hV3 HKN.out, cT_at HTD.out hk, hx])
   have CT := qH (show wl.cell? ⟨g0, k, none⟩ = some (.slice Ak y ck) by rw [hv.top hV0 HKM'.out, hVk])
   obtain ⟨q, hq⟩ : ∃ q, decide (x < y) = q := ⟨_, rfl⟩
   have HQ := qH hq
   have HX := qH hx
   have HY := qH hy
   clear hjn hk hct hv hvd hV0 hV3 hx hy hVk hq
   go_wp2_with fail
   refine sg_start (S := IsW wl.drew) (by kernel_rfl) rfl (fun wd hwd => ?_)
   have hX : IsW wl.drew wd := hwd
   clear hwd
   refine sg_take (i := 0) (oi := ⟨some 69, _, _, _, _, _⟩) (v := ?_) rfl (by kernel_rfl) (by kernel_rfl) (by kernel_rfl) (fun _ _ _ h => h) rfl hX ?_ ?_; rotate_left; (intro W hW; go_simp; try with_reducible rfl); simp only [Act.put, qA, qB, qC]
   refine sg_take (i := 1) (oi := ⟨some 70, _, _, _, _, _⟩) (v := ?_) rfl (by kernel_rfl) (by kernel_rfl) (by kernel_rfl) (fun _ _ _ h => h) rfl hX ?_ ?_; rotate_left; (intro W hW; go_simp; try with_reducible rfl); simp only [Act.put, qA, qB, qC]
   refine sg_take (i := 2) (oi := ⟨some 71, _, _, _, _, _⟩) (v := ?_) rfl (by kernel_rfl) (by kernel_rfl) (by kernel_rfl) (fun _ _ _ h => h) rfl hX ?_ ?_; rotate_left; (intro W hW; go_simp; try with_reducible rfl); simp only [Act.put, qA, qB, qC]
   refine sg_take (i := 3) (oi := ⟨some 72, _, _, _, _, _⟩) (v := .slice (some ⟨g3, 0, none⟩) n c3) rfl (by kernel_rfl) (by kernel_rfl) (by kernel_rfl) (fun _ _ _ h => h) rfl hX (fun W hW => lk_ldIs (.tmp 71) rfl rfl (lk_isc hW CP3.out)) ?_; simp only [Act.put, qA, qB, qC]
   refine sg_take (i := 4) (oi := ⟨some 73, _, _, _, _, _⟩) (v := ?_) rfl (by kernel_rfl) (by kernel_rfl) (by kernel_rfl) (fun _ _ _ h => h) rfl hX ?_ ?_; rotate_left; (intro W hW; go_simp; try with_reducible rfl); simp only [Act.put, qA, qB, qC]
   refine sg_take (i := 5) (oi := ⟨some 74, _, _, _, _, _⟩) (v := .pointer (some ⟨g3, k, none⟩)) rfl (by kernel_rfl) (by kernel_rfl) (by kernel_rfl) (fun _ _ _ h => h) rfl hX (fun W hW => lk_ixI0 (.tmp 72) (.tmp 73) rfl rfl rfl HKN.out W) ?_; simp only [Act.put, qA, qB, qC]
   refine sg_take (i := 6) (oi := ⟨some 75, _, _, _, _, _⟩) (v := .int .i64 (x : Int)) rfl (by kernel_rfl) (by kernel_rfl) (by kernel_rfl) (fun _ _ _ h => h) rfl hX (fun W hW => lk_ldI (.tmp 74) rfl rfl (lk_isc hW CC.out)) ?_; simp only [Act.put, qA, qB, qC]
   refine sg_take (i := 7) (oi := ⟨some 76, _, _, _, _, _⟩) (v := ?_) rfl (by kernel_rfl) (by kernel_rfl) (by kernel_rfl) (fun _ _ _ h => h) rfl hX ?_ ?_; rotate_left; (intro W hW; go_simp; try with_reducible rfl); simp only [Act.put, qA, qB, qC]
   refine sg_take (i := 8) (oi := ⟨some 77, _, _, _, _, _⟩) (v := ?_) rfl (by kernel_rfl) (by kernel_rfl) (by kernel_rfl) (fun _ _ _ h => h) rfl hX ?_ ?_; rotate_left; (intro W hW; go_simp; try with_reducible rfl); simp only [Act.put, qA, qB, qC]
   refine sg_take (i := 9) (oi := ⟨some 78, _, _, _, _, _⟩) (v := ?_) rfl (by kernel_rfl) (by kernel_rfl) (by kernel_rfl) (fun _ _ _ h => h) rfl hX ?_ ?_; rotate_left; (intro W hW; go_simp; try with_reducible rfl); simp only [Act.put, qA, qB, qC]
   refine sg_take (i := 10) (oi := ⟨some 79, _, _, _, _, _⟩) (v := .slice (some ⟨g0, 0, none⟩) m' c0) rfl (by kernel_rfl) (by kernel_rfl) (by kernel_rfl) (fun _ _ _ h => h) rfl hX (fun W hW => lk_ldIss (.tmp 78) rfl rfl (lk_isc hW CP0.out)) ?_; simp only [Act.put, qA, qB, qC]
   refine sg_take (i := 11) (oi := ⟨some 80, _, _, _, _, _⟩) (v := ?_) rfl (by kernel_rfl) (by kernel_rfl) (by kernel_rfl) (fun _ _ _ h => h) rfl hX ?_ ?_; rotate_left; (intro W hW; go_simp; try with_reducible rfl); simp only [Act.put, qA, qB, qC]
   refine sg_take (i := 12) (oi := ⟨some 81, _, _, _, _, _⟩) (v := .pointer (some ⟨g0, k, none⟩)) rfl (by kernel_rfl) (by kernel_rfl) (by kernel_rfl) (fun _ _ _ h => h) rfl hX (fun W hW => lk_ixIs0 (.tmp 79) (.tmp 80) rfl rfl rfl HKM'.out W) ?_; simp only [Act.put, qA, qB, qC]
   refine sg_take (i := 13) (oi := ⟨some 82, _, _, _, _, _⟩) (v := .slice Ak y ck) rfl (by kernel_rfl) (by kernel_rfl) (by kernel_rfl) (fun _ _ _ h => h) rfl hX (fun W hW => lk_ldIs (.tmp 81) rfl rfl (lk_isc hW CT.out)) ?_; simp only [Act.put, qA, qB, qC]
   refine sg_take (i := 14) (oi := ⟨some 83, _, _, _, _, _⟩) (v := ?_) rfl (by kernel_rfl) (by kernel_rfl) (by kernel_rfl) (fun _ _ _ h => h) rfl hX ?_ ?_; rotate_left; (intro W hW; go_simp; try with_reducible rfl); simp only [Act.put, qA, qB, qC]
   refine sg_take (i := 15) (oi := ⟨some 84, _, _, _, _, _⟩) (v := .bool q) rfl (by kernel_rfl) (by kernel_rfl) (by kernel_rfl) (fun _ _ _ h => h) rfl hX (fun W hW => lk_lss (.tmp 75) (.tmp 83) rfl rfl rfl HQ.out W) ?_; simp only [Act.put, qA, qB, qC]
   refine wpAnyH_done (by kernel_rfl) ?_ _
   have BD := qH (lk_isb hX)
   have PD := qH (PJ.out.then_ BD.out)
   clear hX c68 PJ
   cases q with
   | false =>
    have CZ := qH (CJ.out.skip HK.out fun s hs e => cntK_all HLL.out HLD.out (by rw [← HX.out, ← HY.out]; exact of_decide_eq_false HQ.out) hs e)
    have PZ := qH PD.out
    obtain ⟨w2, hw2⟩ : ∃ v : World, v = wd := ⟨_, rfl⟩
    subst hw2
    clear PD
    obtain ⟨V2, Z2, hv2, hvd2⟩ := PZ.out.pt.is
    obtain ⟨g4, c4, hV4, _⟩ := hv2.val (i := 3) (by omega) hv2.l3 HN0.out
    have kn1 : (k : Int) < (n : Int) := Int.ofNat_lt.2 HKN.out
    have cq3 : w2.cell? ⟨p, 3, none⟩ = some (.slice (some ⟨g4, 0, none⟩) n c4) := by rw [hv2.blk.cell 3, ← hV4]; rfl
    have hcc := hv2.cell (i := 3) (q := k) (by omega) hV4 (by rw [hv2.x3]; exact ncs_get _ HKN.out)
    have cc1 := hcc.1
    have cc2 := hcc.2
    have PW := qH ((PPost.set PZ.out (hv2.setC hV4 HKN.out 0) hvd2 (hvd2 g4 (.inr ⟨3, by omega, by rw [hV4]; rfl⟩))).congr (c' := cT a l T (j + 1)) (fun _ _ => rfl) (fun _ _ => rfl) (fun s _ => cT_next HK.out s))
    clear hcc hv2 hvd2 hV4
    go_wp2_with fail
    exact ⟨⟨j + 1, _, _, HJN.out, rfl, CZ.out, PW.out⟩, by simpa [intOf] using HMJ.out⟩
   | true =>
    obtain ⟨s0, hs0, hs1⟩ := (HTM.out k (List.mem_of_getElem? HK.out)).1
    have HYS := qH (show ∃ s, s < n ∧ a s = k ∧ gI l 0 s = true from ⟨s0, HLL.out s0 hs0, hs1, (gI_iff s0).2 hs0⟩)
    obtain ⟨s2, hs2, hs3, hs4⟩ := cntK_few (a := a) (k := k) HLL.out HLD.out (by rw [← HX.out, ← HY.out]; exact of_decide_eq_true HQ.out)
    have HNS := qH (show ∃ s, s < n ∧ a s = k ∧ gI l 0 s = false from ⟨s2, hs2, hs3, by
     cases e : gI l 0 s2 with
     | false => rfl
     | true => exact absurd ((gI_iff s2).1 e) hs4⟩)
    clear hs0 hs1 hs2 hs3 hs4
    go_wp2_with fail
    refine (lSplit_any wd PD.out.pt CJ.out.pn HNF.out HKM'.out (by
     obtain ⟨s, h1, h2, h3⟩ := HYS.out
     exact ⟨s, h1, (CJ.out.same HKM.out HNT.out h1).2 h2, h3⟩) (by
     obtain ⟨s, h1, h2, h3⟩ := HNS.out
     exact ⟨s, h1, (CJ.out.same HKM.out HNT.out h1).2 h2, h3⟩)).mono ?_
    rintro e w2 ⟨rfl, hpz⟩
    have PZ := qH (PD.out.trans hpz)
    have CZ := qH (CJ.out.next HTD.out HK.out HKM.out (I := gI l 0) (fun s _ => gI_iff s) (lsB n a' (gI l 0) k) (by
     cases lsB n a' (gI l 0) k
     ·exact HNS.out
     ·exact HYS.out) (by
     cases lsB n a' (gI l 0) k
     ·exact HYS.out
     ·exact HNS.out))
    clear hpz PD
    obtain ⟨V2, Z2, hv2, hvd2⟩ := PZ.out.pt.is
    obtain ⟨g4, c4, hV4, _⟩ := hv2.val (i := 3) (by omega) hv2.l3 HN0.out
    have kn1 : (k : Int) < (n : Int) := Int.ofNat_lt.2 HKN.out
    have cq3 : w2.cell? ⟨p, 3, none⟩ = some (.slice (some ⟨g4, 0, none⟩) n c4) := by rw [hv2.blk.cell 3, ← hV4]; rfl
    have hcc := hv2.cell (i := 3) (q := k) (by omega) hV4 (by rw [hv2.x3]; exact ncs_get _ HKN.out)
    have cc1 := hcc.1
    have cc2 := hcc.2
    have PW := qH ((PPost.set PZ.out (hv2.setC hV4 HKN.out 0) hvd2 (hvd2 g4 (.inr ⟨3, by omega, by rw [hV4]; rfl⟩))).congr (c' := cT a l T (j + 1)) (fun _ _ => rfl) (fun _ _ => rfl) (fun s _ => cT_next HK.out s))
    clear hcc hv2 hvd2 hV4
    go_wp2_with fail
    exact ⟨⟨j + 1, _, _, HJN.out, rfl, CZ.out, PW.out⟩, by simpa [intOf] using HMJ.out⟩
  ·obtain rfl : j = tl := Nat.le_antisymm HJ.out (Nat.le_of_not_lt hjn)
   have x2 : ¬ ((j : Int) < (j : Int)) := Int.lt_irrefl _
   have HTL2 := qH (show (tchL a l).length ≤ j by rw [HTL.out, HT.out]; exact Nat.le_refl _)
   have CP := qH (show CutP n l m a m' a' from (show CutJ n l m a (tchL a l) j m' a' by rw [← HT.out]; exact CJ.out).done HTL2.out)
   have P3 := qH (PJ.out.congr (c' := fun _ => 0) (fun _ _ => rfl) (fun _ _ => rfl) fun s _ => by rw [HT.out]; exact cT_end HTL2.out s)
   clear hjn PJ CJ
   go_wp2_with fail
   go_loopw [97] (fun kv wm => ∃ q : Nat, q ≤ i ∧ kv = .int .i64 (q : Int) ∧ PPost w1 H p D n m' a' (gI l q) (fun _ => 0) wm) (fun kv _ => i - (intOf kv).toNat)
   case atStart => exact ⟨0, Nat.zero_le _, rfl, P3.out⟩
   clear P3
   obtain ⟨q, hq, rfl, hpp⟩ := hrel
   obtain ⟨wm, hwm⟩ : ∃ v : World, v = wr := ⟨_, rfl⟩
   subst hwm
   have PQ := qH hpp
   have HQI := qH hq
   clear hq hpp
   by_cases hqi : q < i
   ·have x3 : (q : Int) < (i : Int) := Int.ofNat_lt.2 hqi
    have HQN := qH hqi
    have HMQ := qH (sub_next hqi)
    have e3 := wrap_one q (len_i (Nat.le_trans HQI.out HLN.out) HNF.out)
    have e4 := wrap_one' q (len_i (Nat.le_trans HQI.out HLN.out) HNF.out)
    obtain ⟨s, hs⟩ : ∃ s, l[q]? = some s := ⟨_, List.getElem?_eq_getElem (by rw [← HLEN.out]; exact hqi)⟩
    have HS := qH hs
    have HSN := qH (HLL.out s (List.mem_of_getElem? hs))
    have HN0 := qH (Nat.lt_of_le_of_lt (Nat.zero_le s) HSN.out)
    have RLM := qH (RLW.out.off PQ.out.off HLV.out)
    obtain ⟨bt, ot, rfl, _, hct⟩ := RLM.out.at_ (by rw [nat64_len, ← HLEN.out]; exact Nat.lt_of_le_of_lt (Nat.zero_le _) hqi)
    have c100 : wm.cell? ⟨bt, ot + q, none⟩ = some (.int .i64 (s : Int)) := hct q _ (nat64_get hs)
    obtain ⟨V, Z, hv, hvd⟩ := PQ.out.pt.is
    obtain ⟨g1, c1, hV1, _⟩ := hv.val (i := 1) (by omega) hv.l1 HN0.out
    have s1 : (s : Int) < (n : Int) := Int.ofNat_lt.2 HSN.out
    have cq2 : wm.cell? ⟨p, 2, none⟩ = some (.slice (some ⟨g1, 0, none⟩) n c1) := by rw [hv.blk.cell 2, ← hV1]; rfl
    have hcc := hv.cell (i := 1) (q := s) (by omega) hV1 (by rw [hv.x1]; exact bcs_get _ HSN.out)
    have cc1 := hcc.1
    have cc2 := hcc.2
    have PW := qH ((PPost.set PQ.out (hv.setI hV1 HSN.out false) hvd (hvd g1 (.inr ⟨1, by omega, by rw [hV1]; rfl⟩))).congr (I' := gI l (q + 1)) (fun _ _ => rfl) (fun s _ => gI_next HS.out s) (fun _ _ => rfl))
    clear hqi hs hct hv hvd hV1 hcc
    go_wp2_with fail
    exact ⟨⟨q + 1, HQN.out, rfl, PW.out⟩, by simpa [intOf] using HMQ.out⟩
   ·obtain rfl : q = i := Nat.le_antisymm HQI.out (Nat.le_of_not_lt hqi)
    have x3 : ¬ ((q : Int) < (q : Int)) := Int.lt_irrefl _
    clear hqi
    go_wp2_with fail
    go_end0
    refine ⟨rfl, m', a', CP.out, PPost.pre OI.out HDL.out (PQ.out.congr (fun _ _ => rfl) (fun s _ => gI_end (by rw [← HLEN.out]; exact Nat.le_refl _) s) (fun _ _ => rfl)) HSZ.out⟩
section
variable {P : Program} {o : Oper} {a : Act} {w : World} {K : Act → World → Prop} {Q : Exit → Act → World → Prop}
theorem wp_bld0L (t e : TypeId) (ho : o.op = .buildSlice t 0 #[]) (i : TypeInfo) (ht : P.underlying t = some (.slice e)) (hi : P.info? e = some i) (z : Value) (hz : i.zero = some z) (hs : i.size = 1)
  (h : ∀ w', w'.ownsRow w.heap.size e 1 (.slice (some ⟨w.heap.size, 0, none⟩) 0 0) 0 [] → Below w.heap.size w w' → K (a.put o.dst (.slice (some ⟨w.heap.size, 0, none⟩) 0 0)) w') : o.wp P a w K Q := by
 have hrun : (Instr.buildSlice t 0 #[]).run P w = .ok (.slice (some ⟨w.heap.size, 0, none⟩) 0 0) (w.alloc (.cells #[] e)) := by
  simp [Instr.buildSlice, run_underlying ht, sizeOf, typeInfo, hi, hs, Instr.fill, newRow, Array.range_zero']
 unfold Oper.wp
 simp only [execOp, ho, List.map_toArray, List.map_nil, hrun, Sem.run_bind, Result.andThen_ok, Sem.run_pure]
 exact h _ ⟨by simp, .inr ⟨w.heap.size, 0, #[], rfl, Nat.le_refl _, heap_alloc_new w _, Nat.le_refl _, Nat.zero_le _, rfl, rfl⟩⟩ ((Below.refl _ _).alloc (Nat.le_refl _) _)
theorem wp_newL (ty : TypeId) (ho : o.op = .alloc ty) (i : TypeInfo) (z : Value) (cs : List Value) (hi : P.info? ty = some i) (hz : i.zero = some z) (hc : z.cells = cs.toArray)
  (h : ∀ w', Blk w' w.heap.size ty cs → Below w.heap.size w w' → K (a.put o.dst (.pointer (some ⟨w.heap.size, 0, none⟩))) w') : o.wp P a w K Q := by
 unfold Oper.wp
 have hrun : (Instr.alloc ty true (.tuple #[])).run P w = .ok (.pointer (some ⟨w.heap.size, 0, none⟩)) (w.alloc (.cells cs.toArray ty)) := by
  have hzv : (zeroValue ty).run P w = .ok z w := by simp [zeroValue, typeInfo, hi, hz]
  simp [Instr.alloc, hzv, newVar, hc, run_newRow_blk]
 simp only [execOp, ho, hrun, Sem.run_bind, Result.andThen_ok, Sem.run_pure]
 exact h _ (Blk.new w ty cs) ((Below.refl _ _).alloc (Nat.le_refl _) _)
end
structure CpR (D : Dm) (i : Nat) (U : Nat → Value) (X : Nat → List Value) : Prop where
 a0 : X 0 = (List.range i).map fun q => U (q + 2)
 a1 : X 1 = bools D.ends
 ar : ∀ q r, q < i → D.next[q]? = some r → X (q + 2) = nums .i64 r
theorem CpR.zero (D : Dm) (v : Value) : CpR D 0 (putV (fun _ => .slice none 0 0) 1 v) (putX (fun _ => []) 1 (bools D.ends)) := ⟨rfl, rfl, fun q r h => absurd h (Nat.not_lt_zero q)⟩
theorem CpR.next {D : Dm} {i : Nat} {U : Nat → Value} {X : Nat → List Value} (h : CpR D i U X) {v vn : Value} {r : List Int} (hr : D.next[i]? = some r) :
  CpR D (i + 1) (putV (putV U (2 + i) v) 0 vn) (putX (putX X (2 + i) (nums .i64 r)) 0 ((List.range i).map (fun q => U (q + 2)) ++ [v])) := by
 refine ⟨?_, ?_, fun q y hq hy => ?_⟩
 ·rw [putX_at, List.range_succ, List.map_append]
  have e1 : (List.range i).map (fun q => putV (putV U (2 + i) v) 0 vn (q + 2)) = (List.range i).map fun q => U (q + 2) := List.map_congr_left fun p hp => by
   have := List.mem_range.1 hp
   rw [putV_ne (by omega), putV_ne (by omega)]
  have e2 : putV (putV U (2 + i) v) 0 vn (i + 2) = v := by rw [putV_ne (by omega), Nat.add_comm i 2, putV_at]
  rw [e1, List.map_cons, List.map_nil, e2]
 ·rw [putX_ne (by omega), putX_ne (by omega)]
  exact h.a1
 ·rw [putX_ne (by omega)]
  by_cases e : q = i
  ·subst e
   rw [Nat.add_comm q 2, putX_at, Option.some.inj (hr.symm.trans hy)]
  ·rw [putX_ne (by omega)]
   exact h.ar q y (by omega) hy
theorem CpR.dfa {D : Dm} {n : Nat} {U : Nat → Value} {X : Nat → List Value} {w : World} {H : Nat} (h : CpR D n U X) (ha : Apt w H (2 + n) U X) (hl : D.cl.length = 256) (hn : n = D.next.length) : DfaA w H (dcl D.cl (U 0) (U 1)) D :=
 ⟨U, X, hl, rfl, by rw [← hn]; exact ha, by rw [← hn]; exact h.a0, h.a1, fun i r hr => h.ar i r (by have := (List.getElem?_eq_some_iff.1 hr).1; omega) hr⟩
theorem ex_bldP {ev : Operand → Value} {o : Oper} (parts : Array (Nat × Operand)) (ho : o.op = .build 28 parts) {d : List Value} (h : Try.prog.built 28 (parts.map fun (i, x) => (i, ev x)).toList = some d.toArray) (W : World) : (execOp ev o).run Try.prog W = .ok (.value (.agg d.toArray)) W := by
 unfold execOp
 simp only [ho, Sem.run_bind, run_build W 28 _ d.toArray h, Result.andThen_ok, Sem.run_pure]
theorem ex_bld2 {ev : Operand → Value} {o : Oper} (i j : Nat) (x y : Operand) (ho : o.op = .build 28 #[(i, x), (j, y)]) {u v : Value} (hx : ev x = u) (hy : ev y = v) {d : List Value} (h : Try.prog.built 28 [(i, u), (j, v)] = some d.toArray) (W : World) : (execOp ev o).run Try.prog W = .ok (.value (.agg d.toArray)) W :=
 ex_bldP _ ho (by simpa [hx, hy] using h) W
structure EnvC (w0 wl : World) (gd H : Nat) (cl : List UInt8) (vn ve : Value) (n : Nat) (xs : List Value) : Prop where
 blk : Blk wl gd 28 (dcl cl vn ve)
 own : wl.ownsRow H 4 1 ve n xs
 bel : Below H w0 wl
 ge : H ≤ gd
 ne : ∀ k, ve.ownBlock = some k → k ≠ gd
section
variable {w0 wl w' : World} {gd H H2 n : Nat} {cl : List UInt8} {vn ve : Value} {xs : List Value}
theorem EnvC.off (h : EnvC w0 wl gd H cl vn ve n xs) (hd : gd < H2) (hf : ∀ k, ve.ownBlock = some k → k < H2) (hb : Below H2 wl w') : EnvC w0 w' gd H cl vn ve n xs :=
 ⟨(hb.block gd hd).trans h.blk, own6_stay h.own fun j hj => hb.block j (hf j hj), h.bel.trans (hb.mono (Nat.le_trans h.ge (Nat.le_of_lt hd))), h.ge, h.ne⟩
theorem EnvC.below (h : EnvC w0 wl gd H cl vn ve n xs) (hb : Below wl.heap.size wl w') : EnvC w0 w' gd H cl vn ve n xs :=
 ⟨h.blk.below hb h.blk.lt, own6_stay h.own fun j hj => hb.block j (own6_lt h.own j hj).1, h.bel.trans (hb.mono (Nat.le_trans h.ge (Nat.le_of_lt h.blk.lt))), h.ge, h.ne⟩
theorem EnvC.setn (h : EnvC w0 wl gd H cl vn ve n xs) (hl : cl.length = 256) (v : Value) : EnvC w0 (wl.setCell ⟨gd, 256, none⟩ v) gd H cl v ve n xs := by
 have h1 := h.blk.set 256 v
 rw [dcl_setn hl] at h1
 exact ⟨h1, own6_stay h.own fun j hj => Below.heap_setCell wl ⟨gd, 256, none⟩ v j (h.ne j hj), h.bel.setCell (p := ⟨gd, 256, none⟩) h.ge v, h.ge, h.ne⟩
end
theorem apt_ends {w : World} {H H2 m n : Nat} {U : Nat → Value} {X : Nat → List Value} {ve : Value} {xs : List Value} (h : Apt w H2 m U X) (ho : w.ownsRow H 4 1 ve n xs) (hH : H ≤ H2) (hlt : ∀ k, ve.ownBlock = some k → k < H2) : Apt w H m (putV U 1 ve) (putX X 1 xs) := by
 refine ⟨fun i hi => ?_, fun i j hi hj hij k hk => ?_⟩
 ·by_cases e : i = 1
  ·subst e
   rw [putV_at, putX_at]
   have hx : xs.length = n := by rw [ho.1, Nat.mul_one]
   rw [hx]
   exact ho
  ·rw [putV_ne e, putX_ne e]
   exact own_mono (h.own i hi) hH
 ·by_cases e : i = 1
  ·subst e
   rw [putV_at] at hk
   rw [putV_ne (fun e2 => hij e2.symm)]
   intro e3
   have h1 := hlt k hk
   have h2 := (h.lt hj k e3).2
   omega
  ·rw [putV_ne e] at hk
   by_cases e2 : j = 1
   ·subst e2
    rw [putV_at]
    intro e3
    have h1 := hlt k e3
    have h2 := (h.lt hi k hk).2
    omega
   ·rw [putV_ne e2]
    exact h.inj i j hi hj hij k hk
structure CpS (D : Dm) (i : Nat) (U : Nat → Value) (X : Nat → List Value) : Prop where
 a0 : X 0 = (List.range i).map fun q => U (q + 2)
 ar : ∀ q r, q < i → D.next[q]? = some r → X (q + 2) = nums .i64 r
theorem CpS.next {D : Dm} {i : Nat} {U : Nat → Value} {X : Nat → List Value} (h : CpS D i U X) {v vn : Value} {r : List Int} (hr : D.next[i]? = some r) :
  CpS D (i + 1) (putV (putV U (2 + i) v) 0 vn) (putX (putX X (2 + i) (nums .i64 r)) 0 ((List.range i).map (fun q => U (q + 2)) ++ [v])) := by
 refine ⟨?_, fun q y hq hy => ?_⟩
 ·rw [putX_at, List.range_succ, List.map_append]
  have e1 : (List.range i).map (fun q => putV (putV U (2 + i) v) 0 vn (q + 2)) = (List.range i).map fun q => U (q + 2) := List.map_congr_left fun p hp => by
   have := List.mem_range.1 hp
   rw [putV_ne (by omega), putV_ne (by omega)]
  have e2 : putV (putV U (2 + i) v) 0 vn (i + 2) = v := by rw [putV_ne (by omega), Nat.add_comm i 2, putV_at]
  rw [e1, List.map_cons, List.map_nil, e2]
 ·rw [putX_ne (by omega)]
  by_cases e : q = i
  ·subst e
   rw [Nat.add_comm q 2, putX_at, Option.some.inj (hr.symm.trans hy)]
  ·rw [putX_ne (by omega)]
   exact h.ar q y (by omega) hy
theorem CpS.dfa {D : Dm} {n : Nat} {U : Nat → Value} {X : Nat → List Value} {w : World} {H H2 : Nat} {ve : Value} (h : CpS D n U X) (ha : Apt w H2 (2 + n) U X) (ho : w.ownsRow H 4 1 ve n (bools D.ends)) (hH : H ≤ H2) (hlt : ∀ k, ve.ownBlock = some k → k < H2) (hl : D.cl.length = 256) (hn : n = D.next.length) : DfaA w H (dcl D.cl (U 0) ve) D := by
 refine ⟨putV U 1 ve, putX X 1 (bools D.ends), hl, by rw [putV_ne (by decide), putV_at], by rw [← hn]; exact apt_ends ha ho hH hlt, ?_, putX_at _ _ _, fun i r hr => ?_⟩
 ·rw [putX_ne (by decide), h.a0, hn]
  exact List.map_congr_left fun q _ => by rw [putV_ne (by omega)]
 ·rw [putX_ne (by omega)]
  exact h.ar i r (by have := (List.getElem?_eq_some_iff.1 hr).1; omega) hr
end Go.Proofs.Ytiehefnbdijiaaa
