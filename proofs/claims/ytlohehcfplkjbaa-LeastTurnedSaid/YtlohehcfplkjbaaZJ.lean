/-
  Texts of this proof, put together: LpC. No statement is proved here.
-/
import Derived.Test.YtlohehcfplkjbaaZH
import Derived.Test.YtlohehcfplkjbaaZI
import Derived.Test.YtlohehcfplkjbaaZA
namespace Go.Proofs.Ytlohehcfplkjbaa
open Go.RowKit
set_option linter.unusedSimpArgs false
set_option linter.unusedVariables false
def farS (i : Nat) (pv : Value) (w : World) : Nat := i - cellN w pv i
theorem farS_is {w : World} {g n c i a : Nat} {P : Nat → Nat} (h : Blk w g 3 (ncs n (preP P i a))) (hi : i < n) : farS i (.slice (some ⟨g, 0, none⟩) n c) w = i - a := by
 unfold farS
 rw [cellN_is h hi, preP_at]
theorem farS_less {w w' : World} {g n c i a : Nat} {P : Nat → Nat} (h : Blk w g 3 (ncs n (preP P i a))) (h' : Blk w' g 3 (ncs n (preP P i (a + 1)))) (hi : i < n) (ha : a < i) : farS i (.slice (some ⟨g, 0, none⟩) n c) w' < farS i (.slice (some ⟨g, 0, none⟩) n c) w := by
 rw [farS_is h hi, farS_is h' hi]
 omega
theorem ex_neP {ev : Operand → Value} {o : Oper} (x y : Operand) {r : TypeId} (ho : o.op = .binOp .neq 4 x y r) {p q : Bool} (hx : ev x = .bool p) (hy : ev y = .bool q) {b : Bool} (hb : (p != q) = b) (W : World) : (execOp ev o).run Try.prog W = .ok (.value (.bool b)) W := by
 simp only [execOp, ho, hx, hy]
 subst hb
 cases p <;> cases q <;> go_simp
theorem ex_neJ {ev : Operand → Value} {o : Oper} (x y : Operand) {r : TypeId} (ho : o.op = .binOp .neq 3 x y r) {p q : Int} (hx : ev x = .int .i64 p) (hy : ev y = .int .i64 q) {b : Bool} (hb : (p != q) = b) (W : World) : (execOp ev o).run Try.prog W = .ok (.value (.bool b)) W := by
 simp only [execOp, ho, hx, hy]
 subst hb
 go_simp
 try rfl
theorem blk_pre {w : World} {g n i a : Nat} {P : Nat → Nat} (h : Blk w g 3 (ncs n (preP P i a))) (b : Nat) : Blk (w.setCell ⟨g, i, none⟩ (.int .i64 ((b : Int) + 1))) g 3 (ncs n (preP P i (b + 1))) := by
 have := h.set i (.int .i64 ((b + 1 : Nat) : Int))
 rw [ncs_set, preP_set] at this
 rw [← Int.natCast_succ]
 exact this
set_option maxHeartbeats 8000000 in
set_option maxRecDepth 1000000 in
theorem refParts11_any (D : Dm) (cs : List Value) (w : World) (hv : DfaV w cs D) (hm : MayD D) (hac : AllC D) :
  Calls Try.prog 17 #[.agg cs.toArray] w fun e w' => ∃ v, e = .returned v ∧ Row w' v (ncs D.next.length (parD D)) ∧ Below w.heap.size w w' := by
 have V0 := qH hv
 have HM := qH hm
 have HAC := qH hac
 have HDS := qH hv.size
 obtain ⟨An, Ae, cn, ce, vf, hl, hcs, hn, hr, he⟩ := hv.form
 have HL := qH hl
 obtain ⟨n, hnn⟩ : ∃ n, n = D.next.length := ⟨_, rfl⟩
 have HN := qH hnn
 have HEN := qH (show D.ends.length = n by rw [hnn]; exact hm.ends)
 rw [hm.ends, ← hnn] at hcs
 rw [← hnn] at hn ⊢
 have HCS := qH hcs
 rw [hm.ends, ← hnn] at he
 have HNP := qH (show 1 ≤ n by rw [hnn]; exact hm.pos)
 have HNF := qH (show n ≤ 2000 by rw [hnn]; exact hm.few)
 obtain ⟨be, oe, rfl, hbe, hce⟩ := he.at_ (by rw [bools_length, HEN.out]; exact HNP.out)
 have HBE := qH hbe
 have CE := qH (show ∀ q, q < n → w.cell? ⟨be, oe + q, none⟩ = some (.bool (D.ends.getD q false)) from fun q hq => hce q _ (by
  rw [bools, List.getElem?_map, List.getElem?_eq_getElem (by rw [HEN.out]; exact hq), List.getD_eq_getElem?_getD, List.getElem?_eq_getElem (by rw [HEN.out]; exact hq)]; rfl))
 clear hv hm hac hl hcs hn hr he hnn hbe hce
 obtain ⟨i1, hi1, hy0, hy1, hy2⟩ := infoP inf_int
 have HY2 := qH (show i1.bytes * n ≤ 281474976710656 by have := HNF.out; rw [hy2]; omega)
 have HN3 := qH (show n ≤ 9223372036854775807 by have := HNF.out; omega)
 clear hy2
 go_enter Try.func17, Try.ntmps17
 go_wp2_with (first
  | ((with_reducible refine atDst 1 ?_); refine wpList_box rfl 28 _ rfl cs rfl (Below.refl w.heap.size w) (Nat.le_refl _) ?_; intro w1 hk1 hb1 hs1 _; have K1 := qH hk1; have B1 := qH hb1; clear hk1 hb1 hs1; (try simp only [Act.put, qA, qB, qC]))
  | ((with_reducible refine atDst 9 ?_); refine wpList_ldArr rfl 28 _ rfl w.heap.size rfl 28 _ _ K1.out Try.underlying28 rfl HDS.out ?_; (try simp only [Act.put, qA, qB, qC])))
 refine (refMay11_any D cs w1 (V0.out.below B1.out) HM.out).mono ?_
 rintro e w2 ⟨rfl, hb⟩
 have K2 := qH (K1.out.below hb K1.out.lt)
 have BW2 := qH (B1.out.trans (hb.mono B1.out.size))
 clear hb
 have c256 : w2.cell? ⟨w.heap.size, 256, none⟩ = some (.slice An n cn) := by rw [K2.out.cell 256, HCS.out]; exact dcl_n HL.out
 have HT1 := qH (show w.heap.size < w2.heap.size from K2.out.lt)
 have V2 := qH (V0.out.below BW2.out)
 have HBE2 := qH (Nat.lt_of_lt_of_le HBE.out BW2.out.size)
 have CE2 := qH (show ∀ q, q < n → w2.cell? ⟨be, oe + q, none⟩ = some (.bool (D.ends.getD q false)) from fun q hq => (BW2.out.cell (p := ⟨be, oe + q, none⟩) HBE.out).trans (CE.out q hq))
 clear HBE CE K1 B1
 obtain ⟨g, hg⟩ : ∃ g, g = w2.heap.size := ⟨_, rfl⟩
 go_wp2_with ((with_reducible refine atDst 16 ?_); refine wpList_mk _ rfl _ _ 33 rfl 3 i1 (.int .i64 0) Try.underlying33 hi1 hy0 hy1 rfl n _ _ _ _ rfl rfl rfl rfl HY2.out HN3.out ?_; intro w3 hk hb hs; rw [ncs_no, preP_zero (parR D 0), ← hg] at hk; have T3 := qH hk; have B3 := qH (hg ▸ hb); clear hk hb hs; rw [← hg]; (try simp only [Act.put, qA, qB, qC]))
 have HG := qH hg
 clear c256 hg
 go_loopw [5] (fun v wl => ∃ i : Nat, i ≤ n ∧ v = .int .i64 (i : Int) ∧ Blk wl g 3 (ncs n (preP (parR D 0) i 0)) ∧ Below g w2 wl) (fun v _ => n - (intOf v).toNat)
 case atStart => exact ⟨0, Nat.zero_le _, rfl, T3.out, B3.out⟩
 clear T3 B3
 obtain ⟨i, hi, rfl, ht, hb⟩ := hrel
 have TI := qH ht
 have BI := qH hb
 have HI := qH hi
 clear hi ht hb
 obtain ⟨wi, hwi⟩ : ∃ v : World, v = wr := ⟨_, rfl⟩
 subst hwi
 by_cases hin : i < n
 ·have x1 : (i : Int) < (n : Int) := Int.ofNat_lt.2 hin
  have HIN := qH hin
  have HMI := qH (sub_next hin)
  have e3 := wrap_one i (lt_bigN hin HNF.out)
  have e4 := wrap_one' i (lt_bigN hin HNF.out)
  clear hin
  go_wp2_with fail
  go_loopw [44] (fun _ wl => ∃ a : Nat, SkP (eqC D 0) i a ∧ Blk wl g 3 (ncs n (preP (parR D 0) i a)) ∧ Below g w2 wl) (fun _ wl => farS i (.slice (some ⟨g, 0, none⟩) n n) wl)
  case atStart => exact ⟨0, SkP.zero _ _, TI.out, BI.out⟩
  clear TI BI
  obtain ⟨a, hs, ht, hb⟩ := hrel
  have SA := qH hs
  have TA := qH ht
  have BA := qH hb
  have HAN := qH (show a < n from Nat.lt_of_le_of_lt hs.le HIN.out)
  clear hs ht hb
  have ya : (a : Int) < (n : Int) := Int.ofNat_lt.2 HAN.out
  have CA := qH (show wr.cell? ⟨g, i, none⟩ = some (.int .i64 (a : Int)) by rw [TA.out.cell i, ncs_get _ HIN.out, preP_at])
  have HGL := qH (show g < wr.heap.size from TA.out.lt)
  have HTL := qH (show w.heap.size < g by rw [HG.out]; exact HT1.out)
  have C257 := qH (show wr.cell? ⟨w.heap.size, 257, none⟩ = some (.slice (some ⟨be, oe, none⟩) n ce) from (BA.out.cell (p := ⟨w.heap.size, 257, none⟩) HTL.out).trans (by rw [K2.out.cell 257, HCS.out]; exact dcl_e HL.out))
  have CE3 := qH (show ∀ q, q < n → wr.cell? ⟨be, oe + q, none⟩ = some (.bool (D.ends.getD q false)) from fun q hq => (BA.out.cell (p := ⟨be, oe + q, none⟩) (by rw [HG.out]; exact HBE2.out)).trans (CE2.out q hq))
  have HBE3 := qH (show be < wr.heap.size from Nat.lt_of_lt_of_le HBE2.out (by rw [← HG.out]; exact Nat.le_of_lt HGL.out))
  go_wp2_with fail
  refine mc_start (fun V => Below wr.heap.size wr V) (fun _ => True) 22 (by kernel_rfl) (fun wd hwd => ?_)
  have hX : Below wr.heap.size wr wd := by rw [hwd]; exact (Below.refl _ _).drew
  clear hwd
  by_cases hai : a < i
  ·have y1 : (a : Int) < (i : Int) := Int.ofNat_lt.2 hai
   have HAI := qH hai
   obtain ⟨x, hx⟩ : ∃ x, D.ends.getD a false = x := ⟨_, rfl⟩
   obtain ⟨y, hy⟩ : ∃ y, D.ends.getD i false = y := ⟨_, rfl⟩
   have CX := qH (show wr.cell? ⟨be, oe + a, none⟩ = some (.bool x) by rw [← hx]; exact CE3.out a HAN.out)
   have CY := qH (show wr.cell? ⟨be, oe + i, none⟩ = some (.bool y) by rw [← hy]; exact CE3.out i HIN.out)
   have HXY := qH (show eqC D 0 a i ↔ x = y by rw [eqC_zero, hx, hy])
   obtain ⟨z, hz⟩ : ∃ z, (x != y) = z := ⟨_, rfl⟩
   have HZ := qH hz
   clear hx hy hai hz
   refine mc_take (i := 0) (oi := ⟨some 22, _, _, _, _, _⟩) (v := ?_) rfl (by kernel_rfl) (by kernel_rfl) (by kernel_rfl) (fun _ _ _ h => h) rfl hX ?_ ?_; rotate_left; (intro W hW; go_simp; try with_reducible rfl); simp only [Act.put, qA, qB, qC]
   refine mc_take (i := 1) (oi := ⟨some 23, _, _, _, _, _⟩) (v := ?_) rfl (by kernel_rfl) (by kernel_rfl) (by kernel_rfl) (fun _ _ _ h => h) rfl hX ?_ ?_; rotate_left; (intro W hW; go_simp; try with_reducible rfl); simp only [Act.put, qA, qB, qC]
   refine mc_take (i := 2) (oi := ⟨some 24, _, _, _, _, _⟩) (v := ?_) rfl (by kernel_rfl) (by kernel_rfl) (by kernel_rfl) (fun _ _ _ h => h) rfl hX ?_ ?_; rotate_left; (intro W hW; go_simp; try with_reducible rfl); simp only [Act.put, qA, qB, qC]
   refine mc_take (i := 3) (oi := ⟨some 25, _, _, _, _, _⟩) (v := .int .i64 (a : Int)) rfl (by kernel_rfl) (by kernel_rfl) (by kernel_rfl) (fun _ _ _ h => h) rfl hX (fun V hV => ld_int9 (.tmp 24) rfl rfl ((hV.cell (p := ⟨g, i, none⟩) HGL.out).trans CA.out)) ?_; simp only [Act.put, qA, qB, qC]
   refine mc_take (i := 4) (oi := ⟨some 26, _, _, _, _, _⟩) (v := ?_) rfl (by kernel_rfl) (by kernel_rfl) (by kernel_rfl) (fun _ _ _ h => h) rfl hX ?_ ?_; rotate_left; (intro W hW; go_simp; try with_reducible rfl); simp only [Act.put, qA, qB, qC]
   refine mc_take (i := 5) (oi := ⟨some 27, _, _, _, _, _⟩) (v := ?_) rfl (by kernel_rfl) (by kernel_rfl) (by kernel_rfl) (fun _ _ _ h => h) rfl hX ?_ ?_; rotate_left; (intro W hW; go_simp; try with_reducible rfl); simp only [Act.put, qA, qB, qC]
   refine mc_take (i := 6) (oi := ⟨some 28, _, _, _, _, _⟩) (v := ?_) rfl (by kernel_rfl) (by kernel_rfl) (by kernel_rfl) (fun _ _ _ h => h) rfl hX ?_ ?_; rotate_left; (intro W hW; go_simp; try with_reducible rfl); simp only [Act.put, qA, qB, qC]
   refine mc_take (i := 7) (oi := ⟨some 29, _, _, _, _, _⟩) (v := ?_) rfl (by kernel_rfl) (by kernel_rfl) (by kernel_rfl) (fun _ _ _ h => h) rfl hX ?_ ?_; rotate_left; (intro W hW; go_simp; try with_reducible rfl); simp only [Act.put, qA, qB, qC]
   refine mc_take (i := 8) (oi := ⟨some 30, _, _, _, _, _⟩) (v := .slice (some ⟨be, oe, none⟩) n ce) rfl (by kernel_rfl) (by kernel_rfl) (by kernel_rfl) (fun _ _ _ h => h) rfl hX (fun V hV => ld_bls (.tmp 29) rfl rfl ((hV.cell (p := ⟨w.heap.size, 257, none⟩) (Nat.lt_trans HTL.out HGL.out)).trans C257.out)) ?_; simp only [Act.put, qA, qB, qC]
   refine mc_take (i := 9) (oi := ⟨some 31, _, _, _, _, _⟩) (v := ?_) rfl (by kernel_rfl) (by kernel_rfl) (by kernel_rfl) (fun _ _ _ h => h) rfl hX ?_ ?_; rotate_left; (intro W hW; go_simp; try with_reducible rfl); simp only [Act.put, qA, qB, qC]
   refine mc_take (i := 10) (oi := ⟨some 32, _, _, _, _, _⟩) (v := ?_) rfl (by kernel_rfl) (by kernel_rfl) (by kernel_rfl) (fun _ _ _ h => h) rfl hX ?_ ?_; rotate_left; (intro W hW; go_simp; try with_reducible rfl); simp only [Act.put, qA, qB, qC]
   refine mc_take (i := 11) (oi := ⟨some 33, _, _, _, _, _⟩) (v := ?_) rfl (by kernel_rfl) (by kernel_rfl) (by kernel_rfl) (fun _ _ _ h => h) rfl hX ?_ ?_; rotate_left; (intro W hW; go_simp; try with_reducible rfl); simp only [Act.put, qA, qB, qC]
   refine mc_take (i := 12) (oi := ⟨some 34, _, _, _, _, _⟩) (v := .int .i64 (a : Int)) rfl (by kernel_rfl) (by kernel_rfl) (by kernel_rfl) (fun _ _ _ h => h) rfl hX (fun V hV => ld_int9 (.tmp 33) rfl rfl ((hV.cell (p := ⟨g, i, none⟩) HGL.out).trans CA.out)) ?_; simp only [Act.put, qA, qB, qC]
   refine mc_take (i := 13) (oi := ⟨some 35, _, _, _, _, _⟩) (v := ?_) rfl (by kernel_rfl) (by kernel_rfl) (by kernel_rfl) (fun _ _ _ h => h) rfl hX ?_ ?_; rotate_left; (intro W hW; go_simp; try with_reducible rfl); simp only [Act.put, qA, qB, qC]
   refine mc_take (i := 14) (oi := ⟨some 36, _, _, _, _, _⟩) (v := .bool x) rfl (by kernel_rfl) (by kernel_rfl) (by kernel_rfl) (fun _ _ _ h => h) rfl hX (fun V hV => ld_b (.tmp 35) rfl rfl ((hV.cell (p := ⟨be, oe + a, none⟩) HBE3.out).trans CX.out)) ?_; simp only [Act.put, qA, qB, qC]
   refine mc_take (i := 15) (oi := ⟨some 37, _, _, _, _, _⟩) (v := ?_) rfl (by kernel_rfl) (by kernel_rfl) (by kernel_rfl) (fun _ _ _ h => h) rfl hX ?_ ?_; rotate_left; (intro W hW; go_simp; try with_reducible rfl); simp only [Act.put, qA, qB, qC]
   refine mc_take (i := 16) (oi := ⟨some 38, _, _, _, _, _⟩) (v := .slice (some ⟨be, oe, none⟩) n ce) rfl (by kernel_rfl) (by kernel_rfl) (by kernel_rfl) (fun _ _ _ h => h) rfl hX (fun V hV => ld_bls (.tmp 37) rfl rfl ((hV.cell (p := ⟨w.heap.size, 257, none⟩) (Nat.lt_trans HTL.out HGL.out)).trans C257.out)) ?_; simp only [Act.put, qA, qB, qC]
   refine mc_take (i := 17) (oi := ⟨some 39, _, _, _, _, _⟩) (v := ?_) rfl (by kernel_rfl) (by kernel_rfl) (by kernel_rfl) (fun _ _ _ h => h) rfl hX ?_ ?_; rotate_left; (intro W hW; go_simp; try with_reducible rfl); simp only [Act.put, qA, qB, qC]
   refine mc_take (i := 18) (oi := ⟨some 40, _, _, _, _, _⟩) (v := ?_) rfl (by kernel_rfl) (by kernel_rfl) (by kernel_rfl) (fun _ _ _ h => h) rfl hX ?_ ?_; rotate_left; (intro W hW; go_simp; try with_reducible rfl); simp only [Act.put, qA, qB, qC]
   refine mc_take (i := 19) (oi := ⟨some 41, _, _, _, _, _⟩) (v := .bool y) rfl (by kernel_rfl) (by kernel_rfl) (by kernel_rfl) (fun _ _ _ h => h) rfl hX (fun V hV => ld_b (.tmp 40) rfl rfl ((hV.cell (p := ⟨be, oe + i, none⟩) HBE3.out).trans CY.out)) ?_; simp only [Act.put, qA, qB, qC]
   refine mc_take (i := 20) (oi := ⟨some 42, _, _, _, _, _⟩) (v := .bool z) rfl (by kernel_rfl) (by kernel_rfl) (by kernel_rfl) (fun _ _ _ h => h) rfl hX (fun V _ => ex_neP (.tmp 36) (.tmp 41) rfl rfl rfl HZ.out V) ?_; simp only [Act.put, qA, qB, qC]
   refine mc_take (i := 21) (oi := ⟨some 43, _, _, _, _, _⟩) (v := ?_) rfl (by kernel_rfl) (by kernel_rfl) (by kernel_rfl) (fun _ _ _ h => h) rfl hX ?_ ?_; rotate_left; (intro W hW; go_simp; try with_reducible rfl); simp only [Act.put, qA, qB, qC]
   refine wpAnyC_done (by kernel_rfl) ?_ _
   have BD := qH (BA.out.trans (hX.mono (Nat.le_of_lt HGL.out)))
   have TD := qH (TA.out.below hX HGL.out)
   clear hX
   cases z with
   | false =>
    have HE := qH (SA.out.hit (eqC.refl D 0) (HXY.out.2 (by simpa using HZ.out)))
    have TE := qH (show Blk wd g 3 (ncs n (preP (parR D 0) (i + 1) 0)) by rw [← preP_next (parR D 0) i n (a := a) HE.out]; exact TD.out)
    go_wp2_with fail
    exact ⟨⟨i + 1, HIN.out, by congr 1, TE.out, BD.out⟩, by simpa [intOf] using HMI.out⟩
   | true =>
    have HE := qH (SA.out.next HAI.out fun h => (bne_iff_ne.1 HZ.out) (HXY.out.1 h))
    have hci : wd.cell? ⟨g, i, none⟩ = some (.int .i64 (a : Int)) := by rw [TD.out.cell i, ncs_get _ HIN.out, preP_at]
    have hfz : wd.frozen? ⟨g, i, none⟩ = false := TD.out.frozen i
    have f3 := wrap_one a (lt_bigN HAN.out HNF.out)
    have f4 := wrap_one' a (lt_bigN HAN.out HNF.out)
    have TE := qH (show Blk (wd.setCell ⟨g, i, none⟩ (.int .i64 ((a : Int) + 1))) g 3 (ncs n (preP (parR D 0) i (a + 1))) from blk_pre TD.out a)
    have BE := qH (BD.out.setCell (p := ⟨g, i, none⟩) (Nat.le_refl _) (Value.int .i64 ((a : Int) + 1)))
    have HFL := qH (farS_less (c := n) TA.out TE.out HIN.out HAI.out)
    go_wp2_with fail
    exact ⟨⟨a + 1, HE.out, TE.out, BE.out⟩, HFL.out⟩
  ·have y1 : ¬ (a : Int) < (i : Int) := fun h => hai (Int.ofNat_lt.1 h)
   have HE := qH (SA.out.end_ (eqC.refl D 0) hai)
   clear hai
   refine mc_take (i := 0) (oi := ⟨some 22, _, _, _, _, _⟩) (v := ?_) rfl (by kernel_rfl) (by kernel_rfl) (by kernel_rfl) (fun _ _ _ h => h) rfl hX ?_ ?_; rotate_left; (intro W hW; go_simp; try with_reducible rfl); simp only [Act.put, qA, qB, qC]
   refine mc_take (i := 1) (oi := ⟨some 23, _, _, _, _, _⟩) (v := ?_) rfl (by kernel_rfl) (by kernel_rfl) (by kernel_rfl) (fun _ _ _ h => h) rfl hX ?_ ?_; rotate_left; (intro W hW; go_simp; try with_reducible rfl); simp only [Act.put, qA, qB, qC]
   refine mc_take (i := 2) (oi := ⟨some 24, _, _, _, _, _⟩) (v := ?_) rfl (by kernel_rfl) (by kernel_rfl) (by kernel_rfl) (fun _ _ _ h => h) rfl hX ?_ ?_; rotate_left; (intro W hW; go_simp; try with_reducible rfl); simp only [Act.put, qA, qB, qC]
   refine mc_take (i := 3) (oi := ⟨some 25, _, _, _, _, _⟩) (v := .int .i64 (a : Int)) rfl (by kernel_rfl) (by kernel_rfl) (by kernel_rfl) (fun _ _ _ h => h) rfl hX (fun V hV => ld_int9 (.tmp 24) rfl rfl ((hV.cell (p := ⟨g, i, none⟩) HGL.out).trans CA.out)) ?_; simp only [Act.put, qA, qB, qC]
   refine mc_take (i := 4) (oi := ⟨some 26, _, _, _, _, _⟩) (v := ?_) rfl (by kernel_rfl) (by kernel_rfl) (by kernel_rfl) (fun _ _ _ h => h) rfl hX ?_ ?_; rotate_left; (intro W hW; go_simp; try with_reducible rfl); simp only [Act.put, qA, qB, qC]
   refine mc_take (i := 5) (oi := ⟨some 27, _, _, _, _, _⟩) (v := ?_) rfl (by kernel_rfl) (by kernel_rfl) (by kernel_rfl) (fun _ _ _ h => h) rfl hX ?_ ?_; rotate_left; (intro W hW; go_simp; try with_reducible rfl); simp only [Act.put, qA, qB, qC]
   refine mc_take (i := 6) (oi := ⟨some 28, _, _, _, _, _⟩) (v := ?_) rfl (by kernel_rfl) (by kernel_rfl) (by kernel_rfl) (fun _ _ _ h => h) rfl hX ?_ ?_; rotate_left; (intro W hW; go_simp; try with_reducible rfl); simp only [Act.put, qA, qB, qC]
   refine mc_skip (i := 7) (oi := ⟨some 29, _, _, _, _, _⟩) rfl (by kernel_rfl) (by kernel_rfl) (by kernel_rfl) (fun _ _ _ h => h) rfl hX ?_; simp only [Act.put, qA, qB, qC]
   refine mc_skip (i := 8) (oi := ⟨some 30, _, _, _, _, _⟩) rfl (by kernel_rfl) (by kernel_rfl) (by kernel_rfl) (fun _ _ _ h => h) rfl hX ?_; simp only [Act.put, qA, qB, qC]
   refine mc_skip (i := 9) (oi := ⟨some 31, _, _, _, _, _⟩) rfl (by kernel_rfl) (by kernel_rfl) (by kernel_rfl) (fun _ _ _ h => h) rfl hX ?_; simp only [Act.put, qA, qB, qC]
   refine mc_skip (i := 10) (oi := ⟨some 32, _, _, _, _, _⟩) rfl (by kernel_rfl) (by kernel_rfl) (by kernel_rfl) (fun _ _ _ h => h) rfl hX ?_; simp only [Act.put, qA, qB, qC]
   refine mc_skip (i := 11) (oi := ⟨some 33, _, _, _, _, _⟩) rfl (by kernel_rfl) (by kernel_rfl) (by kernel_rfl) (fun _ _ _ h => h) rfl hX ?_; simp only [Act.put, qA, qB, qC]
   refine mc_skip (i := 12) (oi := ⟨some 34, _, _, _, _, _⟩) rfl (by kernel_rfl) (by kernel_rfl) (by kernel_rfl) (fun _ _ _ h => h) rfl hX ?_; simp only [Act.put, qA, qB, qC]
   refine mc_skip (i := 13) (oi := ⟨some 35, _, _, _, _, _⟩) rfl (by kernel_rfl) (by kernel_rfl) (by kernel_rfl) (fun _ _ _ h => h) rfl hX ?_; simp only [Act.put, qA, qB, qC]
   refine mc_skip (i := 14) (oi := ⟨some 36, _, _, _, _, _⟩) rfl (by kernel_rfl) (by kernel_rfl) (by kernel_rfl) (fun _ _ _ h => h) rfl hX ?_; simp only [Act.put, qA, qB, qC]
   refine mc_skip (i := 15) (oi := ⟨some 37, _, _, _, _, _⟩) rfl (by kernel_rfl) (by kernel_rfl) (by kernel_rfl) (fun _ _ _ h => h) rfl hX ?_; simp only [Act.put, qA, qB, qC]
   refine mc_skip (i := 16) (oi := ⟨some 38, _, _, _, _, _⟩) rfl (by kernel_rfl) (by kernel_rfl) (by kernel_rfl) (fun _ _ _ h => h) rfl hX ?_; simp only [Act.put, qA, qB, qC]
   refine mc_skip (i := 17) (oi := ⟨some 39, _, _, _, _, _⟩) rfl (by kernel_rfl) (by kernel_rfl) (by kernel_rfl) (fun _ _ _ h => h) rfl hX ?_; simp only [Act.put, qA, qB, qC]
   refine mc_skip (i := 18) (oi := ⟨some 40, _, _, _, _, _⟩) rfl (by kernel_rfl) (by kernel_rfl) (by kernel_rfl) (fun _ _ _ h => h) rfl hX ?_; simp only [Act.put, qA, qB, qC]
   refine mc_skip (i := 19) (oi := ⟨some 41, _, _, _, _, _⟩) rfl (by kernel_rfl) (by kernel_rfl) (by kernel_rfl) (fun _ _ _ h => h) rfl hX ?_; simp only [Act.put, qA, qB, qC]
   refine mc_skip (i := 20) (oi := ⟨some 42, _, _, _, _, _⟩) rfl (by kernel_rfl) (by kernel_rfl) (by kernel_rfl) (fun _ _ _ h => h) rfl hX ?_; simp only [Act.put, qA, qB, qC]
   refine mc_take (i := 21) (oi := ⟨some 43, _, _, _, _, _⟩) (v := ?_) rfl (by kernel_rfl) (by kernel_rfl) (by kernel_rfl) (fun _ _ _ h => h) rfl hX ?_ ?_; rotate_left; (intro W hW; go_simp; try with_reducible rfl); simp only [Act.put, qA, qB, qC]
   refine wpAnyC_done (by kernel_rfl) ?_ _
   have BD := qH (BA.out.trans (hX.mono (Nat.le_of_lt HGL.out)))
   have TD := qH (TA.out.below hX HGL.out)
   have TE := qH (show Blk wd g 3 (ncs n (preP (parR D 0) (i + 1) 0)) by rw [← preP_next (parR D 0) i n (a := a) HE.out]; exact TD.out)
   clear hX
   go_wp2_with fail
   exact ⟨⟨i + 1, HIN.out, by congr 1, TE.out, BD.out⟩, by simpa [intOf] using HMI.out⟩
 ·obtain rfl : n = i := Nat.le_antisymm (Nat.le_of_not_lt hin) HI.out
  have x1 : ¬ ((n : Int) < (n : Int)) := Int.lt_irrefl _
  have TP := qH (show Blk wi g 3 (ncs n (parR D 0)) by rw [← preP_all (parR D 0) n 0]; exact TI.out)
  have BP0 := qH (show Below w2.heap.size w2 wi by have := BI.out; rw [HG.out] at this; exact this)
  have HG2 := qH (show w2.heap.size ≤ g from Nat.le_of_eq HG.out.symm)
  clear hin BI TI HI
  go_wp2_with fail
  go_loopw [6, 4] (fun v pv wl => ∃ (ag : Bool) (r g : Nat), v = .bool ag ∧ pv = .slice (some ⟨g, 0, none⟩) n n ∧ Blk wl g 3 (ncs n (parR D r)) ∧ (ag = false → ∀ q, q < n → parR D r q = parD D q) ∧ w2.heap.size ≤ g ∧ Below w2.heap.size w2 wl) (fun v pv wl => farP n v pv wl)
  case atStart => exact ⟨true, 0, g, rfl, rfl, TP.out, fun h => (by cases h), HG2.out, BP0.out⟩
  clear HG2 TP BP0 HG
  obtain ⟨ag, r, gp, rfl, rfl, ht, hd, hgp, hb⟩ := hrel
  have TP := qH ht
  have DP := qH hd
  have GP := qH hgp
  have BP := qH hb
  clear ht hd hgp hb
  obtain ⟨wp, hwp⟩ : ∃ v : World, v = wr := ⟨_, rfl⟩
  subst hwp
  cases ag with
  | false =>
   have RE := qH (show Row wp (.slice (some ⟨gp, 0, none⟩) n n) (ncs n (parD D)) by
    rw [← ncs_congr (DP.out rfl)]
    exact rowB TP.out (ncs_len _ _) (Nat.le_trans HNF.out (by decide)))
   have BE := qH (BW2.out.trans (BP.out.mono BW2.out.size))
   go_wp2_with fail
   go_ret
   exact ⟨_, rfl, RE.out, BE.out⟩
  | true =>
   obtain ⟨gq, hgq⟩ : ∃ g, g = wp.heap.size := ⟨_, rfl⟩
   go_wp2_with ((with_reducible refine atDst 52 ?_); refine wpList_mk _ rfl _ _ 33 rfl 3 i1 (.int .i64 0) Try.underlying33 hi1 hy0 hy1 rfl n _ _ _ _ rfl rfl rfl rfl HY2.out HN3.out ?_; intro w4 hk hb hs; rw [ncs_no, preP_zero (parR D (r + 1)), ← hgq] at hk; have T4 := qH hk; have B4 := qH (hgq ▸ hb); clear hk hb hs; rw [← hgq]; (try simp only [Act.put, qA, qB, qC]))
   have HGQ := qH hgq
   have HPQ := qH (show gp < gq by rw [hgq]; exact TP.out.lt)
   have HWQ := qH (show w.heap.size < gq by rw [hgq]; exact Nat.lt_of_lt_of_le HT1.out BP.out.size)
   have KP := qH (show Blk wp w.heap.size 28 cs from K2.out.below BP.out HT1.out)
   have VP := qH (show DfaV wp cs D from V2.out.below BP.out)
   clear hgq
   go_loopw [6, 8] (fun v iv wl => ∃ (ag : Bool) (i : Nat), i ≤ n ∧ v = .bool ag ∧ iv = .int .i64 (i : Int) ∧ (ag = true → ∃ q, q < n ∧ parR D (r + 1) q ≠ parR D r q) ∧ (ag = false → ∀ q, q < i → parR D (r + 1) q = parR D r q) ∧ Blk wl gq 3 (ncs n (preP (parR D (r + 1)) i 0)) ∧ Below gq wp wl) (fun _ iv _ => n - (intOf iv).toNat)
   case atStart => exact ⟨false, 0, Nat.zero_le _, rfl, rfl, fun h => (by cases h), fun _ q hq => absurd hq (Nat.not_lt_zero q), T4.out, B4.out⟩
   clear T4 B4
   obtain ⟨ag, i, hi, rfl, rfl, hat, haf, ht, hb⟩ := hrel
   have HI := qH hi
   have HAT := qH hat
   have HAF := qH haf
   have TI := qH ht
   have BI := qH hb
   clear hi hat haf ht hb
   obtain ⟨wi, hwi⟩ : ∃ v : World, v = wr := ⟨_, rfl⟩
   subst hwi
   by_cases hin : i < n
   ·have x1 : (i : Int) < (n : Int) := Int.ofNat_lt.2 hin
    have HIN := qH hin
    have HMI := qH (sub_next hin)
    have e3 := wrap_one i (lt_bigN hin HNF.out)
    have e4 := wrap_one' i (lt_bigN hin HNF.out)
    clear hin
    go_wp2_with fail
    go_loopw [75] (fun _ wl => ∃ a : Nat, SkP (eqC D (r + 1)) i a ∧ Blk wl gq 3 (ncs n (preP (parR D (r + 1)) i a)) ∧ Below gq wp wl) (fun _ wl => farS i (.slice (some ⟨gq, 0, none⟩) n n) wl)
    case atStart => exact ⟨0, SkP.zero _ _, TI.out, BI.out⟩
    clear TI BI
    obtain ⟨a, hs, ht, hb⟩ := hrel
    have SA := qH hs
    have TA := qH ht
    have BA := qH hb
    have HAN := qH (show a < n from Nat.lt_of_le_of_lt hs.le HIN.out)
    clear hs ht hb
    have ya : (a : Int) < (n : Int) := Int.ofNat_lt.2 HAN.out
    have CA := qH (show wr.cell? ⟨gq, i, none⟩ = some (.int .i64 (a : Int)) by rw [TA.out.cell i, ncs_get _ HIN.out, preP_at])
    have HGL := qH (show gq < wr.heap.size from TA.out.lt)
    have TPA := qH (show Blk wr gp 3 (ncs n (parR D r)) from TP.out.below BA.out HPQ.out)
    have RPA := qH (show Row wr (.slice (some ⟨gp, 0, none⟩) n n) (ncs n (parR D r)) from rowB TPA.out (ncs_len _ _) (Nat.le_trans HNF.out (by decide)))
    have KA := qH (show Blk wr w.heap.size 28 cs from KP.out.below BA.out HWQ.out)
    have VA := qH (show DfaV wr cs D from VP.out.below (by rw [← HGQ.out]; exact BA.out))
    have CP := qH (show wr.cell? ⟨gp, i, none⟩ = some (.int .i64 ((parR D r i : Nat) : Int)) by rw [TPA.out.cell i, ncs_get _ HIN.out])
    obtain ⟨z, hz⟩ : ∃ z, oneG D (parR D r) a i = z := ⟨_, rfl⟩
    have HZ := qH hz
    have HZE := qH (show z = true ↔ eqC D (r + 1) a i by rw [← hz, oneG_par])
    clear hz
    go_wp2_with fail
    refine mc_start (fun V => Below wr.heap.size wr V) (fun _ => True) 17 (by kernel_rfl) (fun wd hwd => ?_)
    have hX : Below wr.heap.size wr wd := by rw [hwd]; exact (Below.refl _ _).drew
    clear hwd
    by_cases hai : a < i
    ·have y1 : (a : Int) < (i : Int) := Int.ofNat_lt.2 hai
     have HAI := qH hai
     clear hai
     refine mc_take (i := 0) (oi := ⟨some 58, _, _, _, _, _⟩) (v := ?_) rfl (by kernel_rfl) (by kernel_rfl) (by kernel_rfl) (fun _ _ _ h => h) rfl hX ?_ ?_; rotate_left; (intro W hW; go_simp; try with_reducible rfl); simp only [Act.put, qA, qB, qC]
     refine mc_take (i := 1) (oi := ⟨some 59, _, _, _, _, _⟩) (v := ?_) rfl (by kernel_rfl) (by kernel_rfl) (by kernel_rfl) (fun _ _ _ h => h) rfl hX ?_ ?_; rotate_left; (intro W hW; go_simp; try with_reducible rfl); simp only [Act.put, qA, qB, qC]
     refine mc_take (i := 2) (oi := ⟨some 60, _, _, _, _, _⟩) (v := ?_) rfl (by kernel_rfl) (by kernel_rfl) (by kernel_rfl) (fun _ _ _ h => h) rfl hX ?_ ?_; rotate_left; (intro W hW; go_simp; try with_reducible rfl); simp only [Act.put, qA, qB, qC]
     refine mc_take (i := 3) (oi := ⟨some 61, _, _, _, _, _⟩) (v := .int .i64 (a : Int)) rfl (by kernel_rfl) (by kernel_rfl) (by kernel_rfl) (fun _ _ _ h => h) rfl hX (fun V hV => ld_int9 (.tmp 60) rfl rfl ((hV.cell (p := ⟨gq, i, none⟩) HGL.out).trans CA.out)) ?_; simp only [Act.put, qA, qB, qC]
     refine mc_take (i := 4) (oi := ⟨some 62, _, _, _, _, _⟩) (v := ?_) rfl (by kernel_rfl) (by kernel_rfl) (by kernel_rfl) (fun _ _ _ h => h) rfl hX ?_ ?_; rotate_left; (intro W hW; go_simp; try with_reducible rfl); simp only [Act.put, qA, qB, qC]
     refine mc_take (i := 5) (oi := ⟨some 63, _, _, _, _, _⟩) (v := ?_) rfl (by kernel_rfl) (by kernel_rfl) (by kernel_rfl) (fun _ _ _ h => h) rfl hX ?_ ?_; rotate_left; (intro W hW; go_simp; try with_reducible rfl); simp only [Act.put, qA, qB, qC]
     refine mc_take (i := 6) (oi := ⟨some 64, _, _, _, _, _⟩) (v := ?_) rfl (by kernel_rfl) (by kernel_rfl) (by kernel_rfl) (fun _ _ _ h => h) rfl hX ?_ ?_; rotate_left; (intro W hW; go_simp; try with_reducible rfl); simp only [Act.put, qA, qB, qC]
     refine mc_take (i := 7) (oi := ⟨some 65, _, _, _, _, _⟩) (v := .agg cs.toArray) rfl (by kernel_rfl) (by kernel_rfl) (by kernel_rfl) (fun _ _ _ h => h) rfl hX (fun V hT => ld_blk 28 (.tmp 1) rfl w.heap.size rfl 28 cs _ KA.out KA.out.lt Try.underlying28 rfl HDS.out V hT) ?_; simp only [Act.put, qA, qB, qC]
     refine mc_take (i := 8) (oi := ⟨some 66, _, _, _, _, _⟩) (v := ?_) rfl (by kernel_rfl) (by kernel_rfl) (by kernel_rfl) (fun _ _ _ h => h) rfl hX ?_ ?_; rotate_left; (intro W hW; go_simp; try with_reducible rfl); simp only [Act.put, qA, qB, qC]
     refine mc_take (i := 9) (oi := ⟨some 67, _, _, _, _, _⟩) (v := ?_) rfl (by kernel_rfl) (by kernel_rfl) (by kernel_rfl) (fun _ _ _ h => h) rfl hX ?_ ?_; rotate_left; (intro W hW; go_simp; try with_reducible rfl); simp only [Act.put, qA, qB, qC]
     refine mc_take (i := 10) (oi := ⟨some 68, _, _, _, _, _⟩) (v := ?_) rfl (by kernel_rfl) (by kernel_rfl) (by kernel_rfl) (fun _ _ _ h => h) rfl hX ?_ ?_; rotate_left; (intro W hW; go_simp; try with_reducible rfl); simp only [Act.put, qA, qB, qC]
     refine mc_take (i := 11) (oi := ⟨some 69, _, _, _, _, _⟩) (v := ?_) rfl (by kernel_rfl) (by kernel_rfl) (by kernel_rfl) (fun _ _ _ h => h) rfl hX ?_ ?_; rotate_left; (intro W hW; go_simp; try with_reducible rfl); simp only [Act.put, qA, qB, qC]
     refine mc_take (i := 12) (oi := ⟨some 70, _, _, _, _, _⟩) (v := .int .i64 (a : Int)) rfl (by kernel_rfl) (by kernel_rfl) (by kernel_rfl) (fun _ _ _ h => h) rfl hX (fun V hV => ld_int9 (.tmp 69) rfl rfl ((hV.cell (p := ⟨gq, i, none⟩) HGL.out).trans CA.out)) ?_; simp only [Act.put, qA, qB, qC]
     refine mc_take (i := 13) (oi := ⟨some 71, _, _, _, _, _⟩) (v := ?_) rfl (by kernel_rfl) (by kernel_rfl) (by kernel_rfl) (fun _ _ _ h => h) rfl hX ?_ ?_; rotate_left; (intro W hW; go_simp; try with_reducible rfl); simp only [Act.put, qA, qB, qC]
     refine mc_actB (i := 14) (o := ⟨some 72, _, _, _, _, _⟩) rfl (by kernel_rfl) rfl (fun K hK => ?_)
     have Y1 := qH hX
     go_wp2_with fail
     refine (refOne11_any D (parR D r) n a i cs _ wd (VA.out.below hX) HM.out HN.out (RPA.out.below hX) (fun q hq => parR_lt hq) HAN.out HIN.out).mono ?_
     rintro e v1 ⟨rfl, hb⟩
     rw [HZ.out]
     have hX2 := Y1.out.trans (hb.mono Y1.out.size)
     clear hb
     go_wp2_with fail
     refine hK _ _ hX2 trivial ?_
     clear hK K hX
     have hX := hX2
     clear hX2
     (try simp only [Act.put, qA, qB, qC])
     refine mc_take (i := 15) (oi := ⟨some 73, _, _, _, _, _⟩) (v := ?_) rfl (by kernel_rfl) (by kernel_rfl) (by kernel_rfl) (fun _ _ _ h => h) rfl hX ?_ ?_; rotate_left; (intro W hW; go_simp; try with_reducible rfl); simp only [Act.put, qA, qB, qC]
     refine mc_take (i := 16) (oi := ⟨some 74, _, _, _, _, _⟩) (v := ?_) rfl (by kernel_rfl) (by kernel_rfl) (by kernel_rfl) (fun _ _ _ h => h) rfl hX ?_ ?_; rotate_left; (intro W hW; go_simp; try with_reducible rfl); simp only [Act.put, qA, qB, qC]
     refine wpAnyC_done (by kernel_rfl) ?_ _
     obtain ⟨wd2, hwd2⟩ : ∃ v : World, v = v1 := ⟨_, rfl⟩
     subst hwd2
     have BD := qH (BA.out.trans (hX.mono (Nat.le_of_lt HGL.out)))
     have TD := qH (TA.out.below hX HGL.out)
     clear hX
     cases z with
     | true =>
      have HE := qH (SA.out.hit (eqC.refl D (r + 1)) (HZE.out.1 rfl))
      obtain ⟨x, hx⟩ : ∃ x, parR D r i = x := ⟨_, rfl⟩
      have HXP := qH hx
      have HER := qH (show parR D (r + 1) i = a from HE.out)
      have CQ2 := qH (show wd2.cell? ⟨gq, i, none⟩ = some (.int .i64 (a : Int)) by rw [TD.out.cell i, ncs_get _ HIN.out, preP_at])
      have CP2 := qH (show wd2.cell? ⟨gp, i, none⟩ = some (.int .i64 (x : Int)) by rw [← hx]; exact (BD.out.cell (p := ⟨gp, i, none⟩) HPQ.out).trans (by rw [TP.out.cell i, ncs_get _ HIN.out]))
      have HGQ2 := qH (show gq < wd2.heap.size from TD.out.lt)
      have TE := qH (show Blk wd2 gq 3 (ncs n (preP (parR D (r + 1)) (i + 1) 0)) by rw [← preP_next (parR D (r + 1)) i n (a := a) HER.out]; exact TD.out)
      obtain ⟨z2, hz2⟩ : ∃ z, ((a : Int) != (x : Int)) = z := ⟨_, rfl⟩
      have HZ2 := qH hz2
      clear hx hz2
      go_wp2_with fail
      refine mc_start (fun V => Below wd2.heap.size wd2 V) (fun _ => True) 13 (by kernel_rfl) (fun we hwe => ?_)
      have hX : Below wd2.heap.size wd2 we := by rw [hwe]; exact (Below.refl _ _).drew
      clear hwe
      cases ag with
      | true =>
       refine mc_take (i := 0) (oi := ⟨some 81, _, _, _, _, _⟩) (v := ?_) rfl (by kernel_rfl) (by kernel_rfl) (by kernel_rfl) (fun _ _ _ h => h) rfl hX ?_ ?_; rotate_left; (intro W hW; go_simp; try with_reducible rfl); simp only [Act.put, qA, qB, qC]
       refine mc_take (i := 1) (oi := ⟨some 82, _, _, _, _, _⟩) (v := ?_) rfl (by kernel_rfl) (by kernel_rfl) (by kernel_rfl) (fun _ _ _ h => h) rfl hX ?_ ?_; rotate_left; (intro W hW; go_simp; try with_reducible rfl); simp only [Act.put, qA, qB, qC]
       refine mc_skip (i := 2) (oi := ⟨some 83, _, _, _, _, _⟩) rfl (by kernel_rfl) (by kernel_rfl) (by kernel_rfl) (fun _ _ _ h => h) rfl hX ?_; simp only [Act.put, qA, qB, qC]
       refine mc_skip (i := 3) (oi := ⟨some 84, _, _, _, _, _⟩) rfl (by kernel_rfl) (by kernel_rfl) (by kernel_rfl) (fun _ _ _ h => h) rfl hX ?_; simp only [Act.put, qA, qB, qC]
       refine mc_skip (i := 4) (oi := ⟨some 85, _, _, _, _, _⟩) rfl (by kernel_rfl) (by kernel_rfl) (by kernel_rfl) (fun _ _ _ h => h) rfl hX ?_; simp only [Act.put, qA, qB, qC]
       refine mc_skip (i := 5) (oi := ⟨some 86, _, _, _, _, _⟩) rfl (by kernel_rfl) (by kernel_rfl) (by kernel_rfl) (fun _ _ _ h => h) rfl hX ?_; simp only [Act.put, qA, qB, qC]
       refine mc_skip (i := 6) (oi := ⟨some 87, _, _, _, _, _⟩) rfl (by kernel_rfl) (by kernel_rfl) (by kernel_rfl) (fun _ _ _ h => h) rfl hX ?_; simp only [Act.put, qA, qB, qC]
       refine mc_skip (i := 7) (oi := ⟨some 88, _, _, _, _, _⟩) rfl (by kernel_rfl) (by kernel_rfl) (by kernel_rfl) (fun _ _ _ h => h) rfl hX ?_; simp only [Act.put, qA, qB, qC]
       refine mc_skip (i := 8) (oi := ⟨some 89, _, _, _, _, _⟩) rfl (by kernel_rfl) (by kernel_rfl) (by kernel_rfl) (fun _ _ _ h => h) rfl hX ?_; simp only [Act.put, qA, qB, qC]
       refine mc_skip (i := 9) (oi := ⟨some 90, _, _, _, _, _⟩) rfl (by kernel_rfl) (by kernel_rfl) (by kernel_rfl) (fun _ _ _ h => h) rfl hX ?_; simp only [Act.put, qA, qB, qC]
       refine mc_skip (i := 10) (oi := ⟨some 91, _, _, _, _, _⟩) rfl (by kernel_rfl) (by kernel_rfl) (by kernel_rfl) (fun _ _ _ h => h) rfl hX ?_; simp only [Act.put, qA, qB, qC]
       refine mc_take (i := 11) (oi := ⟨some 92, _, _, _, _, _⟩) (v := ?_) rfl (by kernel_rfl) (by kernel_rfl) (by kernel_rfl) (fun _ _ _ h => h) rfl hX ?_ ?_; rotate_left; (intro W hW; go_simp; try with_reducible rfl); simp only [Act.put, qA, qB, qC]
       refine mc_take (i := 12) (oi := ⟨some 6, _, _, _, _, _⟩) (v := ?_) rfl (by kernel_rfl) (by kernel_rfl) (by kernel_rfl) (fun _ _ _ h => h) rfl hX ?_ ?_; rotate_left; (intro W hW; go_simp; try with_reducible rfl); simp only [Act.put, qA, qB, qC]
       refine wpAnyC_done (by kernel_rfl) ?_ _
       have BE := qH (BD.out.trans (hX.mono (Nat.le_of_lt HGQ2.out)))
       have TF := qH (TE.out.below hX HGQ2.out)
       clear hX
       go_wp2_with fail
       exact ⟨⟨true, i + 1, HIN.out, rfl, by congr 1, HAT.out, fun h => (by cases h), TF.out, BE.out⟩, by simpa [intOf] using HMI.out⟩
      | false =>
       refine mc_take (i := 0) (oi := ⟨some 81, _, _, _, _, _⟩) (v := ?_) rfl (by kernel_rfl) (by kernel_rfl) (by kernel_rfl) (fun _ _ _ h => h) rfl hX ?_ ?_; rotate_left; (intro W hW; go_simp; try with_reducible rfl); simp only [Act.put, qA, qB, qC]
       refine mc_take (i := 1) (oi := ⟨some 82, _, _, _, _, _⟩) (v := ?_) rfl (by kernel_rfl) (by kernel_rfl) (by kernel_rfl) (fun _ _ _ h => h) rfl hX ?_ ?_; rotate_left; (intro W hW; go_simp; try with_reducible rfl); simp only [Act.put, qA, qB, qC]
       refine mc_take (i := 2) (oi := ⟨some 83, _, _, _, _, _⟩) (v := ?_) rfl (by kernel_rfl) (by kernel_rfl) (by kernel_rfl) (fun _ _ _ h => h) rfl hX ?_ ?_; rotate_left; (intro W hW; go_simp; try with_reducible rfl); simp only [Act.put, qA, qB, qC]
       refine mc_take (i := 3) (oi := ⟨some 84, _, _, _, _, _⟩) (v := ?_) rfl (by kernel_rfl) (by kernel_rfl) (by kernel_rfl) (fun _ _ _ h => h) rfl hX ?_ ?_; rotate_left; (intro W hW; go_simp; try with_reducible rfl); simp only [Act.put, qA, qB, qC]
       refine mc_take (i := 4) (oi := ⟨some 85, _, _, _, _, _⟩) (v := ?_) rfl (by kernel_rfl) (by kernel_rfl) (by kernel_rfl) (fun _ _ _ h => h) rfl hX ?_ ?_; rotate_left; (intro W hW; go_simp; try with_reducible rfl); simp only [Act.put, qA, qB, qC]
       refine mc_take (i := 5) (oi := ⟨some 86, _, _, _, _, _⟩) (v := .int .i64 (a : Int)) rfl (by kernel_rfl) (by kernel_rfl) (by kernel_rfl) (fun _ _ _ h => h) rfl hX (fun V hV => ld_int9 (.tmp 85) rfl rfl ((hV.cell (p := ⟨gq, i, none⟩) HGQ2.out).trans CQ2.out)) ?_; simp only [Act.put, qA, qB, qC]
       refine mc_take (i := 6) (oi := ⟨some 87, _, _, _, _, _⟩) (v := ?_) rfl (by kernel_rfl) (by kernel_rfl) (by kernel_rfl) (fun _ _ _ h => h) rfl hX ?_ ?_; rotate_left; (intro W hW; go_simp; try with_reducible rfl); simp only [Act.put, qA, qB, qC]
       refine mc_take (i := 7) (oi := ⟨some 88, _, _, _, _, _⟩) (v := ?_) rfl (by kernel_rfl) (by kernel_rfl) (by kernel_rfl) (fun _ _ _ h => h) rfl hX ?_ ?_; rotate_left; (intro W hW; go_simp; try with_reducible rfl); simp only [Act.put, qA, qB, qC]
       refine mc_take (i := 8) (oi := ⟨some 89, _, _, _, _, _⟩) (v := ?_) rfl (by kernel_rfl) (by kernel_rfl) (by kernel_rfl) (fun _ _ _ h => h) rfl hX ?_ ?_; rotate_left; (intro W hW; go_simp; try with_reducible rfl); simp only [Act.put, qA, qB, qC]
       refine mc_take (i := 9) (oi := ⟨some 90, _, _, _, _, _⟩) (v := .int .i64 (x : Int)) rfl (by kernel_rfl) (by kernel_rfl) (by kernel_rfl) (fun _ _ _ h => h) rfl hX (fun V hV => ld_int9 (.tmp 89) rfl rfl ((hV.cell (p := ⟨gp, i, none⟩) (Nat.lt_trans HPQ.out HGQ2.out)).trans CP2.out)) ?_; simp only [Act.put, qA, qB, qC]
       refine mc_take (i := 10) (oi := ⟨some 91, _, _, _, _, _⟩) (v := .bool z2) rfl (by kernel_rfl) (by kernel_rfl) (by kernel_rfl) (fun _ _ _ h => h) rfl hX (fun V _ => ex_neJ (.tmp 86) (.tmp 90) rfl rfl rfl HZ2.out V) ?_; simp only [Act.put, qA, qB, qC]
       refine mc_take (i := 11) (oi := ⟨some 92, _, _, _, _, _⟩) (v := ?_) rfl (by kernel_rfl) (by kernel_rfl) (by kernel_rfl) (fun _ _ _ h => h) rfl hX ?_ ?_; rotate_left; (intro W hW; go_simp; try with_reducible rfl); simp only [Act.put, qA, qB, qC]
       refine mc_take (i := 12) (oi := ⟨some 6, _, _, _, _, _⟩) (v := ?_) rfl (by kernel_rfl) (by kernel_rfl) (by kernel_rfl) (fun _ _ _ h => h) rfl hX ?_ ?_; rotate_left; (intro W hW; go_simp; try with_reducible rfl); simp only [Act.put, qA, qB, qC]
       refine wpAnyC_done (by kernel_rfl) ?_ _
       have BE := qH (BD.out.trans (hX.mono (Nat.le_of_lt HGQ2.out)))
       have TF := qH (TE.out.below hX HGQ2.out)
       have H1 := qH (show z2 = true → ∃ q, q < n ∧ parR D (r + 1) q ≠ parR D r q from fun h => ⟨i, HIN.out, fun e => by
        have h9 := HZ2.out
        rw [h, bne_iff_ne] at h9
        rw [HER.out, HXP.out] at e
        exact h9 (by rw [e])⟩)
       have H2 := qH (show z2 = false → ∀ q, q < i + 1 → parR D (r + 1) q = parR D r q from fun h q hq => by
        by_cases e : q = i
        ·subst e
         have h9 := HZ2.out
         rw [h] at h9
         rw [HER.out, HXP.out]
         have h8 : (a : Int) = (x : Int) := by simpa using h9
         exact Int.ofNat_inj.1 h8
        ·exact HAF.out rfl q (by omega))
       clear hX
       go_wp2_with fail
       exact ⟨⟨z2, i + 1, HIN.out, rfl, by congr 1, H1.out, H2.out, TF.out, BE.out⟩, by simpa [intOf] using HMI.out⟩
     | false =>
      have HE := qH (SA.out.next HAI.out fun h => absurd (HZE.out.2 h) (by decide))
      have hci : wd2.cell? ⟨gq, i, none⟩ = some (.int .i64 (a : Int)) := by rw [TD.out.cell i, ncs_get _ HIN.out, preP_at]
      have hfz : wd2.frozen? ⟨gq, i, none⟩ = false := TD.out.frozen i
      have f3 := wrap_one a (lt_bigN HAN.out HNF.out)
      have f4 := wrap_one' a (lt_bigN HAN.out HNF.out)
      have TE := qH (show Blk (wd2.setCell ⟨gq, i, none⟩ (.int .i64 ((a : Int) + 1))) gq 3 (ncs n (preP (parR D (r + 1)) i (a + 1))) from blk_pre TD.out a)
      have BE := qH (BD.out.setCell (p := ⟨gq, i, none⟩) (Nat.le_refl _) (Value.int .i64 ((a : Int) + 1)))
      have HFL := qH (farS_less (c := n) TA.out TE.out HIN.out HAI.out)
      go_wp2_with fail
      exact ⟨⟨a + 1, HE.out, TE.out, BE.out⟩, HFL.out⟩
    ·have y1 : ¬ (a : Int) < (i : Int) := fun h => hai (Int.ofNat_lt.1 h)
     have HE := qH (SA.out.end_ (eqC.refl D (r + 1)) hai)
     clear hai
     refine mc_take (i := 0) (oi := ⟨some 58, _, _, _, _, _⟩) (v := ?_) rfl (by kernel_rfl) (by kernel_rfl) (by kernel_rfl) (fun _ _ _ h => h) rfl hX ?_ ?_; rotate_left; (intro W hW; go_simp; try with_reducible rfl); simp only [Act.put, qA, qB, qC]
     refine mc_take (i := 1) (oi := ⟨some 59, _, _, _, _, _⟩) (v := ?_) rfl (by kernel_rfl) (by kernel_rfl) (by kernel_rfl) (fun _ _ _ h => h) rfl hX ?_ ?_; rotate_left; (intro W hW; go_simp; try with_reducible rfl); simp only [Act.put, qA, qB, qC]
     refine mc_take (i := 2) (oi := ⟨some 60, _, _, _, _, _⟩) (v := ?_) rfl (by kernel_rfl) (by kernel_rfl) (by kernel_rfl) (fun _ _ _ h => h) rfl hX ?_ ?_; rotate_left; (intro W hW; go_simp; try with_reducible rfl); simp only [Act.put, qA, qB, qC]
     refine mc_take (i := 3) (oi := ⟨some 61, _, _, _, _, _⟩) (v := .int .i64 (a : Int)) rfl (by kernel_rfl) (by kernel_rfl) (by kernel_rfl) (fun _ _ _ h => h) rfl hX (fun V hV => ld_int9 (.tmp 60) rfl rfl ((hV.cell (p := ⟨gq, i, none⟩) HGL.out).trans CA.out)) ?_; simp only [Act.put, qA, qB, qC]
     refine mc_take (i := 4) (oi := ⟨some 62, _, _, _, _, _⟩) (v := ?_) rfl (by kernel_rfl) (by kernel_rfl) (by kernel_rfl) (fun _ _ _ h => h) rfl hX ?_ ?_; rotate_left; (intro W hW; go_simp; try with_reducible rfl); simp only [Act.put, qA, qB, qC]
     refine mc_take (i := 5) (oi := ⟨some 63, _, _, _, _, _⟩) (v := ?_) rfl (by kernel_rfl) (by kernel_rfl) (by kernel_rfl) (fun _ _ _ h => h) rfl hX ?_ ?_; rotate_left; (intro W hW; go_simp; try with_reducible rfl); simp only [Act.put, qA, qB, qC]
     refine mc_take (i := 6) (oi := ⟨some 64, _, _, _, _, _⟩) (v := ?_) rfl (by kernel_rfl) (by kernel_rfl) (by kernel_rfl) (fun _ _ _ h => h) rfl hX ?_ ?_; rotate_left; (intro W hW; go_simp; try with_reducible rfl); simp only [Act.put, qA, qB, qC]
     refine mc_skip (i := 7) (oi := ⟨some 65, _, _, _, _, _⟩) rfl (by kernel_rfl) (by kernel_rfl) (by kernel_rfl) (fun _ _ _ h => h) rfl hX ?_; simp only [Act.put, qA, qB, qC]
     refine mc_skip (i := 8) (oi := ⟨some 66, _, _, _, _, _⟩) rfl (by kernel_rfl) (by kernel_rfl) (by kernel_rfl) (fun _ _ _ h => h) rfl hX ?_; simp only [Act.put, qA, qB, qC]
     refine mc_skip (i := 9) (oi := ⟨some 67, _, _, _, _, _⟩) rfl (by kernel_rfl) (by kernel_rfl) (by kernel_rfl) (fun _ _ _ h => h) rfl hX ?_; simp only [Act.put, qA, qB, qC]
     refine mc_skip (i := 10) (oi := ⟨some 68, _, _, _, _, _⟩) rfl (by kernel_rfl) (by kernel_rfl) (by kernel_rfl) (fun _ _ _ h => h) rfl hX ?_; simp only [Act.put, qA, qB, qC]
     refine mc_skip (i := 11) (oi := ⟨some 69, _, _, _, _, _⟩) rfl (by kernel_rfl) (by kernel_rfl) (by kernel_rfl) (fun _ _ _ h => h) rfl hX ?_; simp only [Act.put, qA, qB, qC]
     refine mc_skip (i := 12) (oi := ⟨some 70, _, _, _, _, _⟩) rfl (by kernel_rfl) (by kernel_rfl) (by kernel_rfl) (fun _ _ _ h => h) rfl hX ?_; simp only [Act.put, qA, qB, qC]
     refine mc_skip (i := 13) (oi := ⟨some 71, _, _, _, _, _⟩) rfl (by kernel_rfl) (by kernel_rfl) (by kernel_rfl) (fun _ _ _ h => h) rfl hX ?_; simp only [Act.put, qA, qB, qC]
     refine mc_skip (i := 14) (oi := ⟨some 72, _, _, _, _, _⟩) rfl (by kernel_rfl) (by kernel_rfl) (by kernel_rfl) (fun _ _ _ h => h) rfl hX ?_; simp only [Act.put, qA, qB, qC]
     refine mc_skip (i := 15) (oi := ⟨some 73, _, _, _, _, _⟩) rfl (by kernel_rfl) (by kernel_rfl) (by kernel_rfl) (fun _ _ _ h => h) rfl hX ?_; simp only [Act.put, qA, qB, qC]
     refine mc_take (i := 16) (oi := ⟨some 74, _, _, _, _, _⟩) (v := ?_) rfl (by kernel_rfl) (by kernel_rfl) (by kernel_rfl) (fun _ _ _ h => h) rfl hX ?_ ?_; rotate_left; (intro W hW; go_simp; try with_reducible rfl); simp only [Act.put, qA, qB, qC]
     refine wpAnyC_done (by kernel_rfl) ?_ _
     have BD := qH (BA.out.trans (hX.mono (Nat.le_of_lt HGL.out)))
     have TD := qH (TA.out.below hX HGL.out)
     clear hX
     obtain ⟨x, hx⟩ : ∃ x, parR D r i = x := ⟨_, rfl⟩
     have HXP := qH hx
     have HER := qH (show parR D (r + 1) i = a from HE.out)
     have CQ2 := qH (show wd.cell? ⟨gq, i, none⟩ = some (.int .i64 (a : Int)) by rw [TD.out.cell i, ncs_get _ HIN.out, preP_at])
     have CP2 := qH (show wd.cell? ⟨gp, i, none⟩ = some (.int .i64 (x : Int)) by rw [← hx]; exact (BD.out.cell (p := ⟨gp, i, none⟩) HPQ.out).trans (by rw [TP.out.cell i, ncs_get _ HIN.out]))
     have HGQ2 := qH (show gq < wd.heap.size from TD.out.lt)
     have TE := qH (show Blk wd gq 3 (ncs n (preP (parR D (r + 1)) (i + 1) 0)) by rw [← preP_next (parR D (r + 1)) i n (a := a) HER.out]; exact TD.out)
     obtain ⟨z2, hz2⟩ : ∃ z, ((a : Int) != (x : Int)) = z := ⟨_, rfl⟩
     have HZ2 := qH hz2
     clear hx hz2
     go_wp2_with fail
     refine mc_start (fun V => Below wd.heap.size wd V) (fun _ => True) 13 (by kernel_rfl) (fun we hwe => ?_)
     have hX : Below wd.heap.size wd we := by rw [hwe]; exact (Below.refl _ _).drew
     clear hwe
     cases ag with
     | true =>
      refine mc_take (i := 0) (oi := ⟨some 81, _, _, _, _, _⟩) (v := ?_) rfl (by kernel_rfl) (by kernel_rfl) (by kernel_rfl) (fun _ _ _ h => h) rfl hX ?_ ?_; rotate_left; (intro W hW; go_simp; try with_reducible rfl); simp only [Act.put, qA, qB, qC]
      refine mc_take (i := 1) (oi := ⟨some 82, _, _, _, _, _⟩) (v := ?_) rfl (by kernel_rfl) (by kernel_rfl) (by kernel_rfl) (fun _ _ _ h => h) rfl hX ?_ ?_; rotate_left; (intro W hW; go_simp; try with_reducible rfl); simp only [Act.put, qA, qB, qC]
      refine mc_skip (i := 2) (oi := ⟨some 83, _, _, _, _, _⟩) rfl (by kernel_rfl) (by kernel_rfl) (by kernel_rfl) (fun _ _ _ h => h) rfl hX ?_; simp only [Act.put, qA, qB, qC]
      refine mc_skip (i := 3) (oi := ⟨some 84, _, _, _, _, _⟩) rfl (by kernel_rfl) (by kernel_rfl) (by kernel_rfl) (fun _ _ _ h => h) rfl hX ?_; simp only [Act.put, qA, qB, qC]
      refine mc_skip (i := 4) (oi := ⟨some 85, _, _, _, _, _⟩) rfl (by kernel_rfl) (by kernel_rfl) (by kernel_rfl) (fun _ _ _ h => h) rfl hX ?_; simp only [Act.put, qA, qB, qC]
      refine mc_skip (i := 5) (oi := ⟨some 86, _, _, _, _, _⟩) rfl (by kernel_rfl) (by kernel_rfl) (by kernel_rfl) (fun _ _ _ h => h) rfl hX ?_; simp only [Act.put, qA, qB, qC]
      refine mc_skip (i := 6) (oi := ⟨some 87, _, _, _, _, _⟩) rfl (by kernel_rfl) (by kernel_rfl) (by kernel_rfl) (fun _ _ _ h => h) rfl hX ?_; simp only [Act.put, qA, qB, qC]
      refine mc_skip (i := 7) (oi := ⟨some 88, _, _, _, _, _⟩) rfl (by kernel_rfl) (by kernel_rfl) (by kernel_rfl) (fun _ _ _ h => h) rfl hX ?_; simp only [Act.put, qA, qB, qC]
      refine mc_skip (i := 8) (oi := ⟨some 89, _, _, _, _, _⟩) rfl (by kernel_rfl) (by kernel_rfl) (by kernel_rfl) (fun _ _ _ h => h) rfl hX ?_; simp only [Act.put, qA, qB, qC]
      refine mc_skip (i := 9) (oi := ⟨some 90, _, _, _, _, _⟩) rfl (by kernel_rfl) (by kernel_rfl) (by kernel_rfl) (fun _ _ _ h => h) rfl hX ?_; simp only [Act.put, qA, qB, qC]
      refine mc_skip (i := 10) (oi := ⟨some 91, _, _, _, _, _⟩) rfl (by kernel_rfl) (by kernel_rfl) (by kernel_rfl) (fun _ _ _ h => h) rfl hX ?_; simp only [Act.put, qA, qB, qC]
      refine mc_take (i := 11) (oi := ⟨some 92, _, _, _, _, _⟩) (v := ?_) rfl (by kernel_rfl) (by kernel_rfl) (by kernel_rfl) (fun _ _ _ h => h) rfl hX ?_ ?_; rotate_left; (intro W hW; go_simp; try with_reducible rfl); simp only [Act.put, qA, qB, qC]
      refine mc_take (i := 12) (oi := ⟨some 6, _, _, _, _, _⟩) (v := ?_) rfl (by kernel_rfl) (by kernel_rfl) (by kernel_rfl) (fun _ _ _ h => h) rfl hX ?_ ?_; rotate_left; (intro W hW; go_simp; try with_reducible rfl); simp only [Act.put, qA, qB, qC]
      refine wpAnyC_done (by kernel_rfl) ?_ _
      have BE := qH (BD.out.trans (hX.mono (Nat.le_of_lt HGQ2.out)))
      have TF := qH (TE.out.below hX HGQ2.out)
      clear hX
      go_wp2_with fail
      exact ⟨⟨true, i + 1, HIN.out, rfl, by congr 1, HAT.out, fun h => (by cases h), TF.out, BE.out⟩, by simpa [intOf] using HMI.out⟩
     | false =>
      refine mc_take (i := 0) (oi := ⟨some 81, _, _, _, _, _⟩) (v := ?_) rfl (by kernel_rfl) (by kernel_rfl) (by kernel_rfl) (fun _ _ _ h => h) rfl hX ?_ ?_; rotate_left; (intro W hW; go_simp; try with_reducible rfl); simp only [Act.put, qA, qB, qC]
      refine mc_take (i := 1) (oi := ⟨some 82, _, _, _, _, _⟩) (v := ?_) rfl (by kernel_rfl) (by kernel_rfl) (by kernel_rfl) (fun _ _ _ h => h) rfl hX ?_ ?_; rotate_left; (intro W hW; go_simp; try with_reducible rfl); simp only [Act.put, qA, qB, qC]
      refine mc_take (i := 2) (oi := ⟨some 83, _, _, _, _, _⟩) (v := ?_) rfl (by kernel_rfl) (by kernel_rfl) (by kernel_rfl) (fun _ _ _ h => h) rfl hX ?_ ?_; rotate_left; (intro W hW; go_simp; try with_reducible rfl); simp only [Act.put, qA, qB, qC]
      refine mc_take (i := 3) (oi := ⟨some 84, _, _, _, _, _⟩) (v := ?_) rfl (by kernel_rfl) (by kernel_rfl) (by kernel_rfl) (fun _ _ _ h => h) rfl hX ?_ ?_; rotate_left; (intro W hW; go_simp; try with_reducible rfl); simp only [Act.put, qA, qB, qC]
      refine mc_take (i := 4) (oi := ⟨some 85, _, _, _, _, _⟩) (v := ?_) rfl (by kernel_rfl) (by kernel_rfl) (by kernel_rfl) (fun _ _ _ h => h) rfl hX ?_ ?_; rotate_left; (intro W hW; go_simp; try with_reducible rfl); simp only [Act.put, qA, qB, qC]
      refine mc_take (i := 5) (oi := ⟨some 86, _, _, _, _, _⟩) (v := .int .i64 (a : Int)) rfl (by kernel_rfl) (by kernel_rfl) (by kernel_rfl) (fun _ _ _ h => h) rfl hX (fun V hV => ld_int9 (.tmp 85) rfl rfl ((hV.cell (p := ⟨gq, i, none⟩) HGQ2.out).trans CQ2.out)) ?_; simp only [Act.put, qA, qB, qC]
      refine mc_take (i := 6) (oi := ⟨some 87, _, _, _, _, _⟩) (v := ?_) rfl (by kernel_rfl) (by kernel_rfl) (by kernel_rfl) (fun _ _ _ h => h) rfl hX ?_ ?_; rotate_left; (intro W hW; go_simp; try with_reducible rfl); simp only [Act.put, qA, qB, qC]
      refine mc_take (i := 7) (oi := ⟨some 88, _, _, _, _, _⟩) (v := ?_) rfl (by kernel_rfl) (by kernel_rfl) (by kernel_rfl) (fun _ _ _ h => h) rfl hX ?_ ?_; rotate_left; (intro W hW; go_simp; try with_reducible rfl); simp only [Act.put, qA, qB, qC]
      refine mc_take (i := 8) (oi := ⟨some 89, _, _, _, _, _⟩) (v := ?_) rfl (by kernel_rfl) (by kernel_rfl) (by kernel_rfl) (fun _ _ _ h => h) rfl hX ?_ ?_; rotate_left; (intro W hW; go_simp; try with_reducible rfl); simp only [Act.put, qA, qB, qC]
      refine mc_take (i := 9) (oi := ⟨some 90, _, _, _, _, _⟩) (v := .int .i64 (x : Int)) rfl (by kernel_rfl) (by kernel_rfl) (by kernel_rfl) (fun _ _ _ h => h) rfl hX (fun V hV => ld_int9 (.tmp 89) rfl rfl ((hV.cell (p := ⟨gp, i, none⟩) (Nat.lt_trans HPQ.out HGQ2.out)).trans CP2.out)) ?_; simp only [Act.put, qA, qB, qC]
      refine mc_take (i := 10) (oi := ⟨some 91, _, _, _, _, _⟩) (v := .bool z2) rfl (by kernel_rfl) (by kernel_rfl) (by kernel_rfl) (fun _ _ _ h => h) rfl hX (fun V _ => ex_neJ (.tmp 86) (.tmp 90) rfl rfl rfl HZ2.out V) ?_; simp only [Act.put, qA, qB, qC]
      refine mc_take (i := 11) (oi := ⟨some 92, _, _, _, _, _⟩) (v := ?_) rfl (by kernel_rfl) (by kernel_rfl) (by kernel_rfl) (fun _ _ _ h => h) rfl hX ?_ ?_; rotate_left; (intro W hW; go_simp; try with_reducible rfl); simp only [Act.put, qA, qB, qC]
      refine mc_take (i := 12) (oi := ⟨some 6, _, _, _, _, _⟩) (v := ?_) rfl (by kernel_rfl) (by kernel_rfl) (by kernel_rfl) (fun _ _ _ h => h) rfl hX ?_ ?_; rotate_left; (intro W hW; go_simp; try with_reducible rfl); simp only [Act.put, qA, qB, qC]
      refine wpAnyC_done (by kernel_rfl) ?_ _
      have BE := qH (BD.out.trans (hX.mono (Nat.le_of_lt HGQ2.out)))
      have TF := qH (TE.out.below hX HGQ2.out)
      have H1 := qH (show z2 = true → ∃ q, q < n ∧ parR D (r + 1) q ≠ parR D r q from fun h => ⟨i, HIN.out, fun e => by
       have h9 := HZ2.out
       rw [h, bne_iff_ne] at h9
       rw [HER.out, HXP.out] at e
       exact h9 (by rw [e])⟩)
      have H2 := qH (show z2 = false → ∀ q, q < i + 1 → parR D (r + 1) q = parR D r q from fun h q hq => by
       by_cases e : q = i
       ·subst e
        have h9 := HZ2.out
        rw [h] at h9
        rw [HER.out, HXP.out]
        have h8 : (a : Int) = (x : Int) := by simpa using h9
        exact Int.ofNat_inj.1 h8
       ·exact HAF.out rfl q (by omega))
      clear hX
      go_wp2_with fail
      exact ⟨⟨z2, i + 1, HIN.out, rfl, by congr 1, H1.out, H2.out, TF.out, BE.out⟩, by simpa [intOf] using HMI.out⟩
   ·obtain rfl : n = i := Nat.le_antisymm (Nat.le_of_not_lt hin) HI.out
    have x1 : ¬ ((n : Int) < (n : Int)) := Int.lt_irrefl _
    have TQ := qH (show Blk wi gq 3 (ncs n (parR D (r + 1))) by rw [← preP_all (parR D (r + 1)) n 0]; exact TI.out)
    have BQ := qH (show Below w2.heap.size w2 wi from BP.out.trans (BI.out.mono (by rw [HGQ.out]; exact BP.out.size)))
    have HGE := qH (show w2.heap.size ≤ gq by rw [HGQ.out]; exact BP.out.size)
    have HD2 := qH (show ag = false → ∀ q, q < n → parR D (r + 1) q = parD D q from fun h q hq => by
     rw [HAF.out h q hq]
     exact parR_done HM.out HL.out HAC.out (fun j hj => HAF.out h j (by rw [HN.out]; exact hj)) q (by rw [← HN.out]; exact hq))
    have HFP := qH (farP_less (c := n) (c' := n) HN.out TP.out TQ.out HAT.out)
    clear hin BI TI HI
    go_wp2_with fail
    exact ⟨⟨ag, r + 1, gq, rfl, rfl, TQ.out, HD2.out, HGE.out, BQ.out⟩, HFP.out⟩
end Go.Proofs.Ytlohehcfplkjbaa
