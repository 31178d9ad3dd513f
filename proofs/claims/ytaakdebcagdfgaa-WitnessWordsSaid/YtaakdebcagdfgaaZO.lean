/-
  Texts of this proof, put together: WmC, WlP. No statement is proved here.
-/
import Derived.Test.YtaakdebcagdfgaaZN
import Derived.Test.YtaakdebcagdfgaaZJ
import Derived.Test.YtaakdebcagdfgaaZG
import Derived.Test.YtaakdebcagdfgaaZL
import Derived.Test.YtaakdebcagdfgaaZM
import Derived.Test.YtaakdebcagdfgaaZB
namespace Go.Proofs.Ytaakdebcagdfgaa
open Go.RowKit
set_option linter.unusedSimpArgs false
set_option linter.unusedVariables false
theorem wl_ixBs {ev : Operand → Value} {o : Oper} {n c : Nat} (x i : Operand) (ho : o.op = .indexAddr 62 x i) {b q : Nat} (hx : ev x = .slice (some ⟨b, 0, none⟩) n c) (hi : ev i = .int .i64 (q : Int)) (hq : q < n) (W : World) : (execOp ev o).run Try.prog W = .ok (.value (.pointer (some ⟨b, q, none⟩))) W := by
 have h1 : (q : Int) < (n : Int) := Int.ofNat_lt.2 hq
 simp only [execOp, ho, hx, hi]
 go_simp
theorem inf_rowB : (Try.prog.info? 26).map (fun i => (i.zero, i.size, i.bytes)) = some (some (.slice none 0 0), 1, 24) := by kernel_rfl
theorem inf_rowsU : (Try.prog.info? 35).map (fun i => i.zero) = some (some (.slice none 0 0)) := by kernel_rfl
def uC (cv : Value) : Nat → Value := tb6 cv (.slice none 0 0) (.slice none 0 0) undef undef undef
theorem xuC {k : Nat} {cv : Value} : XU (uC cv) k ↔ cv.ownBlock = some k := by
 constructor
 ·rintro ⟨i, hi, hk⟩
  have : i = 0 ∨ i = 1 ∨ i = 2 := by omega
  rcases this with rfl | rfl | rfl
  ·exact hk
  ·cases hk
  ·cases hk
 ·exact fun h => ⟨0, by omega, h⟩
structure TabV (w : World) (D : Dm) (n H i : Nat) (cv : Value) (vs : List Value) : Prop where
 own : w.ownsRow H 26 1 cv i vs
 rows : ∀ j, j < i → ∃ v, vs[j]? = some v ∧ RO w (uC cv) v (bcs n (canC D j))
 hs : H ≤ w.heap.size
section
variable {w w' w'' : World} {D : Dm} {n H i g : Nat} {cv cv' v : Value} {vs : List Value}
theorem TabV.new (h : TabV w D n H i cv vs) (hb : Below w.heap.size w w') : TabV w' D n H i cv vs :=
 ⟨own6_stay h.own fun j hj => hb.block j (own6_lt h.own j hj).1, fun j hj => by
  obtain ⟨v, hv, hr⟩ := h.rows j hj
  exact ⟨v, hv, hr.step (Off.new _ hb) fun k hk => .inl hk⟩, Nat.le_trans h.hs hb.size⟩
theorem TabV.push (h : TabV w D n H i cv vs) (ho : w'.ownsRow H 26 1 cv' (i + 1) (vs ++ [v])) (hg : w.grownBy w' cv.ownBlock) (hw : ∀ k, cv'.ownBlock = some k → cv.ownBlock = some k ∨ w.heap.size ≤ k) (hr : Row w v (bcs n (canC D i))) (hv : ∀ k, v.ownBlock = some k → k < w.heap.size ∧ cv.ownBlock ≠ some k) : TabV w' D n H (i + 1) cv' (vs ++ [v]) := by
 have hoff : Off (XU (uC cv)) w w' := Off.grown hg fun k hk => .inr (xuC.2 hk)
 have hx : ∀ k, XU (uC cv') k → XU (uC cv) k ∨ w.heap.size ≤ k := fun k hk => (hw k (xuC.1 hk)).imp xuC.2 id
 have hl : vs.length = i := by have := h.own.1; rw [Nat.mul_one] at this; exact this
 refine ⟨ho, fun j hj => ?_, Nat.le_trans h.hs hg.size⟩
 by_cases hji : j < i
 ·obtain ⟨u, hu, h2⟩ := h.rows j hji
  exact ⟨u, by rw [List.getElem?_append_left (by rw [hl]; exact hji)]; exact hu, h2.step hoff hx⟩
 ·obtain rfl : j = i := by omega
  refine ⟨v, by rw [List.getElem?_append_right (by rw [hl]; exact Nat.le_refl _), hl, Nat.sub_self]; rfl, RO.step ⟨hr, fun k hk => ⟨(hv k hk).1, fun e => (hv k hk).2 (xuC.1 e)⟩⟩ hoff hx⟩
theorem TabV.can (h : TabV w D n H i cv vs) (hi : 0 < i) (hn : 0 < n) : ∃ bc cc, cv = .slice (some ⟨bc, 0, none⟩) i cc ∧ CanV w D n i bc 0 := by
 obtain ⟨bc, cc, hc, _, _, hlt, _⟩ := own_in h.own hi
 subst hc
 refine ⟨bc, cc, rfl, hlt, fun j hj => ?_⟩
 obtain ⟨v, hv, hr⟩ := h.rows j hj
 obtain ⟨A, c, hvv⟩ : ∃ A c, v = .slice A n c := by
  obtain ⟨A, c, h1, _⟩ := hr.1
  exact ⟨A, c, by rw [h1, bcs_len]⟩
 subst hvv
 obtain ⟨b, o, rfl, hb, hcell⟩ := hr.1.at_ (by rw [bcs_len]; exact hn)
 refine ⟨b, o, c, ?_, hb, fun t ht => hcell t _ (bcs_get _ ht)⟩
 rw [Nat.zero_add]
 exact (own_cell h.own hv).1
end
def canW (D : Dm) (j s k : Nat) : Nat → Bool := fun t => if t < s then canC D (j + 1) t else if t = s then canP D j s k else false
theorem canW_zero (D : Dm) (j t : Nat) : canW D j 0 0 t = false := by
 unfold canW
 rw [if_neg (Nat.not_lt_zero _)]
 by_cases h : t = 0
 ·rw [if_pos h, canP_zero]
 ·rw [if_neg h]
theorem canW_at (D : Dm) (j s k : Nat) : canW D j s k s = canP D j s k := by
 unfold canW
 rw [if_neg (Nat.lt_irrefl _), if_pos rfl]
theorem canW_next (D : Dm) (j s k t : Nat) : updB (canW D j s k) s (canP D j s k || canC D j (stC D s k)) t = canW D j s (k + 1) t := by
 unfold updB canW
 by_cases h : t = s
 ·rw [if_pos h, if_neg (by omega), if_pos h, canP_succ]
 ·rw [if_neg h]
  by_cases h2 : t < s
  ·rw [if_pos h2, if_pos h2]
  ·rw [if_neg h2, if_neg h2, if_neg h, if_neg h]
theorem canW_state (D : Dm) (j s t : Nat) : canW D j s (clsA D.cl) t = canW D j (s + 1) 0 t := by
 unfold canW
 rw [canP_all]
 by_cases h2 : t < s
 ·rw [if_pos h2, if_pos (by omega)]
 ·rw [if_neg h2]
  by_cases h : t = s
  ·rw [if_pos h, if_pos (by omega), h]
  ·rw [if_neg h, if_neg (by omega)]
   by_cases h3 : t = s + 1
   ·rw [if_pos h3, canP_zero]
   ·rw [if_neg h3]
theorem canW_all (D : Dm) (j : Nat) {n t : Nat} (h : t < n) : canW D j n 0 t = canC D (j + 1) t := by
 unfold canW
 rw [if_pos h]
def WrdsE (w' : World) (v : Value) (ls : List (List UInt8)) : Prop := ∃ vs, Row w' v vs ∧ vs.length = ls.length ∧ ∀ (i : Nat) (l : List UInt8), ls[i]? = some l → ∃ x, vs[i]? = some x ∧ Row w' x (bvs l)
set_option maxHeartbeats 16000000 in
set_option maxRecDepth 1000000 in
theorem refWords11_any (D : Dm) (cs : List Value) (n0 m0 : Nat) (w : World) (hv : DfaV w cs D) (hm : MayD D) (hn0 : n0 ≤ 200) (hm0 : m0 ≤ 100000) :
  Calls Try.prog 17 #[.agg cs.toArray, .int .i64 (n0 : Int), .int .i64 (m0 : Int)] w fun e w' => ∃ v, e = .returned v ∧ WrdsE w' v ((wrds (accD D 0) n0).take (min m0 1000)) ∧ Below w.heap.size w w' := by
 have V0 := qH hv
 have HM := qH hm
 have HDS := qH hv.size
 obtain ⟨n, hn⟩ : ∃ n, n = D.next.length := ⟨_, rfl⟩
 obtain ⟨kd, hkd⟩ : ∃ k, k = clsA D.cl := ⟨_, rfl⟩
 obtain ⟨bn, on, cn, be, oe, ce, hdr⟩ := dr_of hv hm hn hkd
 have HR := qH hdr
 have HN := qH hn
 have HKD := qH hkd
 have HL := qH hdr.hl
 have HCS := qH hdr.cs
 have HNP := qH (show 1 ≤ n by rw [hn]; exact hm.pos)
 have HNF := qH (show n ≤ 2000 by rw [hn]; exact hm.few)
 have HN0 := qH hn0
 have HM0 := qH hm0
 have HEND := qH (show Row w (.slice (some ⟨be, oe, none⟩) n ce) (bcs n (canC D 0)) from by
  obtain ⟨An, Ae, cn', ce', vf, _, hcs, _, _, he⟩ := hv.form
  have h1 := hdr.cs
  have h2 := hdr.hl
  rw [hcs] at h1
  have h3 := congrArg (fun l => l[257]?) h1
  simp only [dcl_e h2] at h3
  injection h3 with h3
  rw [h3] at he
  rw [show bools D.ends = bcs n (canC D 0) from by
   rw [bools_bcs (n := n) (by rw [hn]; exact hm.ends)]
   exact bcs_congr fun q hq => by
    show D.ends[q]?.getD false = D.ends.getD q false
    rw [List.getD_eq_getElem?_getD]] at he
  exact he)
 obtain ⟨i2, hi2, hb0, hb1, hb2⟩ := infoP inf_bool
 obtain ⟨ib, hib, hr0, hr1, hr2⟩ := infoP inf_rowB
 obtain ⟨io, hio, hz0⟩ := Option.map_eq_some_iff.1 inf_rowsU
 have HYB := qH (show i2.bytes * n ≤ 281474976710656 by rw [hb2]; have := HNF.out; omega)
 have HN3 := qH (show n ≤ 9223372036854775807 by have := HNF.out; omega)
 have q1 : ¬ ((n0 : Int) < 0) := by omega
 have q2 : ¬ ((200 : Int) < (n0 : Int)) := by omega
 clear hv hm hn hkd hdr hn0 hm0
 by_cases hm1 : m0 = 0
 ·subst hm1
  have q3 : ((0 : Nat) : Int) < 1 := by decide
  go_enter Try.func17, Try.ntmps17
  go_wp2_with (first
   | ((with_reducible refine atDst 3 ?_); refine wpList_box rfl 28 _ rfl cs rfl (Below.refl w.heap.size w) (Nat.le_refl _) ?_; intro w1 hk1 hb1 hs1 _; have K1 := qH hk1; have B1 := qH hb1; clear hk1 hb1 hs1; (try simp only [Act.put, qA, qB, qC]))
   | ((with_reducible refine atDst 13 ?_); refine wpList_ldArr rfl 28 _ rfl w.heap.size rfl 28 _ _ K1.out Try.underlying28 rfl HDS.out ?_; (try simp only [Act.put, qA, qB, qC])))
  refine (refMay11_any D cs w1 (V0.out.below B1.out) HM.out).mono ?_
  rintro e w2 ⟨rfl, hb⟩
  have B2 := qH (B1.out.trans (hb.mono B1.out.size))
  clear hb
  go_wp2_with fail
  go_ret
  exact ⟨_, rfl, ⟨[], Row.nil _, rfl, fun i l hl => by simp at hl⟩, B2.out⟩
 ·have q3 : ¬ ((m0 : Int) < 1) := by omega
  obtain ⟨mm, hmm⟩ : ∃ m, m = min m0 1000 := ⟨_, rfl⟩
  have HMM := qH hmm
  have hmin : min (m0 : Int) 1000 = (mm : Int) := by rw [hmm]; omega
  have HMIN := qH hmin
  rw [← hmm]
  clear hm1 hmm hmin
  go_enter Try.func17, Try.ntmps17
  go_wp2_with (first
   | ((with_reducible refine atDst 3 ?_); refine wpList_box rfl 28 _ rfl cs rfl (Below.refl w.heap.size w) (Nat.le_refl _) ?_; intro w1 hk1 hb1 hs1 _; have K1 := qH hk1; have B1 := qH hb1; clear hk1 hb1 hs1; (try simp only [Act.put, qA, qB, qC]))
   | ((with_reducible refine atDst 13 ?_); refine wpList_ldArr rfl 28 _ rfl w.heap.size rfl 28 _ _ K1.out Try.underlying28 rfl HDS.out ?_; (try simp only [Act.put, qA, qB, qC])))
  refine (refMay11_any D cs w1 (V0.out.below B1.out) HM.out).mono ?_
  rintro e w2 ⟨rfl, hb⟩
  have K2 := qH (K1.out.below hb K1.out.lt)
  have B2 := qH (B1.out.trans (hb.mono B1.out.size))
  obtain ⟨H, hH⟩ : ∃ g, g = w2.heap.size := ⟨_, rfl⟩
  have HH := qH hH
  have HWH := qH (show w.heap.size < H by rw [hH]; exact K2.out.lt)
  have E2 := qH (HEND.out.below B2.out)
  clear hb hH
  go_wp2_with (first
   | ((with_reducible refine atDst 28 ?_); refine wpList_bld0 rfl 26 4 rfl i2 Try.underlying26 hi2 (.bool false) hb0 hb1 ?_; intro w3 ho hb; have O3 := qH ho; have B3 := qH hb; have c257 : w3.cell? ⟨w.heap.size, 257, none⟩ = some (.slice (some ⟨be, oe, none⟩) n ce) := (by rw [(K2.out.below hb K2.out.lt).cell 257, HCS.out]; exact dcl_e HL.out); clear ho hb; (try simp only [Act.put, qA, qB, qC]))
   | ((with_reducible refine atDst 31 ?_); refine wpList_plain rfl fun K hK => wp_appW (base := w2.heap.size) (.tmp 28) (.tmp 30) 26 rfl 4 i2 (.bool false) 1 Try.underlying26 hi2 hb0 hb1 hb2 rfl _ 0 [] rfl O3.out _ (bcs n (canC D 0)) rfl (E2.out.below B3.out) (fun u hu => by obtain ⟨q, _, rfl⟩ := List.mem_map.1 hu; rfl) (by rw [bcs_len]; have := HNF.out; omega) (by decide) B3.out.size ?_; intro v4 w4 ho hg hw; have O4 := qH (show w4.ownsRow w2.heap.size 4 1 v4 n (bcs n (canC D 0)) from (by rw [bcs_len, Nat.zero_add] at ho; exact ho)); have B4 := qH (B3.out.trans (grown_belowO O3.out hg B3.out.size)); clear ho hg hw c257; refine hK _ _ ?_; clear hK K; (try simp only [Act.put, qA, qB, qC]))
   | ((with_reducible refine atDst 32 ?_); refine wpList_plain rfl fun K hK => wp_bldVk 62 26 (.tmp 31) rfl ib (.slice none 0 0) Try.underlying62 hib hr0 hr1 rfl v4 rfl (own_cellsW O4.out).1 ?_; intro w5 hk hb; have K5 := qH hk; have O5 := qH (own6_stay O4.out fun j hj => hb.block j (own6_lt O4.out j hj).1); have L5 := qH (own6_lt O4.out); have B45 := qH hb; have B5 := qH (B4.out.trans (hb.mono B4.out.size)); clear hk hb; refine hK _ _ ?_; clear hK K; (try simp only [Act.put, qA, qB, qC])))
  have T5 := qH (show TabV w5 D n H 1 (.slice (some ⟨w4.heap.size, 0, none⟩) 1 1) [v4] from
   ⟨K5.out.own (by rw [HH.out]; exact B4.out.size) one_maxW, fun j hj => by
    obtain rfl : j = 0 := by omega
    exact ⟨v4, rfl, Row.of_own O5.out, fun k hk => ⟨Nat.lt_of_lt_of_le (L5.out k hk).1 B45.out.size, fun h => by
     have h1 : w4.heap.size = k := Option.some.inj (xuC.1 h)
     have h2 := (L5.out k hk).1
     omega⟩⟩, by rw [HH.out]; exact B5.out.size⟩)
  have BH := qH (show Below H w2 w5 by rw [HH.out]; exact B5.out)
  clear O3 B3 O4 B4 K5 O5 L5 B45 B5 E2 q1 q2 q3
  go_wp2_with fail
  go_loopw [7, 8] (fun cv iv wl => ∃ (i : Nat) (vs : List Value), 1 ≤ i ∧ i ≤ n0 + 1 ∧ iv = .int .i64 (i : Int) ∧ TabV wl D n H i cv vs ∧ Below H w2 wl) (fun _ iv _ => n0 + 1 - (intOf iv).toNat)
  case atStart => exact ⟨1, [v4], Nat.le_refl _, Nat.le_add_left 1 n0, rfl, T5.out, BH.out⟩
  clear T5 BH
  obtain ⟨i, vs, hi1, hi, rfl, ht, hb⟩ := hrel
  have HI1 := qH hi1
  have HI := qH hi
  have TB := qH ht
  have BO := qH hb
  obtain ⟨bc, cc, hcv, hcan⟩ := ht.can hi1 HNP.out
  subst hcv
  have HCAN := qH hcan
  obtain ⟨wo, hwo⟩ : ∃ v : World, v = wr := ⟨_, rfl⟩
  subst hwo
  have KO := qH (show Blk wo w.heap.size 28 cs from K2.out.below BO.out HWH.out)
  have BWO := qH (show Below w.heap.size w wo from B2.out.trans (BO.out.mono (Nat.le_of_lt HWH.out)))
  have RO2 := qH (HR.out.below BWO.out)
  clear hi1 hi ht hb hcan
  by_cases him : i ≤ n0
  ·have x1 : (i : Int) ≤ (n0 : Int) := Int.ofNat_le.2 him
   have HIM := qH him
   obtain ⟨j, hj⟩ : ∃ j, i = j + 1 := ⟨i - 1, by have := HI1.out; omega⟩
   have HJ := qH hj
   have HJI := qH (show j < i by omega)
   have G1 := qH (show IntKind.i64.wrap ((i : Int) - 1) = (j : Int) by
    rw [hj, show ((j + 1 : Nat) : Int) - 1 = (j : Int) by omega]
    exact IntWalk.i64_in _ (by have := HN0.out; omega))
   have G2 := qH (show wrap64 ((i : Int) - 1) = (j : Int) by
    rw [hj, show ((j + 1 : Nat) : Int) - 1 = (j : Int) by omega]
    exact IntWalk.wrap64_in _ (by have := HN0.out; omega))
   have HMI := qH (show n0 + 1 - (i + 1) < n0 + 1 - i by omega)
   have c256 : wo.cell? ⟨w.heap.size, 256, none⟩ = some (.slice (some ⟨bn, on, none⟩) n cn) := by rw [KO.out.cell 256, HCS.out]; exact dcl_n HL.out
   clear him hj
   go_wp2_with ((with_reducible refine atDst 41 ?_); refine wpList_mk _ rfl _ _ 26 rfl 4 i2 (.bool false) Try.underlying26 hi2 hb0 hb1 rfl n _ _ _ _ rfl rfl rfl rfl HYB.out HN3.out ?_; intro wm hk hb hs; clear c256; obtain ⟨gt, hgt⟩ : ∃ g, g = wo.heap.size := ⟨_, rfl⟩; rw [← hgt] at hk; rw [← hgt]; have X0 := qH hk; have BM := qH (show Below gt wo wm from (by rw [hgt]; exact hb)); have HGT := qH hgt; clear hk hb hs hgt; (try simp only [Act.put, qA, qB, qC]))
   have X1 := qH (show Blk wm gt 4 (bcs n (canW D j 0 0)) from by
    have h1 := X0.out
    rw [bcs_no, ← bcs_congr (n := n) (f := canW D j 0 0) (g := fun _ => false) fun t _ => canW_zero D j t] at h1
    exact h1)
   clear X0
   have EN := qH (show ∀ V, Below gt wm V → ∀ b o v, b < wo.heap.size → wo.cell? ⟨b, o, none⟩ = some v → V.cell? ⟨b, o, none⟩ = some v from fun V hV b o v hb hc => ((BM.out.trans hV).cell (p := ⟨b, o, none⟩) (by rw [HGT.out]; exact hb)).trans hc)
   have C256 := qH (show ∀ V, Below gt wm V → V.cell? ⟨w.heap.size, 256, none⟩ = some (.slice (some ⟨bn, on, none⟩) n cn) from fun V hV => EN.out V hV _ _ _ KO.out.lt (by rw [KO.out.cell 256, HCS.out]; exact dcl_n HL.out))
   obtain ⟨bj, oj, cj, hcj, hbj, hce⟩ := HCAN.out.2 j HJI.out
   rw [Nat.zero_add] at hcj
   have C69 := qH (show ∀ V, Below gt wm V → V.cell? ⟨bc, j, none⟩ = some (.slice (some ⟨bj, oj, none⟩) n cj) from fun V hV => EN.out V hV _ _ _ HCAN.out.1 hcj)
   have C79 := qH (show ∀ V, Below gt wm V → ∀ t, t < n → V.cell? ⟨bj, oj + t, none⟩ = some (.bool (canC D j t)) from fun V hV t ht => EN.out V hV _ _ _ hbj (hce t ht))
   clear hcj hbj hce
   go_wp2_with fail
   go_loopw [10] (fun sv wl => ∃ s : Nat, s ≤ n ∧ sv = .int .i64 (s : Int) ∧ Blk wl gt 4 (bcs n (canW D j s 0)) ∧ Below gt wm wl) (fun sv _ => n - (intOf sv).toNat)
   case atStart => exact ⟨0, Nat.zero_le _, rfl, X1.out, Below.refl _ _⟩
   clear X1
   obtain ⟨s, hs, rfl, hk, hb⟩ := hrel
   have HS := qH hs
   have XS := qH hk
   have BS := qH hb
   obtain ⟨ws, hws⟩ : ∃ v : World, v = wr := ⟨_, rfl⟩
   subst hws
   clear hs hk hb
   by_cases hsn : s < n
   ·have s1 : (s : Int) < (n : Int) := Int.ofNat_lt.2 hsn
    have HSN := qH hsn
    have HMS := qH (sub_next hsn)
    obtain ⟨br, or, cr, hcr, hbr, hrr⟩ := RO2.out.row s hsn
    have CR := qH (show ∀ V, Below gt wm V → V.cell? ⟨bn, on + s, none⟩ = some (.slice (some ⟨br, or, none⟩) kd cr) from fun V hV => EN.out V hV _ _ _ RO2.out.hbn hcr)
    have CTO := qH (show ∀ V, Below gt wm V → ∀ k, k < kd → V.cell? ⟨br, or + k, none⟩ = some (.int .i64 (stC D s k : Int)) from fun V hV k hk => EN.out V hV _ _ _ hbr (by
     obtain ⟨b', o', he, _, hc'⟩ := hrr.at_ (by rw [ncs_len]; omega)
     injection he with he
     injection he with h1 h2
     subst h1 h2
     exact hc' k _ (ncs_get (fun c => stC D s c) hk)))
    clear hsn hcr hbr hrr
    go_wp2_with fail
    go_loopw [11] (fun kv wl => ∃ k : Nat, k ≤ kd ∧ kv = .int .i64 (k : Int) ∧ Blk wl gt 4 (bcs n (canW D j s k)) ∧ Below gt wm wl) (fun kv _ => kd - (intOf kv).toNat)
    case atStart => exact ⟨0, Nat.zero_le _, rfl, XS.out, BS.out⟩
    clear XS BS
    obtain ⟨k, hk, rfl, hx, hb⟩ := hrel
    have HK := qH hk
    have XK := qH hx
    have BK := qH hb
    obtain ⟨wk, hwk⟩ : ∃ v : World, v = wr := ⟨_, rfl⟩
    subst hwk
    clear hk hx hb
    have c256 := C256.out wk BK.out
    have crow := CR.out wk BK.out
    have HK2 := qH (show kd ≤ 256 by rw [HKD.out]; exact clsA_le _)
    by_cases hkk : k < kd
    ·have k1 : (k : Int) < (kd : Int) := Int.ofNat_lt.2 hkk
     have HKK := qH hkk
     have HMK := qH (sub_next hkk)
     obtain ⟨q, hq⟩ : ∃ q, q = stC D s k := ⟨_, rfl⟩
     have HQ := qH hq
     have HQN := qH (show q < n by
      have h1 := stC_lt HM.out (show s < D.next.length by rw [← HN.out]; exact HSN.out) k (by rw [← HKD.out]; exact hkk)
      rw [hq, HN.out]
      exact h1)
     obtain ⟨x, hx⟩ : ∃ x, canP D j s k = x := ⟨_, rfl⟩
     obtain ⟨y, hy⟩ : ∃ y, canC D j q = y := ⟨_, rfl⟩
     have C63 := qH (show ∀ V, Below wk.heap.size wk V → V.cell? ⟨gt, s, none⟩ = some (.bool x) from fun V hV => by rw [(XK.out.below hV XK.out.lt).cell s, bcs_get _ HSN.out, canW_at, hx])
     have HSTEP := qH (show ∀ t, updB (canW D j s k) s (x || y) t = canW D j s (k + 1) t from fun t => by rw [← hx, ← hy, hq]; exact canW_next D j s k t)
     have HGW := qH XK.out.lt
     have BKX := qH (show ∀ V, Below wk.heap.size wk V → Below gt wm V from fun V hV => BK.out.trans (hV.mono (Nat.le_of_lt HGW.out)))
     have CQ := qH (show ∀ V, Below wk.heap.size wk V → V.cell? ⟨br, or + k, none⟩ = some (.int .i64 (q : Int)) from fun V hV => by rw [hq]; exact CTO.out V (BKX.out V hV) k hkk)
     have CY := qH (show ∀ V, Below wk.heap.size wk V → V.cell? ⟨bj, oj + q, none⟩ = some (.bool y) from fun V hV => by rw [← hy]; exact C79.out V (BKX.out V hV) q HQN.out)
     have g1 := G1.out
     have g2 := G2.out
     clear hkk hq hx hy
     go_wp2_with fail
     clear c256 crow
     refine mc_start (fun _ => True) (fun V => Below wk.heap.size wk V) 24 (by kernel_rfl) (fun wd hwd => ?_)
     have hBD : Below wk.heap.size wk wd := by rw [hwd]; exact (Below.refl _ _).drew
     have XD := qH (XK.out.below hBD XK.out.lt)
     have BD := qH (BKX.out wd hBD)
     have hX : True := trivial
     have hY := hBD
     have XN := qH (show Blk (wd.setCell ⟨gt, s, none⟩ (.bool (x || y))) gt 4 (bcs n (canW D j s (k + 1))) from by
      have h1 := XD.out.set s (.bool (x || y))
      rw [bcs_set, bcs_congr (n := n) (fun t _ => HSTEP.out t)] at h1
      exact h1)
     have BN := qH (BD.out.setCell (p := ⟨gt, s, none⟩) (Nat.le_refl _) (Value.bool (x || y)))
     clear hwd hBD
     cases x
     case' false =>
      refine mc_take (i := 0) (oi := ⟨some 58, _, _, _, _, _⟩) (v := ?_) rfl (by kernel_rfl) (by kernel_rfl) (by kernel_rfl) (fun _ _ _ h => h) rfl hX ?_ ?_; rotate_left; (intro W hW; go_simp; try with_reducible rfl); simp only [Act.put, qA, qB, qC]
      refine mc_take (i := 1) (oi := ⟨some 59, _, _, _, _, _⟩) (v := ?_) rfl (by kernel_rfl) (by kernel_rfl) (by kernel_rfl) (fun _ _ _ h => h) rfl hX ?_ ?_; rotate_left; (intro W hW; go_simp; try with_reducible rfl); simp only [Act.put, qA, qB, qC]
      refine mc_take (i := 2) (oi := ⟨some 60, _, _, _, _, _⟩) (v := ?_) rfl (by kernel_rfl) (by kernel_rfl) (by kernel_rfl) (fun _ _ _ h => h) rfl hX ?_ ?_; rotate_left; (intro W hW; go_simp; try with_reducible rfl); simp only [Act.put, qA, qB, qC]
      refine mc_take (i := 3) (oi := ⟨some 61, _, _, _, _, _⟩) (v := ?_) rfl (by kernel_rfl) (by kernel_rfl) (by kernel_rfl) (fun _ _ _ h => h) rfl hX ?_ ?_; rotate_left; (intro W hW; go_simp; try with_reducible rfl); simp only [Act.put, qA, qB, qC]
      refine mc_takeS (i := 4) (oi := ⟨some 62, _, _, _, _, _⟩) (v := .pointer (some ⟨gt, s, none⟩)) rfl (by kernel_rfl) (by kernel_rfl) (by kernel_rfl) (fun _ _ _ h => h) rfl hX hY (fun V _ _ => lk_ixB0 (.tmp 60) (.tmp 61) rfl rfl rfl HSN.out V) ?_; simp only [Act.put, qA, qB, qC]
      refine mc_takeS (i := 5) (oi := ⟨some 63, _, _, _, _, _⟩) (v := .bool false) rfl (by kernel_rfl) (by kernel_rfl) (by kernel_rfl) (fun _ _ _ h => h) rfl hX hY (fun V _ hV => lk_ldB (.tmp 62) rfl rfl (C63.out V hV)) ?_; simp only [Act.put, qA, qB, qC]
      refine mc_take (i := 6) (oi := ⟨some 64, _, _, _, _, _⟩) (v := ?_) rfl (by kernel_rfl) (by kernel_rfl) (by kernel_rfl) (fun _ _ _ h => h) rfl hX ?_ ?_; rotate_left; (intro W hW; go_simp; try with_reducible rfl); simp only [Act.put, qA, qB, qC]
      refine mc_take (i := 7) (oi := ⟨some 65, _, _, _, _, _⟩) (v := ?_) rfl (by kernel_rfl) (by kernel_rfl) (by kernel_rfl) (fun _ _ _ h => h) rfl hX ?_ ?_; rotate_left; (intro W hW; go_simp; try with_reducible rfl); simp only [Act.put, qA, qB, qC]
      refine mc_take (i := 8) (oi := ⟨some 66, _, _, _, _, _⟩) (v := ?_) rfl (by kernel_rfl) (by kernel_rfl) (by kernel_rfl) (fun _ _ _ h => h) rfl hX ?_ ?_; rotate_left; (intro W hW; go_simp; try with_reducible rfl); simp only [Act.put, qA, qB, qC]
      refine mc_take (i := 9) (oi := ⟨some 67, _, _, _, _, _⟩) (v := ?_) rfl (by kernel_rfl) (by kernel_rfl) (by kernel_rfl) (fun _ _ _ h => h) rfl hX ?_ ?_; rotate_left; (intro W hW; go_simp; try with_reducible rfl); simp only [Act.put, qA, qB, qC]
      refine mc_takeS (i := 10) (oi := ⟨some 68, _, _, _, _, _⟩) (v := .pointer (some ⟨bc, j, none⟩)) rfl (by kernel_rfl) (by kernel_rfl) (by kernel_rfl) (fun _ _ _ h => h) rfl hX hY (fun V _ _ => wl_ixBs (.tmp 65) (.tmp 67) rfl rfl rfl HJI.out V) ?_; simp only [Act.put, qA, qB, qC]
      refine mc_takeS (i := 11) (oi := ⟨some 69, _, _, _, _, _⟩) (v := .slice (some ⟨bj, oj, none⟩) n cj) rfl (by kernel_rfl) (by kernel_rfl) (by kernel_rfl) (fun _ _ _ h => h) rfl hX hY (fun V _ hV => lk_ldBs (.tmp 68) rfl rfl (C69.out V (BKX.out V hV))) ?_; simp only [Act.put, qA, qB, qC]
      refine mc_take (i := 12) (oi := ⟨some 70, _, _, _, _, _⟩) (v := ?_) rfl (by kernel_rfl) (by kernel_rfl) (by kernel_rfl) (fun _ _ _ h => h) rfl hX ?_ ?_; rotate_left; (intro W hW; go_simp; try with_reducible rfl); simp only [Act.put, qA, qB, qC]
      refine mc_takeS (i := 13) (oi := ⟨some 71, _, _, _, _, _⟩) (v := .slice (some ⟨bn, on, none⟩) n cn) rfl (by kernel_rfl) (by kernel_rfl) (by kernel_rfl) (fun _ _ _ h => h) rfl hX hY (fun V _ hV => lk_ldIss (.tmp 70) rfl rfl (C256.out V (BKX.out V hV))) ?_; simp only [Act.put, qA, qB, qC]
      refine mc_take (i := 14) (oi := ⟨some 72, _, _, _, _, _⟩) (v := ?_) rfl (by kernel_rfl) (by kernel_rfl) (by kernel_rfl) (fun _ _ _ h => h) rfl hX ?_ ?_; rotate_left; (intro W hW; go_simp; try with_reducible rfl); simp only [Act.put, qA, qB, qC]
      refine mc_takeS (i := 15) (oi := ⟨some 73, _, _, _, _, _⟩) (v := .pointer (some ⟨bn, on + s, none⟩)) rfl (by kernel_rfl) (by kernel_rfl) (by kernel_rfl) (fun _ _ _ h => h) rfl hX hY (fun V _ _ => lk_ixIs (.tmp 71) (.tmp 72) rfl rfl rfl HSN.out V) ?_; simp only [Act.put, qA, qB, qC]
      refine mc_takeS (i := 16) (oi := ⟨some 74, _, _, _, _, _⟩) (v := .slice (some ⟨br, or, none⟩) kd cr) rfl (by kernel_rfl) (by kernel_rfl) (by kernel_rfl) (fun _ _ _ h => h) rfl hX hY (fun V _ hV => lk_ldIs (.tmp 73) rfl rfl (CR.out V (BKX.out V hV))) ?_; simp only [Act.put, qA, qB, qC]
      refine mc_take (i := 17) (oi := ⟨some 75, _, _, _, _, _⟩) (v := ?_) rfl (by kernel_rfl) (by kernel_rfl) (by kernel_rfl) (fun _ _ _ h => h) rfl hX ?_ ?_; rotate_left; (intro W hW; go_simp; try with_reducible rfl); simp only [Act.put, qA, qB, qC]
      refine mc_takeS (i := 18) (oi := ⟨some 76, _, _, _, _, _⟩) (v := .pointer (some ⟨br, or + k, none⟩)) rfl (by kernel_rfl) (by kernel_rfl) (by kernel_rfl) (fun _ _ _ h => h) rfl hX hY (fun V _ _ => lk_ixI (.tmp 74) (.tmp 75) rfl rfl rfl HKK.out V) ?_; simp only [Act.put, qA, qB, qC]
      refine mc_takeS (i := 19) (oi := ⟨some 77, _, _, _, _, _⟩) (v := .int .i64 (q : Int)) rfl (by kernel_rfl) (by kernel_rfl) (by kernel_rfl) (fun _ _ _ h => h) rfl hX hY (fun V _ hV => lk_ldI (.tmp 76) rfl rfl (CQ.out V hV)) ?_; simp only [Act.put, qA, qB, qC]
      refine mc_takeS (i := 20) (oi := ⟨some 78, _, _, _, _, _⟩) (v := .pointer (some ⟨bj, oj + q, none⟩)) rfl (by kernel_rfl) (by kernel_rfl) (by kernel_rfl) (fun _ _ _ h => h) rfl hX hY (fun V _ _ => lk_ixB (.tmp 69) (.tmp 77) rfl rfl rfl HQN.out V) ?_; simp only [Act.put, qA, qB, qC]
      refine mc_takeS (i := 21) (oi := ⟨some 79, _, _, _, _, _⟩) (v := .bool y) rfl (by kernel_rfl) (by kernel_rfl) (by kernel_rfl) (fun _ _ _ h => h) rfl hX hY (fun V _ hV => lk_ldB (.tmp 78) rfl rfl (CY.out V hV)) ?_; simp only [Act.put, qA, qB, qC]
      refine mc_take (i := 22) (oi := ⟨some 80, _, _, _, _, _⟩) (v := ?_) rfl (by kernel_rfl) (by kernel_rfl) (by kernel_rfl) (fun _ _ _ h => h) rfl hX ?_ ?_; rotate_left; (intro W hW; go_simp; try with_reducible rfl); simp only [Act.put, qA, qB, qC]
      refine mc_takeS (i := 23) (oi := ⟨some 81, _, _, _, _, _⟩) (v := .pointer (some ⟨gt, s, none⟩)) rfl (by kernel_rfl) (by kernel_rfl) (by kernel_rfl) (fun _ _ _ h => h) rfl hX hY (fun V _ _ => lk_ixB0 (.tmp 58) (.tmp 59) rfl rfl rfl HSN.out V) ?_; simp only [Act.put, qA, qB, qC]
      refine mc_last (i := 24) (o := ⟨none, _, _, _, _, _⟩) rfl (by kernel_rfl) rfl (fun K hK => ?_)
      refine wp_stB (.tmp 81) (.tmp 80) rfl gt s rfl (false || y) rfl _ ((XD.out.cell s).trans (bcs_get _ HSN.out)) (XD.out.frozen s) ?_
     case' true =>
      refine mc_take (i := 0) (oi := ⟨some 58, _, _, _, _, _⟩) (v := ?_) rfl (by kernel_rfl) (by kernel_rfl) (by kernel_rfl) (fun _ _ _ h => h) rfl hX ?_ ?_; rotate_left; (intro W hW; go_simp; try with_reducible rfl); simp only [Act.put, qA, qB, qC]
      refine mc_take (i := 1) (oi := ⟨some 59, _, _, _, _, _⟩) (v := ?_) rfl (by kernel_rfl) (by kernel_rfl) (by kernel_rfl) (fun _ _ _ h => h) rfl hX ?_ ?_; rotate_left; (intro W hW; go_simp; try with_reducible rfl); simp only [Act.put, qA, qB, qC]
      refine mc_take (i := 2) (oi := ⟨some 60, _, _, _, _, _⟩) (v := ?_) rfl (by kernel_rfl) (by kernel_rfl) (by kernel_rfl) (fun _ _ _ h => h) rfl hX ?_ ?_; rotate_left; (intro W hW; go_simp; try with_reducible rfl); simp only [Act.put, qA, qB, qC]
      refine mc_take (i := 3) (oi := ⟨some 61, _, _, _, _, _⟩) (v := ?_) rfl (by kernel_rfl) (by kernel_rfl) (by kernel_rfl) (fun _ _ _ h => h) rfl hX ?_ ?_; rotate_left; (intro W hW; go_simp; try with_reducible rfl); simp only [Act.put, qA, qB, qC]
      refine mc_takeS (i := 4) (oi := ⟨some 62, _, _, _, _, _⟩) (v := .pointer (some ⟨gt, s, none⟩)) rfl (by kernel_rfl) (by kernel_rfl) (by kernel_rfl) (fun _ _ _ h => h) rfl hX hY (fun V _ _ => lk_ixB0 (.tmp 60) (.tmp 61) rfl rfl rfl HSN.out V) ?_; simp only [Act.put, qA, qB, qC]
      refine mc_takeS (i := 5) (oi := ⟨some 63, _, _, _, _, _⟩) (v := .bool true) rfl (by kernel_rfl) (by kernel_rfl) (by kernel_rfl) (fun _ _ _ h => h) rfl hX hY (fun V _ hV => lk_ldB (.tmp 62) rfl rfl (C63.out V hV)) ?_; simp only [Act.put, qA, qB, qC]
      refine mc_take (i := 6) (oi := ⟨some 64, _, _, _, _, _⟩) (v := ?_) rfl (by kernel_rfl) (by kernel_rfl) (by kernel_rfl) (fun _ _ _ h => h) rfl hX ?_ ?_; rotate_left; (intro W hW; go_simp; try with_reducible rfl); simp only [Act.put, qA, qB, qC]
      refine mc_skip (i := 7) (oi := ⟨some 65, _, _, _, _, _⟩) rfl (by kernel_rfl) (by kernel_rfl) (by kernel_rfl) (fun _ _ _ h => h) rfl hX ?_; simp only [Act.put, qA, qB, qC]
      refine mc_skip (i := 8) (oi := ⟨some 66, _, _, _, _, _⟩) rfl (by kernel_rfl) (by kernel_rfl) (by kernel_rfl) (fun _ _ _ h => h) rfl hX ?_; simp only [Act.put, qA, qB, qC]
      refine mc_skip (i := 9) (oi := ⟨some 67, _, _, _, _, _⟩) rfl (by kernel_rfl) (by kernel_rfl) (by kernel_rfl) (fun _ _ _ h => h) rfl hX ?_; simp only [Act.put, qA, qB, qC]
      refine mc_skip (i := 10) (oi := ⟨some 68, _, _, _, _, _⟩) rfl (by kernel_rfl) (by kernel_rfl) (by kernel_rfl) (fun _ _ _ h => h) rfl hX ?_; simp only [Act.put, qA, qB, qC]
      refine mc_skip (i := 11) (oi := ⟨some 69, _, _, _, _, _⟩) rfl (by kernel_rfl) (by kernel_rfl) (by kernel_rfl) (fun _ _ _ h => h) rfl hX ?_; simp only [Act.put, qA, qB, qC]
      refine mc_skip (i := 12) (oi := ⟨some 70, _, _, _, _, _⟩) rfl (by kernel_rfl) (by kernel_rfl) (by kernel_rfl) (fun _ _ _ h => h) rfl hX ?_; simp only [Act.put, qA, qB, qC]
      refine mc_skip (i := 13) (oi := ⟨some 71, _, _, _, _, _⟩) rfl (by kernel_rfl) (by kernel_rfl) (by kernel_rfl) (fun _ _ _ h => h) rfl hX ?_; simp only [Act.put, qA, qB, qC]
      refine mc_skip (i := 14) (oi := ⟨some 72, _, _, _, _, _⟩) rfl (by kernel_rfl) (by kernel_rfl) (by kernel_rfl) (fun _ _ _ h => h) rfl hX ?_; simp only [Act.put, qA, qB, qC]
      refine mc_skip (i := 15) (oi := ⟨some 73, _, _, _, _, _⟩) rfl (by kernel_rfl) (by kernel_rfl) (by kernel_rfl) (fun _ _ _ h => h) rfl hX ?_; simp only [Act.put, qA, qB, qC]
      refine mc_skip (i := 16) (oi := ⟨some 74, _, _, _, _, _⟩) rfl (by kernel_rfl) (by kernel_rfl) (by kernel_rfl) (fun _ _ _ h => h) rfl hX ?_; simp only [Act.put, qA, qB, qC]
      refine mc_skip (i := 17) (oi := ⟨some 75, _, _, _, _, _⟩) rfl (by kernel_rfl) (by kernel_rfl) (by kernel_rfl) (fun _ _ _ h => h) rfl hX ?_; simp only [Act.put, qA, qB, qC]
      refine mc_skip (i := 18) (oi := ⟨some 76, _, _, _, _, _⟩) rfl (by kernel_rfl) (by kernel_rfl) (by kernel_rfl) (fun _ _ _ h => h) rfl hX ?_; simp only [Act.put, qA, qB, qC]
      refine mc_skip (i := 19) (oi := ⟨some 77, _, _, _, _, _⟩) rfl (by kernel_rfl) (by kernel_rfl) (by kernel_rfl) (fun _ _ _ h => h) rfl hX ?_; simp only [Act.put, qA, qB, qC]
      refine mc_skip (i := 20) (oi := ⟨some 78, _, _, _, _, _⟩) rfl (by kernel_rfl) (by kernel_rfl) (by kernel_rfl) (fun _ _ _ h => h) rfl hX ?_; simp only [Act.put, qA, qB, qC]
      refine mc_skip (i := 21) (oi := ⟨some 79, _, _, _, _, _⟩) rfl (by kernel_rfl) (by kernel_rfl) (by kernel_rfl) (fun _ _ _ h => h) rfl hX ?_; simp only [Act.put, qA, qB, qC]
      refine mc_take (i := 22) (oi := ⟨some 80, _, _, _, _, _⟩) (v := ?_) rfl (by kernel_rfl) (by kernel_rfl) (by kernel_rfl) (fun _ _ _ h => h) rfl hX ?_ ?_; rotate_left; (intro W hW; go_simp; try with_reducible rfl); simp only [Act.put, qA, qB, qC]
      refine mc_takeS (i := 23) (oi := ⟨some 81, _, _, _, _, _⟩) (v := .pointer (some ⟨gt, s, none⟩)) rfl (by kernel_rfl) (by kernel_rfl) (by kernel_rfl) (fun _ _ _ h => h) rfl hX hY (fun V _ _ => lk_ixB0 (.tmp 58) (.tmp 59) rfl rfl rfl HSN.out V) ?_; simp only [Act.put, qA, qB, qC]
      refine mc_last (i := 24) (o := ⟨none, _, _, _, _, _⟩) rfl (by kernel_rfl) rfl (fun K hK => ?_)
      refine wp_stB (.tmp 81) (.tmp 80) rfl gt s rfl (true || y) rfl _ ((XD.out.cell s).trans (bcs_get _ HSN.out)) (XD.out.frozen s) ?_
     all_goals
      refine hK _ _ trivial ?_
      clear hK K hX
      (try simp only [Act.put, qA, qB, qC])
      refine wpAnyC_done (by kernel_rfl) ?_ _
      have e3 := wrap_one k (wj_256m (Nat.lt_of_lt_of_le HKK.out HK2.out))
      have e4 := wrap_one' k (wj_256m (Nat.lt_of_lt_of_le HKK.out HK2.out))
      clear g1 g2
      go_wp2_with fail
      exact ⟨⟨k + 1, HKK.out, by congr 1, XN.out, BN.out⟩, by simpa [intOf] using HMK.out⟩
    ·obtain rfl : k = kd := Nat.le_antisymm HK.out (Nat.not_lt.1 hkk)
     have k1 : ¬ ((k : Int) < (k : Int)) := Int.lt_irrefl _
     have XE := qH (show Blk wk gt 4 (bcs n (canW D j (s + 1) 0)) from by
      rw [← bcs_congr (n := n) (f := canW D j s k) (g := canW D j (s + 1) 0) fun t _ => by rw [← canW_state, HKD.out]]
      exact XK.out)
     have e3 := wrap_one s (lt_bigN HSN.out HNF.out)
     have e4 := wrap_one' s (lt_bigN HSN.out HNF.out)
     clear hkk
     go_wp2_with fail
     exact ⟨⟨s + 1, HSN.out, by congr 1, XE.out, BK.out⟩, by simpa [intOf] using HMS.out⟩
   ·obtain rfl : s = n := Nat.le_antisymm HS.out (Nat.not_lt.1 hsn)
    have s1 : ¬ ((s : Int) < (s : Int)) := Int.lt_irrefl _
    have RT := qH (show Row ws (.slice (some ⟨gt, 0, none⟩) s s) (bcs s (canC D i)) from by
     have h1 := (XS.out.own (base := 0) (Nat.zero_le _) (by rw [bcs_len]; have := HNF.out; unfold maxLen; omega))
     rw [bcs_len] at h1
     have h2 := Row.of_own h1
     rw [bcs_congr (n := s) (g := canC D i) fun t ht => by rw [HJ.out]; exact canW_all D j ht] at h2
     exact h2)
    have TS := qH (show TabV ws D s H i (.slice (some ⟨bc, 0, none⟩) i cc) vs from by
     refine TB.out.new ?_
     have h1 := BM.out.trans BS.out
     rw [HGT.out] at h1
     exact h1)
    have HBT := qH (show bc ≠ gt from by
     have h1 := HCAN.out.1
     have h2 := HGT.out
     omega)
    have HGL := qH XS.out.lt
    have BT := qH (show Below H w2 ws from BO.out.trans ((BM.out.trans BS.out).mono (by rw [HGT.out]; exact TB.out.hs)))
    have HLT := qH (show i + [Value.slice (some ⟨gt, 0, none⟩) s s].length ≤ 2097152 by have h1 := HIM.out; have h2 := HN0.out; show i + 1 ≤ _; omega)
    have e3 := wrap_one i (wj_256m (Nat.lt_of_le_of_lt HIM.out (Nat.lt_of_le_of_lt HN0.out (by decide))))
    have e4 := wrap_one' i (wj_256m (Nat.lt_of_le_of_lt HIM.out (Nat.lt_of_le_of_lt HN0.out (by decide))))
    clear hsn
    go_wp2_with (first
     | ((with_reducible refine atDst 84 ?_); refine wpList_plain rfl fun K hK => wp_bldVk 62 26 (.tmp 83) rfl ib (.slice none 0 0) Try.underlying62 hib hr0 hr1 rfl (.slice (some ⟨gt, 0, none⟩) s s) rfl rfl ?_; intro wx hk hb; have KX := qH hk; have BX := qH hb; have TX := qH (TS.out.new hb); have RX := qH (RT.out.below hb); clear hk hb; refine hK _ _ ?_; clear hK K; (try simp only [Act.put, qA, qB, qC]))
     | ((with_reducible refine atDst 85 ?_); refine wpList_plain rfl fun K hK => wp_appW (base := H) (.tmp 82) (.tmp 84) 62 rfl 26 ib (.slice none 0 0) 24 Try.underlying62 hib hr0 hr1 hr2 rfl _ i vs rfl TX.out.own _ [.slice (some ⟨gt, 0, none⟩) s s] rfl (rowB KX.out rfl (by decide)) (fun u hu => by rw [List.mem_singleton.1 hu]; rfl) HLT.out (by decide) TX.out.hs ?_; intro vy wy ho hg hw; have BY := qH (below_own (Below.refl H wx) TX.out.hs hg fun k hk => (own6_lt TX.out.own k hk).2); have TY := qH (TX.out.push ho hg hw RX.out (fun k hk => (by have h1 : gt = k := Option.some.inj hk; rw [← h1]; exact ⟨Nat.lt_of_lt_of_le HGL.out BX.out.size, fun e => HBT.out (Option.some.inj e)⟩))); clear ho hg hw; refine hK _ _ ?_; clear hK K; (try simp only [Act.put, qA, qB, qC])))
    exact ⟨⟨i + 1, _, Nat.le_add_left 1 i, Nat.succ_le_succ HIM.out, by congr 1, TY.out, BT.out.trans ((BX.out.mono TS.out.hs).trans BY.out)⟩, by simpa [intOf] using HMI.out⟩
  ·obtain rfl : i = n0 + 1 := Nat.le_antisymm HI.out (Nat.lt_of_not_le him)
   have x1 : ¬ (((n0 + 1 : Nat) : Int) ≤ (n0 : Int)) := fun h => him (Int.ofNat_le.1 h)
   obtain ⟨N, hN⟩ : ∃ N, N = n0 + 1 := ⟨_, rfl⟩
   have HNN := qH hN
   rw [← hN] at x1 HCAN TB
   rw [← hN]
   have HLT := qH (show n0 < N by rw [hN]; exact Nat.lt_succ_self _)
   have VO := qH (V0.out.below BWO.out)
   clear him hN
   have hmin := HMIN.out
   go_wp2_with (first
    | ((with_reducible refine atDst 12 ?_); refine wpList_new rfl 35 rfl io (.slice none 0 0) [.slice none 0 0] hio hz0 rfl (Below.refl wo.heap.size wo) (Nat.le_refl _) ?_; intro w7 hk hb hs _; have K7 := qH hk; have B7 := qH hb; have KD7 := qH (KO.out.below hb KO.out.lt); clear hk hb hs; (try simp only [Act.put, qA, qB, qC]))
    | ((with_reducible refine atDst 86 ?_); refine wpList_ldArr rfl 28 _ rfl w.heap.size rfl 28 _ _ KD7.out Try.underlying28 rfl HDS.out ?_; (try simp only [Act.put, qA, qB, qC])))
   obtain ⟨g, hg⟩ : ∃ g, g = wo.heap.size := ⟨_, rfl⟩
   have HG := qH hg
   have HG7 := qH (show g < w7.heap.size by rw [hg]; exact K7.out.lt)
   have O7 := qH (show OutV w7 wo.heap.size w7.heap.size g (.slice none 0 0) [] [] from
    ⟨by rw [hg]; exact K7.out, ⟨rfl, .inl ⟨rfl, rfl⟩⟩, ⟨rfl, fun i l hl => by simp at hl⟩, Nat.le_of_eq hg.symm, HG7.out, Nat.le_refl _⟩)
   have HMM2 := qH (show mm ≤ 1000 by rw [HMM.out]; exact Nat.min_le_right _ _)
   rw [← hg]
   clear hg hmin
   refine (words_any VO.out HM.out HN.out HCAN.out HMM2.out n0 0 [] (.slice none 0 0) (.slice none 0 0) [] [] w7.heap.size g w7 HLT.out HNP.out (by rw [List.length_nil, Nat.zero_add]; exact HN0.out) B7.out O7.out (Nat.zero_le _) ⟨Row.nil w7, fun k hk => by cases hk⟩).mono ?_
   rintro e w8 ⟨rfl, ov, os, ho, hst⟩
   rw [moreW_top] at ho
   have O8 := qH ho
   have S8 := qH hst
   have B8 := qH (O7.out.below hst)
   obtain ⟨Ao, co, hov⟩ := ownC_slice ho.own
   subst hov
   have c8 := ho.blk.cell 0
   clear ho hst
   go_wp2_with fail
   go_ret
   refine ⟨_, rfl, ⟨os, Row.of_own O8.out.own, O8.out.rows.1, fun i l hl => ?_⟩, BWO.out.trans ((B7.out.trans B8.out).mono BWO.out.size)⟩
   obtain ⟨x, hx, hr⟩ := O8.out.rows.2 i l hl
   exact ⟨x, hx, hr.1⟩
def ucs (n : Nat) (f : Nat → Nat) : List Value := (List.range n).map fun q => .int .u64 (f q : Int)
theorem ucs_len (n : Nat) (f : Nat → Nat) : (ucs n f).length = n := by simp [ucs]
theorem ucs_get {n q : Nat} (f : Nat → Nat) (h : q < n) : (ucs n f)[q]? = some (.int .u64 (f q : Int)) := by simp [ucs, h]
theorem ucs_congr {n : Nat} {f g : Nat → Nat} (h : ∀ q, q < n → f q = g q) : ucs n f = ucs n g := by
 unfold ucs
 exact List.map_congr_left fun q hq => by rw [h q (List.mem_range.1 hq)]
theorem ucs_no (n : Nat) : List.replicate n (Value.int .u64 0) = ucs n fun _ => 0 := by
 unfold ucs
 rw [List.map_const', List.length_range]
 rfl
theorem ucs_set (n q : Nat) (f : Nat → Nat) (b : Nat) : (ucs n f).set q (.int .u64 (b : Int)) = ucs n (updN f q b) := by
 apply List.ext_getElem?
 intro i
 rw [List.getElem?_set]
 by_cases hi : i < n
 ·by_cases h : q = i
  ·subst h
   rw [if_pos rfl, if_pos (by rw [ucs_len]; exact hi), ucs_get _ hi]
   simp [updN]
  ·rw [if_neg h, ucs_get _ hi, ucs_get _ hi, show updN f q b i = f i from if_neg fun e => h e.symm]
 ·rw [List.getElem?_eq_none (l := ucs n (updN f q b)) (by rw [ucs_len]; omega)]
  by_cases h : q = i
  ·subst h
   rw [if_pos rfl, if_neg (by rw [ucs_len]; exact hi)]
  ·rw [if_neg h, List.getElem?_eq_none (by rw [ucs_len]; omega)]
def szQ (D : Dm) (b k : Nat) : Nat := sumN (fun c => if clB D c = k then 1 else 0) b
theorem szQ_next (D : Dm) (b : Nat) : ∀ k, updN (szQ D b) (clB D b) (szQ D b (clB D b) + 1) k = szQ D (b + 1) k := fun k => by
 unfold updN szQ
 rw [sumN_succ]
 by_cases h : k = clB D b
 ·rw [if_pos h, if_pos h.symm, h]
 ·rw [if_neg h, if_neg fun e => h e.symm, Nat.add_zero]
theorem szQ_le (D : Dm) (k : Nat) : ∀ b, szQ D b k ≤ b
 | 0 => Nat.le_refl _
 | b + 1 => by
  have h1 := szQ_le D k b
  unfold szQ at h1 ⊢
  rw [sumN_succ]
  by_cases h : clB D b = k
  ·rw [if_pos h]
   omega
  ·rw [if_neg h]
   omega
/-! ### words of 64 bits -/
abbrev N64 : Nat := 18446744073709551616
theorem wrapU (a : Nat) : IntKind.u64.wrap (a : Int) = ((a % N64 : Nat) : Int) := by
 show ((a : Int) % 18446744073709551616) = ((a % 18446744073709551616 : Nat) : Int)
 omega
theorem wrapU_mul (a b : Nat) : IntKind.u64.wrap ((a : Int) * (b : Int)) = ((a * b % N64 : Nat) : Int) := by
 rw [← Int.natCast_mul, wrapU]
theorem wrapU_add (a b : Nat) : IntKind.u64.wrap ((a : Int) + (b : Int)) = ((a + b) % N64 : Nat) := by
 rw [← Int.natCast_add, wrapU]
theorem cn_step (D : Dm) (f : Nat → Nat) (s k t : Nat) : updN (fun t => cnP D f s k t % N64) (stC D s k) ((cnP D f s k (stC D s k) % N64 + (f s % N64) * szK D k % N64) % N64) t = cnP D f s (k + 1) t % N64 := by
 unfold updN
 rw [cnP_class]
 by_cases h : t = stC D s k
 ·rw [if_pos h, if_pos h, h]
  have h1 : (f s % N64) * szK D k % N64 = f s * szK D k % N64 := by rw [Nat.mul_mod, Nat.mod_mod, ← Nat.mul_mod]
  rw [h1, ← Nat.add_mod]
 ·rw [if_neg h, if_neg h, Nat.add_zero]
def cnE (D : Dm) (i s : Nat) : Nat := sumN (fun t => if D.ends.getD t false = true then cnS D i t else 0) s
theorem cnE_yes {D : Dm} {i s : Nat} (h : D.ends.getD s false = true) : (cnE D i s % N64 + cnS D i s % N64) % N64 = cnE D i (s + 1) % N64 := by
 unfold cnE
 rw [sumN_succ, if_pos h, ← Nat.add_mod]
theorem cnE_no {D : Dm} {i s : Nat} (h : D.ends.getD s false = false) : cnE D i (s + 1) = cnE D i s := by
 unfold cnE
 rw [sumN_succ, h, if_neg (by decide), Nat.add_zero]
end Go.Proofs.Ytaakdebcagdfgaa
