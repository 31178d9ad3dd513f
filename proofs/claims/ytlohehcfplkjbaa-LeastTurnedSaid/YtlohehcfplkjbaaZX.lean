/-
  Texts of this proof, put together: LqV. No statement is proved here.
-/
import Derived.Test.YtlohehcfplkjbaaZW
import Derived.Test.YtlohehcfplkjbaaZM
namespace Go.Proofs.Ytlohehcfplkjbaa
open Go.RowKit
set_option linter.unusedSimpArgs false
set_option linter.unusedVariables false
theorem ex_bld3 {ev : Operand → Value} {o : Oper} (i j l : Nat) (x y z : Operand) (ho : o.op = .build 28 #[(i, x), (j, y), (l, z)]) {u v t : Value} (hx : ev x = u) (hy : ev y = v) (hz : ev z = t) {d : List Value} (h : Try.prog.built 28 [(i, u), (j, v), (l, t)] = some d.toArray) (W : World) : (execOp ev o).run Try.prog W = .ok (.value (.agg d.toArray)) W :=
 ex_bldP _ ho (by simpa [hx, hy, hz] using h) W
section
variable {P : Program} {ops : Array Oper} {Q : Exit → Act → World → Prop} {md : Region.Mode} {T S : World → Prop} {n : Nat}
theorem mc_three {i j k : Nat} {oi oj ok : Oper} {fuel : Nat} {listed : Array Bool} {a : Act} {w : World} (hi : ops[i]? = some oi) (hj : ops[j]? = some oj) (hk : ops[k]? = some ok) (hr : Region.ready md ops listed = [i, j, k])
  (hwi : Region.wanted oi (yielded ops a.tmps) = true) (hwj : Region.wanted oj (yielded ops a.tmps) = true) (hwk : Region.wanted ok (yielded ops a.tmps) = true)
  (h1 : ∀ K : Act → World → Prop, (∀ a' w', T w' → S w' → wpAnyC P md ops Q T S n fuel (listed.setIfInBounds i true) a' w' → K a' w') → oi.wp P a w K Q)
  (h2 : ∀ K : Act → World → Prop, (∀ a' w', T w' → S w' → wpAnyC P md ops Q T S n fuel (listed.setIfInBounds j true) a' w' → K a' w') → oj.wp P a w K Q)
  (h3 : ∀ K : Act → World → Prop, (∀ a' w', T w' → S w' → wpAnyC P md ops Q T S n fuel (listed.setIfInBounds k true) a' w' → K a' w') → ok.wp P a w K Q) :
  wpAnyC P md ops Q T S n (fuel + 1) listed a w := by
 refine ⟨fun h0 => (by rw [hr] at h0; cases h0), fun x hx => ?_⟩
 rw [hr] at hx
 have hx2 : x = i ∨ x = j ∨ x = k := by simpa using hx
 unfold wpOp
 rcases hx2 with rfl | rfl | rfl
 ·rw [hi]
  simp only [hwi, if_true]
  exact .inl (h1 _ fun a' w' ht hs hk => ⟨ht, fun _ _ => hs, hk⟩)
 ·rw [hj]
  simp only [hwj, if_true]
  exact .inl (h2 _ fun a' w' ht hs hk => ⟨ht, fun _ _ => hs, hk⟩)
 ·rw [hk]
  simp only [hwk, if_true]
  exact .inl (h3 _ fun a' w' ht hs hk => ⟨ht, fun _ _ => hs, hk⟩)
end
theorem oneEndT {H X : Nat → Nat → Nat → List Value → World → Prop} {G : Prop} (main : (∀ a b c d w', H a b c d w' → X a b c d w') → G) (fin : ∀ a b c d w', H a b c d w' → X a b c d w') : G := main fin
theorem rowT_take {m y j u : Nat} {r : List Int} (h : r[j]? = some (u : Int)) : rowT m y (r.take (j + 1)) = rowT m y (r.take j) ++ [((movN m y u : Nat) : Int)] := by
 obtain ⟨hj, hr⟩ := List.getElem?_eq_some_iff.1 h
 rw [List.take_succ_eq_append_getElem hj, hr, rowT, rowT, List.map_append]
 rfl
theorem apt_add {w0 w : World} {H n : Nat} {U : Nat → Value} {X : Nat → List Value} {v : Value} {l : List Value} (h : Apt w0 H n U X) (hb : Below w0.heap.size w0 w) (hH : H ≤ w0.heap.size) (ho : w.ownsRow w0.heap.size (tyU n) 1 v l.length l) : Apt w H (n + 1) (putV U n v) (putX X n l) := by
 have h1 := h.below hb
 refine ⟨fun i hi => ?_, fun i j hi hj hij k hk => ?_⟩
 ·by_cases e : i = n
  ·subst e
   rw [putV_at, putX_at]
   exact own_mono ho hH
  ·rw [putV_ne e, putX_ne e]
   exact h1.own i (by omega)
 ·by_cases e : i = n
  ·subst e
   rw [putV_at] at hk
   rw [putV_ne (by omega)]
   intro hk2
   have := (own6_lt ho k hk).2
   have := (h.lt (i := j) (by omega) k hk2).1
   omega
  ·rw [putV_ne e] at hk
   by_cases e2 : j = n
   ·subst e2
    rw [putV_at]
    intro hk2
    have := (own6_lt ho k hk2).2
    have := (h.lt (i := i) (by omega) k hk).1
    omega
   ·rw [putV_ne e2]
    exact h1.inj i j (by omega) (by omega) hij k hk
theorem wp_stN {o : Oper} {a : Act} {w : World} {K : Act → World → Prop} {Q : Exit → Act → World → Prop} (x y : Operand) (ho : o.op = .store 33 x y) (g q : Nat) (hx : a.eval x = .pointer (some ⟨g, q, none⟩)) (A : Option Addr) (n c : Nat) (hy : a.eval y = .slice A n c)
  (u : Value) (hc : w.cell? ⟨g, q, none⟩ = some u) (hf : w.frozen? ⟨g, q, none⟩ = false) (h : K (a.put o.dst undef) (w.setCell ⟨g, q, none⟩ (.slice A n c))) : o.wp Try.prog a w K Q := by
 unfold Oper.wp execOp
 simp only [ho, hx, hy]
 have hrun : (Instr.storeAt 33 (.pointer (some ⟨g, q, none⟩)) (.slice A n c)).run Try.prog w = .ok () (w.setCell ⟨g, q, none⟩ (.slice A n c)) := by
  go_simp
 simp only [Sem.run_bind, hrun, Result.andThen_ok, Sem.run_pure]
 exact h
theorem l21v (i : Nat) : 1 < 2 + i + 1 := by omega
theorem kd_bnd {j kd : Nat} (h : j < kd) (h2 : kd ≤ 256) : j + 1 ≤ 2097152 := by omega
theorem tn_rem {tn m y : Nat} (h : y = tn % m) : (tn : Int).tmod (m : Int) = (y : Int) := by rw [mv_rem, h]
theorem k_pred {k m : Nat} (h : k = m + 1) (h8 : k ≤ 8) : wrap64 ((k : Int) - 1) = (m : Int) := by rw [IntWalk.wrap64_in _ (by omega)]; omega
theorem k_pred' {k m : Nat} (h : k = m + 1) (h8 : k ≤ 8) : IntKind.i64.wrap ((k : Int) - 1) = (m : Int) := by rw [IntWalk.i64_in _ (by omega)]; omega
theorem tn_wrap {tn : Nat} (h : tn < 256) : IntKind.i64.wrap (tn : Int) = (tn : Int) := by
 exact IntWalk.i64_in _ (by omega)
set_option maxHeartbeats 8000000 in
set_option maxRecDepth 1000000 in
theorem least_turned_walk (C : LstC) (n c : Nat) (V : Value) (ps : List UInt8) (w : World) (hn : n < 256) (hc : c < 256) (hr : Row w V (bvs ps)) (tn : Nat) (ht : tn < 256) :
  Calls Try.prog 5 #[.int .u8 (n : Int), .int .u8 (c : Int), V, .int .u8 (tn : Int)] w fun e w' => e = .returned (.bool true) ∧ Below w.heap.size w w' := by
 have HTN := qH ht
 clear ht
 have HCC := qH C
 clear C
 have R := qH hr
 obtain ⟨A, cap, rfl, _⟩ := hr
 rw [bvs_length] at R
 rw [bvs_length]
 have HN := qH hn
 have HC := qH hc
 obtain ⟨d0, hd0⟩ : ∃ d0, d0 = dcl (ctab [] 0) (.slice none 0 0) (.slice none 0 0) := ⟨_, rfl⟩
 have HDL := qH (show d0.length = 258 by rw [hd0]; exact dcl_len (ctab_length _ _))
 obtain ⟨id, hid, hdz⟩ := Option.map_eq_some_iff.1 inf_dfa
 rw [← hd0] at hdz
 have HDZ := qH hdz
 clear hd0 hdz hn hc
 go_enter Try.func5, Try.ntmps5
 go_wp2_with fail
 refine (begun12_any HCC.out w).mono ?_
 rintro e w1 ⟨rfl, hb⟩
 have B1 := qH hb
 clear hb
 by_cases hl : 60 < ps.length
 ·have x1 : (60 : Int) < (ps.length : Int) := Int.ofNat_lt.2 hl
  clear hl
  go_wp2_with fail
  go_ret
  exact ⟨rfl, B1.out⟩
 have x1 : ¬ (60 : Int) < (ps.length : Int) := fun h => hl (Int.ofNat_lt.1 h)
 have HL := qH (Nat.le_of_not_lt hl)
 clear hl
 go_wp2_with fail
 refine (playDfa_any n c ps _ w1 HN.out HC.out (R.out.below B1.out) HL.out).mono ?_
 rintro e w2 ⟨cs, rfl, hd, hb⟩
 obtain ⟨D, hD⟩ : ∃ D, D = dfaQ n c ps := ⟨_, rfl⟩
 rw [← hD] at hd
 have HM := qH (show MayD D by rw [hD]; exact dfaQ_may n c ps)
 have HK8 := qH (show D.next.length ≤ 8 by rw [hD, dfaQ_len]; exact k8L n)
 have HAC := qH (show AllC D by rw [hD]; exact dfaQ_allC n c ps)
 clear hD
 have VA := qH hd.dfa
 obtain ⟨An, Ae, cn, ce, vf, hcl, hcs, _⟩ := VA.out.form
 have HCS := qH hcs
 have HCLN := qH hcl
 have HLA := qH (show cs.length = 258 by rw [hcs]; exact dcl_len hcl)
 have HOA := qH (show cs.all (·.oneCell') = true by rw [hcs]; exact dcl_one)
 have HSA := qH (show (Try.prog.info? 28).map (·.size) = some cs.length from VA.out.size)
 have B2 := qH (B1.out.trans (hb.mono B1.out.size))
 clear hd hb hcl hcs
 obtain ⟨k, hkk⟩ : ∃ k, k = D.next.length := ⟨_, rfl⟩
 rw [← hkk] at HK8
 have HK := qH hkk
 have HKP := qH (show 0 < k by rw [hkk]; exact HM.out.pos)
 have HKF := qH (show k ≤ 2000 by rw [hkk]; exact HM.out.few)
 have HCS2 := qH (show cs = dcl D.cl (.slice An k cn) (.slice Ae k ce) by rw [HCS.out, HM.out.ends, ← hkk])
 obtain ⟨kd, hkd⟩ : ∃ k, k = clsA D.cl := ⟨_, rfl⟩
 have HKD := qH hkd
 have HKD2 := qH (show kd ≤ 256 by rw [hkd]; exact clsA_le _)
 clear hkk hkd
 by_cases hk3 : k < 3
 ·have x2 : (k : Int) < 3 := Int.ofNat_lt.2 hk3
  clear hk3
  go_wp2_with (first
   | ((with_reducible refine atDst 9 ?_); refine wpList_new rfl 28 rfl id _ d0 hid HDZ.out rfl (Below.refl w2.heap.size w2) (Nat.le_refl _) ?_; intro w3 hk hb hs _; have K3 := qH hk; have B23 := qH hb; clear hk hb hs; (try simp only [Act.put, qA, qB, qC]))
   | ((with_reducible refine atStore 28 9 25 ?_); refine wpList_stBlk rfl 28 _ _ rfl w2.heap.size cs rfl rfl 28 _ K3.out HSA.out (by rw [HDL.out, HLA.out]) HOA.out B23.out (Nat.le_refl _) ?_; intro w4 hk hb hs ho; have K4 := qH hk; have V4 := qH (VA.out.below hb); have B4 := qH (B2.out.trans (hb.mono B2.out.size)); have c256 : w4.cell? ⟨w2.heap.size, 256, none⟩ = some (.slice An k cn) := (by rw [K4.out.cell 256, HCS2.out]; exact dcl_n HCLN.out); clear hk hb hs ho; (try simp only [Act.put, qA, qB, qC])))
  go_ret
  exact ⟨rfl, B4.out⟩
 have x2 : ¬ (k : Int) < 3 := fun h => hk3 (Int.ofNat_lt.1 h)
 obtain ⟨m, hm⟩ : ∃ m, k = m + 1 := ⟨k - 1, by omega⟩
 have HMK := qH hm
 have HM2 := qH (show 2 ≤ m by omega)
 have HM8 := qH (show m ≤ 8 by have := HK8.out; omega)
 obtain ⟨y, hy⟩ : ∃ y, y = tn % m := ⟨_, rfl⟩
 have HY := qH hy
 have HYM := qH (show y < m by rw [hy]; exact Nat.mod_lt _ (by omega))
 have z1 := k_pred hm HK8.out
 have z1' := k_pred' hm HK8.out
 have z2 := tn_wrap HTN.out
 have z3 := tn_rem hy
 have z4 : ¬ ((m : Int) = 0) := by omega
 have z5 : ((m : Int) == 0) = false := by rw [beq_eq_false_iff_ne]; exact z4
 clear hk3 hm hy
 go_wp2_with (first
  | ((with_reducible refine atDst 9 ?_); refine wpList_new rfl 28 rfl id _ d0 hid HDZ.out rfl (Below.refl w2.heap.size w2) (Nat.le_refl _) ?_; intro w3 hk hb hs _; have K3 := qH hk; have B23 := qH hb; clear hk hb hs; (try simp only [Act.put, qA, qB, qC]))
  | ((with_reducible refine atStore 28 9 25 ?_); refine wpList_stBlk rfl 28 _ _ rfl w2.heap.size cs rfl rfl 28 _ K3.out HSA.out (by rw [HDL.out, HLA.out]) HOA.out B23.out (Nat.le_refl _) ?_; intro w4 hk hb hs ho; have K4 := qH hk; have V4 := qH (VA.out.below hb); have B4 := qH (B2.out.trans (hb.mono B2.out.size)); have c256 : w4.cell? ⟨w2.heap.size, 256, none⟩ = some (.slice An k cn) := (by rw [K4.out.cell 256, HCS2.out]; exact dcl_n HCLN.out); clear hk hb hs ho; (try simp only [Act.put, qA, qB, qC])))
 have HCL2 := qH (show D.cl.length = 256 from HCLN.out)
 obtain ⟨gd, hgd⟩ : ∃ g, g = w2.heap.size := ⟨_, rfl⟩
 rw [← hgd] at K4
 rw [← hgd]
 clear hgd K3 B23 VA
 obtain ⟨_, vn, ve, vf2, hdc, hdn, hdr, hde⟩ := V4.out
 have hdd := List.append_cancel_left (HCS2.out.symm.trans hdc)
 injection hdd with hd1 hd2
 injection hd2 with hd2 _
 subst hd1 hd2
 obtain ⟨bn, on, rfl, hbn, hcn⟩ := hdn.at_ (by rw [List.length_map, List.length_range, ← HK.out]; exact HKP.out)
 obtain ⟨be, oe, rfl, hbe, hce⟩ := hde.at_ (by rw [bools_length, HM.out.ends, ← HK.out]; exact HKP.out)
 have HBN := qH hbn
 have HBE := qH hbe
 have CE := qH (show ∀ q, q < k → ∃ b, D.ends[q]? = some b ∧ w4.cell? ⟨be, oe + q, none⟩ = some (.bool b) from fun q hq => by
  obtain ⟨b, hb⟩ : ∃ b, D.ends[q]? = some b := ⟨_, List.getElem?_eq_getElem (by rw [HM.out.ends, ← HK.out]; exact hq)⟩
  exact ⟨b, hb, hce q _ (by rw [bools, List.getElem?_map, hb]; rfl)⟩)
 have ROW := qH (show ∀ s, s < k → ∃ r Ar cr, D.next[s]? = some r ∧ r.length = kd ∧ w4.cell? ⟨bn, on + s, none⟩ = some (.slice Ar kd cr) ∧ Row w4 (.slice Ar kd cr) (nums .i64 r) from fun s hs => by
  obtain ⟨r, h1⟩ : ∃ r, D.next[s]? = some r := ⟨_, List.getElem?_eq_getElem (by rw [← HK.out]; exact hs)⟩
  have h2 : r.length = kd := by rw [HKD.out]; exact HM.out.rows r (List.mem_of_getElem? h1)
  have h3 := hdr s r h1
  have h3c := h3
  obtain ⟨Ar, cr, hvr, _⟩ := h3c
  rw [nums_length, h2] at hvr
  rw [hvr] at h3
  exact ⟨r, Ar, cr, h1, h2, hcn s _ (by rw [← HK.out]; simp [hs, hvr]), h3⟩)
 clear hdc hdn hdr hde hbn hcn hbe hce c256
 have C256 := qH (show ∀ V, Below w4.heap.size w4 V → V.cell? ⟨gd, 256, none⟩ = some (.slice (some ⟨bn, on, none⟩) k cn) from fun V hV => ((K4.out.below hV K4.out.lt).cell 256).trans (by rw [HCS2.out]; exact dcl_n HCL2.out))
 have C257 := qH (show ∀ V, Below w4.heap.size w4 V → V.cell? ⟨gd, 257, none⟩ = some (.slice (some ⟨be, oe, none⟩) k ce) from fun V hV => ((K4.out.below hV K4.out.lt).cell 257).trans (by rw [HCS2.out]; exact dcl_e HCL2.out))
 clear x2 z1 z1' z2 z3 z4 z5
 obtain ⟨i2, hi2, hb0, hb1, hb2⟩ := infoP inf_bool
 obtain ⟨il, hil, hl0, hl1, hl2⟩ := infoP inf_sl
 have HYB := qH (show i2.bytes * k ≤ 281474976710656 by have := HKF.out; rw [hb2]; omega)
 have HYL := qH (show il.bytes * k ≤ 281474976710656 by have := HKF.out; rw [hl2]; omega)
 have HN3 := qH (show k ≤ 9223372036854775807 by have := HKF.out; omega)
 have HSC := qH (show (Try.prog.info? 24).map (·.size) = some (bvs D.cl).length from size_ctab HCL2.out)
 have r1 := qH (show w4.rangeAt gd 0 (bvs D.cl) from fun i v hv => by { rw [Nat.zero_add, K4.out.cell i, HCS.out, dcl_cl HCL2.out (by have := (List.getElem?_eq_some_iff.1 hv).1; rw [bvs_length, HCL2.out] at this; exact this)]; exact hv })
 apply oneEndT (H := fun gx gn ge d w' => d = dcl D.cl (.slice (some ⟨gn, 0, none⟩) k k) (.slice (some ⟨ge, 0, none⟩) k k) ∧ Blk w' gx 28 d ∧ Blk w' gn 33 (List.replicate k (.slice none 0 0)) ∧ Blk w' ge 4 (List.replicate k (.bool false)) ∧ w4.heap.size ≤ gx ∧ w4.heap.size ≤ gn ∧ w4.heap.size ≤ ge ∧ gn ≠ ge ∧ gn ≠ gx ∧ ge ≠ gx ∧ Below w4.heap.size w4 w')
 case main =>
  intro fin
  have FIN := qH fin
  clear fin
  refine mc_start (fun V => Below w4.heap.size w4 V) (fun _ => True) 9 (by kernel_rfl) (fun wd hwd => ?_)
  have hX : Below w4.heap.size w4 wd := by rw [hwd]; exact (Below.refl _ _).drew
  have hY : True := trivial
  clear hwd hY
  obtain ⟨v0, hv0⟩ : ∃ v : World, v = wd := ⟨_, rfl⟩
  subst hv0
  refine mc_take (i := 0) (oi := ⟨some 37, _, _, _, _, _⟩) (v := ?_) rfl (by kernel_rfl) (by kernel_rfl) (by kernel_rfl) (fun _ _ _ h => h) rfl hX ?_ ?_; rotate_left; (intro W hW; go_simp; try with_reducible rfl); simp only [Act.put, qA, qB, qC]
  refine mc_take (i := 1) (oi := ⟨some 38, _, _, _, _, _⟩) (v := .agg (bvs D.cl).toArray) rfl (by kernel_rfl) (by kernel_rfl) (by kernel_rfl) (fun _ _ _ h => h) rfl hX (fun V hV => ld_mid 24 (.tmp 37) rfl gd 0 rfl (bvs D.cl) _ r1.out K4.out.lt Try.underlying24 rfl HSC.out V hV) ?_; simp only [Act.put, qA, qB, qC]
  refine mc_take (i := 2) (oi := ⟨some 39, _, _, _, _, _⟩) (v := ?_) rfl (by kernel_rfl) (by kernel_rfl) (by kernel_rfl) (fun _ _ _ h => h) rfl hX ?_ ?_; rotate_left; (intro W hW; go_simp; try with_reducible rfl); simp only [Act.put, qA, qB, qC]
  refine mc_take (i := 4) (oi := ⟨some 41, _, _, _, _, _⟩) (v := ?_) rfl (by kernel_rfl) (by kernel_rfl) (by kernel_rfl) (fun _ _ _ h => h) rfl hX ?_ ?_; rotate_left; (intro W hW; go_simp; try with_reducible rfl); simp only [Act.put, qA, qB, qC]
  refine mc_three (i := 3) (j := 5) (k := 7) (oi := ⟨some 40, _, _, _, _, _⟩) (oj := ⟨some 42, _, _, _, _, _⟩) (ok := ⟨some 13, _, _, _, _, _⟩) rfl rfl rfl (by kernel_rfl) rfl rfl rfl (fun K hK => ?_) (fun K hK => ?_) (fun K hK => ?_)
  ·refine wp_mk _ _ 25 rfl 33 il (.slice none 0 0) Try.underlying25 hil hl0 hl1 rfl k rfl rfl HYL.out HN3.out ?_
   intro v1 hk hb _
   obtain ⟨gn, hg⟩ : ∃ g, g = v0.heap.size := ⟨_, rfl⟩
   rw [← hg] at hk
   rw [← hg]
   have G3_1 := qH hk
   have P3 := qH (show w4.heap.size ≤ gn by rw [hg]; exact hX.size)
   have hX2 := hX.trans (hb.mono hX.size)
   clear hk hb hg
   refine hK _ _ hX2 trivial ?_
   clear hK K hX
   (try simp only [Act.put, qA, qB, qC])
   have hX := hX2
   clear hX2
   refine mc_two (i := 5) (j := 7) (oi := ⟨some 42, _, _, _, _, _⟩) (oj := ⟨some 13, _, _, _, _, _⟩) rfl rfl (by kernel_rfl) rfl rfl (fun K hK => ?_) (fun K hK => ?_)
   ·refine wp_mk _ _ 26 rfl 4 i2 (.bool false) Try.underlying26 hi2 hb0 hb1 rfl k rfl rfl HYB.out HN3.out ?_
    intro v2 hk hb _
    obtain ⟨ge, hg⟩ : ∃ g, g = v1.heap.size := ⟨_, rfl⟩
    rw [← hg] at hk
    rw [← hg]
    have G5_2 := qH hk
    have P5 := qH (show w4.heap.size ≤ ge by rw [hg]; exact hX.size)
    have G3_2 := qH (G3_1.out.below hb G3_1.out.lt)
    have N35 := qH (show gn ≠ ge by rw [hg]; exact Nat.ne_of_lt G3_1.out.lt)
    have hX2 := hX.trans (hb.mono hX.size)
    clear hk hb hg
    refine hK _ _ hX2 trivial ?_
    clear hK K hX
    (try simp only [Act.put, qA, qB, qC])
    have hX := hX2
    clear hX2
    obtain ⟨d1, hd1⟩ : ∃ d1, d1 = dcl D.cl (.slice (some ⟨gn, 0, none⟩) k k) (.slice (some ⟨ge, 0, none⟩) k k) := ⟨_, rfl⟩
    have HD1 := qH hd1
    have HB1 := qH (show Try.prog.built 28 [(0, .agg (bvs D.cl).toArray), (1, .slice (some ⟨gn, 0, none⟩) k k), (2, .slice (some ⟨ge, 0, none⟩) k k)] = some d1.toArray by rw [hd1]; exact built_012 HCL2.out)
    have HD1L := qH (show d1.length = 258 by rw [hd1]; exact dcl_len HCL2.out)
    have HD1O := qH (show d1.all (·.oneCell') = true by rw [hd1]; exact dcl_one)
    have HD1S := qH (show (Try.prog.info? 28).map (·.size) = some d1.length by rw [hd1]; exact size_dfa HCL2.out)
    clear hd1
    refine mc_take (i := 6) (oi := ⟨some 43, _, _, _, _, _⟩) (v := .agg d1.toArray) rfl (by kernel_rfl) (by kernel_rfl) (by kernel_rfl) (fun _ _ _ h => h) rfl hX (fun V _ => ex_bld3 0 1 2 (.tmp 38) (.tmp 40) (.tmp 42) rfl rfl rfl rfl HB1.out V) ?_; simp only [Act.put, qA, qB, qC]
    refine mc_actB (i := 7) (o := ⟨some 13, _, _, _, _, _⟩) rfl (by kernel_rfl) rfl (fun K hK => ?_)
    refine wp_newL 28 rfl id _ d0 hid HDZ.out rfl ?_
    intro v3 hk hb
    obtain ⟨gx, hg⟩ : ∃ g, g = v2.heap.size := ⟨_, rfl⟩
    rw [← hg] at hk
    rw [← hg]
    have G7_3 := qH hk
    have P7 := qH (show w4.heap.size ≤ gx by rw [hg]; exact hX.size)
    have G3_3 := qH (G3_2.out.below hb G3_2.out.lt)
    have N37 := qH (show gn ≠ gx by rw [hg]; exact Nat.ne_of_lt G3_2.out.lt)
    have G5_3 := qH (G5_2.out.below hb G5_2.out.lt)
    have N57 := qH (show ge ≠ gx by rw [hg]; exact Nat.ne_of_lt G5_2.out.lt)
    have hX2 := hX.trans (hb.mono hX.size)
    clear hk hb hg
    refine hK _ _ hX2 trivial ?_
    clear hK K hX
    (try simp only [Act.put, qA, qB, qC])
    have hX := hX2
    clear hX2
    refine mc_actB (i := 8) (o := ⟨none, _, _, _, _, _⟩) rfl (by kernel_rfl) rfl (fun K hK => ?_)
    refine wp_stBlk 28 (.tmp 13) (.tmp 43) rfl gx d1 rfl rfl 28 _ G7_3.out HD1S.out (by rw [HDL.out, HD1L.out]) HD1O.out hX P7.out ?_
    intro v4 hk hb hs ho hbb
    refine hK _ _ hb trivial ?_
    clear hK K hX
    (try simp only [Act.put, qA, qB, qC])
    refine wpAnyC_done (by kernel_rfl) ?_ _
    exact FIN.out gx gn ge d1 v4 ⟨HD1.out, hk, (ho gn (N37.out)).trans G3_3.out, (ho ge (N57.out)).trans G5_3.out, P7.out, P3.out, P5.out, N35.out, N37.out, N57.out, hb⟩
   ·refine wp_newL 28 rfl id _ d0 hid HDZ.out rfl ?_
    intro v2 hk hb
    obtain ⟨gx, hg⟩ : ∃ g, g = v1.heap.size := ⟨_, rfl⟩
    rw [← hg] at hk
    rw [← hg]
    have G7_2 := qH hk
    have P7 := qH (show w4.heap.size ≤ gx by rw [hg]; exact hX.size)
    have G3_2 := qH (G3_1.out.below hb G3_1.out.lt)
    have N37 := qH (show gn ≠ gx by rw [hg]; exact Nat.ne_of_lt G3_1.out.lt)
    have hX2 := hX.trans (hb.mono hX.size)
    clear hk hb hg
    refine hK _ _ hX2 trivial ?_
    clear hK K hX
    (try simp only [Act.put, qA, qB, qC])
    have hX := hX2
    clear hX2
    refine mc_actB (i := 5) (o := ⟨some 42, _, _, _, _, _⟩) rfl (by kernel_rfl) rfl (fun K hK => ?_)
    refine wp_mk _ _ 26 rfl 4 i2 (.bool false) Try.underlying26 hi2 hb0 hb1 rfl k rfl rfl HYB.out HN3.out ?_
    intro v3 hk hb _
    obtain ⟨ge, hg⟩ : ∃ g, g = v2.heap.size := ⟨_, rfl⟩
    rw [← hg] at hk
    rw [← hg]
    have G5_3 := qH hk
    have P5 := qH (show w4.heap.size ≤ ge by rw [hg]; exact hX.size)
    have G3_3 := qH (G3_2.out.below hb G3_2.out.lt)
    have N35 := qH (show gn ≠ ge by rw [hg]; exact Nat.ne_of_lt G3_2.out.lt)
    have G7_3 := qH (G7_2.out.below hb G7_2.out.lt)
    have N75 := qH (show gx ≠ ge by rw [hg]; exact Nat.ne_of_lt G7_2.out.lt)
    have hX2 := hX.trans (hb.mono hX.size)
    clear hk hb hg
    refine hK _ _ hX2 trivial ?_
    clear hK K hX
    (try simp only [Act.put, qA, qB, qC])
    have hX := hX2
    clear hX2
    obtain ⟨d1, hd1⟩ : ∃ d1, d1 = dcl D.cl (.slice (some ⟨gn, 0, none⟩) k k) (.slice (some ⟨ge, 0, none⟩) k k) := ⟨_, rfl⟩
    have HD1 := qH hd1
    have HB1 := qH (show Try.prog.built 28 [(0, .agg (bvs D.cl).toArray), (1, .slice (some ⟨gn, 0, none⟩) k k), (2, .slice (some ⟨ge, 0, none⟩) k k)] = some d1.toArray by rw [hd1]; exact built_012 HCL2.out)
    have HD1L := qH (show d1.length = 258 by rw [hd1]; exact dcl_len HCL2.out)
    have HD1O := qH (show d1.all (·.oneCell') = true by rw [hd1]; exact dcl_one)
    have HD1S := qH (show (Try.prog.info? 28).map (·.size) = some d1.length by rw [hd1]; exact size_dfa HCL2.out)
    clear hd1
    refine mc_take (i := 6) (oi := ⟨some 43, _, _, _, _, _⟩) (v := .agg d1.toArray) rfl (by kernel_rfl) (by kernel_rfl) (by kernel_rfl) (fun _ _ _ h => h) rfl hX (fun V _ => ex_bld3 0 1 2 (.tmp 38) (.tmp 40) (.tmp 42) rfl rfl rfl rfl HB1.out V) ?_; simp only [Act.put, qA, qB, qC]
    refine mc_actB (i := 8) (o := ⟨none, _, _, _, _, _⟩) rfl (by kernel_rfl) rfl (fun K hK => ?_)
    refine wp_stBlk 28 (.tmp 13) (.tmp 43) rfl gx d1 rfl rfl 28 _ G7_3.out HD1S.out (by rw [HDL.out, HD1L.out]) HD1O.out hX P7.out ?_
    intro v4 hk hb hs ho hbb
    refine hK _ _ hb trivial ?_
    clear hK K hX
    (try simp only [Act.put, qA, qB, qC])
    refine wpAnyC_done (by kernel_rfl) ?_ _
    exact FIN.out gx gn ge d1 v4 ⟨HD1.out, hk, (ho gn (N37.out)).trans G3_3.out, (ho ge (N75.out.symm)).trans G5_3.out, P7.out, P3.out, P5.out, N35.out, N37.out, N75.out.symm, hb⟩
  ·refine wp_mk _ _ 26 rfl 4 i2 (.bool false) Try.underlying26 hi2 hb0 hb1 rfl k rfl rfl HYB.out HN3.out ?_
   intro v1 hk hb _
   obtain ⟨ge, hg⟩ : ∃ g, g = v0.heap.size := ⟨_, rfl⟩
   rw [← hg] at hk
   rw [← hg]
   have G5_1 := qH hk
   have P5 := qH (show w4.heap.size ≤ ge by rw [hg]; exact hX.size)
   have hX2 := hX.trans (hb.mono hX.size)
   clear hk hb hg
   refine hK _ _ hX2 trivial ?_
   clear hK K hX
   (try simp only [Act.put, qA, qB, qC])
   have hX := hX2
   clear hX2
   refine mc_two (i := 3) (j := 7) (oi := ⟨some 40, _, _, _, _, _⟩) (oj := ⟨some 13, _, _, _, _, _⟩) rfl rfl (by kernel_rfl) rfl rfl (fun K hK => ?_) (fun K hK => ?_)
   ·refine wp_mk _ _ 25 rfl 33 il (.slice none 0 0) Try.underlying25 hil hl0 hl1 rfl k rfl rfl HYL.out HN3.out ?_
    intro v2 hk hb _
    obtain ⟨gn, hg⟩ : ∃ g, g = v1.heap.size := ⟨_, rfl⟩
    rw [← hg] at hk
    rw [← hg]
    have G3_2 := qH hk
    have P3 := qH (show w4.heap.size ≤ gn by rw [hg]; exact hX.size)
    have G5_2 := qH (G5_1.out.below hb G5_1.out.lt)
    have N53 := qH (show ge ≠ gn by rw [hg]; exact Nat.ne_of_lt G5_1.out.lt)
    have hX2 := hX.trans (hb.mono hX.size)
    clear hk hb hg
    refine hK _ _ hX2 trivial ?_
    clear hK K hX
    (try simp only [Act.put, qA, qB, qC])
    have hX := hX2
    clear hX2
    obtain ⟨d1, hd1⟩ : ∃ d1, d1 = dcl D.cl (.slice (some ⟨gn, 0, none⟩) k k) (.slice (some ⟨ge, 0, none⟩) k k) := ⟨_, rfl⟩
    have HD1 := qH hd1
    have HB1 := qH (show Try.prog.built 28 [(0, .agg (bvs D.cl).toArray), (1, .slice (some ⟨gn, 0, none⟩) k k), (2, .slice (some ⟨ge, 0, none⟩) k k)] = some d1.toArray by rw [hd1]; exact built_012 HCL2.out)
    have HD1L := qH (show d1.length = 258 by rw [hd1]; exact dcl_len HCL2.out)
    have HD1O := qH (show d1.all (·.oneCell') = true by rw [hd1]; exact dcl_one)
    have HD1S := qH (show (Try.prog.info? 28).map (·.size) = some d1.length by rw [hd1]; exact size_dfa HCL2.out)
    clear hd1
    refine mc_take (i := 6) (oi := ⟨some 43, _, _, _, _, _⟩) (v := .agg d1.toArray) rfl (by kernel_rfl) (by kernel_rfl) (by kernel_rfl) (fun _ _ _ h => h) rfl hX (fun V _ => ex_bld3 0 1 2 (.tmp 38) (.tmp 40) (.tmp 42) rfl rfl rfl rfl HB1.out V) ?_; simp only [Act.put, qA, qB, qC]
    refine mc_actB (i := 7) (o := ⟨some 13, _, _, _, _, _⟩) rfl (by kernel_rfl) rfl (fun K hK => ?_)
    refine wp_newL 28 rfl id _ d0 hid HDZ.out rfl ?_
    intro v3 hk hb
    obtain ⟨gx, hg⟩ : ∃ g, g = v2.heap.size := ⟨_, rfl⟩
    rw [← hg] at hk
    rw [← hg]
    have G7_3 := qH hk
    have P7 := qH (show w4.heap.size ≤ gx by rw [hg]; exact hX.size)
    have G5_3 := qH (G5_2.out.below hb G5_2.out.lt)
    have N57 := qH (show ge ≠ gx by rw [hg]; exact Nat.ne_of_lt G5_2.out.lt)
    have G3_3 := qH (G3_2.out.below hb G3_2.out.lt)
    have N37 := qH (show gn ≠ gx by rw [hg]; exact Nat.ne_of_lt G3_2.out.lt)
    have hX2 := hX.trans (hb.mono hX.size)
    clear hk hb hg
    refine hK _ _ hX2 trivial ?_
    clear hK K hX
    (try simp only [Act.put, qA, qB, qC])
    have hX := hX2
    clear hX2
    refine mc_actB (i := 8) (o := ⟨none, _, _, _, _, _⟩) rfl (by kernel_rfl) rfl (fun K hK => ?_)
    refine wp_stBlk 28 (.tmp 13) (.tmp 43) rfl gx d1 rfl rfl 28 _ G7_3.out HD1S.out (by rw [HDL.out, HD1L.out]) HD1O.out hX P7.out ?_
    intro v4 hk hb hs ho hbb
    refine hK _ _ hb trivial ?_
    clear hK K hX
    (try simp only [Act.put, qA, qB, qC])
    refine wpAnyC_done (by kernel_rfl) ?_ _
    exact FIN.out gx gn ge d1 v4 ⟨HD1.out, hk, (ho gn (N37.out)).trans G3_3.out, (ho ge (N57.out)).trans G5_3.out, P7.out, P3.out, P5.out, N53.out.symm, N37.out, N57.out, hb⟩
   ·refine wp_newL 28 rfl id _ d0 hid HDZ.out rfl ?_
    intro v2 hk hb
    obtain ⟨gx, hg⟩ : ∃ g, g = v1.heap.size := ⟨_, rfl⟩
    rw [← hg] at hk
    rw [← hg]
    have G7_2 := qH hk
    have P7 := qH (show w4.heap.size ≤ gx by rw [hg]; exact hX.size)
    have G5_2 := qH (G5_1.out.below hb G5_1.out.lt)
    have N57 := qH (show ge ≠ gx by rw [hg]; exact Nat.ne_of_lt G5_1.out.lt)
    have hX2 := hX.trans (hb.mono hX.size)
    clear hk hb hg
    refine hK _ _ hX2 trivial ?_
    clear hK K hX
    (try simp only [Act.put, qA, qB, qC])
    have hX := hX2
    clear hX2
    refine mc_actB (i := 3) (o := ⟨some 40, _, _, _, _, _⟩) rfl (by kernel_rfl) rfl (fun K hK => ?_)
    refine wp_mk _ _ 25 rfl 33 il (.slice none 0 0) Try.underlying25 hil hl0 hl1 rfl k rfl rfl HYL.out HN3.out ?_
    intro v3 hk hb _
    obtain ⟨gn, hg⟩ : ∃ g, g = v2.heap.size := ⟨_, rfl⟩
    rw [← hg] at hk
    rw [← hg]
    have G3_3 := qH hk
    have P3 := qH (show w4.heap.size ≤ gn by rw [hg]; exact hX.size)
    have G5_3 := qH (G5_2.out.below hb G5_2.out.lt)
    have N53 := qH (show ge ≠ gn by rw [hg]; exact Nat.ne_of_lt G5_2.out.lt)
    have G7_3 := qH (G7_2.out.below hb G7_2.out.lt)
    have N73 := qH (show gx ≠ gn by rw [hg]; exact Nat.ne_of_lt G7_2.out.lt)
    have hX2 := hX.trans (hb.mono hX.size)
    clear hk hb hg
    refine hK _ _ hX2 trivial ?_
    clear hK K hX
    (try simp only [Act.put, qA, qB, qC])
    have hX := hX2
    clear hX2
    obtain ⟨d1, hd1⟩ : ∃ d1, d1 = dcl D.cl (.slice (some ⟨gn, 0, none⟩) k k) (.slice (some ⟨ge, 0, none⟩) k k) := ⟨_, rfl⟩
    have HD1 := qH hd1
    have HB1 := qH (show Try.prog.built 28 [(0, .agg (bvs D.cl).toArray), (1, .slice (some ⟨gn, 0, none⟩) k k), (2, .slice (some ⟨ge, 0, none⟩) k k)] = some d1.toArray by rw [hd1]; exact built_012 HCL2.out)
    have HD1L := qH (show d1.length = 258 by rw [hd1]; exact dcl_len HCL2.out)
    have HD1O := qH (show d1.all (·.oneCell') = true by rw [hd1]; exact dcl_one)
    have HD1S := qH (show (Try.prog.info? 28).map (·.size) = some d1.length by rw [hd1]; exact size_dfa HCL2.out)
    clear hd1
    refine mc_take (i := 6) (oi := ⟨some 43, _, _, _, _, _⟩) (v := .agg d1.toArray) rfl (by kernel_rfl) (by kernel_rfl) (by kernel_rfl) (fun _ _ _ h => h) rfl hX (fun V _ => ex_bld3 0 1 2 (.tmp 38) (.tmp 40) (.tmp 42) rfl rfl rfl rfl HB1.out V) ?_; simp only [Act.put, qA, qB, qC]
    refine mc_actB (i := 8) (o := ⟨none, _, _, _, _, _⟩) rfl (by kernel_rfl) rfl (fun K hK => ?_)
    refine wp_stBlk 28 (.tmp 13) (.tmp 43) rfl gx d1 rfl rfl 28 _ G7_3.out HD1S.out (by rw [HDL.out, HD1L.out]) HD1O.out hX P7.out ?_
    intro v4 hk hb hs ho hbb
    refine hK _ _ hb trivial ?_
    clear hK K hX
    (try simp only [Act.put, qA, qB, qC])
    refine wpAnyC_done (by kernel_rfl) ?_ _
    exact FIN.out gx gn ge d1 v4 ⟨HD1.out, hk, (ho gn (N73.out.symm)).trans G3_3.out, (ho ge (N57.out)).trans G5_3.out, P7.out, P3.out, P5.out, N53.out.symm, N73.out.symm, N57.out, hb⟩
  ·refine wp_newL 28 rfl id _ d0 hid HDZ.out rfl ?_
   intro v1 hk hb
   obtain ⟨gx, hg⟩ : ∃ g, g = v0.heap.size := ⟨_, rfl⟩
   rw [← hg] at hk
   rw [← hg]
   have G7_1 := qH hk
   have P7 := qH (show w4.heap.size ≤ gx by rw [hg]; exact hX.size)
   have hX2 := hX.trans (hb.mono hX.size)
   clear hk hb hg
   refine hK _ _ hX2 trivial ?_
   clear hK K hX
   (try simp only [Act.put, qA, qB, qC])
   have hX := hX2
   clear hX2
   refine mc_two (i := 3) (j := 5) (oi := ⟨some 40, _, _, _, _, _⟩) (oj := ⟨some 42, _, _, _, _, _⟩) rfl rfl (by kernel_rfl) rfl rfl (fun K hK => ?_) (fun K hK => ?_)
   ·refine wp_mk _ _ 25 rfl 33 il (.slice none 0 0) Try.underlying25 hil hl0 hl1 rfl k rfl rfl HYL.out HN3.out ?_
    intro v2 hk hb _
    obtain ⟨gn, hg⟩ : ∃ g, g = v1.heap.size := ⟨_, rfl⟩
    rw [← hg] at hk
    rw [← hg]
    have G3_2 := qH hk
    have P3 := qH (show w4.heap.size ≤ gn by rw [hg]; exact hX.size)
    have G7_2 := qH (G7_1.out.below hb G7_1.out.lt)
    have N73 := qH (show gx ≠ gn by rw [hg]; exact Nat.ne_of_lt G7_1.out.lt)
    have hX2 := hX.trans (hb.mono hX.size)
    clear hk hb hg
    refine hK _ _ hX2 trivial ?_
    clear hK K hX
    (try simp only [Act.put, qA, qB, qC])
    have hX := hX2
    clear hX2
    refine mc_actB (i := 5) (o := ⟨some 42, _, _, _, _, _⟩) rfl (by kernel_rfl) rfl (fun K hK => ?_)
    refine wp_mk _ _ 26 rfl 4 i2 (.bool false) Try.underlying26 hi2 hb0 hb1 rfl k rfl rfl HYB.out HN3.out ?_
    intro v3 hk hb _
    obtain ⟨ge, hg⟩ : ∃ g, g = v2.heap.size := ⟨_, rfl⟩
    rw [← hg] at hk
    rw [← hg]
    have G5_3 := qH hk
    have P5 := qH (show w4.heap.size ≤ ge by rw [hg]; exact hX.size)
    have G7_3 := qH (G7_2.out.below hb G7_2.out.lt)
    have N75 := qH (show gx ≠ ge by rw [hg]; exact Nat.ne_of_lt G7_2.out.lt)
    have G3_3 := qH (G3_2.out.below hb G3_2.out.lt)
    have N35 := qH (show gn ≠ ge by rw [hg]; exact Nat.ne_of_lt G3_2.out.lt)
    have hX2 := hX.trans (hb.mono hX.size)
    clear hk hb hg
    refine hK _ _ hX2 trivial ?_
    clear hK K hX
    (try simp only [Act.put, qA, qB, qC])
    have hX := hX2
    clear hX2
    obtain ⟨d1, hd1⟩ : ∃ d1, d1 = dcl D.cl (.slice (some ⟨gn, 0, none⟩) k k) (.slice (some ⟨ge, 0, none⟩) k k) := ⟨_, rfl⟩
    have HD1 := qH hd1
    have HB1 := qH (show Try.prog.built 28 [(0, .agg (bvs D.cl).toArray), (1, .slice (some ⟨gn, 0, none⟩) k k), (2, .slice (some ⟨ge, 0, none⟩) k k)] = some d1.toArray by rw [hd1]; exact built_012 HCL2.out)
    have HD1L := qH (show d1.length = 258 by rw [hd1]; exact dcl_len HCL2.out)
    have HD1O := qH (show d1.all (·.oneCell') = true by rw [hd1]; exact dcl_one)
    have HD1S := qH (show (Try.prog.info? 28).map (·.size) = some d1.length by rw [hd1]; exact size_dfa HCL2.out)
    clear hd1
    refine mc_take (i := 6) (oi := ⟨some 43, _, _, _, _, _⟩) (v := .agg d1.toArray) rfl (by kernel_rfl) (by kernel_rfl) (by kernel_rfl) (fun _ _ _ h => h) rfl hX (fun V _ => ex_bld3 0 1 2 (.tmp 38) (.tmp 40) (.tmp 42) rfl rfl rfl rfl HB1.out V) ?_; simp only [Act.put, qA, qB, qC]
    refine mc_actB (i := 8) (o := ⟨none, _, _, _, _, _⟩) rfl (by kernel_rfl) rfl (fun K hK => ?_)
    refine wp_stBlk 28 (.tmp 13) (.tmp 43) rfl gx d1 rfl rfl 28 _ G7_3.out HD1S.out (by rw [HDL.out, HD1L.out]) HD1O.out hX P7.out ?_
    intro v4 hk hb hs ho hbb
    refine hK _ _ hb trivial ?_
    clear hK K hX
    (try simp only [Act.put, qA, qB, qC])
    refine wpAnyC_done (by kernel_rfl) ?_ _
    exact FIN.out gx gn ge d1 v4 ⟨HD1.out, hk, (ho gn (N73.out.symm)).trans G3_3.out, (ho ge (N75.out.symm)).trans G5_3.out, P7.out, P3.out, P5.out, N35.out, N73.out.symm, N75.out.symm, hb⟩
   ·refine wp_mk _ _ 26 rfl 4 i2 (.bool false) Try.underlying26 hi2 hb0 hb1 rfl k rfl rfl HYB.out HN3.out ?_
    intro v2 hk hb _
    obtain ⟨ge, hg⟩ : ∃ g, g = v1.heap.size := ⟨_, rfl⟩
    rw [← hg] at hk
    rw [← hg]
    have G5_2 := qH hk
    have P5 := qH (show w4.heap.size ≤ ge by rw [hg]; exact hX.size)
    have G7_2 := qH (G7_1.out.below hb G7_1.out.lt)
    have N75 := qH (show gx ≠ ge by rw [hg]; exact Nat.ne_of_lt G7_1.out.lt)
    have hX2 := hX.trans (hb.mono hX.size)
    clear hk hb hg
    refine hK _ _ hX2 trivial ?_
    clear hK K hX
    (try simp only [Act.put, qA, qB, qC])
    have hX := hX2
    clear hX2
    refine mc_actB (i := 3) (o := ⟨some 40, _, _, _, _, _⟩) rfl (by kernel_rfl) rfl (fun K hK => ?_)
    refine wp_mk _ _ 25 rfl 33 il (.slice none 0 0) Try.underlying25 hil hl0 hl1 rfl k rfl rfl HYL.out HN3.out ?_
    intro v3 hk hb _
    obtain ⟨gn, hg⟩ : ∃ g, g = v2.heap.size := ⟨_, rfl⟩
    rw [← hg] at hk
    rw [← hg]
    have G3_3 := qH hk
    have P3 := qH (show w4.heap.size ≤ gn by rw [hg]; exact hX.size)
    have G7_3 := qH (G7_2.out.below hb G7_2.out.lt)
    have N73 := qH (show gx ≠ gn by rw [hg]; exact Nat.ne_of_lt G7_2.out.lt)
    have G5_3 := qH (G5_2.out.below hb G5_2.out.lt)
    have N53 := qH (show ge ≠ gn by rw [hg]; exact Nat.ne_of_lt G5_2.out.lt)
    have hX2 := hX.trans (hb.mono hX.size)
    clear hk hb hg
    refine hK _ _ hX2 trivial ?_
    clear hK K hX
    (try simp only [Act.put, qA, qB, qC])
    have hX := hX2
    clear hX2
    obtain ⟨d1, hd1⟩ : ∃ d1, d1 = dcl D.cl (.slice (some ⟨gn, 0, none⟩) k k) (.slice (some ⟨ge, 0, none⟩) k k) := ⟨_, rfl⟩
    have HD1 := qH hd1
    have HB1 := qH (show Try.prog.built 28 [(0, .agg (bvs D.cl).toArray), (1, .slice (some ⟨gn, 0, none⟩) k k), (2, .slice (some ⟨ge, 0, none⟩) k k)] = some d1.toArray by rw [hd1]; exact built_012 HCL2.out)
    have HD1L := qH (show d1.length = 258 by rw [hd1]; exact dcl_len HCL2.out)
    have HD1O := qH (show d1.all (·.oneCell') = true by rw [hd1]; exact dcl_one)
    have HD1S := qH (show (Try.prog.info? 28).map (·.size) = some d1.length by rw [hd1]; exact size_dfa HCL2.out)
    clear hd1
    refine mc_take (i := 6) (oi := ⟨some 43, _, _, _, _, _⟩) (v := .agg d1.toArray) rfl (by kernel_rfl) (by kernel_rfl) (by kernel_rfl) (fun _ _ _ h => h) rfl hX (fun V _ => ex_bld3 0 1 2 (.tmp 38) (.tmp 40) (.tmp 42) rfl rfl rfl rfl HB1.out V) ?_; simp only [Act.put, qA, qB, qC]
    refine mc_actB (i := 8) (o := ⟨none, _, _, _, _, _⟩) rfl (by kernel_rfl) rfl (fun K hK => ?_)
    refine wp_stBlk 28 (.tmp 13) (.tmp 43) rfl gx d1 rfl rfl 28 _ G7_3.out HD1S.out (by rw [HDL.out, HD1L.out]) HD1O.out hX P7.out ?_
    intro v4 hk hb hs ho hbb
    refine hK _ _ hb trivial ?_
    clear hK K hX
    (try simp only [Act.put, qA, qB, qC])
    refine wpAnyC_done (by kernel_rfl) ?_ _
    exact FIN.out gx gn ge d1 v4 ⟨HD1.out, hk, (ho gn (N73.out.symm)).trans G3_3.out, (ho ge (N75.out.symm)).trans G5_3.out, P7.out, P3.out, P5.out, N53.out.symm, N73.out.symm, N75.out.symm, hb⟩
 rintro gx gn ge d1 w5 ⟨hd1, hkx, hkn, hke, h1, h2, h3, h4, h5, h6, hb⟩
 have HD1 := qH hd1
 have KX5 := qH hkx
 have PX := qH h1
 have PN := qH h2
 have PE := qH h3
 have NNX := qH h5
 have NEX := qH h6
 have A5 := qH (apt_mk2 hkn hke HKF.out h2 h3 h4)
 have B5 := qH hb
 clear hd1 hkx hkn hke h1 h2 h3 h4 h5 h6 hb r1
 go_wp2_with fail
 have T5 := qH (TurI.zero (D := D) (m := m) (y := y) k (.slice (some ⟨gn, 0, none⟩) k k) (.slice (some ⟨ge, 0, none⟩) k k) HMK.out)
 obtain ⟨i1, hi1, hy0, hy1, hy2⟩ := infoP inf_int
 obtain ⟨H, hH⟩ : ∃ H, H = w4.heap.size := ⟨_, rfl⟩
 rw [← hH] at A5 PX PN PE
 have HH := qH hH
 have BH := qH (show Below H w4 w5 by rw [hH]; exact B5.out)
 clear hH
 go_loopw [14] (fun v wl => ∃ (i : Nat) (U : Nat → Value) (X : Nat → List Value) (Eb : List Bool), i ≤ k ∧ v = .int .i64 (i : Int) ∧ U 0 = .slice (some ⟨gn, 0, none⟩) k k ∧ U 1 = .slice (some ⟨ge, 0, none⟩) k k ∧ Apt wl H (2 + i) U X ∧ TurI D m y i U X Eb ∧ Blk wl gx 28 d1 ∧ Below H w4 wl) (fun v _ => k - (intOf v).toNat)
 case atStart => exact ⟨0, _, _, _, Nat.zero_le _, rfl, rfl, rfl, A5.out, T5.out, KX5.out, BH.out⟩
 clear T5 A5 KX5 B5 BH
 obtain ⟨i, U, X, Eb, hi, rfl, hu0, hu1, ha, ht, hk, hb⟩ := hrel
 have HI := qH hi
 have HU0 := qH hu0
 have HU1 := qH hu1
 have AI := qH ha
 have TI := qH ht
 have XI := qH hk
 have BI := qH hb
 have HSI := qH (show H ≤ wr.heap.size by rw [HH.out]; exact hb.size)
 obtain ⟨wi, hwi⟩ : ∃ v : World, v = wr := ⟨_, rfl⟩
 subst hwi
 clear hi hu0 hu1 ha ht hk hb
 have TOI := qH (show ∀ V, Below wi.heap.size wi V → Below w4.heap.size w4 V from fun V hV => by have h1 := BI.out; rw [HH.out] at h1; exact h1.trans (hV.mono h1.size))
 by_cases hik : i < k
 ·have y1 : (i : Int) < (k : Int) := Int.ofNat_lt.2 hik
  have HIK := qH hik
  have HMI := qH (sub_next hik)
  have e3 := wrap_one i (lt_bigN hik HKF.out)
  have e4 := wrap_one' i (lt_bigN hik HKF.out)
  obtain ⟨r, Ai, ci, hr1, hr2, hr3, hr4⟩ := ROW.out i hik
  obtain ⟨b, hb1, hb2⟩ := CE.out i hik
  have R1 := qH hr1
  have R2 := qH hr2
  have R3 := qH hr3
  have R4 := qH hr4
  have EB1 := qH hb1
  have EB2 := qH hb2
  have O0 := qH (show wi.ownsRow wi.heap.size 3 1 (.slice none 0 0) 0 (nums .i64 (rowT m y (r.take 0))) from ownC_nil _ _ _)
  clear hik hr1 hr2 hr3 hr4 hb1 hb2
  go_wp2_with fail
  go_loopw [15, 16] (fun rv jv wl => ∃ (j : Nat) (Ar : Option Addr) (cr : Nat), j ≤ kd ∧ jv = .int .i64 (j : Int) ∧ rv = .slice Ar j cr ∧ wl.ownsRow wi.heap.size 3 1 (.slice Ar j cr) j (nums .i64 (rowT m y (r.take j))) ∧ Below wi.heap.size wi wl) (fun _ jv _ => kd - (intOf jv).toNat)
  case atStart => exact ⟨0, _, _, Nat.zero_le _, rfl, rfl, O0.out, Below.refl _ _⟩
  clear O0
  obtain ⟨j, Ar, cr, hj, rfl, rfl, ho, hb⟩ := hrel
  have HJ := qH hj
  have OJ := qH ho
  have BJ := qH hb
  obtain ⟨wj, hwj⟩ : ∃ v : World, v = wr := ⟨_, rfl⟩
  subst hwj
  clear hj ho hb
  have c256 := C256.out wj (TOI.out wj BJ.out)
  have cri : wj.cell? ⟨bn, on + i, none⟩ = some (.slice Ai kd ci) := ((TOI.out wj BJ.out).cell (p := ⟨bn, on + i, none⟩) HBN.out).trans R3.out
  by_cases hjk : j < kd
  ·have z1 : (j : Int) < (kd : Int) := Int.ofNat_lt.2 hjk
   have HJK := qH hjk
   have HMJ := qH (sub_next hjk)
   have f3 := wrap_one j (lt_k256 hjk HKD2.out)
   have f4 := wrap_one' j (lt_k256 hjk HKD2.out)
   obtain ⟨r', q1, _, q3, q4⟩ := may_cell HM.out (s := i) (k := j) (by rw [← HK.out]; exact HIK.out) (by rw [← HKD.out]; exact hjk)
   obtain rfl : r' = r := Option.some.inj (q1.symm.trans R1.out)
   obtain ⟨u, hu⟩ : ∃ u, stC D i j = u := ⟨_, rfl⟩
   rw [hu, ← HK.out] at q4
   rw [hu] at q3
   have HQ3 := qH q3
   obtain ⟨b1, o1, rfl, l1, c1⟩ := R4.out.at_ (by rw [nums_length, R2.out]; exact Nat.lt_of_le_of_lt (Nat.zero_le _) hjk)
   have cu : wj.cell? ⟨b1, o1 + j, none⟩ = some (.int .i64 (u : Int)) := ((TOI.out wj BJ.out).cell (p := ⟨b1, o1 + j, none⟩) l1).trans (c1 j _ (by simp [nums, q3]))
   have HU4 := qH (show u ≤ 4000 from Nat.le_trans (Nat.le_of_lt q4) (Nat.le_trans HK8.out (by decide)))
   have HY4 := qH (show y ≤ 4000 from Nat.le_trans (Nat.le_of_lt HYM.out) (Nat.le_trans HM8.out (by decide)))
   have HM0 := qH (show 0 < m from Nat.lt_of_lt_of_le (by decide) HM2.out)
   have HM4 := qH (show m ≤ 4000 from Nat.le_trans HM8.out (by decide))
   obtain ⟨nv, hnv⟩ : ∃ x, x = movN m y u := ⟨_, rfl⟩
   have HNV := qH hnv
   have HNX := qH (show rowT m y (r'.take (j + 1)) = rowT m y (r'.take j) ++ [(nv : Int)] by rw [hnv]; exact rowT_take q3)
   obtain ⟨l, hl⟩ : ∃ l, l = rowT m y (r'.take j) := ⟨_, rfl⟩
   have HLL := qH hl
   rw [← hl] at HNX OJ
   have HB1 := qH (show j + (nums .i64 [(nv : Int)]).length ≤ 2097152 from kd_bnd hjk HKD2.out)
   clear hu q1 q3 q4 l1 c1 hjk hnv hl
   go_wp2_with fail
   clear c256 cri cu
   refine (moved_any u y m wj HU4.out HY4.out HM0.out HM4.out).mono ?_
   rintro e wa ⟨rfl, hb⟩
   rw [← HNV.out]
   have BA := qH (BJ.out.trans (hb.mono BJ.out.size))
   have OA := qH (own6_stay OJ.out fun q hq => hb.block q (own6_lt OJ.out q hq).1)
   clear hb
   go_wp2_with (first
    | ((with_reducible refine atDst 71 ?_); refine wpList_plain rfl fun K hK => wp_bldI 33 3 (.tmp 70) rfl i1 Try.underlying33 hi1 0 hy0 hy1 (nv : Int) rfl ?_; intro wb hr hb; have RB := qH hr; have BB := qH (BA.out.trans (hb.mono BA.out.size)); have OB := qH (own6_stay OA.out fun q hq => hb.block q (own6_lt OA.out q hq).1); have HB2 := qH (show wi.heap.size ≤ wb.heap.size from BB.out.size); clear hr hb; refine hK _ _ ?_; clear hK K; (try simp only [Act.put, qA, qB, qC]))
    | ((with_reducible refine atDst 72 ?_); refine wpList_appW (base := wi.heap.size) rfl (.tmp 59) (.tmp 71) 33 rfl 3 i1 (.int .i64 0) 8 Try.underlying33 hi1 hy0 hy1 hy2 rfl _ _ (nums .i64 l) rfl OB.out _ (nums .i64 [(nv : Int)]) rfl RB.out (fun u hu => by obtain rfl := List.mem_singleton.1 hu; rfl) HB1.out (by decide) HB2.out ?_; intro v2 wc ho hgr hwr; have O2 := qH (show wc.ownsRow wi.heap.size 3 1 v2 (j + 1) (nums .i64 (rowT m y (r'.take (j + 1)))) by (rw [HNX.out, nums, List.map_append]; exact ho)); have BC := qH (below_own BB.out HB2.out hgr fun q hq => (own6_lt OB.out q hq).2); have HSL := qH (show ∃ A c, v2 = .slice A (j + 1) c from ownC_slice ho); clear ho hgr hwr; (try simp only [Act.put, qA, qB, qC])))
   obtain ⟨A3, c3, rfl⟩ := HSL.out
   exact ⟨⟨j + 1, _, _, HJK.out, by congr 1, rfl, O2.out, BC.out⟩, by simpa [intOf] using HMJ.out⟩
  ·obtain rfl : kd = j := Nat.le_antisymm (Nat.le_of_not_lt hjk) HJ.out
   have z1 : ¬ ((kd : Int) < (kd : Int)) := Int.lt_irrefl _
   clear hjk
   have AJ := qH (apt_add (v := .slice Ar kd cr) (l := nums .i64 (rowT m y r)) AI.out BJ.out HSI.out (by
    have h1 := OJ.out
    rw [List.take_of_length_le (Nat.le_of_eq R2.out)] at h1
    rw [nums_length, rowT, List.length_map, R2.out, Nat.add_comm 2 i]
    exact h1))
   have TJ := qH (TI.out.more (v := .slice Ar kd cr) (l := nums .i64 (rowT m y r)))
   have V0 := qH ((putV_0 U i (.slice Ar kd cr)).trans HU0.out)
   have V1 := qH ((putV_1 U i (.slice Ar kd cr)).trans HU1.out)
   have V2 := qH (putV_2 U i (.slice Ar kd cr))
   have X2 := qH (putX_2 X i (nums .i64 (rowT m y r)))
   obtain ⟨U', hU'⟩ : ∃ u, u = putV U (2 + i) (.slice Ar kd cr) := ⟨_, rfl⟩
   obtain ⟨X', hX'⟩ : ∃ u, u = putX X (2 + i) (nums .i64 (rowT m y r)) := ⟨_, rfl⟩
   rw [← hU'] at AJ TJ V0 V1 V2
   rw [← hX'] at AJ TJ X2
   have XJ := qH (XI.out.below BJ.out XI.out.lt)
   have BIJ := qH (BI.out.trans (BJ.out.mono HSI.out))
   clear hU' hX' AI TI
   obtain ⟨mv, hmv⟩ : ∃ v, v = movN m y i := ⟨_, rfl⟩
   have HMV := qH hmv
   have HMK2 := qH (show mv < k by rw [hmv, HMK.out]; exact movN_lt (Nat.lt_of_lt_of_le (by decide) HM2.out))
   have ym : (mv : Int) < (k : Int) := Int.ofNat_lt.2 HMK2.out
   have HI4 := qH (show i ≤ 4000 from Nat.le_trans (Nat.le_of_lt HIK.out) (Nat.le_trans HK8.out (by decide)))
   have HY4 := qH (show y ≤ 4000 from Nat.le_trans (Nat.le_of_lt HYM.out) (Nat.le_trans HM8.out (by decide)))
   have HM0 := qH (show 0 < m from Nat.lt_of_lt_of_le (by decide) HM2.out)
   have HM4 := qH (show m ≤ 4000 from Nat.le_trans HM8.out (by decide))
   have TD := qH (TJ.out.done HYM.out (by rw [← HMK.out]; exact HIK.out) R1.out X2.out EB1.out)
   rw [← hmv] at TD
   clear hmv
   go_wp2_with fail
   clear c256 cri
   refine mc_start (fun V => Below H w4 V ∧ Blk V gx 28 d1) (fun _ => True) 22 (by kernel_rfl) (fun wd hwd => ?_)
   have hBD : Below wj.heap.size wj wd := by rw [hwd]; exact (Below.refl _ _).drew
   have hX : Below H w4 wd ∧ Blk wd gx 28 d1 := ⟨BIJ.out.trans (hBD.mono (by have := BIJ.out.size; rw [← HH.out] at this; exact this)), XJ.out.below hBD XJ.out.lt⟩
   clear hwd
   have AD := qH (AJ.out.below hBD)
   clear hBD
   refine mc_take (i := 0) (oi := ⟨some 73, _, _, _, _, _⟩) (v := ?_) rfl (by kernel_rfl) (by kernel_rfl) (by kernel_rfl) (fun _ _ _ h => h) rfl hX ?_ ?_; rotate_left; (intro W hW; go_simp; try with_reducible rfl); simp only [Act.put, qA, qB, qC]
   refine mc_take (i := 1) (oi := ⟨some 74, _, _, _, _, _⟩) (v := .slice (some ⟨gn, 0, none⟩) k k) rfl (by kernel_rfl) (by kernel_rfl) (by kernel_rfl) (fun _ _ _ h => h) rfl hX (fun V hT => ld_inss (.tmp 73) rfl rfl (by have := Blk.cell hT.2 256; rw [HD1.out, dcl_n HCL2.out] at this; exact this)) ?_; simp only [Act.put, qA, qB, qC]
   refine mc_take (i := 2) (oi := ⟨some 75, _, _, _, _, _⟩) (v := ?_) rfl (by kernel_rfl) (by kernel_rfl) (by kernel_rfl) (fun _ _ _ h => h) rfl hX ?_ ?_; rotate_left; (intro W hW; go_simp; try with_reducible rfl); simp only [Act.put, qA, qB, qC]
   refine mc_take (i := 3) (oi := ⟨some 76, _, _, _, _, _⟩) (v := ?_) rfl (by kernel_rfl) (by kernel_rfl) (by kernel_rfl) (fun _ _ _ h => h) rfl hX ?_ ?_; rotate_left; (intro W hW; go_simp; try with_reducible rfl); simp only [Act.put, qA, qB, qC]
   refine mc_take (i := 4) (oi := ⟨some 77, _, _, _, _, _⟩) (v := ?_) rfl (by kernel_rfl) (by kernel_rfl) (by kernel_rfl) (fun _ _ _ h => h) rfl hX ?_ ?_; rotate_left; (intro W hW; go_simp; try with_reducible rfl); simp only [Act.put, qA, qB, qC]
   refine mc_take (i := 6) (oi := ⟨some 79, _, _, _, _, _⟩) (v := ?_) rfl (by kernel_rfl) (by kernel_rfl) (by kernel_rfl) (fun _ _ _ h => h) rfl hX ?_ ?_; rotate_left; (intro W hW; go_simp; try with_reducible rfl); simp only [Act.put, qA, qB, qC]
   refine mc_take (i := 7) (oi := ⟨some 80, _, _, _, _, _⟩) (v := .slice (some ⟨ge, 0, none⟩) k k) rfl (by kernel_rfl) (by kernel_rfl) (by kernel_rfl) (fun _ _ _ h => h) rfl hX (fun V hT => ld_bls (.tmp 79) rfl rfl (by have := Blk.cell hT.2 257; rw [HD1.out, dcl_e HCL2.out] at this; exact this)) ?_; simp only [Act.put, qA, qB, qC]
   refine mc_take (i := 8) (oi := ⟨some 81, _, _, _, _, _⟩) (v := ?_) rfl (by kernel_rfl) (by kernel_rfl) (by kernel_rfl) (fun _ _ _ h => h) rfl hX ?_ ?_; rotate_left; (intro W hW; go_simp; try with_reducible rfl); simp only [Act.put, qA, qB, qC]
   refine mc_take (i := 9) (oi := ⟨some 82, _, _, _, _, _⟩) (v := ?_) rfl (by kernel_rfl) (by kernel_rfl) (by kernel_rfl) (fun _ _ _ h => h) rfl hX ?_ ?_; rotate_left; (intro W hW; go_simp; try with_reducible rfl); simp only [Act.put, qA, qB, qC]
   refine mc_take (i := 10) (oi := ⟨some 83, _, _, _, _, _⟩) (v := ?_) rfl (by kernel_rfl) (by kernel_rfl) (by kernel_rfl) (fun _ _ _ h => h) rfl hX ?_ ?_; rotate_left; (intro W hW; go_simp; try with_reducible rfl); simp only [Act.put, qA, qB, qC]
   refine mc_take (i := 12) (oi := ⟨some 85, _, _, _, _, _⟩) (v := ?_) rfl (by kernel_rfl) (by kernel_rfl) (by kernel_rfl) (fun _ _ _ h => h) rfl hX ?_ ?_; rotate_left; (intro W hW; go_simp; try with_reducible rfl); simp only [Act.put, qA, qB, qC]
   refine mc_take (i := 13) (oi := ⟨some 86, _, _, _, _, _⟩) (v := ?_) rfl (by kernel_rfl) (by kernel_rfl) (by kernel_rfl) (fun _ _ _ h => h) rfl hX ?_ ?_; rotate_left; (intro W hW; go_simp; try with_reducible rfl); simp only [Act.put, qA, qB, qC]
   refine mc_take (i := 14) (oi := ⟨some 87, _, _, _, _, _⟩) (v := .slice (some ⟨be, oe, none⟩) k ce) rfl (by kernel_rfl) (by kernel_rfl) (by kernel_rfl) (fun _ _ _ h => h) rfl hX (fun V hT => ld_bls (.tmp 86) rfl rfl (C257.out V (HH.out ▸ hT.1))) ?_; simp only [Act.put, qA, qB, qC]
   refine mc_take (i := 15) (oi := ⟨some 88, _, _, _, _, _⟩) (v := ?_) rfl (by kernel_rfl) (by kernel_rfl) (by kernel_rfl) (fun _ _ _ h => h) rfl hX ?_ ?_; rotate_left; (intro W hW; go_simp; try with_reducible rfl); simp only [Act.put, qA, qB, qC]
   refine mc_take (i := 16) (oi := ⟨some 89, _, _, _, _, _⟩) (v := ?_) rfl (by kernel_rfl) (by kernel_rfl) (by kernel_rfl) (fun _ _ _ h => h) rfl hX ?_ ?_; rotate_left; (intro W hW; go_simp; try with_reducible rfl); simp only [Act.put, qA, qB, qC]
   refine mc_take (i := 17) (oi := ⟨some 90, _, _, _, _, _⟩) (v := .bool b) rfl (by kernel_rfl) (by kernel_rfl) (by kernel_rfl) (fun _ _ _ h => h) rfl hX (fun V hT => ld_b (.tmp 89) rfl rfl (((show Below w4.heap.size w4 V from HH.out ▸ hT.1).cell (p := ⟨be, oe + i, none⟩) HBE.out).trans EB2.out)) ?_; simp only [Act.put, qA, qB, qC]
   refine mc_actB (i := 5) (o := ⟨some 78, _, _, _, _, _⟩) rfl (by kernel_rfl) rfl (fun K hK => ?_)
   have Y1 := qH hX
   go_wp2_with fail
   refine (moved_any i y m wd HI4.out HY4.out HM0.out HM4.out).mono ?_
   rintro e v1 ⟨rfl, hb⟩
   rw [← HMV.out]
   have A1 := qH (AD.out.below hb)
   have hX2 : Below H w4 v1 ∧ Blk v1 gx 28 d1 := ⟨Y1.out.1.trans (hb.mono (by have := Y1.out.1.size; rw [← HH.out] at this; exact this)), Y1.out.2.below hb Y1.out.2.lt⟩
   clear hb
   go_wp2_with fail
   refine hK _ _ hX2 trivial ?_
   clear hK K hX
   have hX := hX2
   clear hX2
   (try simp only [Act.put, qA, qB, qC])
   refine mc_actB (i := 11) (o := ⟨some 84, _, _, _, _, _⟩) rfl (by kernel_rfl) rfl (fun K hK => ?_)
   have Y2 := qH hX
   go_wp2_with fail
   refine (moved_any i y m v1 HI4.out HY4.out HM0.out HM4.out).mono ?_
   rintro e v2 ⟨rfl, hb⟩
   rw [← HMV.out]
   have A2 := qH (A1.out.below hb)
   have hX2 : Below H w4 v2 ∧ Blk v2 gx 28 d1 := ⟨Y2.out.1.trans (hb.mono (by have := Y2.out.1.size; rw [← HH.out] at this; exact this)), Y2.out.2.below hb Y2.out.2.lt⟩
   clear hb
   go_wp2_with fail
   refine hK _ _ hX2 trivial ?_
   clear hK K hX
   have hX := hX2
   clear hX2
   (try simp only [Act.put, qA, qB, qC])
   refine mc_take (i := 18) (oi := ⟨some 91, _, _, _, _, _⟩) (v := ?_) rfl (by kernel_rfl) (by kernel_rfl) (by kernel_rfl) (fun _ _ _ h => h) rfl hX ?_ ?_; rotate_left; (intro W hW; go_simp; try with_reducible rfl); simp only [Act.put, qA, qB, qC]
   refine mc_actB (i := 19) (o := ⟨none, _, _, _, _, _⟩) rfl (by kernel_rfl) rfl (fun K hK => ?_)
   obtain ⟨u0, hu0⟩ : ∃ u, (X' 0)[mv]? = some u := ⟨_, List.getElem?_eq_getElem (by rw [TJ.out.l0, ← HMK.out]; exact HMK2.out)⟩
   have hc0 := own_cell (j := mv) (show v2.ownsRow H 33 1 (.slice (some ⟨gn, 0, none⟩) k k) k (X' 0) by
    have h1 := A2.out.own 0 (l20s i)
    rw [V0.out, TJ.out.l0, ← HMK.out] at h1
    exact h1) hu0
   refine wp_stN (.tmp 91) (.tmp 85) rfl gn mv rfl Ar kd cr rfl u0 hc0.1 hc0.2 ?_
   have A3 := qH (A2.out.set (s := 0) (l20s i) V0.out (q := mv) (by rw [TJ.out.l0, ← HMK.out]; exact HMK2.out) (.slice Ar kd cr))
   have hX2 : Below H w4 (v2.setCell ⟨gn, mv, none⟩ (.slice Ar kd cr)) ∧ Blk (v2.setCell ⟨gn, mv, none⟩ (.slice Ar kd cr)) gx 28 d1 := ⟨hX.1.setCell (p := ⟨gn, mv, none⟩) PN.out _, (Below.heap_setCell v2 ⟨gn, mv, none⟩ _ gx NNX.out.symm).trans hX.2⟩
   obtain ⟨v3, hv3⟩ : ∃ v : World, v = v2.setCell ⟨gn, mv, none⟩ (.slice Ar kd cr) := ⟨_, rfl⟩
   rw [← hv3] at A3 hX2
   rw [← hv3]
   refine hK _ _ hX2 trivial ?_
   clear hK K hX hv3 hc0 hu0
   have hX := hX2
   clear hX2
   (try simp only [Act.put, qA, qB, qC])
   refine mc_take (i := 20) (oi := ⟨some 92, _, _, _, _, _⟩) (v := ?_) rfl (by kernel_rfl) (by kernel_rfl) (by kernel_rfl) (fun _ _ _ h => h) rfl hX ?_ ?_; rotate_left; (intro W hW; go_simp; try with_reducible rfl); simp only [Act.put, qA, qB, qC]
   refine mc_actB (i := 21) (o := ⟨none, _, _, _, _, _⟩) rfl (by kernel_rfl) rfl (fun K hK => ?_)
   obtain ⟨u1, hu1⟩ : ∃ u, (bools Eb)[mv]? = some u := ⟨_, List.getElem?_eq_getElem (by rw [bools_length, TJ.out.l1, ← HMK.out]; exact HMK2.out)⟩
   have hc1 := own_cell (j := mv) (show v3.ownsRow H 4 1 (.slice (some ⟨ge, 0, none⟩) k k) k (bools Eb) by
    have h1 := A3.out.own 1 (l21v i)
    rw [putX_ne (by decide), V1.out, TJ.out.x1, bools_length, TJ.out.l1, ← HMK.out] at h1
    exact h1) hu1
   refine wp_stB (.tmp 92) (.tmp 90) rfl ge mv rfl b rfl u1 hc1.1 hc1.2 ?_
   have A4 := qH (show Apt (v3.setCell ⟨ge, mv, none⟩ (.bool b)) H (2 + i + 1) U' (putX (putX X' 0 ((X' 0).set mv (U' (i + 2)))) 1 ((X' 1).set mv (.bool b))) by
    have h1 := A3.out.set (s := 1) (l21v i) V1.out (q := mv) (by rw [putX_ne (by decide), TJ.out.x1, bools_length, TJ.out.l1, ← HMK.out]; exact HMK2.out) (.bool b)
    rw [V2.out]
    rw [show putX X' 0 ((X' 0).set mv (.slice Ar kd cr)) 1 = X' 1 from putX_ne (by decide)] at h1
    exact h1)
   have hX2 : Below H w4 (v3.setCell ⟨ge, mv, none⟩ (.bool b)) ∧ Blk (v3.setCell ⟨ge, mv, none⟩ (.bool b)) gx 28 d1 := ⟨hX.1.setCell (p := ⟨ge, mv, none⟩) PE.out _, (Below.heap_setCell v3 ⟨ge, mv, none⟩ _ gx NEX.out.symm).trans hX.2⟩
   obtain ⟨v4, hv4⟩ : ∃ v : World, v = v3.setCell ⟨ge, mv, none⟩ (.bool b) := ⟨_, rfl⟩
   rw [← hv4] at A4 hX2
   rw [← hv4]
   refine hK _ _ hX2 trivial ?_
   clear hK K hX hv4 hc1 hu1
   have H4 := qH hX2
   clear hX2
   (try simp only [Act.put, qA, qB, qC])
   refine wpAnyC_done (by kernel_rfl) ?_ _
   go_wp2_with fail
   exact ⟨⟨i + 1, U', _, _, HIK.out, by congr 1, V0.out, V1.out, A4.out, TD.out, H4.out.2, H4.out.1⟩, by simpa [intOf] using HMI.out⟩
 ·obtain rfl : k = i := Nat.le_antisymm (Nat.le_of_not_lt hik) HI.out
  have y1 : ¬ ((k : Int) < (k : Int)) := Int.lt_irrefl _
  have HKL := qH (show D.next.length = m + 1 by rw [← HK.out]; exact HMK.out)
  have HM0 := qH (show 0 < m from Nat.lt_of_lt_of_le (by decide) HM2.out)
  have VX := qH (show DfaV wi d1 (turD D m y Eb) by
   have t1 := TI.out
   have a1 := AI.out
   rw [HMK.out] at t1 a1
   rw [HD1.out, ← HU0.out, ← HU1.out]
   exact t1.dfa HKL.out HYM.out HM.out HCL2.out a1)
  have HEL := qH (show lstD (turD D m y Eb) = lstD D from lst_turn (turD_turn HKL.out HM0.out HYM.out fun j b hb => TI.out.e j b (by
   have := (List.getElem?_eq_some_iff.1 hb).1
   rw [HM.out.ends, ← HK.out] at this
   exact this) hb) HM.out HCL2.out)
  have HEM := qH (turD_may (y := y) (Eb := Eb) HM.out HKL.out HM0.out TI.out.l1)
  have HEA := qH (show AllC (turD D m y Eb) from HAC.out)
  obtain ⟨E, hE⟩ : ∃ E, E = turD D m y Eb := ⟨_, rfl⟩
  rw [← hE] at VX HEL HEM HEA
  have HLM := qH (show MayD (lstD D) from lst_may HM.out HCL2.out)
  have BIW := qH (TOI.out wi (Below.refl _ _))
  have KD := qH (K4.out.below BIW.out K4.out.lt)
  have VD := qH (V4.out.below BIW.out)
  have BIE := qH (B4.out.trans (BIW.out.mono B4.out.size))
  have HD1S := qH (show (Try.prog.info? 28).map (·.size) = some d1.length by rw [HD1.out]; exact size_dfa HCL2.out)
  clear hik hE TI AI
  go_wp2_with fail
  refine mc_start (fun V => Below wi.heap.size wi V) (fun _ => True) 6 (by kernel_rfl) (fun wd hwd => ?_)
  have hX : Below wi.heap.size wi wd := by rw [hwd]; exact (Below.refl _ _).drew
  have hY : True := trivial
  clear hwd
  refine mc_take (i := 0) (oi := ⟨some 93, _, _, _, _, _⟩) (v := .agg d1.toArray) rfl (by kernel_rfl) (by kernel_rfl) (by kernel_rfl) (fun _ _ _ h => h) rfl hX (fun V hT => ld_blk 28 (.tmp 13) rfl gx rfl 28 d1 _ XI.out XI.out.lt Try.underlying28 rfl HD1S.out V hT) ?_; simp only [Act.put, qA, qB, qC]
  refine mc_take (i := 2) (oi := ⟨some 95, _, _, _, _, _⟩) (v := .agg cs.toArray) rfl (by kernel_rfl) (by kernel_rfl) (by kernel_rfl) (fun _ _ _ h => h) rfl hX (fun V hT => ld_blk 28 (.tmp 9) rfl gd rfl 28 cs _ KD.out KD.out.lt Try.underlying28 rfl HSA.out V hT) ?_; simp only [Act.put, qA, qB, qC]
  refine mc_actB (i := 1) (o := ⟨some 94, _, _, _, _, _⟩) rfl (by kernel_rfl) rfl (fun K hK => ?_)
  have Y1 := qH hX
  go_wp2_with fail
  refine (HCC.out.least E d1 wd (VX.out.below hX) HEM.out HEA.out).mono ?_
  rintro e v1 ⟨xs, rfl, hd, hb⟩
  rw [HEL.out] at hd
  have VY := qH hd
  clear hd
  have hX2 := Y1.out.trans (hb.mono Y1.out.size)
  clear hb
  go_wp2_with fail
  refine hK _ _ hX2 trivial ?_
  clear hK K hX
  have hX := hX2
  clear hX2
  (try simp only [Act.put, qA, qB, qC])
  refine mc_actB (i := 3) (o := ⟨some 96, _, _, _, _, _⟩) rfl (by kernel_rfl) rfl (fun K hK => ?_)
  have Y2 := qH hX
  go_wp2_with fail
  refine (HCC.out.least D cs v1 (VD.out.below hX) HM.out HAC.out).mono ?_
  rintro e v2 ⟨ys, rfl, hd, hb⟩
  have VZ := qH hd
  have VY2 := qH (VY.out.below hb)
  clear hd
  have hX2 := Y2.out.trans (hb.mono Y2.out.size)
  clear hb
  go_wp2_with fail
  refine hK _ _ hX2 trivial ?_
  clear hK K hX
  have hX := hX2
  clear hX2
  (try simp only [Act.put, qA, qB, qC])
  refine mc_actB (i := 4) (o := ⟨some 97, _, _, _, _, _⟩) rfl (by kernel_rfl) rfl (fun K hK => ?_)
  have Y3 := qH hX
  go_wp2_with fail
  refine (refSame11_self (lstD D) xs ys v2 VY2.out VZ.out (by rw [HLM.out.ends]; exact HLM.out.few) HLM.out.few (fun r hr => by rw [HLM.out.rows r hr]; exact Nat.le_trans (clsA_le _) (by decide))).mono ?_
  rintro e v3 ⟨rfl, hb⟩
  have hX2 := Y3.out.trans (hb.mono Y3.out.size)
  clear hb
  go_wp2_with fail
  refine hK _ _ hX2 trivial ?_
  clear hK K hX
  have hX := hX2
  clear hX2
  (try simp only [Act.put, qA, qB, qC])
  refine mc_take (i := 5) (oi := ⟨some 8, _, _, _, _, _⟩) (v := ?_) rfl (by kernel_rfl) (by kernel_rfl) (by kernel_rfl) (fun _ _ _ h => h) rfl hX ?_ ?_; rotate_left; (intro W hW; go_simp; try with_reducible rfl); simp only [Act.put, qA, qB, qC]
  refine wpAnyC_done (by kernel_rfl) ?_ _
  have BE := qH (BIE.out.trans (hX.mono BIE.out.size))
  clear hX hY
  go_wp2_with fail
  go_ret
  exact ⟨rfl, BE.out⟩
end Go.Proofs.Ytlohehcfplkjbaa
