/-
  Texts of this proof, put together: GoM. No statement is proved here.
-/
import Derived.Test.YtbbodfpnneifgaaYZ
import Derived.Test.YtbbodfpnneifgaaYBA
namespace Go.Proofs.Ytbbodfpnneifgaa
open Go.RowKit
set_option linter.unusedSimpArgs false
set_option linter.unusedVariables false
theorem ex_eqII {ev : Operand → Value} {o : Oper} (x y : Operand) {r : TypeId} (ho : o.op = .binOp .eql 3 x y r) {p : Int} (hx : ev x = .int .i64 p) (hy : ev y = .int .i64 p) (W : World) : (execOp ev o).run Try.prog W = .ok (.value (.bool true)) W := by
 simp only [execOp, ho, hx, hy]
 go_simp
section
variable {P : Program} {o : Oper} {a : Act} {w : World} {K : Act → World → Prop} {Q : Exit → Act → World → Prop}
theorem wp_bld0M (t e : TypeId) (ho : o.op = .buildSlice t 0 #[]) (i : TypeInfo) (ht : P.underlying t = some (.slice e)) (hi : P.info? e = some i) (z : Value) (hz : i.zero = some z) (hs : i.size = 1)
  (h : ∀ w', w'.ownsRow w.heap.size e 1 (.slice (some ⟨w.heap.size, 0, none⟩) 0 0) 0 [] → Below w.heap.size w w' → K (a.put o.dst (.slice (some ⟨w.heap.size, 0, none⟩) 0 0)) w') : o.wp P a w K Q := by
 have hrun : (Instr.buildSlice t 0 #[]).run P w = .ok (.slice (some ⟨w.heap.size, 0, none⟩) 0 0) (w.alloc (.cells #[] e)) := by
  simp [Instr.buildSlice, run_underlying ht, sizeOf, typeInfo, hi, hs, Instr.fill, newRow, Array.range_zero']
 unfold Oper.wp
 simp only [execOp, ho, List.map_toArray, List.map_nil, hrun, Sem.run_bind, Result.andThen_ok, Sem.run_pure]
 exact h _ ⟨by simp, .inr ⟨w.heap.size, 0, #[], rfl, Nat.le_refl _, heap_alloc_new w _, Nat.le_refl _, Nat.zero_le _, rfl, rfl⟩⟩ ((Below.refl _ _).alloc (Nat.le_refl _) _)
end
set_option maxHeartbeats 8000000 in
set_option maxRecDepth 1000000 in
theorem goes11_walk (n c s : Nat) (V V1 V2 : Value) (ps U W : List UInt8) (w : World) (hn : n < 256) (hc : c < 256) (hs : s < 256) (hr : Row w V (bvs ps)) (hu : Row w V1 (bvs U)) (hw : Row w V2 (bvs W)) :
  Calls Try.prog 4 #[.int .u8 (n : Int), .int .u8 (c : Int), V, V1, V2, .int .u8 (s : Int)] w fun e w' => e = .returned (.bool true) ∧ Below w.heap.size w w' := by
 have R := qH hr
 have RW := qH hw
 obtain ⟨A, cap, rfl, _⟩ := hr
 have RU := qH hu
 obtain ⟨A1, cap1, rfl, _⟩ := hu
 obtain ⟨A2, cap2, rfl, _⟩ := hw
 rw [bvs_length] at R
 rw [bvs_length] at RW
 rw [bvs_length] at RU
 rw [bvs_length, bvs_length, bvs_length]
 have HSB := qH hs
 have HN := qH hn
 have HC := qH hc
 obtain ⟨d0, hd0⟩ : ∃ d0, d0 = dcl (ctab [] 0) (.slice none 0 0) (.slice none 0 0) := ⟨_, rfl⟩
 have HDL := qH (show d0.length = 258 by rw [hd0]; exact dcl_len (ctab_length _ _))
 obtain ⟨id, hid, hdz⟩ := Option.map_eq_some_iff.1 inf_dfa
 rw [← hd0] at hdz
 have HDZ := qH hdz
 clear hd0 hdz hn hc hs
 go_enter Try.func4, Try.ntmps4
 go_wp2_with fail
 refine (begun11_any w).mono ?_
 rintro e w1 ⟨rfl, hb⟩
 have B1 := qH hb
 clear hb
 by_cases hl : 60 < ps.length
 ·have x1 : (60 : Int) < (ps.length : Int) := Int.ofNat_lt.2 hl
  clear hl
  go_wp2_with fail
  go_ret
  exact ⟨rfl, B1.out⟩
 have x1 : ¬ (60 : Int) < (ps.length : Int) := fun h => hl (Int.ofNat_lt.1 h)
 have HL := qH (Nat.le_of_not_lt hl)
 clear hl
 by_cases hl2 : 40 < U.length
 ·have x2 : (40 : Int) < (U.length : Int) := Int.ofNat_lt.2 hl2
  clear hl2
  go_wp2_with fail
  go_ret
  exact ⟨rfl, B1.out⟩
 have x2 : ¬ (40 : Int) < (U.length : Int) := fun h => hl2 (Int.ofNat_lt.1 h)
 have Hx2 := qH (Nat.le_of_not_lt hl2)
 clear hl2
 by_cases hl3 : 40 < W.length
 ·have x3 : (40 : Int) < (W.length : Int) := Int.ofNat_lt.2 hl3
  clear hl3
  go_wp2_with fail
  go_ret
  exact ⟨rfl, B1.out⟩
 have x3 : ¬ (40 : Int) < (W.length : Int) := fun h => hl3 (Int.ofNat_lt.1 h)
 have Hx3 := qH (Nat.le_of_not_lt hl3)
 clear hl3
 go_wp2_with fail
 refine (playDfa_any n c ps _ w1 HN.out HC.out (R.out.below B1.out) HL.out).mono ?_
 rintro e w2 ⟨cs, rfl, hd, hb⟩
 obtain ⟨D, hD⟩ : ∃ D, D = dfaQ n c ps := ⟨_, rfl⟩
 rw [← hD] at hd
 have HM := qH (show MayD D by rw [hD]; exact dfaQ_may n c ps)
 have HK8 := qH (show D.next.length ≤ 8 by rw [hD, dfaQ_len]; exact k8M n)
 have HFU := qH (show FullD D by rw [hD]; exact dfaQ_full n c ps)
 clear hD
 have VA := qH hd.dfa
 obtain ⟨An, Ae, cn, ce, vf, hcl, hcs, _, _, hen⟩ := VA.out.form
 have HEN0 := qH hen
 have HCS := qH hcs
 have HCLN := qH hcl
 have HLA := qH (show cs.length = 258 by rw [hcs]; exact dcl_len hcl)
 have HOA := qH (show cs.all (·.oneCell') = true by rw [hcs]; exact dcl_one)
 have HSA := qH (show (Try.prog.info? 28).map (·.size) = some cs.length from VA.out.size)
 have B2 := qH (B1.out.trans (hb.mono B1.out.size))
 clear hd hb hcl hcs hen
 obtain ⟨m, hm⟩ : ∃ m, m = D.next.length := ⟨_, rfl⟩
 have HMD := qH hm
 have HMP := qH (show 0 < m by rw [hm]; exact HM.out.pos)
 have HEL := qH (show D.ends.length = m by rw [hm]; exact HM.out.ends)
 rw [← hm] at HCS HK8
 rw [HEL.out] at HCS HEN0
 obtain ⟨f, hf⟩ : ∃ f, f = s % m := ⟨_, rfl⟩
 have HFM := qH (show f < m by rw [hf]; exact Nat.mod_lt _ HMP.out)
 have z1 := mod_m s m f hf
 have z2 := pos_ne HMP.out
 have z3 : ((m : Int) == 0) = false := by rw [beq_eq_false_iff_ne]; exact z2
 have zs : IntKind.i64.wrap (s : Int) = (s : Int) := k64S s (Nat.le_trans (Nat.le_of_lt HSB.out) (by decide))
 obtain ⟨p, hp⟩ : ∃ p, p = toD D 0 W := ⟨_, rfl⟩
 obtain ⟨q, hq⟩ : ∃ q, q = toD D f W := ⟨_, rfl⟩
 have HCL2 := qH (show D.cl.length = 256 from HCLN.out)
 have HPM := qH (show p < m by rw [hp, hm]; exact toD_lt HM.out HCL2.out W 0 HM.out.pos)
 have HQM := qH (show q < m by rw [hq, hm]; exact toD_lt HM.out HCL2.out W f (by rw [← hm]; exact HFM.out))
 have HTP := qH (show toG D 0 W = (p : Int) by rw [hp]; exact toG_inM HM.out HM.out.pos W)
 have HTQ := qH (show toG D (f : Int) W = (q : Int) by rw [hq]; exact toG_inM HM.out (by rw [← hm]; exact HFM.out) W)
 have HRP := qH (show reaM D p = true by rw [hp]; exact rea_to HM.out HCL2.out W 0 HM.out.pos (rea_zero D))
 have HRQ := qH (show reaM D f = true → reaM D q = true by rw [hq]; exact rea_to HM.out HCL2.out W f (by rw [← hm]; exact HFM.out))
 have HLQ := qH (show D.ends[q]? = some true → livM D f = true by rw [hq]; exact liv_to HM.out HCL2.out W f (by rw [← hm]; exact HFM.out))
 obtain ⟨t1, ht1⟩ : ∃ t, t = toG D (f : Int) U := ⟨_, rfl⟩
 have HT1 := qH ht1
 have HT2 := qH (show toG D (f : Int) (U ++ W) = toG D t1 W by
  have h1 : f < D.next.length := by rw [← hm]; exact HFM.out
  rw [ht1, toG_inM HM.out h1, toG_inM HM.out h1, toG_inM HM.out (toD_lt HM.out HCL2.out U f h1), toD_app])
 clear hm hf hp hq ht1
 go_wp2_with (first
  | ((with_reducible refine atDst 13 ?_); refine wpList_new rfl 28 rfl id _ d0 hid HDZ.out rfl (Below.refl w2.heap.size w2) (Nat.le_refl _) ?_; intro w3 hk hb hs _; have K3 := qH hk; have B23 := qH hb; clear hk hb hs; (try simp only [Act.put, qA, qB, qC]))
  | ((with_reducible refine atStore 28 13 38 ?_); refine wpList_stBlk rfl 28 _ _ rfl w2.heap.size cs rfl rfl 28 _ K3.out HSA.out (by rw [HDL.out, HLA.out]) HOA.out B23.out (Nat.le_refl _) ?_; intro w4 hk hb hs ho; have K4 := qH hk; have BB4 := qH hb; have V4 := qH (VA.out.below hb); have B4 := qH (B2.out.trans (hb.mono B2.out.size)); clear hk hb hs ho; (try simp only [Act.put, qA, qB, qC]); obtain ⟨gd, hgd⟩ : ∃ g, g = w2.heap.size := ⟨_, rfl⟩; rw [← hgd] at K4; rw [← hgd]; clear hgd; have c256 : w4.cell? ⟨gd, 256, none⟩ = some (.slice An m cn) := (by rw [K4.out.cell 256, HCS.out]; exact dcl_n HCLN.out)))
 clear c256
 have RU4 := qH (RU.out.below B4.out)
 have RW4 := qH (RW.out.below B4.out)
 have HEN4 := qH (show Row w4 (.slice Ae m ce) (bools D.ends) from (HEN0.out.below (show Below w2.heap.size w2 w4 from BB4.out)))
 refine mc_start (fun V => Below w4.heap.size w4 V) (fun _ => True) 6 (by kernel_rfl) (fun wd hwd => ?_)
 have hX : Below w4.heap.size w4 wd := by rw [hwd]; exact (Below.refl _ _).drew
 have hY : True := trivial
 clear hwd
 refine mc_take (i := 0) (oi := ⟨some 45, _, _, _, _, _⟩) (v := .agg cs.toArray) rfl (by kernel_rfl) (by kernel_rfl) (by kernel_rfl) (fun _ _ _ h => h) rfl hX (fun V hT => ld_blk 28 (.tmp 13) rfl gd rfl 28 cs _ K4.out K4.out.lt Try.underlying28 rfl HSA.out V hT) ?_; simp only [Act.put, qA, qB, qC]
 refine mc_take (i := 2) (oi := ⟨some 47, _, _, _, _, _⟩) (v := .agg cs.toArray) rfl (by kernel_rfl) (by kernel_rfl) (by kernel_rfl) (fun _ _ _ h => h) rfl hX (fun V hT => ld_blk 28 (.tmp 13) rfl gd rfl 28 cs _ K4.out K4.out.lt Try.underlying28 rfl HSA.out V hT) ?_; simp only [Act.put, qA, qB, qC]
 refine mc_actB (i := 1) (o := ⟨some 46, _, _, _, _, _⟩) rfl (by kernel_rfl) rfl (fun K hK => ?_)
 have Y1 := qH hX
 go_wp2_with fail
 refine (mcReach_any D cs wd (V4.out.below hX)).mono ?_
 rintro e v1 ⟨za, rfl, hr, hb⟩
 have hr0 := hr
 obtain ⟨A3, c3, hza, _⟩ := hr0
 rw [bools_length, rchG_len HM.out, ← HMD.out] at hza
 subst hza
 have RA := qH hr
 clear hr
 have hX2 := Y1.out.trans (hb.mono Y1.out.size)
 clear hb
 go_wp2_with fail
 refine hK _ _ hX2 trivial ?_
 clear hK K hX
 have hX := hX2
 clear hX2
 (try simp only [Act.put, qA, qB, qC])
 refine mc_actB (i := 3) (o := ⟨some 48, _, _, _, _, _⟩) rfl (by kernel_rfl) rfl (fun K hK => ?_)
 have Y2 := qH hX
 go_wp2_with fail
 refine (mcLive_any D cs v1 (V4.out.below hX)).mono ?_
 rintro e v2 ⟨zb, rfl, hr, hb⟩
 have hr0 := hr
 obtain ⟨A4, c4, hzb, _⟩ := hr0
 rw [bools_length, lvgG_len HM.out, ← HMD.out] at hzb
 subst hzb
 have RB := qH hr
 have RA2 := qH (RA.out.below hb)
 clear hr
 have hX2 := Y2.out.trans (hb.mono Y2.out.size)
 clear hb
 go_wp2_with fail
 refine hK _ _ hX2 trivial ?_
 clear hK K hX
 have hX := hX2
 clear hX2
 (try simp only [Act.put, qA, qB, qC])
 refine mc_take (i := 4) (oi := ⟨some 15, _, _, _, _, _⟩) (v := ?_) rfl (by kernel_rfl) (by kernel_rfl) (by kernel_rfl) (fun _ _ _ h => h) rfl hX ?_ ?_; rotate_left; (intro W hW; go_simp; try with_reducible rfl); simp only [Act.put, qA, qB, qC]
 refine mc_take (i := 5) (oi := ⟨some 16, _, _, _, _, _⟩) (v := ?_) rfl (by kernel_rfl) (by kernel_rfl) (by kernel_rfl) (fun _ _ _ h => h) rfl hX ?_ ?_; rotate_left; (intro W hW; go_simp; try with_reducible rfl); simp only [Act.put, qA, qB, qC]
 refine wpAnyC_done (by kernel_rfl) ?_ _
 have K8 := qH (K4.out.below hX K4.out.lt)
 have V8 := qH (V4.out.below hX)
 have U8 := qH (RU4.out.below hX)
 have W8 := qH (RW4.out.below hX)
 have N8 := qH (HEN4.out.below hX)
 have B8 := qH (B4.out.trans (hX.mono B4.out.size))
 clear hX hY
 go_wp2_with ((with_reducible refine atDst 49 ?_); refine wpList_ldArr rfl 28 _ rfl gd rfl 28 _ _ K8.out Try.underlying28 rfl HSA.out ?_; (try simp only [Act.put, qA, qB, qC]))
 refine (mTo_any D 0 W cs _ v2 V8.out W8.out).mono ?_
 rintro e w9 ⟨rfl, hb⟩
 rw [HTP.out]
 have K9 := qH (K8.out.below hb K8.out.lt)
 have B9 := qH hb
 clear hb
 go_wp2_with ((with_reducible refine atDst 52 ?_); refine wpList_ldArr rfl 28 _ rfl gd rfl 28 _ _ K9.out Try.underlying28 rfl HSA.out ?_; (try simp only [Act.put, qA, qB, qC]))
 refine (mTo_any D (f : Int) W cs _ w9 (V8.out.below B9.out) (W8.out.below B9.out)).mono ?_
 rintro e wx ⟨rfl, hb⟩
 rw [HTQ.out]
 have BX := qH (B9.out.trans (hb.mono B9.out.size))
 have KX := qH (K8.out.below BX.out K8.out.lt)
 have VX := qH (V8.out.below BX.out)
 have UX := qH (U8.out.below BX.out)
 have WX := qH (W8.out.below BX.out)
 have NX := qH (N8.out.below BX.out)
 have RAX := qH (RA2.out.below BX.out)
 have RBX := qH (RB.out.below BX.out)
 have BZ := qH (B8.out.trans (BX.out.mono B8.out.size))
 clear hb
 have c256 : wx.cell? ⟨gd, 256, none⟩ = some (.slice An m cn) := by rw [KX.out.cell 256, HCS.out]; exact dcl_n HCLN.out
 have x5 : ((m : Int) != (m : Int)) = false := by simp
 have yp : (p : Int) < (m : Int) := Int.ofNat_lt.2 HPM.out
 have yq : (q : Int) < (m : Int) := Int.ofNat_lt.2 HQM.out
 have yf : (f : Int) < (m : Int) := Int.ofNat_lt.2 HFM.out
 have yp2 : ¬ ((m : Int) ≤ (p : Int)) := Int.not_le.2 yp
 have yq2 : ¬ ((m : Int) ≤ (q : Int)) := Int.not_le.2 yq
 go_wp2_with fail
 clear c256
 obtain ⟨b1, o1, rfl, L1, hc1⟩ := RAX.out.at_ (by rw [bools_length, rchG_len HM.out, ← HMD.out]; exact HMP.out)
 obtain ⟨b2, o2, rfl, L2, hc2⟩ := RBX.out.at_ (by rw [bools_length, lvgG_len HM.out, ← HMD.out]; exact HMP.out)
 obtain ⟨be, oe, rfl, L3, hc3⟩ := NX.out.at_ (by rw [bools_length, HEL.out]; exact HMP.out)
 obtain ⟨eb, heb⟩ : ∃ b, D.ends[q]? = some b := ⟨_, List.getElem?_eq_getElem (by rw [HEL.out]; exact HQM.out)⟩
 obtain ⟨rf, hrf⟩ : ∃ b, reaM D f = b := ⟨_, rfl⟩
 have CP := qH (show wx.cell? ⟨b1, o1 + p, none⟩ = some (.bool true) from hc1 p _ (by rw [bools, List.getElem?_map, rchG_at HM.out (by rw [← HMD.out]; exact HPM.out), HRP.out]; rfl))
 have CF := qH (show wx.cell? ⟨b1, o1 + f, none⟩ = some (.bool rf) from hc1 f _ (by rw [bools, List.getElem?_map, rchG_at HM.out (by rw [← HMD.out]; exact HFM.out), hrf]; rfl))
 have CQ := qH (show rf = true → wx.cell? ⟨b1, o1 + q, none⟩ = some (.bool true) from fun h => hc1 q _ (by rw [bools, List.getElem?_map, rchG_at HM.out (by rw [← HMD.out]; exact HQM.out), HRQ.out (by rw [hrf, h])]; rfl))
 have CL := qH (show eb = true → wx.cell? ⟨b2, o2 + f, none⟩ = some (.bool true) from fun h => hc2 f _ (by rw [bools, List.getElem?_map, lvgG_at HM.out (by rw [← HMD.out]; exact HFM.out), HLQ.out (by rw [heb, h])]; rfl))
 have CE := qH (show wx.cell? ⟨be, oe + q, none⟩ = some (.bool eb) from hc3 q _ (by rw [bools, List.getElem?_map, heb]; rfl))
 have C257 := qH (show wx.cell? ⟨gd, 257, none⟩ = some (.slice (some ⟨be, oe, none⟩) m ce) from (KX.out.cell 257).trans (by rw [HCS.out]; exact dcl_e HCLN.out))
 have HL1 := qH L1
 have HL2 := qH L2
 have HL3 := qH L3
 obtain ⟨t2, ht2⟩ : ∃ t, t = toG D t1 W := ⟨_, rfl⟩
 have HT2b := qH (show toG D (f : Int) (U ++ W) = t2 by rw [HT2.out, ht2])
 have HT3 := qH ht2.symm
 have HT1b := qH HT1.out.symm
 have HUL := qH (show 0 + (bvs U).length ≤ 2097152 by rw [bvs_length]; exact Nat.le_trans (Nat.le_of_eq (Nat.zero_add _)) (Nat.le_trans Hx2.out (by decide)))
 have HWL := qH (show 0 + (bvs U).length + (bvs W).length ≤ 2097152 by rw [bvs_length, bvs_length, Nat.zero_add]; exact Nat.le_trans (Nat.add_le_add Hx2.out Hx3.out) (by decide))
 obtain ⟨iy, hiy, hv0, hv1, hv2⟩ := infoC (show (Try.prog.info? 5).map (fun i => (i.zero, i.size, i.bytes)) = some (some (.int .u8 0), 1, 1) by kernel_rfl)
 clear L1 L2 L3 hc1 hc2 hc3 heb hrf ht2
 cases eb with
 | true =>
  cases rf with
  | true =>
   refine mc_start (fun V => Below wx.heap.size wx V) (fun _ => True) 50 (by kernel_rfl) (fun wd hwd => ?_)
   have hX : Below wx.heap.size wx wd := by rw [hwd]; exact (Below.refl _ _).drew
   have hY : True := trivial
   clear hwd
   have BD := qH hX
   refine mc_take (i := 0) (oi := ⟨some 87, _, _, _, _, _⟩) (v := .agg cs.toArray) rfl (by kernel_rfl) (by kernel_rfl) (by kernel_rfl) (fun _ _ _ h => h) rfl hX (fun V hT => ld_blk 28 (.tmp 13) rfl gd rfl 28 cs _ KX.out KX.out.lt Try.underlying28 rfl HSA.out V hT) ?_; simp only [Act.put, qA, qB, qC]
   refine mc_take (i := 1) (oi := ⟨some 88, _, _, _, _, _⟩) (v := ?_) rfl (by kernel_rfl) (by kernel_rfl) (by kernel_rfl) (fun _ _ _ h => h) rfl hX ?_ ?_; rotate_left; (intro W hW; go_simp; try with_reducible rfl); simp only [Act.put, qA, qB, qC]
   refine mc_take (i := 3) (oi := ⟨some 90, _, _, _, _, _⟩) (v := ?_) rfl (by kernel_rfl) (by kernel_rfl) (by kernel_rfl) (fun _ _ _ h => h) rfl hX ?_ ?_; rotate_left; (intro W hW; go_simp; try with_reducible rfl); simp only [Act.put, qA, qB, qC]
   refine mc_take (i := 5) (oi := ⟨some 92, _, _, _, _, _⟩) (v := ?_) rfl (by kernel_rfl) (by kernel_rfl) (by kernel_rfl) (fun _ _ _ h => h) rfl hX ?_ ?_; rotate_left; (intro W hW; go_simp; try with_reducible rfl); simp only [Act.put, qA, qB, qC]
   refine mc_take (i := 8) (oi := ⟨some 95, _, _, _, _, _⟩) (v := .agg cs.toArray) rfl (by kernel_rfl) (by kernel_rfl) (by kernel_rfl) (fun _ _ _ h => h) rfl hX (fun V hT => ld_blk 28 (.tmp 13) rfl gd rfl 28 cs _ KX.out KX.out.lt Try.underlying28 rfl HSA.out V hT) ?_; simp only [Act.put, qA, qB, qC]
   refine mc_take (i := 9) (oi := ⟨some 96, _, _, _, _, _⟩) (v := .agg cs.toArray) rfl (by kernel_rfl) (by kernel_rfl) (by kernel_rfl) (fun _ _ _ h => h) rfl hX (fun V hT => ld_blk 28 (.tmp 13) rfl gd rfl 28 cs _ KX.out KX.out.lt Try.underlying28 rfl HSA.out V hT) ?_; simp only [Act.put, qA, qB, qC]
   refine mc_take (i := 10) (oi := ⟨some 97, _, _, _, _, _⟩) (v := ?_) rfl (by kernel_rfl) (by kernel_rfl) (by kernel_rfl) (fun _ _ _ h => h) rfl hX ?_ ?_; rotate_left; (intro W hW; go_simp; try with_reducible rfl); simp only [Act.put, qA, qB, qC]
   refine mc_take (i := 11) (oi := ⟨some 98, _, _, _, _, _⟩) (v := ?_) rfl (by kernel_rfl) (by kernel_rfl) (by kernel_rfl) (fun _ _ _ h => h) rfl hX ?_ ?_; rotate_left; (intro W hW; go_simp; try with_reducible rfl); simp only [Act.put, qA, qB, qC]
   refine mc_take (i := 13) (oi := ⟨some 100, _, _, _, _, _⟩) (v := ?_) rfl (by kernel_rfl) (by kernel_rfl) (by kernel_rfl) (fun _ _ _ h => h) rfl hX ?_ ?_; rotate_left; (intro W hW; go_simp; try with_reducible rfl); simp only [Act.put, qA, qB, qC]
   refine mc_actB (i := 2) (o := ⟨some 89, _, _, _, _, _⟩) rfl (by kernel_rfl) rfl (fun K hK => ?_)
   refine wp_bld0M 22 5 rfl iy Try.underlying22 hiy (.int .u8 0) hv0 hv1 ?_
   intro wb ho hb
   have OB := qH ho
   have BB := qH (BD.out.trans (hb.mono BD.out.size))
   have HB0 := qH (show wd.heap.size ≤ wb.heap.size from hb.size)
   refine hK _ _ BB.out trivial ?_
   clear hK K hX ho hb
   have hX := BB.out
   (try simp only [Act.put, qA, qB, qC])
   refine mc_actB (i := 4) (o := ⟨some 91, _, _, _, _, _⟩) rfl (by kernel_rfl) rfl (fun K hK => ?_)
   refine wp_appW (base := wd.heap.size) (.tmp 89) (.tmp 90) 22 rfl 5 iy (.int .u8 0) 1 Try.underlying22 hiy hv0 hv1 hv2 rfl _ 0 [] rfl OB.out _ (bvs U) rfl (UX.out.below BB.out) (bvs_one _) HUL.out (by decide) HB0.out ?_
   intro va wc ho hg hw
   obtain ⟨n1, hn1⟩ : ∃ x, x = 0 + (bvs U).length := ⟨_, rfl⟩
   have HW1 := qH (show n1 + (bvs W).length ≤ 2097152 by rw [hn1]; exact HWL.out)
   rw [← hn1] at ho
   clear hn1
   have OC := qH ho
   have BC := qH (below_own BB.out BB.out.size hg fun k hk => Nat.le_trans BD.out.size (own6_lt OB.out k hk).2)
   have HC0 := qH (show wd.heap.size ≤ wc.heap.size from Nat.le_trans HB0.out hg.size)
   obtain ⟨AA, ca, rfl⟩ := ownC_slice ho
   refine hK _ _ BC.out trivial ?_
   clear hK K hX ho hg hw
   have hX := BC.out
   (try simp only [Act.put, qA, qB, qC])
   refine mc_actB (i := 6) (o := ⟨some 93, _, _, _, _, _⟩) rfl (by kernel_rfl) rfl (fun K hK => ?_)
   refine wp_appW (base := wd.heap.size) (.tmp 91) (.tmp 92) 22 rfl 5 iy (.int .u8 0) 1 Try.underlying22 hiy hv0 hv1 hv2 rfl _ _ ([] ++ bvs U) rfl OC.out _ (bvs W) rfl (WX.out.below BC.out) (bvs_one _) HW1.out (by decide) HC0.out ?_
   intro vb we ho hg hw
   obtain ⟨n2, hn2⟩ : ∃ x, x = n1 + (bvs W).length := ⟨_, rfl⟩
   rw [← hn2] at ho
   clear hn2
   have RE := qH (show Row we vb (bvs (U ++ W)) by
    have h1 := Row.of_own ho
    rw [List.nil_append] at h1
    rw [bvs, List.map_append]
    exact h1)
   have BE := qH (below_own BC.out BC.out.size hg fun k hk => Nat.le_trans BD.out.size (own6_lt OC.out k hk).2)
   obtain ⟨AB, cb, rfl⟩ := ownC_slice ho
   refine hK _ _ BE.out trivial ?_
   clear hK K hX ho hg hw
   have hX := BE.out
   (try simp only [Act.put, qA, qB, qC])
   refine mc_actB (i := 7) (o := ⟨some 94, _, _, _, _, _⟩) rfl (by kernel_rfl) rfl (fun K hK => ?_)
   have Y3 := qH hX
   go_wp2_with fail
   refine (mTo_any D (f : Int) (U ++ W) cs _ we (VX.out.below hX) RE.out).mono ?_
   rintro e v3 ⟨rfl, hb⟩
   rw [HT2b.out]
   have hX2 := Y3.out.trans (hb.mono Y3.out.size)
   clear hb
   go_wp2_with fail
   refine hK _ _ hX2 trivial ?_
   clear hK K hX
   have hX := hX2
   clear hX2
   (try simp only [Act.put, qA, qB, qC])
   refine mc_actB (i := 12) (o := ⟨some 99, _, _, _, _, _⟩) rfl (by kernel_rfl) rfl (fun K hK => ?_)
   have Y4 := qH hX
   go_wp2_with fail
   refine (mTo_any D (f : Int) U cs _ v3 (VX.out.below hX) (UX.out.below hX)).mono ?_
   rintro e v4 ⟨rfl, hb⟩
   rw [HT1b.out]
   have hX2 := Y4.out.trans (hb.mono Y4.out.size)
   clear hb
   go_wp2_with fail
   refine hK _ _ hX2 trivial ?_
   clear hK K hX
   have hX := hX2
   clear hX2
   (try simp only [Act.put, qA, qB, qC])
   refine mc_actB (i := 14) (o := ⟨some 101, _, _, _, _, _⟩) rfl (by kernel_rfl) rfl (fun K hK => ?_)
   have Y5 := qH hX
   go_wp2_with fail
   refine (mTo_any D t1 W cs _ v4 (VX.out.below hX) (WX.out.below hX)).mono ?_
   rintro e v5 ⟨rfl, hb⟩
   rw [HT3.out]
   have hX2 := Y5.out.trans (hb.mono Y5.out.size)
   clear hb
   go_wp2_with fail
   refine hK _ _ hX2 trivial ?_
   clear hK K hX
   have hX := hX2
   clear hX2
   (try simp only [Act.put, qA, qB, qC])
   refine mc_take (i := 15) (oi := ⟨some 102, _, _, _, _, _⟩) (v := .bool true) rfl (by kernel_rfl) (by kernel_rfl) (by kernel_rfl) (fun _ _ _ h => h) rfl hX (fun V _ => ex_eqII (.tmp 94) (.tmp 101) rfl rfl rfl V) ?_; simp only [Act.put, qA, qB, qC]
   refine mc_take (i := 16) (oi := ⟨some 103, _, _, _, _, _⟩) (v := ?_) rfl (by kernel_rfl) (by kernel_rfl) (by kernel_rfl) (fun _ _ _ h => h) rfl hX ?_ ?_; rotate_left; (intro W hW; go_simp; try with_reducible rfl); simp only [Act.put, qA, qB, qC]
   refine mc_take (i := 17) (oi := ⟨some 104, _, _, _, _, _⟩) (v := ?_) rfl (by kernel_rfl) (by kernel_rfl) (by kernel_rfl) (fun _ _ _ h => h) rfl hX ?_ ?_; rotate_left; (intro W hW; go_simp; try with_reducible rfl); simp only [Act.put, qA, qB, qC]
   refine mc_take (i := 18) (oi := ⟨some 105, _, _, _, _, _⟩) (v := ?_) rfl (by kernel_rfl) (by kernel_rfl) (by kernel_rfl) (fun _ _ _ h => h) rfl hX ?_ ?_; rotate_left; (intro W hW; go_simp; try with_reducible rfl); simp only [Act.put, qA, qB, qC]
   refine mc_take (i := 19) (oi := ⟨some 106, _, _, _, _, _⟩) (v := ?_) rfl (by kernel_rfl) (by kernel_rfl) (by kernel_rfl) (fun _ _ _ h => h) rfl hX ?_ ?_; rotate_left; (intro W hW; go_simp; try with_reducible rfl); simp only [Act.put, qA, qB, qC]
   refine mc_take (i := 20) (oi := ⟨some 107, _, _, _, _, _⟩) (v := .bool true) rfl (by kernel_rfl) (by kernel_rfl) (by kernel_rfl) (fun _ _ _ h => h) rfl hX (fun V hV => ld_bool9 (.tmp 106) rfl rfl ((hV.cell (p := ⟨b1, o1 + p, none⟩) HL1.out).trans CP.out)) ?_; simp only [Act.put, qA, qB, qC]
   refine mc_take (i := 21) (oi := ⟨some 108, _, _, _, _, _⟩) (v := ?_) rfl (by kernel_rfl) (by kernel_rfl) (by kernel_rfl) (fun _ _ _ h => h) rfl hX ?_ ?_; rotate_left; (intro W hW; go_simp; try with_reducible rfl); simp only [Act.put, qA, qB, qC]
   refine mc_take (i := 22) (oi := ⟨some 109, _, _, _, _, _⟩) (v := ?_) rfl (by kernel_rfl) (by kernel_rfl) (by kernel_rfl) (fun _ _ _ h => h) rfl hX ?_ ?_; rotate_left; (intro W hW; go_simp; try with_reducible rfl); simp only [Act.put, qA, qB, qC]
   refine mc_take (i := 23) (oi := ⟨some 110, _, _, _, _, _⟩) (v := ?_) rfl (by kernel_rfl) (by kernel_rfl) (by kernel_rfl) (fun _ _ _ h => h) rfl hX ?_ ?_; rotate_left; (intro W hW; go_simp; try with_reducible rfl); simp only [Act.put, qA, qB, qC]
   refine mc_take (i := 24) (oi := ⟨some 111, _, _, _, _, _⟩) (v := .slice (some ⟨be, oe, none⟩) m ce) rfl (by kernel_rfl) (by kernel_rfl) (by kernel_rfl) (fun _ _ _ h => h) rfl hX (fun V hV => ld_bls (.tmp 110) rfl rfl ((hV.cell (p := ⟨gd, 257, none⟩) KX.out.lt).trans C257.out)) ?_; simp only [Act.put, qA, qB, qC]
   refine mc_take (i := 25) (oi := ⟨some 112, _, _, _, _, _⟩) (v := ?_) rfl (by kernel_rfl) (by kernel_rfl) (by kernel_rfl) (fun _ _ _ h => h) rfl hX ?_ ?_; rotate_left; (intro W hW; go_simp; try with_reducible rfl); simp only [Act.put, qA, qB, qC]
   refine mc_take (i := 26) (oi := ⟨some 113, _, _, _, _, _⟩) (v := ?_) rfl (by kernel_rfl) (by kernel_rfl) (by kernel_rfl) (fun _ _ _ h => h) rfl hX ?_ ?_; rotate_left; (intro W hW; go_simp; try with_reducible rfl); simp only [Act.put, qA, qB, qC]
   refine mc_take (i := 27) (oi := ⟨some 114, _, _, _, _, _⟩) (v := .bool true) rfl (by kernel_rfl) (by kernel_rfl) (by kernel_rfl) (fun _ _ _ h => h) rfl hX (fun V hV => ld_bool9 (.tmp 113) rfl rfl ((hV.cell (p := ⟨be, oe + q, none⟩) HL3.out).trans CE.out)) ?_; simp only [Act.put, qA, qB, qC]
   refine mc_take (i := 28) (oi := ⟨some 115, _, _, _, _, _⟩) (v := ?_) rfl (by kernel_rfl) (by kernel_rfl) (by kernel_rfl) (fun _ _ _ h => h) rfl hX ?_ ?_; rotate_left; (intro W hW; go_simp; try with_reducible rfl); simp only [Act.put, qA, qB, qC]
   refine mc_take (i := 29) (oi := ⟨some 116, _, _, _, _, _⟩) (v := ?_) rfl (by kernel_rfl) (by kernel_rfl) (by kernel_rfl) (fun _ _ _ h => h) rfl hX ?_ ?_; rotate_left; (intro W hW; go_simp; try with_reducible rfl); simp only [Act.put, qA, qB, qC]
   refine mc_take (i := 30) (oi := ⟨some 117, _, _, _, _, _⟩) (v := ?_) rfl (by kernel_rfl) (by kernel_rfl) (by kernel_rfl) (fun _ _ _ h => h) rfl hX ?_ ?_; rotate_left; (intro W hW; go_simp; try with_reducible rfl); simp only [Act.put, qA, qB, qC]
   refine mc_take (i := 31) (oi := ⟨some 118, _, _, _, _, _⟩) (v := ?_) rfl (by kernel_rfl) (by kernel_rfl) (by kernel_rfl) (fun _ _ _ h => h) rfl hX ?_ ?_; rotate_left; (intro W hW; go_simp; try with_reducible rfl); simp only [Act.put, qA, qB, qC]
   refine mc_take (i := 32) (oi := ⟨some 119, _, _, _, _, _⟩) (v := ?_) rfl (by kernel_rfl) (by kernel_rfl) (by kernel_rfl) (fun _ _ _ h => h) rfl hX ?_ ?_; rotate_left; (intro W hW; go_simp; try with_reducible rfl); simp only [Act.put, qA, qB, qC]
   refine mc_take (i := 33) (oi := ⟨some 120, _, _, _, _, _⟩) (v := .bool true) rfl (by kernel_rfl) (by kernel_rfl) (by kernel_rfl) (fun _ _ _ h => h) rfl hX (fun V hV => ld_bool9 (.tmp 119) rfl rfl ((hV.cell (p := ⟨b2, o2 + f, none⟩) HL2.out).trans (CL.out (by trivial)))) ?_; simp only [Act.put, qA, qB, qC]
   refine mc_take (i := 34) (oi := ⟨some 121, _, _, _, _, _⟩) (v := ?_) rfl (by kernel_rfl) (by kernel_rfl) (by kernel_rfl) (fun _ _ _ h => h) rfl hX ?_ ?_; rotate_left; (intro W hW; go_simp; try with_reducible rfl); simp only [Act.put, qA, qB, qC]
   refine mc_take (i := 35) (oi := ⟨some 122, _, _, _, _, _⟩) (v := ?_) rfl (by kernel_rfl) (by kernel_rfl) (by kernel_rfl) (fun _ _ _ h => h) rfl hX ?_ ?_; rotate_left; (intro W hW; go_simp; try with_reducible rfl); simp only [Act.put, qA, qB, qC]
   refine mc_take (i := 36) (oi := ⟨some 123, _, _, _, _, _⟩) (v := ?_) rfl (by kernel_rfl) (by kernel_rfl) (by kernel_rfl) (fun _ _ _ h => h) rfl hX ?_ ?_; rotate_left; (intro W hW; go_simp; try with_reducible rfl); simp only [Act.put, qA, qB, qC]
   refine mc_take (i := 37) (oi := ⟨some 124, _, _, _, _, _⟩) (v := ?_) rfl (by kernel_rfl) (by kernel_rfl) (by kernel_rfl) (fun _ _ _ h => h) rfl hX ?_ ?_; rotate_left; (intro W hW; go_simp; try with_reducible rfl); simp only [Act.put, qA, qB, qC]
   refine mc_take (i := 38) (oi := ⟨some 125, _, _, _, _, _⟩) (v := ?_) rfl (by kernel_rfl) (by kernel_rfl) (by kernel_rfl) (fun _ _ _ h => h) rfl hX ?_ ?_; rotate_left; (intro W hW; go_simp; try with_reducible rfl); simp only [Act.put, qA, qB, qC]
   refine mc_take (i := 39) (oi := ⟨some 126, _, _, _, _, _⟩) (v := ?_) rfl (by kernel_rfl) (by kernel_rfl) (by kernel_rfl) (fun _ _ _ h => h) rfl hX ?_ ?_; rotate_left; (intro W hW; go_simp; try with_reducible rfl); simp only [Act.put, qA, qB, qC]
   refine mc_take (i := 40) (oi := ⟨some 127, _, _, _, _, _⟩) (v := .bool true) rfl (by kernel_rfl) (by kernel_rfl) (by kernel_rfl) (fun _ _ _ h => h) rfl hX (fun V hV => ld_bool9 (.tmp 126) rfl rfl ((hV.cell (p := ⟨b1, o1 + f, none⟩) HL1.out).trans CF.out)) ?_; simp only [Act.put, qA, qB, qC]
   refine mc_take (i := 41) (oi := ⟨some 128, _, _, _, _, _⟩) (v := ?_) rfl (by kernel_rfl) (by kernel_rfl) (by kernel_rfl) (fun _ _ _ h => h) rfl hX ?_ ?_; rotate_left; (intro W hW; go_simp; try with_reducible rfl); simp only [Act.put, qA, qB, qC]
   refine mc_take (i := 42) (oi := ⟨some 129, _, _, _, _, _⟩) (v := ?_) rfl (by kernel_rfl) (by kernel_rfl) (by kernel_rfl) (fun _ _ _ h => h) rfl hX ?_ ?_; rotate_left; (intro W hW; go_simp; try with_reducible rfl); simp only [Act.put, qA, qB, qC]
   refine mc_take (i := 43) (oi := ⟨some 130, _, _, _, _, _⟩) (v := ?_) rfl (by kernel_rfl) (by kernel_rfl) (by kernel_rfl) (fun _ _ _ h => h) rfl hX ?_ ?_; rotate_left; (intro W hW; go_simp; try with_reducible rfl); simp only [Act.put, qA, qB, qC]
   refine mc_take (i := 44) (oi := ⟨some 131, _, _, _, _, _⟩) (v := ?_) rfl (by kernel_rfl) (by kernel_rfl) (by kernel_rfl) (fun _ _ _ h => h) rfl hX ?_ ?_; rotate_left; (intro W hW; go_simp; try with_reducible rfl); simp only [Act.put, qA, qB, qC]
   refine mc_take (i := 45) (oi := ⟨some 132, _, _, _, _, _⟩) (v := ?_) rfl (by kernel_rfl) (by kernel_rfl) (by kernel_rfl) (fun _ _ _ h => h) rfl hX ?_ ?_; rotate_left; (intro W hW; go_simp; try with_reducible rfl); simp only [Act.put, qA, qB, qC]
   refine mc_take (i := 46) (oi := ⟨some 133, _, _, _, _, _⟩) (v := .bool true) rfl (by kernel_rfl) (by kernel_rfl) (by kernel_rfl) (fun _ _ _ h => h) rfl hX (fun V hV => ld_bool9 (.tmp 132) rfl rfl ((hV.cell (p := ⟨b1, o1 + q, none⟩) HL1.out).trans (CQ.out (by trivial)))) ?_; simp only [Act.put, qA, qB, qC]
   refine mc_take (i := 47) (oi := ⟨some 134, _, _, _, _, _⟩) (v := ?_) rfl (by kernel_rfl) (by kernel_rfl) (by kernel_rfl) (fun _ _ _ h => h) rfl hX ?_ ?_; rotate_left; (intro W hW; go_simp; try with_reducible rfl); simp only [Act.put, qA, qB, qC]
   refine mc_take (i := 48) (oi := ⟨some 135, _, _, _, _, _⟩) (v := ?_) rfl (by kernel_rfl) (by kernel_rfl) (by kernel_rfl) (fun _ _ _ h => h) rfl hX ?_ ?_; rotate_left; (intro W hW; go_simp; try with_reducible rfl); simp only [Act.put, qA, qB, qC]
   refine mc_take (i := 49) (oi := ⟨some 12, _, _, _, _, _⟩) (v := ?_) rfl (by kernel_rfl) (by kernel_rfl) (by kernel_rfl) (fun _ _ _ h => h) rfl hX ?_ ?_; rotate_left; (intro W hW; go_simp; try with_reducible rfl); simp only [Act.put, qA, qB, qC]
   refine wpAnyC_done (by kernel_rfl) ?_ _
   have BF := qH (BZ.out.trans (hX.mono BZ.out.size))
   clear hX hY
   go_wp2_with fail
   go_ret
   exact ⟨rfl, BF.out⟩
  | false =>
   refine mc_start (fun V => Below wx.heap.size wx V) (fun _ => True) 50 (by kernel_rfl) (fun wd hwd => ?_)
   have hX : Below wx.heap.size wx wd := by rw [hwd]; exact (Below.refl _ _).drew
   have hY : True := trivial
   clear hwd
   have BD := qH hX
   refine mc_take (i := 0) (oi := ⟨some 87, _, _, _, _, _⟩) (v := .agg cs.toArray) rfl (by kernel_rfl) (by kernel_rfl) (by kernel_rfl) (fun _ _ _ h => h) rfl hX (fun V hT => ld_blk 28 (.tmp 13) rfl gd rfl 28 cs _ KX.out KX.out.lt Try.underlying28 rfl HSA.out V hT) ?_; simp only [Act.put, qA, qB, qC]
   refine mc_take (i := 1) (oi := ⟨some 88, _, _, _, _, _⟩) (v := ?_) rfl (by kernel_rfl) (by kernel_rfl) (by kernel_rfl) (fun _ _ _ h => h) rfl hX ?_ ?_; rotate_left; (intro W hW; go_simp; try with_reducible rfl); simp only [Act.put, qA, qB, qC]
   refine mc_take (i := 3) (oi := ⟨some 90, _, _, _, _, _⟩) (v := ?_) rfl (by kernel_rfl) (by kernel_rfl) (by kernel_rfl) (fun _ _ _ h => h) rfl hX ?_ ?_; rotate_left; (intro W hW; go_simp; try with_reducible rfl); simp only [Act.put, qA, qB, qC]
   refine mc_take (i := 5) (oi := ⟨some 92, _, _, _, _, _⟩) (v := ?_) rfl (by kernel_rfl) (by kernel_rfl) (by kernel_rfl) (fun _ _ _ h => h) rfl hX ?_ ?_; rotate_left; (intro W hW; go_simp; try with_reducible rfl); simp only [Act.put, qA, qB, qC]
   refine mc_take (i := 8) (oi := ⟨some 95, _, _, _, _, _⟩) (v := .agg cs.toArray) rfl (by kernel_rfl) (by kernel_rfl) (by kernel_rfl) (fun _ _ _ h => h) rfl hX (fun V hT => ld_blk 28 (.tmp 13) rfl gd rfl 28 cs _ KX.out KX.out.lt Try.underlying28 rfl HSA.out V hT) ?_; simp only [Act.put, qA, qB, qC]
   refine mc_take (i := 9) (oi := ⟨some 96, _, _, _, _, _⟩) (v := .agg cs.toArray) rfl (by kernel_rfl) (by kernel_rfl) (by kernel_rfl) (fun _ _ _ h => h) rfl hX (fun V hT => ld_blk 28 (.tmp 13) rfl gd rfl 28 cs _ KX.out KX.out.lt Try.underlying28 rfl HSA.out V hT) ?_; simp only [Act.put, qA, qB, qC]
   refine mc_take (i := 10) (oi := ⟨some 97, _, _, _, _, _⟩) (v := ?_) rfl (by kernel_rfl) (by kernel_rfl) (by kernel_rfl) (fun _ _ _ h => h) rfl hX ?_ ?_; rotate_left; (intro W hW; go_simp; try with_reducible rfl); simp only [Act.put, qA, qB, qC]
   refine mc_take (i := 11) (oi := ⟨some 98, _, _, _, _, _⟩) (v := ?_) rfl (by kernel_rfl) (by kernel_rfl) (by kernel_rfl) (fun _ _ _ h => h) rfl hX ?_ ?_; rotate_left; (intro W hW; go_simp; try with_reducible rfl); simp only [Act.put, qA, qB, qC]
   refine mc_take (i := 13) (oi := ⟨some 100, _, _, _, _, _⟩) (v := ?_) rfl (by kernel_rfl) (by kernel_rfl) (by kernel_rfl) (fun _ _ _ h => h) rfl hX ?_ ?_; rotate_left; (intro W hW; go_simp; try with_reducible rfl); simp only [Act.put, qA, qB, qC]
   refine mc_actB (i := 2) (o := ⟨some 89, _, _, _, _, _⟩) rfl (by kernel_rfl) rfl (fun K hK => ?_)
   refine wp_bld0M 22 5 rfl iy Try.underlying22 hiy (.int .u8 0) hv0 hv1 ?_
   intro wb ho hb
   have OB := qH ho
   have BB := qH (BD.out.trans (hb.mono BD.out.size))
   have HB0 := qH (show wd.heap.size ≤ wb.heap.size from hb.size)
   refine hK _ _ BB.out trivial ?_
   clear hK K hX ho hb
   have hX := BB.out
   (try simp only [Act.put, qA, qB, qC])
   refine mc_actB (i := 4) (o := ⟨some 91, _, _, _, _, _⟩) rfl (by kernel_rfl) rfl (fun K hK => ?_)
   refine wp_appW (base := wd.heap.size) (.tmp 89) (.tmp 90) 22 rfl 5 iy (.int .u8 0) 1 Try.underlying22 hiy hv0 hv1 hv2 rfl _ 0 [] rfl OB.out _ (bvs U) rfl (UX.out.below BB.out) (bvs_one _) HUL.out (by decide) HB0.out ?_
   intro va wc ho hg hw
   obtain ⟨n1, hn1⟩ : ∃ x, x = 0 + (bvs U).length := ⟨_, rfl⟩
   have HW1 := qH (show n1 + (bvs W).length ≤ 2097152 by rw [hn1]; exact HWL.out)
   rw [← hn1] at ho
   clear hn1
   have OC := qH ho
   have BC := qH (below_own BB.out BB.out.size hg fun k hk => Nat.le_trans BD.out.size (own6_lt OB.out k hk).2)
   have HC0 := qH (show wd.heap.size ≤ wc.heap.size from Nat.le_trans HB0.out hg.size)
   obtain ⟨AA, ca, rfl⟩ := ownC_slice ho
   refine hK _ _ BC.out trivial ?_
   clear hK K hX ho hg hw
   have hX := BC.out
   (try simp only [Act.put, qA, qB, qC])
   refine mc_actB (i := 6) (o := ⟨some 93, _, _, _, _, _⟩) rfl (by kernel_rfl) rfl (fun K hK => ?_)
   refine wp_appW (base := wd.heap.size) (.tmp 91) (.tmp 92) 22 rfl 5 iy (.int .u8 0) 1 Try.underlying22 hiy hv0 hv1 hv2 rfl _ _ ([] ++ bvs U) rfl OC.out _ (bvs W) rfl (WX.out.below BC.out) (bvs_one _) HW1.out (by decide) HC0.out ?_
   intro vb we ho hg hw
   obtain ⟨n2, hn2⟩ : ∃ x, x = n1 + (bvs W).length := ⟨_, rfl⟩
   rw [← hn2] at ho
   clear hn2
   have RE := qH (show Row we vb (bvs (U ++ W)) by
    have h1 := Row.of_own ho
    rw [List.nil_append] at h1
    rw [bvs, List.map_append]
    exact h1)
   have BE := qH (below_own BC.out BC.out.size hg fun k hk => Nat.le_trans BD.out.size (own6_lt OC.out k hk).2)
   obtain ⟨AB, cb, rfl⟩ := ownC_slice ho
   refine hK _ _ BE.out trivial ?_
   clear hK K hX ho hg hw
   have hX := BE.out
   (try simp only [Act.put, qA, qB, qC])
   refine mc_actB (i := 7) (o := ⟨some 94, _, _, _, _, _⟩) rfl (by kernel_rfl) rfl (fun K hK => ?_)
   have Y3 := qH hX
   go_wp2_with fail
   refine (mTo_any D (f : Int) (U ++ W) cs _ we (VX.out.below hX) RE.out).mono ?_
   rintro e v3 ⟨rfl, hb⟩
   rw [HT2b.out]
   have hX2 := Y3.out.trans (hb.mono Y3.out.size)
   clear hb
   go_wp2_with fail
   refine hK _ _ hX2 trivial ?_
   clear hK K hX
   have hX := hX2
   clear hX2
   (try simp only [Act.put, qA, qB, qC])
   refine mc_actB (i := 12) (o := ⟨some 99, _, _, _, _, _⟩) rfl (by kernel_rfl) rfl (fun K hK => ?_)
   have Y4 := qH hX
   go_wp2_with fail
   refine (mTo_any D (f : Int) U cs _ v3 (VX.out.below hX) (UX.out.below hX)).mono ?_
   rintro e v4 ⟨rfl, hb⟩
   rw [HT1b.out]
   have hX2 := Y4.out.trans (hb.mono Y4.out.size)
   clear hb
   go_wp2_with fail
   refine hK _ _ hX2 trivial ?_
   clear hK K hX
   have hX := hX2
   clear hX2
   (try simp only [Act.put, qA, qB, qC])
   refine mc_actB (i := 14) (o := ⟨some 101, _, _, _, _, _⟩) rfl (by kernel_rfl) rfl (fun K hK => ?_)
   have Y5 := qH hX
   go_wp2_with fail
   refine (mTo_any D t1 W cs _ v4 (VX.out.below hX) (WX.out.below hX)).mono ?_
   rintro e v5 ⟨rfl, hb⟩
   rw [HT3.out]
   have hX2 := Y5.out.trans (hb.mono Y5.out.size)
   clear hb
   go_wp2_with fail
   refine hK _ _ hX2 trivial ?_
   clear hK K hX
   have hX := hX2
   clear hX2
   (try simp only [Act.put, qA, qB, qC])
   refine mc_take (i := 15) (oi := ⟨some 102, _, _, _, _, _⟩) (v := .bool true) rfl (by kernel_rfl) (by kernel_rfl) (by kernel_rfl) (fun _ _ _ h => h) rfl hX (fun V _ => ex_eqII (.tmp 94) (.tmp 101) rfl rfl rfl V) ?_; simp only [Act.put, qA, qB, qC]
   refine mc_take (i := 16) (oi := ⟨some 103, _, _, _, _, _⟩) (v := ?_) rfl (by kernel_rfl) (by kernel_rfl) (by kernel_rfl) (fun _ _ _ h => h) rfl hX ?_ ?_; rotate_left; (intro W hW; go_simp; try with_reducible rfl); simp only [Act.put, qA, qB, qC]
   refine mc_take (i := 17) (oi := ⟨some 104, _, _, _, _, _⟩) (v := ?_) rfl (by kernel_rfl) (by kernel_rfl) (by kernel_rfl) (fun _ _ _ h => h) rfl hX ?_ ?_; rotate_left; (intro W hW; go_simp; try with_reducible rfl); simp only [Act.put, qA, qB, qC]
   refine mc_take (i := 18) (oi := ⟨some 105, _, _, _, _, _⟩) (v := ?_) rfl (by kernel_rfl) (by kernel_rfl) (by kernel_rfl) (fun _ _ _ h => h) rfl hX ?_ ?_; rotate_left; (intro W hW; go_simp; try with_reducible rfl); simp only [Act.put, qA, qB, qC]
   refine mc_take (i := 19) (oi := ⟨some 106, _, _, _, _, _⟩) (v := ?_) rfl (by kernel_rfl) (by kernel_rfl) (by kernel_rfl) (fun _ _ _ h => h) rfl hX ?_ ?_; rotate_left; (intro W hW; go_simp; try with_reducible rfl); simp only [Act.put, qA, qB, qC]
   refine mc_take (i := 20) (oi := ⟨some 107, _, _, _, _, _⟩) (v := .bool true) rfl (by kernel_rfl) (by kernel_rfl) (by kernel_rfl) (fun _ _ _ h => h) rfl hX (fun V hV => ld_bool9 (.tmp 106) rfl rfl ((hV.cell (p := ⟨b1, o1 + p, none⟩) HL1.out).trans CP.out)) ?_; simp only [Act.put, qA, qB, qC]
   refine mc_take (i := 21) (oi := ⟨some 108, _, _, _, _, _⟩) (v := ?_) rfl (by kernel_rfl) (by kernel_rfl) (by kernel_rfl) (fun _ _ _ h => h) rfl hX ?_ ?_; rotate_left; (intro W hW; go_simp; try with_reducible rfl); simp only [Act.put, qA, qB, qC]
   refine mc_take (i := 22) (oi := ⟨some 109, _, _, _, _, _⟩) (v := ?_) rfl (by kernel_rfl) (by kernel_rfl) (by kernel_rfl) (fun _ _ _ h => h) rfl hX ?_ ?_; rotate_left; (intro W hW; go_simp; try with_reducible rfl); simp only [Act.put, qA, qB, qC]
   refine mc_take (i := 23) (oi := ⟨some 110, _, _, _, _, _⟩) (v := ?_) rfl (by kernel_rfl) (by kernel_rfl) (by kernel_rfl) (fun _ _ _ h => h) rfl hX ?_ ?_; rotate_left; (intro W hW; go_simp; try with_reducible rfl); simp only [Act.put, qA, qB, qC]
   refine mc_take (i := 24) (oi := ⟨some 111, _, _, _, _, _⟩) (v := .slice (some ⟨be, oe, none⟩) m ce) rfl (by kernel_rfl) (by kernel_rfl) (by kernel_rfl) (fun _ _ _ h => h) rfl hX (fun V hV => ld_bls (.tmp 110) rfl rfl ((hV.cell (p := ⟨gd, 257, none⟩) KX.out.lt).trans C257.out)) ?_; simp only [Act.put, qA, qB, qC]
   refine mc_take (i := 25) (oi := ⟨some 112, _, _, _, _, _⟩) (v := ?_) rfl (by kernel_rfl) (by kernel_rfl) (by kernel_rfl) (fun _ _ _ h => h) rfl hX ?_ ?_; rotate_left; (intro W hW; go_simp; try with_reducible rfl); simp only [Act.put, qA, qB, qC]
   refine mc_take (i := 26) (oi := ⟨some 113, _, _, _, _, _⟩) (v := ?_) rfl (by kernel_rfl) (by kernel_rfl) (by kernel_rfl) (fun _ _ _ h => h) rfl hX ?_ ?_; rotate_left; (intro W hW; go_simp; try with_reducible rfl); simp only [Act.put, qA, qB, qC]
   refine mc_take (i := 27) (oi := ⟨some 114, _, _, _, _, _⟩) (v := .bool true) rfl (by kernel_rfl) (by kernel_rfl) (by kernel_rfl) (fun _ _ _ h => h) rfl hX (fun V hV => ld_bool9 (.tmp 113) rfl rfl ((hV.cell (p := ⟨be, oe + q, none⟩) HL3.out).trans CE.out)) ?_; simp only [Act.put, qA, qB, qC]
   refine mc_take (i := 28) (oi := ⟨some 115, _, _, _, _, _⟩) (v := ?_) rfl (by kernel_rfl) (by kernel_rfl) (by kernel_rfl) (fun _ _ _ h => h) rfl hX ?_ ?_; rotate_left; (intro W hW; go_simp; try with_reducible rfl); simp only [Act.put, qA, qB, qC]
   refine mc_take (i := 29) (oi := ⟨some 116, _, _, _, _, _⟩) (v := ?_) rfl (by kernel_rfl) (by kernel_rfl) (by kernel_rfl) (fun _ _ _ h => h) rfl hX ?_ ?_; rotate_left; (intro W hW; go_simp; try with_reducible rfl); simp only [Act.put, qA, qB, qC]
   refine mc_take (i := 30) (oi := ⟨some 117, _, _, _, _, _⟩) (v := ?_) rfl (by kernel_rfl) (by kernel_rfl) (by kernel_rfl) (fun _ _ _ h => h) rfl hX ?_ ?_; rotate_left; (intro W hW; go_simp; try with_reducible rfl); simp only [Act.put, qA, qB, qC]
   refine mc_take (i := 31) (oi := ⟨some 118, _, _, _, _, _⟩) (v := ?_) rfl (by kernel_rfl) (by kernel_rfl) (by kernel_rfl) (fun _ _ _ h => h) rfl hX ?_ ?_; rotate_left; (intro W hW; go_simp; try with_reducible rfl); simp only [Act.put, qA, qB, qC]
   refine mc_take (i := 32) (oi := ⟨some 119, _, _, _, _, _⟩) (v := ?_) rfl (by kernel_rfl) (by kernel_rfl) (by kernel_rfl) (fun _ _ _ h => h) rfl hX ?_ ?_; rotate_left; (intro W hW; go_simp; try with_reducible rfl); simp only [Act.put, qA, qB, qC]
   refine mc_take (i := 33) (oi := ⟨some 120, _, _, _, _, _⟩) (v := .bool true) rfl (by kernel_rfl) (by kernel_rfl) (by kernel_rfl) (fun _ _ _ h => h) rfl hX (fun V hV => ld_bool9 (.tmp 119) rfl rfl ((hV.cell (p := ⟨b2, o2 + f, none⟩) HL2.out).trans (CL.out (by trivial)))) ?_; simp only [Act.put, qA, qB, qC]
   refine mc_take (i := 34) (oi := ⟨some 121, _, _, _, _, _⟩) (v := ?_) rfl (by kernel_rfl) (by kernel_rfl) (by kernel_rfl) (fun _ _ _ h => h) rfl hX ?_ ?_; rotate_left; (intro W hW; go_simp; try with_reducible rfl); simp only [Act.put, qA, qB, qC]
   refine mc_take (i := 35) (oi := ⟨some 122, _, _, _, _, _⟩) (v := ?_) rfl (by kernel_rfl) (by kernel_rfl) (by kernel_rfl) (fun _ _ _ h => h) rfl hX ?_ ?_; rotate_left; (intro W hW; go_simp; try with_reducible rfl); simp only [Act.put, qA, qB, qC]
   refine mc_take (i := 36) (oi := ⟨some 123, _, _, _, _, _⟩) (v := ?_) rfl (by kernel_rfl) (by kernel_rfl) (by kernel_rfl) (fun _ _ _ h => h) rfl hX ?_ ?_; rotate_left; (intro W hW; go_simp; try with_reducible rfl); simp only [Act.put, qA, qB, qC]
   refine mc_take (i := 37) (oi := ⟨some 124, _, _, _, _, _⟩) (v := ?_) rfl (by kernel_rfl) (by kernel_rfl) (by kernel_rfl) (fun _ _ _ h => h) rfl hX ?_ ?_; rotate_left; (intro W hW; go_simp; try with_reducible rfl); simp only [Act.put, qA, qB, qC]
   refine mc_take (i := 38) (oi := ⟨some 125, _, _, _, _, _⟩) (v := ?_) rfl (by kernel_rfl) (by kernel_rfl) (by kernel_rfl) (fun _ _ _ h => h) rfl hX ?_ ?_; rotate_left; (intro W hW; go_simp; try with_reducible rfl); simp only [Act.put, qA, qB, qC]
   refine mc_take (i := 39) (oi := ⟨some 126, _, _, _, _, _⟩) (v := ?_) rfl (by kernel_rfl) (by kernel_rfl) (by kernel_rfl) (fun _ _ _ h => h) rfl hX ?_ ?_; rotate_left; (intro W hW; go_simp; try with_reducible rfl); simp only [Act.put, qA, qB, qC]
   refine mc_take (i := 40) (oi := ⟨some 127, _, _, _, _, _⟩) (v := .bool false) rfl (by kernel_rfl) (by kernel_rfl) (by kernel_rfl) (fun _ _ _ h => h) rfl hX (fun V hV => ld_bool9 (.tmp 126) rfl rfl ((hV.cell (p := ⟨b1, o1 + f, none⟩) HL1.out).trans CF.out)) ?_; simp only [Act.put, qA, qB, qC]
   refine mc_take (i := 41) (oi := ⟨some 128, _, _, _, _, _⟩) (v := ?_) rfl (by kernel_rfl) (by kernel_rfl) (by kernel_rfl) (fun _ _ _ h => h) rfl hX ?_ ?_; rotate_left; (intro W hW; go_simp; try with_reducible rfl); simp only [Act.put, qA, qB, qC]
   refine mc_take (i := 42) (oi := ⟨some 129, _, _, _, _, _⟩) (v := ?_) rfl (by kernel_rfl) (by kernel_rfl) (by kernel_rfl) (fun _ _ _ h => h) rfl hX ?_ ?_; rotate_left; (intro W hW; go_simp; try with_reducible rfl); simp only [Act.put, qA, qB, qC]
   refine mc_skip (i := 43) (oi := ⟨some 130, _, _, _, _, _⟩) rfl (by kernel_rfl) (by kernel_rfl) (by kernel_rfl) (fun _ _ _ h => h) rfl hX ?_; simp only [Act.put, qA, qB, qC]
   refine mc_skip (i := 44) (oi := ⟨some 131, _, _, _, _, _⟩) rfl (by kernel_rfl) (by kernel_rfl) (by kernel_rfl) (fun _ _ _ h => h) rfl hX ?_; simp only [Act.put, qA, qB, qC]
   refine mc_skip (i := 45) (oi := ⟨some 132, _, _, _, _, _⟩) rfl (by kernel_rfl) (by kernel_rfl) (by kernel_rfl) (fun _ _ _ h => h) rfl hX ?_; simp only [Act.put, qA, qB, qC]
   refine mc_skip (i := 46) (oi := ⟨some 133, _, _, _, _, _⟩) rfl (by kernel_rfl) (by kernel_rfl) (by kernel_rfl) (fun _ _ _ h => h) rfl hX ?_; simp only [Act.put, qA, qB, qC]
   refine mc_take (i := 47) (oi := ⟨some 134, _, _, _, _, _⟩) (v := ?_) rfl (by kernel_rfl) (by kernel_rfl) (by kernel_rfl) (fun _ _ _ h => h) rfl hX ?_ ?_; rotate_left; (intro W hW; go_simp; try with_reducible rfl); simp only [Act.put, qA, qB, qC]
   refine mc_take (i := 48) (oi := ⟨some 135, _, _, _, _, _⟩) (v := ?_) rfl (by kernel_rfl) (by kernel_rfl) (by kernel_rfl) (fun _ _ _ h => h) rfl hX ?_ ?_; rotate_left; (intro W hW; go_simp; try with_reducible rfl); simp only [Act.put, qA, qB, qC]
   refine mc_take (i := 49) (oi := ⟨some 12, _, _, _, _, _⟩) (v := ?_) rfl (by kernel_rfl) (by kernel_rfl) (by kernel_rfl) (fun _ _ _ h => h) rfl hX ?_ ?_; rotate_left; (intro W hW; go_simp; try with_reducible rfl); simp only [Act.put, qA, qB, qC]
   refine wpAnyC_done (by kernel_rfl) ?_ _
   have BF := qH (BZ.out.trans (hX.mono BZ.out.size))
   clear hX hY
   go_wp2_with fail
   go_ret
   exact ⟨rfl, BF.out⟩
 | false =>
  cases rf with
  | true =>
   refine mc_start (fun V => Below wx.heap.size wx V) (fun _ => True) 50 (by kernel_rfl) (fun wd hwd => ?_)
   have hX : Below wx.heap.size wx wd := by rw [hwd]; exact (Below.refl _ _).drew
   have hY : True := trivial
   clear hwd
   have BD := qH hX
   refine mc_take (i := 0) (oi := ⟨some 87, _, _, _, _, _⟩) (v := .agg cs.toArray) rfl (by kernel_rfl) (by kernel_rfl) (by kernel_rfl) (fun _ _ _ h => h) rfl hX (fun V hT => ld_blk 28 (.tmp 13) rfl gd rfl 28 cs _ KX.out KX.out.lt Try.underlying28 rfl HSA.out V hT) ?_; simp only [Act.put, qA, qB, qC]
   refine mc_take (i := 1) (oi := ⟨some 88, _, _, _, _, _⟩) (v := ?_) rfl (by kernel_rfl) (by kernel_rfl) (by kernel_rfl) (fun _ _ _ h => h) rfl hX ?_ ?_; rotate_left; (intro W hW; go_simp; try with_reducible rfl); simp only [Act.put, qA, qB, qC]
   refine mc_take (i := 3) (oi := ⟨some 90, _, _, _, _, _⟩) (v := ?_) rfl (by kernel_rfl) (by kernel_rfl) (by kernel_rfl) (fun _ _ _ h => h) rfl hX ?_ ?_; rotate_left; (intro W hW; go_simp; try with_reducible rfl); simp only [Act.put, qA, qB, qC]
   refine mc_take (i := 5) (oi := ⟨some 92, _, _, _, _, _⟩) (v := ?_) rfl (by kernel_rfl) (by kernel_rfl) (by kernel_rfl) (fun _ _ _ h => h) rfl hX ?_ ?_; rotate_left; (intro W hW; go_simp; try with_reducible rfl); simp only [Act.put, qA, qB, qC]
   refine mc_take (i := 8) (oi := ⟨some 95, _, _, _, _, _⟩) (v := .agg cs.toArray) rfl (by kernel_rfl) (by kernel_rfl) (by kernel_rfl) (fun _ _ _ h => h) rfl hX (fun V hT => ld_blk 28 (.tmp 13) rfl gd rfl 28 cs _ KX.out KX.out.lt Try.underlying28 rfl HSA.out V hT) ?_; simp only [Act.put, qA, qB, qC]
   refine mc_take (i := 9) (oi := ⟨some 96, _, _, _, _, _⟩) (v := .agg cs.toArray) rfl (by kernel_rfl) (by kernel_rfl) (by kernel_rfl) (fun _ _ _ h => h) rfl hX (fun V hT => ld_blk 28 (.tmp 13) rfl gd rfl 28 cs _ KX.out KX.out.lt Try.underlying28 rfl HSA.out V hT) ?_; simp only [Act.put, qA, qB, qC]
   refine mc_take (i := 10) (oi := ⟨some 97, _, _, _, _, _⟩) (v := ?_) rfl (by kernel_rfl) (by kernel_rfl) (by kernel_rfl) (fun _ _ _ h => h) rfl hX ?_ ?_; rotate_left; (intro W hW; go_simp; try with_reducible rfl); simp only [Act.put, qA, qB, qC]
   refine mc_take (i := 11) (oi := ⟨some 98, _, _, _, _, _⟩) (v := ?_) rfl (by kernel_rfl) (by kernel_rfl) (by kernel_rfl) (fun _ _ _ h => h) rfl hX ?_ ?_; rotate_left; (intro W hW; go_simp; try with_reducible rfl); simp only [Act.put, qA, qB, qC]
   refine mc_take (i := 13) (oi := ⟨some 100, _, _, _, _, _⟩) (v := ?_) rfl (by kernel_rfl) (by kernel_rfl) (by kernel_rfl) (fun _ _ _ h => h) rfl hX ?_ ?_; rotate_left; (intro W hW; go_simp; try with_reducible rfl); simp only [Act.put, qA, qB, qC]
   refine mc_actB (i := 2) (o := ⟨some 89, _, _, _, _, _⟩) rfl (by kernel_rfl) rfl (fun K hK => ?_)
   refine wp_bld0M 22 5 rfl iy Try.underlying22 hiy (.int .u8 0) hv0 hv1 ?_
   intro wb ho hb
   have OB := qH ho
   have BB := qH (BD.out.trans (hb.mono BD.out.size))
   have HB0 := qH (show wd.heap.size ≤ wb.heap.size from hb.size)
   refine hK _ _ BB.out trivial ?_
   clear hK K hX ho hb
   have hX := BB.out
   (try simp only [Act.put, qA, qB, qC])
   refine mc_actB (i := 4) (o := ⟨some 91, _, _, _, _, _⟩) rfl (by kernel_rfl) rfl (fun K hK => ?_)
   refine wp_appW (base := wd.heap.size) (.tmp 89) (.tmp 90) 22 rfl 5 iy (.int .u8 0) 1 Try.underlying22 hiy hv0 hv1 hv2 rfl _ 0 [] rfl OB.out _ (bvs U) rfl (UX.out.below BB.out) (bvs_one _) HUL.out (by decide) HB0.out ?_
   intro va wc ho hg hw
   obtain ⟨n1, hn1⟩ : ∃ x, x = 0 + (bvs U).length := ⟨_, rfl⟩
   have HW1 := qH (show n1 + (bvs W).length ≤ 2097152 by rw [hn1]; exact HWL.out)
   rw [← hn1] at ho
   clear hn1
   have OC := qH ho
   have BC := qH (below_own BB.out BB.out.size hg fun k hk => Nat.le_trans BD.out.size (own6_lt OB.out k hk).2)
   have HC0 := qH (show wd.heap.size ≤ wc.heap.size from Nat.le_trans HB0.out hg.size)
   obtain ⟨AA, ca, rfl⟩ := ownC_slice ho
   refine hK _ _ BC.out trivial ?_
   clear hK K hX ho hg hw
   have hX := BC.out
   (try simp only [Act.put, qA, qB, qC])
   refine mc_actB (i := 6) (o := ⟨some 93, _, _, _, _, _⟩) rfl (by kernel_rfl) rfl (fun K hK => ?_)
   refine wp_appW (base := wd.heap.size) (.tmp 91) (.tmp 92) 22 rfl 5 iy (.int .u8 0) 1 Try.underlying22 hiy hv0 hv1 hv2 rfl _ _ ([] ++ bvs U) rfl OC.out _ (bvs W) rfl (WX.out.below BC.out) (bvs_one _) HW1.out (by decide) HC0.out ?_
   intro vb we ho hg hw
   obtain ⟨n2, hn2⟩ : ∃ x, x = n1 + (bvs W).length := ⟨_, rfl⟩
   rw [← hn2] at ho
   clear hn2
   have RE := qH (show Row we vb (bvs (U ++ W)) by
    have h1 := Row.of_own ho
    rw [List.nil_append] at h1
    rw [bvs, List.map_append]
    exact h1)
   have BE := qH (below_own BC.out BC.out.size hg fun k hk => Nat.le_trans BD.out.size (own6_lt OC.out k hk).2)
   obtain ⟨AB, cb, rfl⟩ := ownC_slice ho
   refine hK _ _ BE.out trivial ?_
   clear hK K hX ho hg hw
   have hX := BE.out
   (try simp only [Act.put, qA, qB, qC])
   refine mc_actB (i := 7) (o := ⟨some 94, _, _, _, _, _⟩) rfl (by kernel_rfl) rfl (fun K hK => ?_)
   have Y3 := qH hX
   go_wp2_with fail
   refine (mTo_any D (f : Int) (U ++ W) cs _ we (VX.out.below hX) RE.out).mono ?_
   rintro e v3 ⟨rfl, hb⟩
   rw [HT2b.out]
   have hX2 := Y3.out.trans (hb.mono Y3.out.size)
   clear hb
   go_wp2_with fail
   refine hK _ _ hX2 trivial ?_
   clear hK K hX
   have hX := hX2
   clear hX2
   (try simp only [Act.put, qA, qB, qC])
   refine mc_actB (i := 12) (o := ⟨some 99, _, _, _, _, _⟩) rfl (by kernel_rfl) rfl (fun K hK => ?_)
   have Y4 := qH hX
   go_wp2_with fail
   refine (mTo_any D (f : Int) U cs _ v3 (VX.out.below hX) (UX.out.below hX)).mono ?_
   rintro e v4 ⟨rfl, hb⟩
   rw [HT1b.out]
   have hX2 := Y4.out.trans (hb.mono Y4.out.size)
   clear hb
   go_wp2_with fail
   refine hK _ _ hX2 trivial ?_
   clear hK K hX
   have hX := hX2
   clear hX2
   (try simp only [Act.put, qA, qB, qC])
   refine mc_actB (i := 14) (o := ⟨some 101, _, _, _, _, _⟩) rfl (by kernel_rfl) rfl (fun K hK => ?_)
   have Y5 := qH hX
   go_wp2_with fail
   refine (mTo_any D t1 W cs _ v4 (VX.out.below hX) (WX.out.below hX)).mono ?_
   rintro e v5 ⟨rfl, hb⟩
   rw [HT3.out]
   have hX2 := Y5.out.trans (hb.mono Y5.out.size)
   clear hb
   go_wp2_with fail
   refine hK _ _ hX2 trivial ?_
   clear hK K hX
   have hX := hX2
   clear hX2
   (try simp only [Act.put, qA, qB, qC])
   refine mc_take (i := 15) (oi := ⟨some 102, _, _, _, _, _⟩) (v := .bool true) rfl (by kernel_rfl) (by kernel_rfl) (by kernel_rfl) (fun _ _ _ h => h) rfl hX (fun V _ => ex_eqII (.tmp 94) (.tmp 101) rfl rfl rfl V) ?_; simp only [Act.put, qA, qB, qC]
   refine mc_take (i := 16) (oi := ⟨some 103, _, _, _, _, _⟩) (v := ?_) rfl (by kernel_rfl) (by kernel_rfl) (by kernel_rfl) (fun _ _ _ h => h) rfl hX ?_ ?_; rotate_left; (intro W hW; go_simp; try with_reducible rfl); simp only [Act.put, qA, qB, qC]
   refine mc_take (i := 17) (oi := ⟨some 104, _, _, _, _, _⟩) (v := ?_) rfl (by kernel_rfl) (by kernel_rfl) (by kernel_rfl) (fun _ _ _ h => h) rfl hX ?_ ?_; rotate_left; (intro W hW; go_simp; try with_reducible rfl); simp only [Act.put, qA, qB, qC]
   refine mc_take (i := 18) (oi := ⟨some 105, _, _, _, _, _⟩) (v := ?_) rfl (by kernel_rfl) (by kernel_rfl) (by kernel_rfl) (fun _ _ _ h => h) rfl hX ?_ ?_; rotate_left; (intro W hW; go_simp; try with_reducible rfl); simp only [Act.put, qA, qB, qC]
   refine mc_take (i := 19) (oi := ⟨some 106, _, _, _, _, _⟩) (v := ?_) rfl (by kernel_rfl) (by kernel_rfl) (by kernel_rfl) (fun _ _ _ h => h) rfl hX ?_ ?_; rotate_left; (intro W hW; go_simp; try with_reducible rfl); simp only [Act.put, qA, qB, qC]
   refine mc_take (i := 20) (oi := ⟨some 107, _, _, _, _, _⟩) (v := .bool true) rfl (by kernel_rfl) (by kernel_rfl) (by kernel_rfl) (fun _ _ _ h => h) rfl hX (fun V hV => ld_bool9 (.tmp 106) rfl rfl ((hV.cell (p := ⟨b1, o1 + p, none⟩) HL1.out).trans CP.out)) ?_; simp only [Act.put, qA, qB, qC]
   refine mc_take (i := 21) (oi := ⟨some 108, _, _, _, _, _⟩) (v := ?_) rfl (by kernel_rfl) (by kernel_rfl) (by kernel_rfl) (fun _ _ _ h => h) rfl hX ?_ ?_; rotate_left; (intro W hW; go_simp; try with_reducible rfl); simp only [Act.put, qA, qB, qC]
   refine mc_take (i := 22) (oi := ⟨some 109, _, _, _, _, _⟩) (v := ?_) rfl (by kernel_rfl) (by kernel_rfl) (by kernel_rfl) (fun _ _ _ h => h) rfl hX ?_ ?_; rotate_left; (intro W hW; go_simp; try with_reducible rfl); simp only [Act.put, qA, qB, qC]
   refine mc_take (i := 23) (oi := ⟨some 110, _, _, _, _, _⟩) (v := ?_) rfl (by kernel_rfl) (by kernel_rfl) (by kernel_rfl) (fun _ _ _ h => h) rfl hX ?_ ?_; rotate_left; (intro W hW; go_simp; try with_reducible rfl); simp only [Act.put, qA, qB, qC]
   refine mc_take (i := 24) (oi := ⟨some 111, _, _, _, _, _⟩) (v := .slice (some ⟨be, oe, none⟩) m ce) rfl (by kernel_rfl) (by kernel_rfl) (by kernel_rfl) (fun _ _ _ h => h) rfl hX (fun V hV => ld_bls (.tmp 110) rfl rfl ((hV.cell (p := ⟨gd, 257, none⟩) KX.out.lt).trans C257.out)) ?_; simp only [Act.put, qA, qB, qC]
   refine mc_take (i := 25) (oi := ⟨some 112, _, _, _, _, _⟩) (v := ?_) rfl (by kernel_rfl) (by kernel_rfl) (by kernel_rfl) (fun _ _ _ h => h) rfl hX ?_ ?_; rotate_left; (intro W hW; go_simp; try with_reducible rfl); simp only [Act.put, qA, qB, qC]
   refine mc_take (i := 26) (oi := ⟨some 113, _, _, _, _, _⟩) (v := ?_) rfl (by kernel_rfl) (by kernel_rfl) (by kernel_rfl) (fun _ _ _ h => h) rfl hX ?_ ?_; rotate_left; (intro W hW; go_simp; try with_reducible rfl); simp only [Act.put, qA, qB, qC]
   refine mc_take (i := 27) (oi := ⟨some 114, _, _, _, _, _⟩) (v := .bool false) rfl (by kernel_rfl) (by kernel_rfl) (by kernel_rfl) (fun _ _ _ h => h) rfl hX (fun V hV => ld_bool9 (.tmp 113) rfl rfl ((hV.cell (p := ⟨be, oe + q, none⟩) HL3.out).trans CE.out)) ?_; simp only [Act.put, qA, qB, qC]
   refine mc_take (i := 28) (oi := ⟨some 115, _, _, _, _, _⟩) (v := ?_) rfl (by kernel_rfl) (by kernel_rfl) (by kernel_rfl) (fun _ _ _ h => h) rfl hX ?_ ?_; rotate_left; (intro W hW; go_simp; try with_reducible rfl); simp only [Act.put, qA, qB, qC]
   refine mc_take (i := 29) (oi := ⟨some 116, _, _, _, _, _⟩) (v := ?_) rfl (by kernel_rfl) (by kernel_rfl) (by kernel_rfl) (fun _ _ _ h => h) rfl hX ?_ ?_; rotate_left; (intro W hW; go_simp; try with_reducible rfl); simp only [Act.put, qA, qB, qC]
   refine mc_skip (i := 30) (oi := ⟨some 117, _, _, _, _, _⟩) rfl (by kernel_rfl) (by kernel_rfl) (by kernel_rfl) (fun _ _ _ h => h) rfl hX ?_; simp only [Act.put, qA, qB, qC]
   refine mc_skip (i := 31) (oi := ⟨some 118, _, _, _, _, _⟩) rfl (by kernel_rfl) (by kernel_rfl) (by kernel_rfl) (fun _ _ _ h => h) rfl hX ?_; simp only [Act.put, qA, qB, qC]
   refine mc_skip (i := 32) (oi := ⟨some 119, _, _, _, _, _⟩) rfl (by kernel_rfl) (by kernel_rfl) (by kernel_rfl) (fun _ _ _ h => h) rfl hX ?_; simp only [Act.put, qA, qB, qC]
   refine mc_skip (i := 33) (oi := ⟨some 120, _, _, _, _, _⟩) rfl (by kernel_rfl) (by kernel_rfl) (by kernel_rfl) (fun _ _ _ h => h) rfl hX ?_; simp only [Act.put, qA, qB, qC]
   refine mc_take (i := 34) (oi := ⟨some 121, _, _, _, _, _⟩) (v := ?_) rfl (by kernel_rfl) (by kernel_rfl) (by kernel_rfl) (fun _ _ _ h => h) rfl hX ?_ ?_; rotate_left; (intro W hW; go_simp; try with_reducible rfl); simp only [Act.put, qA, qB, qC]
   refine mc_take (i := 35) (oi := ⟨some 122, _, _, _, _, _⟩) (v := ?_) rfl (by kernel_rfl) (by kernel_rfl) (by kernel_rfl) (fun _ _ _ h => h) rfl hX ?_ ?_; rotate_left; (intro W hW; go_simp; try with_reducible rfl); simp only [Act.put, qA, qB, qC]
   refine mc_take (i := 36) (oi := ⟨some 123, _, _, _, _, _⟩) (v := ?_) rfl (by kernel_rfl) (by kernel_rfl) (by kernel_rfl) (fun _ _ _ h => h) rfl hX ?_ ?_; rotate_left; (intro W hW; go_simp; try with_reducible rfl); simp only [Act.put, qA, qB, qC]
   refine mc_take (i := 37) (oi := ⟨some 124, _, _, _, _, _⟩) (v := ?_) rfl (by kernel_rfl) (by kernel_rfl) (by kernel_rfl) (fun _ _ _ h => h) rfl hX ?_ ?_; rotate_left; (intro W hW; go_simp; try with_reducible rfl); simp only [Act.put, qA, qB, qC]
   refine mc_take (i := 38) (oi := ⟨some 125, _, _, _, _, _⟩) (v := ?_) rfl (by kernel_rfl) (by kernel_rfl) (by kernel_rfl) (fun _ _ _ h => h) rfl hX ?_ ?_; rotate_left; (intro W hW; go_simp; try with_reducible rfl); simp only [Act.put, qA, qB, qC]
   refine mc_take (i := 39) (oi := ⟨some 126, _, _, _, _, _⟩) (v := ?_) rfl (by kernel_rfl) (by kernel_rfl) (by kernel_rfl) (fun _ _ _ h => h) rfl hX ?_ ?_; rotate_left; (intro W hW; go_simp; try with_reducible rfl); simp only [Act.put, qA, qB, qC]
   refine mc_take (i := 40) (oi := ⟨some 127, _, _, _, _, _⟩) (v := .bool true) rfl (by kernel_rfl) (by kernel_rfl) (by kernel_rfl) (fun _ _ _ h => h) rfl hX (fun V hV => ld_bool9 (.tmp 126) rfl rfl ((hV.cell (p := ⟨b1, o1 + f, none⟩) HL1.out).trans CF.out)) ?_; simp only [Act.put, qA, qB, qC]
   refine mc_take (i := 41) (oi := ⟨some 128, _, _, _, _, _⟩) (v := ?_) rfl (by kernel_rfl) (by kernel_rfl) (by kernel_rfl) (fun _ _ _ h => h) rfl hX ?_ ?_; rotate_left; (intro W hW; go_simp; try with_reducible rfl); simp only [Act.put, qA, qB, qC]
   refine mc_take (i := 42) (oi := ⟨some 129, _, _, _, _, _⟩) (v := ?_) rfl (by kernel_rfl) (by kernel_rfl) (by kernel_rfl) (fun _ _ _ h => h) rfl hX ?_ ?_; rotate_left; (intro W hW; go_simp; try with_reducible rfl); simp only [Act.put, qA, qB, qC]
   refine mc_take (i := 43) (oi := ⟨some 130, _, _, _, _, _⟩) (v := ?_) rfl (by kernel_rfl) (by kernel_rfl) (by kernel_rfl) (fun _ _ _ h => h) rfl hX ?_ ?_; rotate_left; (intro W hW; go_simp; try with_reducible rfl); simp only [Act.put, qA, qB, qC]
   refine mc_take (i := 44) (oi := ⟨some 131, _, _, _, _, _⟩) (v := ?_) rfl (by kernel_rfl) (by kernel_rfl) (by kernel_rfl) (fun _ _ _ h => h) rfl hX ?_ ?_; rotate_left; (intro W hW; go_simp; try with_reducible rfl); simp only [Act.put, qA, qB, qC]
   refine mc_take (i := 45) (oi := ⟨some 132, _, _, _, _, _⟩) (v := ?_) rfl (by kernel_rfl) (by kernel_rfl) (by kernel_rfl) (fun _ _ _ h => h) rfl hX ?_ ?_; rotate_left; (intro W hW; go_simp; try with_reducible rfl); simp only [Act.put, qA, qB, qC]
   refine mc_take (i := 46) (oi := ⟨some 133, _, _, _, _, _⟩) (v := .bool true) rfl (by kernel_rfl) (by kernel_rfl) (by kernel_rfl) (fun _ _ _ h => h) rfl hX (fun V hV => ld_bool9 (.tmp 132) rfl rfl ((hV.cell (p := ⟨b1, o1 + q, none⟩) HL1.out).trans (CQ.out (by trivial)))) ?_; simp only [Act.put, qA, qB, qC]
   refine mc_take (i := 47) (oi := ⟨some 134, _, _, _, _, _⟩) (v := ?_) rfl (by kernel_rfl) (by kernel_rfl) (by kernel_rfl) (fun _ _ _ h => h) rfl hX ?_ ?_; rotate_left; (intro W hW; go_simp; try with_reducible rfl); simp only [Act.put, qA, qB, qC]
   refine mc_take (i := 48) (oi := ⟨some 135, _, _, _, _, _⟩) (v := ?_) rfl (by kernel_rfl) (by kernel_rfl) (by kernel_rfl) (fun _ _ _ h => h) rfl hX ?_ ?_; rotate_left; (intro W hW; go_simp; try with_reducible rfl); simp only [Act.put, qA, qB, qC]
   refine mc_take (i := 49) (oi := ⟨some 12, _, _, _, _, _⟩) (v := ?_) rfl (by kernel_rfl) (by kernel_rfl) (by kernel_rfl) (fun _ _ _ h => h) rfl hX ?_ ?_; rotate_left; (intro W hW; go_simp; try with_reducible rfl); simp only [Act.put, qA, qB, qC]
   refine wpAnyC_done (by kernel_rfl) ?_ _
   have BF := qH (BZ.out.trans (hX.mono BZ.out.size))
   clear hX hY
   go_wp2_with fail
   go_ret
   exact ⟨rfl, BF.out⟩
  | false =>
   refine mc_start (fun V => Below wx.heap.size wx V) (fun _ => True) 50 (by kernel_rfl) (fun wd hwd => ?_)
   have hX : Below wx.heap.size wx wd := by rw [hwd]; exact (Below.refl _ _).drew
   have hY : True := trivial
   clear hwd
   have BD := qH hX
   refine mc_take (i := 0) (oi := ⟨some 87, _, _, _, _, _⟩) (v := .agg cs.toArray) rfl (by kernel_rfl) (by kernel_rfl) (by kernel_rfl) (fun _ _ _ h => h) rfl hX (fun V hT => ld_blk 28 (.tmp 13) rfl gd rfl 28 cs _ KX.out KX.out.lt Try.underlying28 rfl HSA.out V hT) ?_; simp only [Act.put, qA, qB, qC]
   refine mc_take (i := 1) (oi := ⟨some 88, _, _, _, _, _⟩) (v := ?_) rfl (by kernel_rfl) (by kernel_rfl) (by kernel_rfl) (fun _ _ _ h => h) rfl hX ?_ ?_; rotate_left; (intro W hW; go_simp; try with_reducible rfl); simp only [Act.put, qA, qB, qC]
   refine mc_take (i := 3) (oi := ⟨some 90, _, _, _, _, _⟩) (v := ?_) rfl (by kernel_rfl) (by kernel_rfl) (by kernel_rfl) (fun _ _ _ h => h) rfl hX ?_ ?_; rotate_left; (intro W hW; go_simp; try with_reducible rfl); simp only [Act.put, qA, qB, qC]
   refine mc_take (i := 5) (oi := ⟨some 92, _, _, _, _, _⟩) (v := ?_) rfl (by kernel_rfl) (by kernel_rfl) (by kernel_rfl) (fun _ _ _ h => h) rfl hX ?_ ?_; rotate_left; (intro W hW; go_simp; try with_reducible rfl); simp only [Act.put, qA, qB, qC]
   refine mc_take (i := 8) (oi := ⟨some 95, _, _, _, _, _⟩) (v := .agg cs.toArray) rfl (by kernel_rfl) (by kernel_rfl) (by kernel_rfl) (fun _ _ _ h => h) rfl hX (fun V hT => ld_blk 28 (.tmp 13) rfl gd rfl 28 cs _ KX.out KX.out.lt Try.underlying28 rfl HSA.out V hT) ?_; simp only [Act.put, qA, qB, qC]
   refine mc_take (i := 9) (oi := ⟨some 96, _, _, _, _, _⟩) (v := .agg cs.toArray) rfl (by kernel_rfl) (by kernel_rfl) (by kernel_rfl) (fun _ _ _ h => h) rfl hX (fun V hT => ld_blk 28 (.tmp 13) rfl gd rfl 28 cs _ KX.out KX.out.lt Try.underlying28 rfl HSA.out V hT) ?_; simp only [Act.put, qA, qB, qC]
   refine mc_take (i := 10) (oi := ⟨some 97, _, _, _, _, _⟩) (v := ?_) rfl (by kernel_rfl) (by kernel_rfl) (by kernel_rfl) (fun _ _ _ h => h) rfl hX ?_ ?_; rotate_left; (intro W hW; go_simp; try with_reducible rfl); simp only [Act.put, qA, qB, qC]
   refine mc_take (i := 11) (oi := ⟨some 98, _, _, _, _, _⟩) (v := ?_) rfl (by kernel_rfl) (by kernel_rfl) (by kernel_rfl) (fun _ _ _ h => h) rfl hX ?_ ?_; rotate_left; (intro W hW; go_simp; try with_reducible rfl); simp only [Act.put, qA, qB, qC]
   refine mc_take (i := 13) (oi := ⟨some 100, _, _, _, _, _⟩) (v := ?_) rfl (by kernel_rfl) (by kernel_rfl) (by kernel_rfl) (fun _ _ _ h => h) rfl hX ?_ ?_; rotate_left; (intro W hW; go_simp; try with_reducible rfl); simp only [Act.put, qA, qB, qC]
   refine mc_actB (i := 2) (o := ⟨some 89, _, _, _, _, _⟩) rfl (by kernel_rfl) rfl (fun K hK => ?_)
   refine wp_bld0M 22 5 rfl iy Try.underlying22 hiy (.int .u8 0) hv0 hv1 ?_
   intro wb ho hb
   have OB := qH ho
   have BB := qH (BD.out.trans (hb.mono BD.out.size))
   have HB0 := qH (show wd.heap.size ≤ wb.heap.size from hb.size)
   refine hK _ _ BB.out trivial ?_
   clear hK K hX ho hb
   have hX := BB.out
   (try simp only [Act.put, qA, qB, qC])
   refine mc_actB (i := 4) (o := ⟨some 91, _, _, _, _, _⟩) rfl (by kernel_rfl) rfl (fun K hK => ?_)
   refine wp_appW (base := wd.heap.size) (.tmp 89) (.tmp 90) 22 rfl 5 iy (.int .u8 0) 1 Try.underlying22 hiy hv0 hv1 hv2 rfl _ 0 [] rfl OB.out _ (bvs U) rfl (UX.out.below BB.out) (bvs_one _) HUL.out (by decide) HB0.out ?_
   intro va wc ho hg hw
   obtain ⟨n1, hn1⟩ : ∃ x, x = 0 + (bvs U).length := ⟨_, rfl⟩
   have HW1 := qH (show n1 + (bvs W).length ≤ 2097152 by rw [hn1]; exact HWL.out)
   rw [← hn1] at ho
   clear hn1
   have OC := qH ho
   have BC := qH (below_own BB.out BB.out.size hg fun k hk => Nat.le_trans BD.out.size (own6_lt OB.out k hk).2)
   have HC0 := qH (show wd.heap.size ≤ wc.heap.size from Nat.le_trans HB0.out hg.size)
   obtain ⟨AA, ca, rfl⟩ := ownC_slice ho
   refine hK _ _ BC.out trivial ?_
   clear hK K hX ho hg hw
   have hX := BC.out
   (try simp only [Act.put, qA, qB, qC])
   refine mc_actB (i := 6) (o := ⟨some 93, _, _, _, _, _⟩) rfl (by kernel_rfl) rfl (fun K hK => ?_)
   refine wp_appW (base := wd.heap.size) (.tmp 91) (.tmp 92) 22 rfl 5 iy (.int .u8 0) 1 Try.underlying22 hiy hv0 hv1 hv2 rfl _ _ ([] ++ bvs U) rfl OC.out _ (bvs W) rfl (WX.out.below BC.out) (bvs_one _) HW1.out (by decide) HC0.out ?_
   intro vb we ho hg hw
   obtain ⟨n2, hn2⟩ : ∃ x, x = n1 + (bvs W).length := ⟨_, rfl⟩
   rw [← hn2] at ho
   clear hn2
   have RE := qH (show Row we vb (bvs (U ++ W)) by
    have h1 := Row.of_own ho
    rw [List.nil_append] at h1
    rw [bvs, List.map_append]
    exact h1)
   have BE := qH (below_own BC.out BC.out.size hg fun k hk => Nat.le_trans BD.out.size (own6_lt OC.out k hk).2)
   obtain ⟨AB, cb, rfl⟩ := ownC_slice ho
   refine hK _ _ BE.out trivial ?_
   clear hK K hX ho hg hw
   have hX := BE.out
   (try simp only [Act.put, qA, qB, qC])
   refine mc_actB (i := 7) (o := ⟨some 94, _, _, _, _, _⟩) rfl (by kernel_rfl) rfl (fun K hK => ?_)
   have Y3 := qH hX
   go_wp2_with fail
   refine (mTo_any D (f : Int) (U ++ W) cs _ we (VX.out.below hX) RE.out).mono ?_
   rintro e v3 ⟨rfl, hb⟩
   rw [HT2b.out]
   have hX2 := Y3.out.trans (hb.mono Y3.out.size)
   clear hb
   go_wp2_with fail
   refine hK _ _ hX2 trivial ?_
   clear hK K hX
   have hX := hX2
   clear hX2
   (try simp only [Act.put, qA, qB, qC])
   refine mc_actB (i := 12) (o := ⟨some 99, _, _, _, _, _⟩) rfl (by kernel_rfl) rfl (fun K hK => ?_)
   have Y4 := qH hX
   go_wp2_with fail
   refine (mTo_any D (f : Int) U cs _ v3 (VX.out.below hX) (UX.out.below hX)).mono ?_
   rintro e v4 ⟨rfl, hb⟩
   rw [HT1b.out]
   have hX2 := Y4.out.trans (hb.mono Y4.out.size)
   clear hb
   go_wp2_with fail
   refine hK _ _ hX2 trivial ?_
   clear hK K hX
   have hX := hX2
   clear hX2
   (try simp only [Act.put, qA, qB, qC])
   refine mc_actB (i := 14) (o := ⟨some 101, _, _, _, _, _⟩) rfl (by kernel_rfl) rfl (fun K hK => ?_)
   have Y5 := qH hX
   go_wp2_with fail
   refine (mTo_any D t1 W cs _ v4 (VX.out.below hX) (WX.out.below hX)).mono ?_
   rintro e v5 ⟨rfl, hb⟩
   rw [HT3.out]
   have hX2 := Y5.out.trans (hb.mono Y5.out.size)
   clear hb
   go_wp2_with fail
   refine hK _ _ hX2 trivial ?_
   clear hK K hX
   have hX := hX2
   clear hX2
   (try simp only [Act.put, qA, qB, qC])
   refine mc_take (i := 15) (oi := ⟨some 102, _, _, _, _, _⟩) (v := .bool true) rfl (by kernel_rfl) (by kernel_rfl) (by kernel_rfl) (fun _ _ _ h => h) rfl hX (fun V _ => ex_eqII (.tmp 94) (.tmp 101) rfl rfl rfl V) ?_; simp only [Act.put, qA, qB, qC]
   refine mc_take (i := 16) (oi := ⟨some 103, _, _, _, _, _⟩) (v := ?_) rfl (by kernel_rfl) (by kernel_rfl) (by kernel_rfl) (fun _ _ _ h => h) rfl hX ?_ ?_; rotate_left; (intro W hW; go_simp; try with_reducible rfl); simp only [Act.put, qA, qB, qC]
   refine mc_take (i := 17) (oi := ⟨some 104, _, _, _, _, _⟩) (v := ?_) rfl (by kernel_rfl) (by kernel_rfl) (by kernel_rfl) (fun _ _ _ h => h) rfl hX ?_ ?_; rotate_left; (intro W hW; go_simp; try with_reducible rfl); simp only [Act.put, qA, qB, qC]
   refine mc_take (i := 18) (oi := ⟨some 105, _, _, _, _, _⟩) (v := ?_) rfl (by kernel_rfl) (by kernel_rfl) (by kernel_rfl) (fun _ _ _ h => h) rfl hX ?_ ?_; rotate_left; (intro W hW; go_simp; try with_reducible rfl); simp only [Act.put, qA, qB, qC]
   refine mc_take (i := 19) (oi := ⟨some 106, _, _, _, _, _⟩) (v := ?_) rfl (by kernel_rfl) (by kernel_rfl) (by kernel_rfl) (fun _ _ _ h => h) rfl hX ?_ ?_; rotate_left; (intro W hW; go_simp; try with_reducible rfl); simp only [Act.put, qA, qB, qC]
   refine mc_take (i := 20) (oi := ⟨some 107, _, _, _, _, _⟩) (v := .bool true) rfl (by kernel_rfl) (by kernel_rfl) (by kernel_rfl) (fun _ _ _ h => h) rfl hX (fun V hV => ld_bool9 (.tmp 106) rfl rfl ((hV.cell (p := ⟨b1, o1 + p, none⟩) HL1.out).trans CP.out)) ?_; simp only [Act.put, qA, qB, qC]
   refine mc_take (i := 21) (oi := ⟨some 108, _, _, _, _, _⟩) (v := ?_) rfl (by kernel_rfl) (by kernel_rfl) (by kernel_rfl) (fun _ _ _ h => h) rfl hX ?_ ?_; rotate_left; (intro W hW; go_simp; try with_reducible rfl); simp only [Act.put, qA, qB, qC]
   refine mc_take (i := 22) (oi := ⟨some 109, _, _, _, _, _⟩) (v := ?_) rfl (by kernel_rfl) (by kernel_rfl) (by kernel_rfl) (fun _ _ _ h => h) rfl hX ?_ ?_; rotate_left; (intro W hW; go_simp; try with_reducible rfl); simp only [Act.put, qA, qB, qC]
   refine mc_take (i := 23) (oi := ⟨some 110, _, _, _, _, _⟩) (v := ?_) rfl (by kernel_rfl) (by kernel_rfl) (by kernel_rfl) (fun _ _ _ h => h) rfl hX ?_ ?_; rotate_left; (intro W hW; go_simp; try with_reducible rfl); simp only [Act.put, qA, qB, qC]
   refine mc_take (i := 24) (oi := ⟨some 111, _, _, _, _, _⟩) (v := .slice (some ⟨be, oe, none⟩) m ce) rfl (by kernel_rfl) (by kernel_rfl) (by kernel_rfl) (fun _ _ _ h => h) rfl hX (fun V hV => ld_bls (.tmp 110) rfl rfl ((hV.cell (p := ⟨gd, 257, none⟩) KX.out.lt).trans C257.out)) ?_; simp only [Act.put, qA, qB, qC]
   refine mc_take (i := 25) (oi := ⟨some 112, _, _, _, _, _⟩) (v := ?_) rfl (by kernel_rfl) (by kernel_rfl) (by kernel_rfl) (fun _ _ _ h => h) rfl hX ?_ ?_; rotate_left; (intro W hW; go_simp; try with_reducible rfl); simp only [Act.put, qA, qB, qC]
   refine mc_take (i := 26) (oi := ⟨some 113, _, _, _, _, _⟩) (v := ?_) rfl (by kernel_rfl) (by kernel_rfl) (by kernel_rfl) (fun _ _ _ h => h) rfl hX ?_ ?_; rotate_left; (intro W hW; go_simp; try with_reducible rfl); simp only [Act.put, qA, qB, qC]
   refine mc_take (i := 27) (oi := ⟨some 114, _, _, _, _, _⟩) (v := .bool false) rfl (by kernel_rfl) (by kernel_rfl) (by kernel_rfl) (fun _ _ _ h => h) rfl hX (fun V hV => ld_bool9 (.tmp 113) rfl rfl ((hV.cell (p := ⟨be, oe + q, none⟩) HL3.out).trans CE.out)) ?_; simp only [Act.put, qA, qB, qC]
   refine mc_take (i := 28) (oi := ⟨some 115, _, _, _, _, _⟩) (v := ?_) rfl (by kernel_rfl) (by kernel_rfl) (by kernel_rfl) (fun _ _ _ h => h) rfl hX ?_ ?_; rotate_left; (intro W hW; go_simp; try with_reducible rfl); simp only [Act.put, qA, qB, qC]
   refine mc_take (i := 29) (oi := ⟨some 116, _, _, _, _, _⟩) (v := ?_) rfl (by kernel_rfl) (by kernel_rfl) (by kernel_rfl) (fun _ _ _ h => h) rfl hX ?_ ?_; rotate_left; (intro W hW; go_simp; try with_reducible rfl); simp only [Act.put, qA, qB, qC]
   refine mc_skip (i := 30) (oi := ⟨some 117, _, _, _, _, _⟩) rfl (by kernel_rfl) (by kernel_rfl) (by kernel_rfl) (fun _ _ _ h => h) rfl hX ?_; simp only [Act.put, qA, qB, qC]
   refine mc_skip (i := 31) (oi := ⟨some 118, _, _, _, _, _⟩) rfl (by kernel_rfl) (by kernel_rfl) (by kernel_rfl) (fun _ _ _ h => h) rfl hX ?_; simp only [Act.put, qA, qB, qC]
   refine mc_skip (i := 32) (oi := ⟨some 119, _, _, _, _, _⟩) rfl (by kernel_rfl) (by kernel_rfl) (by kernel_rfl) (fun _ _ _ h => h) rfl hX ?_; simp only [Act.put, qA, qB, qC]
   refine mc_skip (i := 33) (oi := ⟨some 120, _, _, _, _, _⟩) rfl (by kernel_rfl) (by kernel_rfl) (by kernel_rfl) (fun _ _ _ h => h) rfl hX ?_; simp only [Act.put, qA, qB, qC]
   refine mc_take (i := 34) (oi := ⟨some 121, _, _, _, _, _⟩) (v := ?_) rfl (by kernel_rfl) (by kernel_rfl) (by kernel_rfl) (fun _ _ _ h => h) rfl hX ?_ ?_; rotate_left; (intro W hW; go_simp; try with_reducible rfl); simp only [Act.put, qA, qB, qC]
   refine mc_take (i := 35) (oi := ⟨some 122, _, _, _, _, _⟩) (v := ?_) rfl (by kernel_rfl) (by kernel_rfl) (by kernel_rfl) (fun _ _ _ h => h) rfl hX ?_ ?_; rotate_left; (intro W hW; go_simp; try with_reducible rfl); simp only [Act.put, qA, qB, qC]
   refine mc_take (i := 36) (oi := ⟨some 123, _, _, _, _, _⟩) (v := ?_) rfl (by kernel_rfl) (by kernel_rfl) (by kernel_rfl) (fun _ _ _ h => h) rfl hX ?_ ?_; rotate_left; (intro W hW; go_simp; try with_reducible rfl); simp only [Act.put, qA, qB, qC]
   refine mc_take (i := 37) (oi := ⟨some 124, _, _, _, _, _⟩) (v := ?_) rfl (by kernel_rfl) (by kernel_rfl) (by kernel_rfl) (fun _ _ _ h => h) rfl hX ?_ ?_; rotate_left; (intro W hW; go_simp; try with_reducible rfl); simp only [Act.put, qA, qB, qC]
   refine mc_take (i := 38) (oi := ⟨some 125, _, _, _, _, _⟩) (v := ?_) rfl (by kernel_rfl) (by kernel_rfl) (by kernel_rfl) (fun _ _ _ h => h) rfl hX ?_ ?_; rotate_left; (intro W hW; go_simp; try with_reducible rfl); simp only [Act.put, qA, qB, qC]
   refine mc_take (i := 39) (oi := ⟨some 126, _, _, _, _, _⟩) (v := ?_) rfl (by kernel_rfl) (by kernel_rfl) (by kernel_rfl) (fun _ _ _ h => h) rfl hX ?_ ?_; rotate_left; (intro W hW; go_simp; try with_reducible rfl); simp only [Act.put, qA, qB, qC]
   refine mc_take (i := 40) (oi := ⟨some 127, _, _, _, _, _⟩) (v := .bool false) rfl (by kernel_rfl) (by kernel_rfl) (by kernel_rfl) (fun _ _ _ h => h) rfl hX (fun V hV => ld_bool9 (.tmp 126) rfl rfl ((hV.cell (p := ⟨b1, o1 + f, none⟩) HL1.out).trans CF.out)) ?_; simp only [Act.put, qA, qB, qC]
   refine mc_take (i := 41) (oi := ⟨some 128, _, _, _, _, _⟩) (v := ?_) rfl (by kernel_rfl) (by kernel_rfl) (by kernel_rfl) (fun _ _ _ h => h) rfl hX ?_ ?_; rotate_left; (intro W hW; go_simp; try with_reducible rfl); simp only [Act.put, qA, qB, qC]
   refine mc_take (i := 42) (oi := ⟨some 129, _, _, _, _, _⟩) (v := ?_) rfl (by kernel_rfl) (by kernel_rfl) (by kernel_rfl) (fun _ _ _ h => h) rfl hX ?_ ?_; rotate_left; (intro W hW; go_simp; try with_reducible rfl); simp only [Act.put, qA, qB, qC]
   refine mc_skip (i := 43) (oi := ⟨some 130, _, _, _, _, _⟩) rfl (by kernel_rfl) (by kernel_rfl) (by kernel_rfl) (fun _ _ _ h => h) rfl hX ?_; simp only [Act.put, qA, qB, qC]
   refine mc_skip (i := 44) (oi := ⟨some 131, _, _, _, _, _⟩) rfl (by kernel_rfl) (by kernel_rfl) (by kernel_rfl) (fun _ _ _ h => h) rfl hX ?_; simp only [Act.put, qA, qB, qC]
   refine mc_skip (i := 45) (oi := ⟨some 132, _, _, _, _, _⟩) rfl (by kernel_rfl) (by kernel_rfl) (by kernel_rfl) (fun _ _ _ h => h) rfl hX ?_; simp only [Act.put, qA, qB, qC]
   refine mc_skip (i := 46) (oi := ⟨some 133, _, _, _, _, _⟩) rfl (by kernel_rfl) (by kernel_rfl) (by kernel_rfl) (fun _ _ _ h => h) rfl hX ?_; simp only [Act.put, qA, qB, qC]
   refine mc_take (i := 47) (oi := ⟨some 134, _, _, _, _, _⟩) (v := ?_) rfl (by kernel_rfl) (by kernel_rfl) (by kernel_rfl) (fun _ _ _ h => h) rfl hX ?_ ?_; rotate_left; (intro W hW; go_simp; try with_reducible rfl); simp only [Act.put, qA, qB, qC]
   refine mc_take (i := 48) (oi := ⟨some 135, _, _, _, _, _⟩) (v := ?_) rfl (by kernel_rfl) (by kernel_rfl) (by kernel_rfl) (fun _ _ _ h => h) rfl hX ?_ ?_; rotate_left; (intro W hW; go_simp; try with_reducible rfl); simp only [Act.put, qA, qB, qC]
   refine mc_take (i := 49) (oi := ⟨some 12, _, _, _, _, _⟩) (v := ?_) rfl (by kernel_rfl) (by kernel_rfl) (by kernel_rfl) (fun _ _ _ h => h) rfl hX ?_ ?_; rotate_left; (intro W hW; go_simp; try with_reducible rfl); simp only [Act.put, qA, qB, qC]
   refine wpAnyC_done (by kernel_rfl) ?_ _
   have BF := qH (BZ.out.trans (hX.mono BZ.out.size))
   clear hX hY
   go_wp2_with fail
   go_ret
   exact ⟨rfl, BF.out⟩
end Go.Proofs.Ytbbodfpnneifgaa
