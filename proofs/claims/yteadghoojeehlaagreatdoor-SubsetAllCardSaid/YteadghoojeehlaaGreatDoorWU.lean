/-
  Texts of this proof, put together: ScK. No statement is proved here.
-/
import Derived.Test.YteadghoojeehlaaGreatDoorWK
import Derived.Test.YteadghoojeehlaaGreatDoorWL
import Derived.Test.YteadghoojeehlaaGreatDoorWS
import Derived.Test.YteadghoojeehlaaGreatDoorWT
namespace Go.Proofs.YteadghoojeehlaaGreatDoor
open Go.RowKit
set_option linter.unusedSimpArgs false
set_option linter.unusedVariables false
section
variable {P : Program} {o : Oper} {a : Act} {w : World} {K : Act → World → Prop} {Q : Exit → Act → World → Prop}
theorem wp_bldVk (t e : TypeId) (x : Operand) (ho : o.op = .buildSlice t 1 #[(0, x)]) (i : TypeInfo) (z : Value) (ht : P.underlying t = some (.slice e)) (hi : P.info? e = some i) (hz : i.zero = some z) (hs : i.size = 1) (hzc : z.cells = #[z]) (v : Value) (hx : a.eval x = v) (hv : v.cells = #[v])
  (h : ∀ w', Blk w' w.heap.size e [v] → Below w.heap.size w w' → K (a.put o.dst (.slice (some ⟨w.heap.size, 0, none⟩) 1 1)) w') : o.wp P a w K Q := by
 have hzv : (zeroValue e).run P w = .ok z w := by simp [zeroValue, typeInfo, hi, hz]
 have hrun : (Instr.buildSlice t 1 #[(0, v)]).run P w = .ok (.slice (some ⟨w.heap.size, 0, none⟩) 1 1) (w.alloc (.cells [v].toArray e)) := by
  simp [Instr.buildSlice, run_underlying ht, sizeOf, typeInfo, hi, hs, hzv, hzc, hv, Instr.fill, Array.range_succ, Array.range_zero', newRow]
 unfold Oper.wp
 simp only [execOp, ho, List.map_toArray, List.map_cons, List.map_nil, hx, hrun, Sem.run_bind, Result.andThen_ok, Sem.run_pure]
 exact h _ (Blk.new w e _) ((Below.refl _ _).alloc (Nat.le_refl _) _)
end
theorem own_slice {w : World} {base : Nat} {e : TypeId} {v : Value} {n : Nat} {xs : List Value} (h : w.ownsRow base e 1 v n xs) : ∃ A c, v = .slice A n c := by
 rcases h.2 with ⟨rfl, rfl⟩ | ⟨g, cap, cur, rfl, _⟩
 ·exact ⟨_, _, rfl⟩
 ·exact ⟨_, _, rfl⟩
theorem Fx.slice {w : World} {H : Nat} {Wb : Nat → Prop} {v : Value} {X : List Int} (h : Fx w H Wb v X) : ∃ A c, v = .slice A X.length c := by
 obtain ⟨⟨A, c, h1, _⟩, _⟩ := h
 rw [nums_length] at h1
 exact ⟨A, c, h1⟩
theorem most_step {most : Int} {i n : Nat} (h : i < n) (hm : (n : Int) ≤ most) : most.toNat + 2 - (i + 1) < most.toNat + 2 - i := by omega
theorem lt_1000 {i n : Nat} {most : Int} (h : i < n) (hm : (n : Int) ≤ most) (h2 : most ≤ 1000) : i ≤ 4611686018427387904 := by omega
theorem len_1000 {n : Nat} {most : Int} (hm : (n : Int) ≤ most) (h2 : most ≤ 1000) : n + 1 ≤ 2097152 := by omega
set_option maxHeartbeats 16000000 in
set_option maxRecDepth 1000000 in
theorem refMake9_any (S : List St) (a z most : Int) (cs : List Value) (w : World) (hv : NfaV w cs S a z) (hmost : most ≤ 1000) :
  Calls Tryz.prog 8 #[.agg cs.toArray, .int .i64 most] w fun e w' => MkPost S a z most w e w' := by
 have V := qH hv
 have HMO := qH hmost
 obtain ⟨A, cap, rfl, hlc, hcm, hA0⟩ := hv.len
 obtain ⟨d0, hd0⟩ : ∃ d0, d0 = dcl (ctab [] 0) (.slice none 0 0) (.slice none 0 0) := ⟨_, rfl⟩
 have HD0 := qH hd0
 have HDL := qH (show d0.length = 258 by rw [hd0]; exact dcl_len (ctab_length _ _))
 have HD1 := qH (show d0.all (·.oneCell') = true by rw [hd0]; exact dcl_one)
 have HDS := qH (show (Tryz.prog.info? 31).map (·.size) = some d0.length by rw [hd0]; exact size_dfa (ctab_length _ _))
 have HDB := qH (show Tryz.prog.built 31 [] = some d0.toArray by rw [hd0]; exact built_d0)
 obtain ⟨id, hid, hdz⟩ := Option.map_eq_some_iff.1 inf_dfa
 rw [← hd0] at hdz
 obtain ⟨ic, hic, hzc⟩ := ctab_zero
 obtain ⟨zt, hzt⟩ : ∃ zt, zt = ctab [] 0 := ⟨_, rfl⟩
 rw [← hzt] at hzc
 have HZL := qH (show zt.length = 256 by rw [hzt]; exact ctab_length _ _)
 obtain ⟨i1, hi1, hy0, hy1, hy2⟩ := infoP inf_int
 obtain ⟨i2, hi2, hb0, hb1, hb2⟩ := infoP inf_bool
 obtain ⟨il, hil, hl0, hl1, hl2⟩ := infoP inf_sl
 clear hv hmost hd0 hlc hcm hA0 hzt
 go_enter Tryz.func8, Tryz.ntmps8
 go_wp2_with (first
  | ((with_reducible refine atDst 2 ?_); refine wpList_box rfl 24 _ rfl [.slice A S.length cap, .int .i64 a, .int .i64 z] rfl (Below.refl w.heap.size w) (Nat.le_refl _) ?_; intro w1 hk1 hb1 hs1 _; have K1 := qH hk1; have B1 := qH hb1; clear hk1 hb1 hs1; (try simp only [Act.put, qA, qB, qC]))
  | ((with_reducible refine atDst 4 ?_); refine wpList_new rfl 31 rfl id _ d0 hid hdz rfl (Below.refl w1.heap.size w1) (Nat.le_refl _) ?_; intro w2 hk hb hs _; have K2 := qH hk; have B12 := qH hb; have B2 := qH (B1.out.trans (hb.mono B1.out.size)); have C2 := qH (K1.out.below hb K1.out.lt); clear hk hb hs; (try simp only [Act.put, qA, qB, qC]))
  | ((with_reducible refine atDst 16 ?_); refine wpList_ldArr rfl 24 _ rfl w.heap.size rfl 24 _ _ C2.out Tryz.underlying24 rfl (size_nfa rfl) ?_; (try simp only [Act.put, qA, qB, qC])))
 refine (refMayN_any S a z _ w2 (V.out.below B2.out)).mono ?_
 rintro e w3 ⟨rfl, hb⟩
 have K3 := qH (K2.out.below hb K2.out.lt)
 have C3 := qH (C2.out.below hb C2.out.lt)
 have B3 := qH (B2.out.trans (hb.mono B2.out.size))
 have B13 := qH (B12.out.trans (hb.mono B12.out.size))
 obtain ⟨my, hmy⟩ : ∃ b, b = mayNB S a z := ⟨_, rfl⟩
 have HMY := qH hmy
 rw [← hmy]
 clear hb hmy
 cases my with
 | false =>
  have HF := qH (mkN_form (S := S) (a := a) (z := z) (most := most) fun h => by have := HMY.out; rw [mayNB_yes h] at this; cases this)
  go_wp2_with (first
   | ((with_reducible refine atDst 19 ?_); refine wpList_bld rfl 31 #[] rfl d0 HDB.out ?_; (try simp only [Act.put, qA, qB, qC]))
   | ((with_reducible refine atStore 31 4 19 ?_); refine wpList_stBlk rfl 31 _ _ rfl w1.heap.size d0 rfl rfl 31 _ K3.out HDS.out rfl HD1.out B13.out (Nat.le_refl _) ?_; intro w4 hk hb hs ho; have K4 := qH hk; have B4 := qH (B1.out.trans (hb.mono B1.out.size)); clear hk hb hs ho; (try simp only [Act.put, qA, qB, qC])))
  refine bodyPost_ret (results_blk2 rfl _ _ w1.heap.size 31 _ _ _ rfl rfl K4.out Tryz.underlying31 rfl HDS.out) rfl ?_
  unfold MkPost
  rw [HF.out]
  exact ⟨d0, rfl, by rw [HD0.out]; exact dfaV_no _, B4.out⟩
 | true =>
  have HM := qH (mayNB_iff.1 HMY.out.symm)
  have HCY := qH (show ∀ l, cloN S a z l = clsN S l from fun l => cloN_yes HMY.out.symm)
  have HSY := qH (show ∀ l b, steN S a z l b = stpN S l b from fun l b => (steN_yes HMY.out.symm).trans (cloN_yes HMY.out.symm))
  go_wp2_with ((with_reducible refine atDst 21 ?_); refine wpList_ldArr rfl 24 _ rfl w.heap.size rfl 24 _ _ C3.out Tryz.underlying24 rfl (size_nfa rfl) ?_; (try simp only [Act.put, qA, qB, qC]))
  refine (refClasses9_any S a z _ w3 (V.out.below B3.out) HM.out.few).mono ?_
  rintro e w4 ⟨rfl, hb⟩
  obtain ⟨cl, hcl⟩ : ∃ cl, cl = ctab (setsN S) 256 := ⟨_, rfl⟩
  have HCL := qH hcl
  have HL := qH (show cl.length = 256 by rw [hcl]; exact ctab_length _ _)
  have HSC := qH (show (Tryz.prog.info? 27).map (·.size) = some (bvs cl).length from size_ctab HL.out)
  obtain ⟨kk, hkk⟩ : ∃ kk, kk = (fbN S).length := ⟨_, rfl⟩
  have HKK := qH hkk
  have HK256 := qH (show kk ≤ 256 by rw [hkk]; exact fbN_len S)
  rw [← hcl, ← hkk]
  obtain ⟨d1, hd1⟩ : ∃ d1, d1 = dcl cl (.slice none 0 0) (.slice none 0 0) := ⟨_, rfl⟩
  have HD1V := qH hd1
  have HDB1 := qH (show Tryz.prog.built 31 [(0, .agg (bvs cl).toArray)] = some d1.toArray by rw [hd1]; exact built_d1 cl HL.out)
  have HDL1 := qH (show d1.length = 258 by rw [hd1]; exact dcl_len HL.out)
  have HDO1 := qH (show d1.all (·.oneCell') = true by rw [hd1]; exact dcl_one)
  have HDS1 := qH (show (Tryz.prog.info? 31).map (·.size) = some d1.length by rw [hd1]; exact size_dfa HL.out)
  have C4 := qH (C3.out.below hb C3.out.lt)
  have K4 := qH (K3.out.below hb K3.out.lt)
  have B4 := qH (B3.out.trans (hb.mono B3.out.size))
  have B14 := qH (B13.out.trans (hb.mono B13.out.size))
  clear hb hcl hkk hd1
  go_wp2_with (first
   | ((with_reducible refine atDst 6 ?_); refine wpList_new rfl 27 rfl ic _ (bvs zt) hic hzc rfl (Below.refl w4.heap.size w4) (Nat.le_refl _) ?_; intro w5 hk hb hs _; have K5 := qH hk; have B5 := qH hb; clear hk hb hs; (try simp only [Act.put, qA, qB, qC]))
   | ((with_reducible refine atStore 27 6 23 ?_); refine wpList_stBlk rfl 27 _ _ rfl w4.heap.size (bvs cl) rfl rfl 27 _ K5.out HSC.out (by rw [bvs_length, bvs_length, HZL.out, HL.out]) (bvs_all' _) B5.out (Nat.le_refl _) ?_; intro w6 hk hb hs ho; have K6 := qH hk; have C6 := qH (C4.out.below hb C4.out.lt); have R6 := qH (K4.out.below hb K4.out.lt); have B6 := qH (B4.out.trans (hb.mono B4.out.size)); have B16 := qH (B14.out.trans (hb.mono B14.out.size)); clear hk hb hs ho; (try simp only [Act.put, qA, qB, qC]))
   | ((with_reducible refine atDst 25 ?_); refine wpList_ldArr rfl 27 _ rfl w4.heap.size rfl 27 _ _ K6.out Tryz.underlying27 rfl HSC.out ?_; (try simp only [Act.put, qA, qB, qC])))
  refine (refFirst9_any (setsN S) cl HCL.out kk HKK.out w6).mono ?_
  rintro e w7 ⟨v8, rfl, hr, hb⟩
  obtain ⟨fb, hfb⟩ : ∃ fb, fb = fbB (setsN S) 256 := ⟨_, rfl⟩
  have HFB := qH hfb
  have HFL := qH (show fb.length = kk by rw [hfb, fbB_len, HKK.out]; rfl)
  rw [← hfb] at hr
  have R8 := qH hr
  obtain ⟨A8, c8, rfl, _⟩ := hr
  rw [bvs_length, HFL.out] at R8 ⊢
  have K7 := qH (K6.out.below hb K6.out.lt)
  have C7 := qH (C6.out.below hb C6.out.lt)
  have R7 := qH (R6.out.below hb R6.out.lt)
  have B7 := qH (B6.out.trans (hb.mono B6.out.size))
  have B17 := qH (B16.out.trans (hb.mono B16.out.size))
  clear hb hfb
  go_wp2_with (first
   | ((with_reducible refine atDst 28 ?_); refine wpList_ldArr rfl 27 _ rfl w4.heap.size rfl 27 _ _ K7.out Tryz.underlying27 rfl HSC.out ?_; (try simp only [Act.put, qA, qB, qC]))
   | ((with_reducible refine atDst 29 ?_); refine wpList_bld rfl 31 #[(0, .tmp 28)] rfl d1 HDB1.out ?_; (try simp only [Act.put, qA, qB, qC]))
   | ((with_reducible refine atDst 9 ?_); refine wpList_new rfl 31 rfl id _ d0 hid hdz rfl (Below.refl w7.heap.size w7) (Nat.le_refl _) ?_; intro w8 hk hb hs _; have K8 := qH hk; have B8 := qH hb; clear hk hb hs; (try simp only [Act.put, qA, qB, qC]))
   | ((with_reducible refine atStore 31 9 29 ?_); refine wpList_stBlk rfl 31 _ _ rfl w7.heap.size d1 rfl rfl 31 _ K8.out HDS1.out (by rw [HDL.out, HDL1.out]) HDO1.out B8.out (Nat.le_refl _) ?_; intro w9 hk hb hs ho; have K9 := qH hk; have B79 := qH hb; have C9 := qH (C7.out.below hb C7.out.lt); have c1 := C9.out.cell 1; clear hk hb hs ho; (try simp only [Act.put, qA, qB, qC]))
   | ((with_reducible refine atDst 30 ?_); refine wpList_ldArr rfl 24 _ rfl w.heap.size rfl 24 _ _ C9.out Tryz.underlying24 rfl (size_nfa rfl) ?_; (try simp only [Act.put, qA, qB, qC]))
   | ((with_reducible refine atDst 33 ?_); refine wpList_plain rfl fun K hK => wp_bldI 53 3 (.tmp 32) rfl i1 Tryz.underlying53 hi1 0 hy0 hy1 a rfl ?_; intro wa hr hb; have RA := qH hr; have BA := qH hb; clear hr hb; refine hK _ _ ?_; clear hK K; (try simp only [Act.put, qA, qB, qC])))
  refine (refCloseN_own S a z [.slice A S.length cap, .int .i64 a, .int .i64 z] [a] _ wa ((V.out.below B7.out).below (B79.out.trans (BA.out.mono B79.out.size))) RA.out).mono ?_
  rintro e wb ⟨v34, rfl, hr, hown, hb⟩
  rw [HCY.out] at hr
  have FX := qH (Fx.new (w := wa) (H := w7.heap.size) (Wb := fun k => k = w7.heap.size) hr hown (Nat.le_trans B79.out.size BA.out.size) (fun k hk => by rw [hk]; exact Nat.lt_of_lt_of_le K9.out.lt BA.out.size))
  have KB := qH (K9.out.below (BA.out.trans (hb.mono BA.out.size)) K9.out.lt)
  have B7b := qH (B79.out.trans ((BA.out.trans (hb.mono BA.out.size)).mono B79.out.size))
  obtain ⟨A34, c34, rfl⟩ := FX.out.slice
  clear hr hown hb c1
  go_wp2_with ((with_reducible refine atDst 35 ?_); refine wpList_plain rfl fun K hK => wp_bldVk 28 53 (.tmp 34) rfl il (.slice none 0 0) Tryz.underlying28 hil hl0 hl1 rfl (.slice A34 (clsN S [a]).length c34) rfl rfl ?_; intro wc hk hb; have KC := qH hk; have BC := qH hb; clear hk hb; refine hK _ _ ?_; clear hK K; (try simp only [Act.put, qA, qB, qC]))
  obtain ⟨H, hH⟩ : ∃ H, H = w7.heap.size := ⟨_, rfl⟩
  have HH := qH hH
  have B7c := qH (show Below H w7 wc by rw [hH]; exact B7b.out.trans (BC.out.mono B7b.out.size))
  have HGW := qH (show H < wb.heap.size by rw [hH]; exact KB.out.lt)
  have HVR := qH (show ∀ (i : Nat) (X : List Int), [clsN S [a]][i]? = some X → Fx wc H (WbE H (.slice (some ⟨wb.heap.size, 0, none⟩) 1 1) (.slice none 0 0) (.slice none 0 0) (.slice none 0 0)) (.slice A34 (clsN S [a]).length c34) X from fun i X hX => by
   have e : X = clsN S [a] := by
    cases i with
    | zero => simpa using hX.symm
    | succ i => simp at hX
   rw [e]
   refine (show Fx wb H _ _ _ by rw [hH]; exact FX.out).off (Off.new (fun _ => False) BC.out) (fun k hk => hk.elim) fun k hk => ?_
   rcases hk with h | h | h | h | h
   ·exact .inl (by rw [h, hH])
   ·have h2 : some wb.heap.size = some k := h
    injection h2 with h2
    exact .inr (Nat.le_of_eq h2)
   ·cases h
   ·cases h
   ·cases h)
  have DC := qH (show DE wc H H cl (.slice (some ⟨wb.heap.size, 0, none⟩) 1 1) (.slice none 0 0) (.slice none 0 0) (.slice none 0 0) (fun _ => .slice A34 (clsN S [a]).length c34) (fun _ => undef) [clsN S [a]] [] [] [] from
   ⟨by rw [hH, ← HD1V.out]; exact KB.out.below BC.out KB.out.lt, HL.out, Nat.le_refl _, KC.out.own (Nat.le_of_lt HGW.out) (by unfold maxLen; simp), ownN _ _ _, ownN _ _ _, ownN _ _ _,
    HVR.out,
    fun i X hX => (by simp at hX), fun h => (by have h2 : some wb.heap.size = some H := h; injection h2 with h2; have := HGW.out; omega), fun h => (by cases h), fun h => (by cases h), fun h => (by cases h), fun k _ h => (by cases h), fun k _ h => (by cases h), fun k _ h => (by cases h), fun k _ h => (by cases h), fun k _ h => (by cases h), fun k _ h => (by cases h)⟩)
  have C7L := qH (show w.heap.size < H by rw [hH]; exact C7.out.lt)
  have R7L := qH (show w1.heap.size < H by rw [hH]; exact R7.out.lt)
  have V7 := qH (V.out.below B7.out)
  have HPZ := qH (Pl.zero S a z most)
  rw [← hH]
  obtain ⟨l0, hl0'⟩ : ∃ l0, l0 = clsN S [a] := ⟨_, rfl⟩
  rw [← hl0'] at DC HPZ ⊢
  clear hH hl0' KB KC FX K9 K8 HVR
  go_wp2_with fail
  go_loopw [10, 11] (fun lv iv wl => ∃ (i : Nat) (vn ve : Value) (vf rf : Nat → Value) (L R : List (List Int)) (E : List Bool), iv = .int .i64 (i : Int) ∧ Pl S a z most i L R E ∧ DE wl H H cl lv vn ve (.slice none 0 0) vf rf L R E [] ∧ Below H w7 wl) (fun _ iv _ => most.toNat + 2 - (intOf iv).toNat)
  case atStart => exact ⟨0, _, _, _, _, _, _, _, by simp, HPZ.out, DC.out, B7c.out⟩
  clear HPZ DC B7c
  obtain ⟨i, vn, ve, vf, rf, L, R, E, rfl, hp, hd, hb⟩ := hrel
  have PL := qH hp
  have BQ := qH hb
  obtain ⟨Al, cpl, rfl⟩ := own_slice hd.ownl
  obtain ⟨An, cpn, rfl⟩ := own_slice hd.ownn
  obtain ⟨Ae, cpe, rfl⟩ := own_slice hd.owne
  obtain ⟨nl, hnl⟩ : ∃ nl, nl = L.length := ⟨_, rfl⟩
  obtain ⟨wq, hwq⟩ : ∃ v : World, v = wr := ⟨_, rfl⟩
  subst hwq
  have HNL := qH hnl
  have HRL := qH hp.2.2.1
  have HEL := qH hp.2.2.2.1
  rw [← hnl, hp.2.2.1, hp.2.2.2.1] at hd
  rw [← hnl]
  have DQ := qH hd
  clear hp hd hb hnl
  by_cases hgo : i < nl ∧ (nl : Int) ≤ most
  ·obtain ⟨hin, hnm⟩ := hgo
   have x1 : (i : Int) < (nl : Int) := Int.ofNat_lt.2 hin
   have x2 : (nl : Int) ≤ most := hnm
   have HI := qH hin
   have HNM := qH hnm
   have HMS := qH (most_step hin hnm)
   have HGD := qH (PL.out.good (by rw [← HNL.out]; exact hnm))
   obtain ⟨X, hX⟩ : ∃ X, (LN S a i)[i]? = some X := ⟨_, List.getElem?_eq_getElem (by rw [← HGD.out.1, ← HNL.out]; exact hin)⟩
   have HX := qH hX
   obtain ⟨Lj, Rw, hin2⟩ := inn_is (kk := kk) hX HKK.out
   have INN := qH hin2
   have HXL := qH (show X.length ≤ 1000000 by
    have h1 := ris_len (LN_ris S a i X (List.mem_of_getElem? hX))
    have h2 := HM.out.few
    omega)
   have DI := qH (show DE wq H H cl (.slice Al nl cpl) (.slice An i cpn) (.slice Ae i cpe) (.slice none 0 0) vf rf (Lj 0) R E (Rw.take 0) by
    have h1 := INN.out.zero
    rw [← HGD.out.1] at h1
    rw [h1]
    exact DQ.out)
   have e3 := wrap_one i (lt_1000 hin hnm HMO.out)
   have e4 := wrap_one' i (lt_1000 hin hnm HMO.out)
   have HRWL := qH (show Rw.length ≤ 256 by rw [INN.out.len]; exact HK256.out)
   clear hin hnm hX hin2
   go_wp2_with fail
   go_loopw [10, 12, 13] (fun lv rv jv wl => ∃ (j : Nat) (vf : Nat → Value), j ≤ kk ∧ jv = .int .i64 (j : Int) ∧ DE wl H H cl lv (.slice An i cpn) (.slice Ae i cpe) rv vf rf (Lj j) R E (Rw.take j) ∧ Below H w7 wl) (fun _ _ jv _ => kk - (intOf jv).toNat)
   case atStart => exact ⟨0, vf, Nat.zero_le _, by simp, DI.out, BQ.out⟩
   clear DI DQ BQ
   obtain ⟨j, vg, hj, rfl, hd, hb⟩ := hrel
   have BP := qH hb
   obtain ⟨Am, cpm, rfl⟩ := own_slice hd.ownl
   obtain ⟨Ar, cpr, rfl⟩ := own_slice hd.ownr
   obtain ⟨wp, hwp⟩ : ∃ v : World, v = wr := ⟨_, rfl⟩
   subst hwp
   obtain ⟨M, hM⟩ : ∃ M, M = Lj j := ⟨_, rfl⟩
   obtain ⟨rw', hrw⟩ : ∃ r, r = Rw.take j := ⟨_, rfl⟩
   obtain ⟨m, hm⟩ : ∃ m, m = M.length := ⟨_, rfl⟩
   obtain ⟨q, hq⟩ : ∃ q, q = rw'.length := ⟨_, rfl⟩
   rw [← hM, ← hrw, ← hm, ← hq] at hd
   rw [← hM, ← hrw, ← hm, ← hq]
   have DP := qH hd
   have HLM := qH hm
   have HQL := qH hq
   have HQ256 := qH (show q ≤ 256 by rw [hq, hrw, List.length_take]; have := HRWL.out; omega)
   have HND := qH (show M.Nodup by rw [hM]; exact INN.out.nd j)
   have HMX := qH (show M[i]? = some X by rw [hM]; exact INN.out.at_ j)
   have HIML := qH (List.getElem?_eq_some_iff.1 HMX.out).1
   have HIM := qH (show i < m by rw [hm]; exact HIML.out)
   have hfx := hd.vrow i X HMX.out
   obtain ⟨Ai, cpi, hvi⟩ := hfx.slice
   have FXI := qH (show Fx wp H (WbE H (.slice Am m cpm) (.slice An i cpn) (.slice Ae i cpe) (.slice Ar q cpr)) (.slice Ai X.length cpi) X by rw [← hvi]; exact hfx)
   obtain ⟨bl, ol, hAl, hbl, hcl2⟩ := (Row.of_own hd.ownl).at_ (by rw [List.length_map, List.length_range]; exact Nat.lt_of_le_of_lt (Nat.zero_le _) HIML.out)
   subst hAl
   have HBL := qH hbl
   have HCI := qH (show wp.cell? ⟨bl, ol + i, none⟩ = some (.slice Ai X.length cpi) from hcl2 i _ (by rw [List.getElem?_map, List.getElem?_range HIML.out, ← hvi]; rfl))
   have im : (i : Int) < (m : Int) := Int.ofNat_lt.2 HIM.out
   have CP := qH ((C7.out.below hb C7L.out))
   have VP := qH (V7.out.below (hb.mono (Nat.le_of_eq HH.out.symm)))
   have R8P := qH (R8.out.below (hb.mono (Nat.le_of_eq HH.out.symm)))
   clear hd hb hm hq hfx hvi hbl hcl2
   by_cases hgj : j < kk ∧ (m : Int) ≤ most
   ·obtain ⟨hjk, hmm⟩ := hgj
    have y1 : (j : Int) < (kk : Int) := Int.ofNat_lt.2 hjk
    have y2 : (m : Int) ≤ most := hmm
    have HJ := qH hjk
    have HMM := qH hmm
    have HMJ := qH (sub_next hjk)
    have f3 := wrap_one j (lt_k256 hjk HK256.out)
    have f4 := wrap_one' j (lt_k256 hjk HK256.out)
    obtain ⟨b, y, hb256, hfbj, hyb, hst⟩ := INN.out.step j hjk
    rw [← hM, ← hrw, ← HLM.out] at hst
    rw [← HFB.out] at hfbj
    have HST := qH (show ∀ u, u = j + 1 → ((y ∈ M ∧ Lj u = M ∧ Rw.take u = rw' ++ [((ixOf M y : Nat) : Int)]) ∨ (y ∉ M ∧ Lj u = M ++ [y] ∧ Rw.take u = rw' ++ [(m : Int)])) from fun u hu => by rw [hu]; exact hst)
    have HYB := qH hyb
    have HB256 := qH hb256
    obtain ⟨b8, o8, rfl, hb8, hc8⟩ := R8P.out.at_ (by rw [bvs_length, HFL.out]; exact Nat.lt_of_le_of_lt (Nat.zero_le _) hjk)
    have HB8 := qH hb8
    have HC8 := qH (show wp.cell? ⟨b8, o8 + j, none⟩ = some (.int .u8 (b : Int)) from (hc8 j _ (bvs_get _ _ _ hfbj)).trans (congrArg some (bv_ofNat hb256)))
    clear hj hjk hmm hb256 hfbj hyb hst hb8 hc8 hM hrw
    go_wp2_with fail
    refine sx_startB (B := wp.heap.size) (w0 := wp) (by kernel_rfl) (Below.refl _ _) (fun wd hwd hX => ?_)
    clear hwd
    refine sx_take (i := 0) (oi := ⟨some 59, _, _, _, _, _⟩) (v := .agg #[.slice A S.length cap, .int .i64 a, .int .i64 z]) rfl (by kernel_rfl) (by kernel_rfl) (by kernel_rfl) (fun _ _ _ h => h) rfl hX (ld_blk 24 _ rfl w.heap.size rfl 24 [.slice A S.length cap, .int .i64 a, .int .i64 z] _ CP.out CP.out.lt Tryz.underlying24 rfl (size_nfa rfl)) ?_; simp only [Act.put, qA, qB, qC]
    refine sx_take (i := 1) (oi := ⟨some 60, _, _, _, _, _⟩) (v := ?_) rfl (by kernel_rfl) (by kernel_rfl) (by kernel_rfl) (fun _ _ _ h => h) rfl hX ?_ ?_; rotate_left; (intro W hW; go_simp; try with_reducible rfl); simp only [Act.put, qA, qB, qC]
    refine sx_take (i := 2) (oi := ⟨some 61, _, _, _, _, _⟩) (v := ?_) rfl (by kernel_rfl) (by kernel_rfl) (by kernel_rfl) (fun _ _ _ h => h) rfl hX ?_ ?_; rotate_left; (intro W hW; go_simp; try with_reducible rfl); simp only [Act.put, qA, qB, qC]
    refine sx_take (i := 3) (oi := ⟨some 62, _, _, _, _, _⟩) (v := ?_) rfl (by kernel_rfl) (by kernel_rfl) (by kernel_rfl) (fun _ _ _ h => h) rfl hX ?_ ?_; rotate_left; (intro W hW; go_simp; try with_reducible rfl); simp only [Act.put, qA, qB, qC]
    refine sx_take (i := 4) (oi := ⟨some 63, _, _, _, _, _⟩) (v := .slice Ai X.length cpi) rfl (by kernel_rfl) (by kernel_rfl) (by kernel_rfl) (fun _ _ _ h => h) rfl hX (fun W hW => ld_ints (.tmp 62) rfl rfl ((hW.cell (p := ⟨bl, ol + i, none⟩) HBL.out).trans HCI.out)) ?_; simp only [Act.put, qA, qB, qC]
    refine sx_take (i := 5) (oi := ⟨some 64, _, _, _, _, _⟩) (v := ?_) rfl (by kernel_rfl) (by kernel_rfl) (by kernel_rfl) (fun _ _ _ h => h) rfl hX ?_ ?_; rotate_left; (intro W hW; go_simp; try with_reducible rfl); simp only [Act.put, qA, qB, qC]
    refine sx_take (i := 6) (oi := ⟨some 65, _, _, _, _, _⟩) (v := ?_) rfl (by kernel_rfl) (by kernel_rfl) (by kernel_rfl) (fun _ _ _ h => h) rfl hX ?_ ?_; rotate_left; (intro W hW; go_simp; try with_reducible rfl); simp only [Act.put, qA, qB, qC]
    refine sx_take (i := 7) (oi := ⟨some 66, _, _, _, _, _⟩) (v := ?_) rfl (by kernel_rfl) (by kernel_rfl) (by kernel_rfl) (fun _ _ _ h => h) rfl hX ?_ ?_; rotate_left; (intro W hW; go_simp; try with_reducible rfl); simp only [Act.put, qA, qB, qC]
    refine sx_take (i := 8) (oi := ⟨some 67, _, _, _, _, _⟩) (v := .int .u8 (b : Int)) rfl (by kernel_rfl) (by kernel_rfl) (by kernel_rfl) (fun _ _ _ h => h) rfl hX (fun W hW => ld_u9 (.tmp 66) rfl rfl ((hW.cell (p := ⟨b8, o8 + j, none⟩) HB8.out).trans HC8.out)) ?_; simp only [Act.put, qA, qB, qC]
    refine sx_actB (i := 9) (o := ⟨some 68, _, _, _, _, _⟩) rfl (by kernel_rfl) rfl hX (fun K hK => ?_)
    go_wp2_with fail
    refine (refStepN_own S a z [.slice A S.length cap, .int .i64 a, .int .i64 z] X _ b wd (VP.out.below hX) (FXI.out.1.below hX) HXL.out HB256.out).mono ?_
    rintro e w9 ⟨v9, rfl, hr9, hown, hb⟩
    rw [HSY.out, ← HYB.out] at hr9
    go_wp2_with fail
    refine hK _ _ (hb.mono hX.size) ?_
    clear hK K
    (try simp only [Act.put, qA, qB, qC])
    have F9 := qH (Fx.new (w := wp) (H := H) (Wb := WbE H (.slice (some ⟨bl, ol, none⟩) m cpm) (.slice An i cpn) (.slice Ae i cpe) (.slice Ar q cpr)) hr9 (fun k hk => Nat.le_trans hX.size (hown k hk)) (Nat.le_of_lt DP.out.blk.lt) (fun k hk => DP.out.lt hk))
    replace hX := hX.trans (hb.mono hX.size)
    have D9 := qH (DP.out.below hX)
    have B9 := qH (BP.out.trans (hX.mono (Nat.le_of_lt DP.out.blk.lt)))
    obtain ⟨A9, c9, rfl⟩ := F9.out.slice
    clear hr9 hown hb
    refine sx_take (i := 10) (oi := ⟨some 14, _, _, _, _, _⟩) (v := ?_) rfl (by kernel_rfl) (by kernel_rfl) (by kernel_rfl) (fun _ _ _ h => h) rfl hX ?_ ?_; rotate_left; (intro W hW; go_simp; try with_reducible rfl); simp only [Act.put, qA, qB, qC]
    refine wpAnyH_done (by kernel_rfl) ?_ _
    clear hX
    have RL9 := qH (show Row w9 (.slice (some ⟨bl, ol, none⟩) m cpm) ((List.range M.length).map vg) from Row.of_own D9.out.ownl)
    go_wp2_with fail
    refine (refFind9_any M y vg _ _ w9 HND.out RL9.out (fun k Y h => (D9.out.vrow k Y h).1) F9.out.1).mono ?_
    rintro e wx ⟨rfl, hb⟩
    have DX := qH (D9.out.below hb)
    have FXX := qH (F9.out.off (Off.new (fun _ => False) hb) (fun k hk => hk.elim) fun k hk => .inl hk)
    have BX := qH (B9.out.trans (hb.mono (Nat.le_of_lt D9.out.blk.lt)))
    clear hb
    by_cases hym : y ∈ M
    ·obtain ⟨t, ht⟩ : ∃ t, t = ixOf M y := ⟨_, rfl⟩
     have HNX := qH (show ∀ u, u = j + 1 → Lj u = M ∧ Rw.take u = rw' ++ [(t : Int)] from fun u hu => by
      rcases HST.out u hu with h | h
      ·rw [ht]; exact h.2
      ·exact absurd hym h.1)
     have hfn : fndL M y = (t : Int) := by unfold fndL; rw [if_pos hym, ht]
     rw [hfn]
     have p0 : decide ((t : Int) < 0) = false := decide_eq_false (by omega)
     have p1 : ¬ ((t : Int) < 0) := by omega
     clear hym ht hfn
     go_wp2_with (first
      | ((with_reducible refine atDst 82 ?_); refine wpList_plain rfl fun K hK => wp_bldI 53 3 (.tmp 81) rfl i1 Tryz.underlying53 hi1 0 hy0 hy1 (t : Int) rfl ?_; intro wy hr hb; have RY := qH hr; have BY := qH hb; clear hr hb; refine hK _ _ ?_; clear hK K; (try simp only [Act.put, qA, qB, qC]))
      | ((with_reducible refine atDst 83 ?_); refine wpList_appW (base := H) rfl (.tmp 80) (.tmp 82) 53 rfl 3 i1 (.int .i64 0) 8 Tryz.underlying53 hi1 hy0 hy1 hy2 rfl _ q (nums .i64 rw') rfl (by have h1 := (DX.out.below BY.out).ownr; rw [← HQL.out] at h1; exact h1) _ (nums .i64 [(t : Int)]) rfl RY.out (nums_one _ _) (by have := HQ256.out; rw [nums_length]; simp only [List.length_singleton]; omega) (by omega) (Nat.le_trans (Nat.le_of_lt DX.out.blk.lt) BY.out.size) ?_; intro rv2 wz ho hg hw; have DZ := qH (DX.out.pushR (n := (t : Int)) BY.out (by rw [List.length_append, nums_append, ← HQL.out]; exact ho) hg hw); have BZ := qH ((BX.out.trans (BY.out.mono (Nat.le_of_lt DX.out.blk.lt))).grown hg (Nat.le_trans (Nat.le_of_lt DX.out.blk.lt) BY.out.size) (own_above DX.out.ownr)); clear ho hg hw; (try simp only [Act.put, qA, qB, qC])))
     exact ⟨⟨j + 1, vg, HJ.out, by congr 1, by rw [(HNX.out _ rfl).1, (HNX.out _ rfl).2]; exact DZ.out, BZ.out⟩, by simpa [intOf] using HMJ.out⟩
    ·have HNX := qH (show ∀ u, u = j + 1 → Lj u = M ++ [y] ∧ Rw.take u = rw' ++ [(m : Int)] from fun u hu => by
      rcases HST.out u hu with h | h
      ·exact absurd h.1 hym
      ·exact h.2)
     have hfn : fndL M y = -1 := by unfold fndL; rw [if_neg hym]
     rw [hfn]
     clear hym hfn
     go_wp2_with (first
      | ((with_reducible refine atDst 78 ?_); refine wpList_plain rfl fun K hK => wp_bldV 28 53 (.tmp 77) rfl il (.slice none 0 0) Tryz.underlying28 hil hl0 hl1 rfl (.slice A9 y.length c9) rfl rfl ?_; intro wu hr hb; have RU := qH hr; have BU := qH hb; clear hr hb; refine hK _ _ ?_; clear hK K; (try simp only [Act.put, qA, qB, qC]))
      | ((with_reducible refine atDst 79 ?_); refine wpList_appW (base := H) rfl (.tmp 76) (.tmp 78) 28 rfl 53 il (.slice none 0 0) 24 Tryz.underlying28 hil hl0 hl1 hl2 rfl _ m ((List.range m).map vg) rfl (by have h1 := (DX.out.below BU.out).ownl; rw [← HLM.out] at h1; exact h1) _ [.slice A9 y.length c9] rfl RU.out (fun u hu => by obtain rfl := List.mem_singleton.1 hu; rfl) (by simp only [List.length_singleton]; exact len_1000 HMM.out HMO.out) (by omega) (Nat.le_trans (Nat.le_of_lt DX.out.blk.lt) BU.out.size) ?_; intro lv2 wv ho hg hw; have DV2 := qH (DX.out.pushL FXX.out BU.out (by rw [← HLM.out]; exact ho) hg hw); have BV := qH ((BX.out.trans (BU.out.mono (Nat.le_of_lt DX.out.blk.lt))).grown hg (Nat.le_trans (Nat.le_of_lt DX.out.blk.lt) BU.out.size) (own_above DX.out.ownl)); clear ho hg hw; (try simp only [Act.put, qA, qB, qC]))
      | ((with_reducible refine atDst 82 ?_); refine wpList_plain rfl fun K hK => wp_bldI 53 3 (.tmp 81) rfl i1 Tryz.underlying53 hi1 0 hy0 hy1 (m : Int) rfl ?_; intro wy hr hb; have RY := qH hr; have BY := qH hb; clear hr hb; refine hK _ _ ?_; clear hK K; (try simp only [Act.put, qA, qB, qC]))
      | ((with_reducible refine atDst 83 ?_); refine wpList_appW (base := H) rfl (.tmp 80) (.tmp 82) 53 rfl 3 i1 (.int .i64 0) 8 Tryz.underlying53 hi1 hy0 hy1 hy2 rfl _ q (nums .i64 rw') rfl (by have h1 := (DV2.out.below BY.out).ownr; rw [← HQL.out] at h1; exact h1) _ (nums .i64 [(m : Int)]) rfl RY.out (nums_one _ _) (by have := HQ256.out; rw [nums_length]; simp only [List.length_singleton]; omega) (by omega) (Nat.le_trans (Nat.le_of_lt DV2.out.blk.lt) BY.out.size) ?_; intro rv2 wz ho hg hw; have DZ := qH (DV2.out.pushR (n := (m : Int)) BY.out (by rw [List.length_append, nums_append, ← HQL.out]; exact ho) hg hw); have BZ := qH ((BV.out.trans (BY.out.mono (Nat.le_of_lt DV2.out.blk.lt))).grown hg (Nat.le_trans (Nat.le_of_lt DV2.out.blk.lt) BY.out.size) (own_above DV2.out.ownr)); clear ho hg hw; (try simp only [Act.put, qA, qB, qC])))
     exact ⟨⟨j + 1, _, HJ.out, by congr 1, by rw [(HNX.out _ rfl).1, (HNX.out _ rfl).2]; exact DZ.out, BZ.out⟩, by simpa [intOf] using HMJ.out⟩
   ·have HOV := qH (show j = kk ∨ most < ((Lj j).length : Int) by
     by_cases h : j < kk
     ·right
      rw [← hM, ← HLM.out]
      have : ¬ (m : Int) ≤ most := fun h2 => hgj ⟨h, h2⟩
      omega
     ·left; omega)
    have HPN := qH (PL.out.next HGD.out.1 HGD.out.2.1 HGD.out.2.2 HX.out INN.out HOV.out)
    rw [← hM, ← hrw] at HPN
    have HSTP := qH (show ¬ (j : Int) < (kk : Int) ∨ ((j : Int) < (kk : Int) ∧ ¬ (m : Int) ≤ most) by
     by_cases h : j < kk
     ·exact .inr ⟨Int.ofNat_lt.2 h, fun h2 => hgj ⟨h, h2⟩⟩
     ·exact .inl fun h2 => h (Int.ofNat_lt.1 h2))
    have HHZ := qH (show decide (z ∈ X) = hasZ z X from rfl)
    have HC2 := qH (CP.out.cell 2)
    obtain ⟨bz, hbz⟩ : ∃ bz, bz = hasZ z X := ⟨_, rfl⟩
    rw [← hbz] at HHZ HPN
    have NW := qH (show ¬ WbN H (.slice An i cpn) (.slice Ae i cpe) w.heap.size from fun h => by
     have h1 := DP.out.ge_ (k := w.heap.size) (by
      rcases h with h | h | h
      ·exact .inl h
      ·exact .inr (.inr (.inl h))
      ·exact .inr (.inr (.inr (.inl h))))
     have h2 := C7L.out
     omega)
    have NB := qH (show ¬ WbN H (.slice An i cpn) (.slice Ae i cpe) bl from fun h => by
     rcases h with h | h | h
     ·exact DP.out.gl (by rw [← h]; rfl)
     ·exact DP.out.ln bl rfl h
     ·exact DP.out.le bl rfl h)
    have HI1 := qH (show i + 1 ≤ 2097152 from by have h1 := HI.out; exact Nat.le_trans h1 (Nat.le_of_succ_le (len_1000 HNM.out HMO.out)))
    clear hj hgj hM hrw hbz
    rcases HSTP.out with y1 | ⟨y1, y2⟩
    all_goals
     go_wp2_with fail
     refine mc_start (fun W => Off (WbN H (.slice An i cpn) (.slice Ae i cpe)) wp W) (fun W => Blk W H 31 (dcl cl (.slice An i cpn) (.slice Ae i cpe))) 17 (by kernel_rfl) (fun wd hwd => ?_)
     have hX : Off (WbN H (.slice An i cpn) (.slice Ae i cpe)) wp wd := by rw [hwd]; exact Off.start _ _
     have hY : Blk wd H 31 (dcl cl (.slice An i cpn) (.slice Ae i cpe)) := by rw [hwd]; exact DP.out.blk.drew
     have HWD := qH (show Below wp.heap.size wp wd by rw [hwd]; exact (Below.refl _ _).drew)
     clear hwd
     refine mc_take (i := 0) (oi := ⟨some 84, _, _, _, _, _⟩) (v := ?_) rfl (by kernel_rfl) (by kernel_rfl) (by kernel_rfl) (fun _ _ _ h => h) rfl hX ?_ ?_; rotate_left; (intro W hW; go_simp; try with_reducible rfl); simp only [Act.put, qA, qB, qC]
     refine mc_takeS (i := 1) (oi := ⟨some 85, _, _, _, _, _⟩) (v := .slice An i cpn) rfl (by kernel_rfl) (by kernel_rfl) (by kernel_rfl) (fun _ _ _ h => h) rfl hX hY (fun W _ hS => ld_inss (.tmp 84) rfl rfl (by have := Blk.cell hS 256; rw [dcl_n HL.out] at this; exact this)) ?_; simp only [Act.put, qA, qB, qC]
     refine mc_take (i := 2) (oi := ⟨some 86, _, _, _, _, _⟩) (v := ?_) rfl (by kernel_rfl) (by kernel_rfl) (by kernel_rfl) (fun _ _ _ h => h) rfl hX ?_ ?_; rotate_left; (intro W hW; go_simp; try with_reducible rfl); simp only [Act.put, qA, qB, qC]
     refine mc_take (i := 5) (oi := ⟨some 89, _, _, _, _, _⟩) (v := ?_) rfl (by kernel_rfl) (by kernel_rfl) (by kernel_rfl) (fun _ _ _ h => h) rfl hX ?_ ?_; rotate_left; (intro W hW; go_simp; try with_reducible rfl); simp only [Act.put, qA, qB, qC]
     refine mc_takeS (i := 6) (oi := ⟨some 90, _, _, _, _, _⟩) (v := .slice Ae i cpe) rfl (by kernel_rfl) (by kernel_rfl) (by kernel_rfl) (fun _ _ _ h => h) rfl hX hY (fun W _ hS => ld_bls (.tmp 89) rfl rfl (by have := Blk.cell hS 257; rw [dcl_e HL.out] at this; exact this)) ?_; simp only [Act.put, qA, qB, qC]
     refine mc_take (i := 7) (oi := ⟨some 91, _, _, _, _, _⟩) (v := ?_) rfl (by kernel_rfl) (by kernel_rfl) (by kernel_rfl) (fun _ _ _ h => h) rfl hX ?_ ?_; rotate_left; (intro W hW; go_simp; try with_reducible rfl); simp only [Act.put, qA, qB, qC]
     refine mc_take (i := 8) (oi := ⟨some 92, _, _, _, _, _⟩) (v := ?_) rfl (by kernel_rfl) (by kernel_rfl) (by kernel_rfl) (fun _ _ _ h => h) rfl hX ?_ ?_; rotate_left; (intro W hW; go_simp; try with_reducible rfl); simp only [Act.put, qA, qB, qC]
     refine mc_take (i := 9) (oi := ⟨some 93, _, _, _, _, _⟩) (v := ?_) rfl (by kernel_rfl) (by kernel_rfl) (by kernel_rfl) (fun _ _ _ h => h) rfl hX ?_ ?_; rotate_left; (intro W hW; go_simp; try with_reducible rfl); simp only [Act.put, qA, qB, qC]
     refine mc_take (i := 10) (oi := ⟨some 94, _, _, _, _, _⟩) (v := .slice Ai X.length cpi) rfl (by kernel_rfl) (by kernel_rfl) (by kernel_rfl) (fun _ _ _ h => h) rfl hX (fun W hW => ld_ints (.tmp 93) rfl rfl (Off.cell hW HBL.out NB.out HCI.out)) ?_; simp only [Act.put, qA, qB, qC]
     refine mc_take (i := 11) (oi := ⟨some 95, _, _, _, _, _⟩) (v := ?_) rfl (by kernel_rfl) (by kernel_rfl) (by kernel_rfl) (fun _ _ _ h => h) rfl hX ?_ ?_; rotate_left; (intro W hW; go_simp; try with_reducible rfl); simp only [Act.put, qA, qB, qC]
     refine mc_take (i := 12) (oi := ⟨some 96, _, _, _, _, _⟩) (v := .int .i64 z) rfl (by kernel_rfl) (by kernel_rfl) (by kernel_rfl) (fun _ _ _ h => h) rfl hX (fun W hW => ld_int9 (.tmp 95) rfl rfl (Off.cell hW CP.out.lt NW.out HC2.out)) ?_; simp only [Act.put, qA, qB, qC]
     refine mc_actB (i := 3) (o := ⟨some 87, _, _, _, _, _⟩) rfl (by kernel_rfl) rfl (fun K hK => ?_)
     refine wp_bldV 28 53 (.tmp 86) rfl il (.slice none 0 0) Tryz.underlying28 hil hl0 hl1 rfl (.slice Ar q cpr) rfl rfl ?_
     intro wf hr hb
     have RF := qH hr
     have BF := qH (HWD.out.trans (hb.mono HWD.out.size))
     refine hK _ _ (hX.then hb) (hY.below hb hY.lt) ?_
     clear hK K
     (try simp only [Act.put, qA, qB, qC])
     replace hX := hX.then hb
     replace hY := hY.below hb hY.lt
     clear hr hb
     refine mc_actB (i := 4) (o := ⟨some 88, _, _, _, _, _⟩) rfl (by kernel_rfl) rfl (fun K hK => ?_)
     refine wp_appW (base := H) (.tmp 85) (.tmp 87) 28 rfl 53 il (.slice none 0 0) 24 Tryz.underlying28 hil hl0 hl1 hl2 rfl _ i ((List.range i).map rf) rfl (by have h1 := (DP.out.below BF.out).ownn; rw [HRL.out] at h1; exact h1) _ [.slice Ar q cpr] rfl RF.out (fun u hu => by obtain rfl := List.mem_singleton.1 hu; rfl) (by simp only [List.length_singleton]; exact HI1.out) (by omega) (Nat.le_trans (Nat.le_of_lt DP.out.blk.lt) BF.out.size) ?_
     intro vn2 wg ho hg hw
     have hY2 : Blk wg H 31 (dcl cl (.slice An i cpn) (.slice Ae i cpe)) := (hg.block H hY.lt fun e => DP.out.gn e.symm).trans hY
     have hX2 := hX.trans (Off.grown (D := WbN H (.slice An i cpn) (.slice Ae i cpe)) hg fun k hk => .inr (.inr (.inl hk)))
     have HO1 := qH (show World.ownsRow wg H 53 1 vn2 (i + 1) ((List.range i).map rf ++ [.slice Ar q cpr]) from ho)
     have HG1 := qH hg
     have HW1 := qH hw
     refine hK _ _ hX2 hY2 ?_
     clear hK K hX hY
     (try simp only [Act.put, qA, qB, qC])
     have hX := hX2
     have hY := hY2
     clear ho hg hw hX2 hY2
     obtain ⟨A2, c2, rfl⟩ := own_slice HO1.out
     refine mc_take (i := 16) (oi := ⟨some 100, _, _, _, _, _⟩) (v := ?_) rfl (by kernel_rfl) (by kernel_rfl) (by kernel_rfl) (fun _ _ _ h => h) rfl hX ?_ ?_; rotate_left; (intro W hW; go_simp; try with_reducible rfl); simp only [Act.put, qA, qB, qC]
     refine mc_actB (i := 13) (o := ⟨some 97, _, _, _, _, _⟩) rfl (by kernel_rfl) rfl (fun K hK => ?_)
     go_wp2_with fail
     refine (refHasN_any X z _ wg (FXI.out.off (Wb' := fun _ => False) hX (fun k hk => .inl (by
      rcases hk with h | h | h
      ·exact .inl h
      ·exact .inr (.inr (.inl h))
      ·exact .inr (.inr (.inr (.inl h))))) fun k hk => hk.elim).1).mono ?_
     rintro e we ⟨rfl, hwe⟩
     subst hwe
     rw [HHZ.out]
     go_wp2_with fail
     refine hK _ _ hX hY ?_
     clear hK K
     (try simp only [Act.put, qA, qB, qC])
     refine mc_actB (i := 14) (o := ⟨some 98, _, _, _, _, _⟩) rfl (by kernel_rfl) rfl (fun K hK => ?_)
     refine wp_bldV 29 4 (.tmp 97) rfl i2 (.bool false) Tryz.underlying29 hi2 hb0 hb1 rfl (.bool bz) rfl rfl ?_
     intro wh hr hb
     have RH := qH hr
     have BH := qH hb
     refine hK _ _ (hX.then hb) (hY.below hb hY.lt) ?_
     clear hK K
     (try simp only [Act.put, qA, qB, qC])
     replace hX := hX.then hb
     replace hY := hY.below hb hY.lt
     clear hr hb
     refine mc_actB (i := 15) (o := ⟨some 99, _, _, _, _, _⟩) rfl (by kernel_rfl) rfl (fun K hK => ?_)
     have hoe : wh.ownsRow H 4 1 (.slice Ae i cpe) i (bools E) := by
      have h1 := (DP.out.below BF.out).owne
      rw [HEL.out] at h1
      refine own6_stay h1 fun k hk => ?_
      have hk0 := (own6_lt h1 k hk).1
      exact (BH.out.block k (Nat.lt_of_lt_of_le hk0 HG1.out.size)).trans (HG1.out.block k hk0 fun e => DP.out.ne k e.symm hk)
     refine wp_appW (base := H) (.tmp 90) (.tmp 98) 29 rfl 4 i2 (.bool false) 1 Tryz.underlying29 hi2 hb0 hb1 hb2 rfl _ i (bools E) rfl hoe _ [.bool bz] rfl RH.out (fun u hu => by obtain rfl := List.mem_singleton.1 hu; rfl) (by simp only [List.length_singleton]; exact HI1.out) (by omega) (Nat.le_of_lt hY.lt) ?_
     intro ve2 wi ho hg hw
     have hY2 : Blk wi H 31 (dcl cl (.slice An i cpn) (.slice Ae i cpe)) := (hg.block H hY.lt fun e => DP.out.ge e.symm).trans hY
     have hX2 := hX.trans (Off.grown (D := WbN H (.slice An i cpn) (.slice Ae i cpe)) hg fun k hk => .inr (.inr (.inr hk)))
     have HPX := qH (DP.out.next (b := bz) BF.out (by rw [HRL.out]; exact HO1.out) HG1.out HW1.out BH.out (by
      have e1 : (E ++ [bz]).length = i + [Value.bool bz].length := by rw [List.length_append, HEL.out]; rfl
      have e2 : bools (E ++ [bz]) = bools E ++ [Value.bool bz] := by simp [bools]
      rw [e1, e2]
      exact ho) hg hw)
     obtain ⟨A3, c3, rfl⟩ := own_slice (show World.ownsRow wi H 4 1 ve2 (i + 1) (bools E ++ [Value.bool bz]) from ho)
     refine hK _ _ hX2 hY2 ?_
     clear hK K hX hY hoe
     (try simp only [Act.put, qA, qB, qC])
     have hX := hX2
     have hY := hY2
     clear ho hg hw hX2 hY2
     have HP1 := HPX.out.1
     have HP2 := HPX.out.2.1
     have HC6 := qH (show wi.cell? ⟨H, 256, none⟩ = some (.slice An i cpn) from (Blk.cell HP1 256).trans (dcl_n HL.out))
     have HF6 := qH (HP1.frozen 256)
     have HC7 := qH (show (wi.setCell ⟨H, 256, none⟩ (.slice A2 (i + 1) c2)).cell? ⟨H, 257, none⟩ = some (.slice Ae i cpe) from (Blk.cell HP2 257).trans (dcl_e HL.out))
     have HF7 := qH (HP2.frozen 257)
     clear HP1 HP2
     refine mc_last (i := 17) (o := ⟨none, _, _, _, _, _⟩) rfl (by kernel_rfl) rfl (fun K hK => ?_)
     refine wp_stIns (.tmp 100) (.tmp 88) rfl rfl rfl HC6.out HF6.out ?_
     refine hK _ _ (hX.trans (Off.set _ 256 _ (.inl rfl))) ?_
     clear hK K
     (try simp only [Act.put, qA, qB, qC])
     replace hX := hX.trans (Off.set wi 256 (.slice A2 (i + 1) c2) (D := WbN H (.slice An i cpn) (.slice Ae i cpe)) (.inl rfl))
     refine mc_take (i := 18) (oi := ⟨some 101, _, _, _, _, _⟩) (v := ?_) rfl (by kernel_rfl) (by kernel_rfl) (by kernel_rfl) (fun _ _ _ h => h) rfl hX ?_ ?_; rotate_left; (intro W hW; go_simp; try with_reducible rfl); simp only [Act.put, qA, qB, qC]
     refine mc_last (i := 19) (o := ⟨none, _, _, _, _, _⟩) rfl (by kernel_rfl) rfl (fun K hK => ?_)
     refine wp_stBls (.tmp 101) (.tmp 99) rfl rfl rfl HC7.out HF7.out ?_
     refine hK _ _ (hX.trans (Off.set _ 257 _ (.inl rfl))) ?_
     clear hK K hX
     (try simp only [Act.put, qA, qB, qC])
     refine wpAnyC_done (by kernel_rfl) ?_ _
     obtain ⟨wj, hwj⟩ : ∃ v, v = (wi.setCell ⟨H, 256, none⟩ (.slice A2 (i + 1) c2)).setCell ⟨H, 257, none⟩ (.slice A3 (i + 1) c3) := ⟨_, rfl⟩
     have DJ := qH HPX.out.2.2.1
     have OJ := qH HPX.out.2.2.2
     rw [← hwj] at DJ OJ
     have BJ := qH (BP.out.trans (OJ.out.below (fun k hk => DP.out.ge_ (by
      rcases hk with h | h | h
      ·exact .inl h
      ·exact .inr (.inr (.inl h))
      ·exact .inr (.inr (.inr (.inl h))))) (Nat.le_of_lt DP.out.blk.lt)))
     first | rw [← hwj] | skip
     clear hwj HPX hY
     go_wp2_with fail
     exact ⟨⟨i + 1, _, _, vg, _, M, _, _, by congr 1, HPN.out, DJ.out, BJ.out⟩, by simpa [intOf] using HMS.out⟩
  ·have HSTP := qH (show ¬ (i : Int) < (nl : Int) ∨ ((i : Int) < (nl : Int) ∧ ¬ (nl : Int) ≤ most) by
    by_cases h : i < nl
    ·exact .inr ⟨Int.ofNat_lt.2 h, fun h2 => hgo ⟨h, h2⟩⟩
    ·exact .inl fun h2 => h (Int.ofNat_lt.1 h2))
   have RQ := qH (R7.out.below BQ.out R7L.out)
   have BW := qH (B17.out.trans (BQ.out.mono (by rw [HH.out]; exact B17.out.size)))
   by_cases hbig : most < (nl : Int)
   ·have HF := qH (PL.out.many HM.out (by rw [← HNL.out]; exact hbig))
    have hd1 : decide (most < (nl : Int)) = true := decide_eq_true hbig
    clear hgo
    rcases HSTP.out with y1 | ⟨y1, y2⟩
    all_goals
     go_wp2_with (first
      | ((with_reducible refine atDst 106 ?_); refine wpList_bld rfl 31 #[] rfl d0 HDB.out ?_; (try simp only [Act.put, qA, qB, qC]))
      | ((with_reducible refine atStore 31 4 106 ?_); refine wpList_stBlk rfl 31 _ _ rfl w1.heap.size d0 rfl rfl 31 _ RQ.out HDS.out rfl HD1.out BW.out (Nat.le_refl _) ?_; intro we hk hb hs ho; have KE := qH hk; have BE := qH (B1.out.trans (hb.mono B1.out.size)); clear hk hb hs ho; (try simp only [Act.put, qA, qB, qC])))
     refine bodyPost_ret (results_blk2 rfl _ _ w1.heap.size 31 _ _ _ rfl rfl KE.out Tryz.underlying31 rfl HDS.out) rfl ?_
     unfold MkPost
     rw [HF.out]
     exact ⟨d0, rfl, by rw [HD0.out]; exact dfaV_no _, BE.out⟩
   ·have hd1 : decide (most < (nl : Int)) = false := decide_eq_false hbig
    have y1 : ¬ (i : Int) < (nl : Int) := fun h => hgo ⟨Int.ofNat_lt.1 h, by omega⟩
    have HOK := qH (PL.out.done HM.out (by rw [← HNL.out]; omega) (fun h => y1 (Int.ofNat_lt.2 (by rw [HNL.out]; exact h))))
    obtain ⟨da, hda⟩ : ∃ da, da = dcl cl (.slice An i cpn) (.slice Ae i cpe) := ⟨_, rfl⟩
    have HDA := qH hda
    have HDLa := qH (show da.length = 258 by rw [hda]; exact dcl_len HL.out)
    have HDOa := qH (show da.all (·.oneCell') = true by rw [hda]; exact dcl_one)
    have HDSa := qH (show (Tryz.prog.info? 31).map (·.size) = some da.length by rw [hda]; exact size_dfa HL.out)
    have KDa := qH (show Blk wq H 31 da by rw [hda]; exact DQ.out.blk)
    have DFV := qH (show DfaV wq da ⟨cl, R, E⟩ by rw [hda]; exact DQ.out.dfa)
    clear hgo hbig hda
    go_wp2_with (first
     | ((with_reducible refine atDst 107 ?_); refine wpList_ldArr rfl 31 _ rfl H rfl 31 _ _ KDa.out Tryz.underlying31 rfl HDSa.out ?_; (try simp only [Act.put, qA, qB, qC]))
     | ((with_reducible refine atStore 31 4 107 ?_); refine wpList_stBlk rfl 31 _ _ rfl w1.heap.size da rfl rfl 31 _ RQ.out HDSa.out (by rw [HDL.out, HDLa.out]) HDOa.out (Below.refl w1.heap.size wq) (Nat.le_refl _) ?_; intro we hk hb hs ho; have KE := qH hk; have HO9 := qH ho; have HS9 := qH hs; have BE := qH (B1.out.trans ((BW.out.trans hb).mono B1.out.size)); have BB9 := qH hb; clear hk hb hs ho; (try simp only [Act.put, qA, qB, qC])))
    refine bodyPost_ret (results_blk2 rfl _ _ w1.heap.size 31 _ _ _ rfl rfl KE.out Tryz.underlying31 rfl HDSa.out) rfl ?_
    unfold MkPost
    rw [HOK.out]
    refine ⟨da, rfl, ?_, BE.out⟩
    rw [← HCL.out, HDA.out]
    have hoff : Off (fun k => k = w1.heap.size) wq we := ⟨BB9.out.os, BB9.out.tape, BB9.out.output, Nat.le_of_eq HS9.out.symm, fun k hk hn => HO9.out k hn⟩
    exact (DQ.out.far hoff fun k hk => by rw [hk]; exact R7L.out).dfa
end Go.Proofs.YteadghoojeehlaaGreatDoor
