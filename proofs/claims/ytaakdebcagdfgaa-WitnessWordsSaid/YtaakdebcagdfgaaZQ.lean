/-
  Texts of this proof, put together: WnD, WnP. No statement is proved here.
-/
import Derived.Test.YtaakdebcagdfgaaZP
import Derived.Test.YtaakdebcagdfgaaZB
import Derived.Test.YtaakdebcagdfgaaZF
namespace Go.Proofs.Ytaakdebcagdfgaa
open Go.RowKit
set_option linter.unusedSimpArgs false
set_option linter.unusedVariables false
section
variable {P : Program}
theorem ex_neW {ev : Operand → Value} {o : Oper} (t : TypeId) (x y : Operand) (oT : TypeId) (ht : P.underlying t = some .string) (ho : o.op = .binOp .neq t x y oT) {X Y : ByteArray} (hx : ev x = .string X) (hy : ev y = .string Y) {D E : List UInt8}
  (hX : X = ⟨D.toArray⟩) (hY : Y = ⟨E.toArray⟩) {b : Bool} (hb : (D == E) = !b) (W : World) : (execOp ev o).run P W = .ok (.value (.bool b)) W := by
 have hb2 : (!(D == E)) = b := by rw [hb]; simp
 subst hX hY
 simp only [execOp, ho, hx, hy]
 go_simp
end
theorem wrdW_first (D : Dm) (m r : Nat) (hm : m ≤ 200) (hr : r < 60) : (wrdW D m r).length = min (wrdW D m 60).length r ∧ ∀ (i : Nat) (l : List UInt8), (wrdW D m r)[i]? = some l → (wrdW D m 60)[i]? = some l := by
 have h60 : wrdW D m 60 = (wrds (accD D 0) m).take 60 := by
  unfold wrdW
  rw [if_pos ⟨by omega, by omega, by decide⟩, Int.toNat_natCast]
  rfl
 by_cases h0 : r = 0
 ·subst h0
  have e : wrdW D m ((0 : Nat) : Int) = [] := by
   unfold wrdW
   rw [if_neg (fun h => absurd h.2.2 (by decide))]
  rw [e]
  exact ⟨by simp, fun i l h => by simp at h⟩
 ·have e : wrdW D m r = (wrds (accD D 0) m).take r := by
   unfold wrdW
   rw [if_pos ⟨by omega, by omega, by omega⟩, Int.toNat_natCast, Int.toNat_natCast, Nat.min_eq_left (by omega)]
  rw [e, h60, List.length_take, List.length_take]
  refine ⟨by omega, fun i l h => ?_⟩
  rw [List.getElem?_take] at h ⊢
  by_cases hi : i < r
  ·rw [if_pos hi] at h
   rw [if_pos (by omega)]
   exact h
  ·rw [if_neg hi] at h
   cases h
theorem wrdW_len (D : Dm) (n m : Int) : (wrdW D n m).length ≤ 1000 := by
 unfold wrdW
 by_cases h : 0 ≤ n ∧ n ≤ 200 ∧ 1 ≤ m
 ·rw [if_pos h, List.length_take]
  omega
 ·rw [if_neg h]
  exact Nat.zero_le _
theorem wrdW_neg (D : Dm) : wrdW D (-1) 5 = [] := by
 unfold wrdW
 rw [if_neg (fun h => absurd h.1 (by decide))]
theorem wrdW_far (D : Dm) : wrdW D 201 5 = [] := by
 unfold wrdW
 rw [if_neg (fun h => absurd h.2.1 (by decide))]
theorem cntW_neg (D : Dm) : cntW D (-1) = 0 := by
 unfold cntW
 rw [if_pos (by decide)]
theorem mod_4 (k : Nat) : k % 4 ≤ 200 := by have := Nat.mod_lt k (show 0 < 4 by decide); omega
theorem mod_60 (k : Nat) : k % 60 < 60 := Nat.mod_lt k (by decide)
theorem le_1k {m : Nat} (h : m ≤ 200) : m ≤ 1000 := by omega
theorem lt_1k {m : Nat} (h : m < 60) : m ≤ 1000 := by omega
theorem min_cast {a r b : Nat} (h : b = min a r) : min (a : Int) (r : Int) = (b : Int) := by omega
theorem int_n0 (i : Nat) : 0 ≤ (i : Int) := by omega
theorem fl_1k {i m : Nat} (h : i < m) (hm : m ≤ 1000) : i ≤ 4611686018427387904 := by omega
set_option maxHeartbeats 8000000 in
set_option maxRecDepth 1000000 in
theorem witness_first_walk (C : WitC) (n c : Nat) (V : Value) (ps : List UInt8) (k k2 : Nat) (w : World) (hn : n < 256) (hc : c < 256) (hr : Row w V (bvs ps)) (hk : k < 256) (hk2 : k2 < 256) :
  Calls Try.prog 8 #[.int .u8 (n : Int), .int .u8 (c : Int), V, .int .u8 (k : Int), .int .u8 (k2 : Int)] w fun e w' => e = .returned (.bool true) ∧ Below w.heap.size w w' := by
 have HCC := qH C
 clear C
 have R := qH hr
 obtain ⟨A, cap, rfl, _⟩ := hr
 rw [bvs_length] at R
 rw [bvs_length]
 have HN := qH hn
 have HC := qH hc
 obtain ⟨d0, hd0⟩ : ∃ d0, d0 = dcl (ctab [] 0) (.slice none 0 0) (.slice none 0 0) := ⟨_, rfl⟩
 have HDL := qH (show d0.length = 258 by rw [hd0]; exact dcl_len (ctab_length _ _))
 obtain ⟨id, hid, hdz⟩ := Option.map_eq_some_iff.1 inf_dfa
 rw [← hd0] at hdz
 have HDZ := qH hdz
 obtain ⟨r1, r2, r3, r4⟩ := rem_by k 4 (by decide) (by decide)
 obtain ⟨m, hm⟩ : ∃ m, m = k % 4 := ⟨_, rfl⟩
 have HM4 := qH (show m ≤ 200 by rw [hm]; exact mod_4 k)
 rw [← hm] at r1 r2 r3 r4
 have r1' : (k : Int).tmod 4 = (m : Int) := r1
 have RR := qH (And.intro r1' (And.intro r2 (And.intro r3 r4)))
 clear r1 r1' r2 r3 r4
 obtain ⟨r1, r2, r3, r4⟩ := rem_by k2 60 (by decide) (by decide)
 obtain ⟨r, hr0⟩ : ∃ m, m = k2 % 60 := ⟨_, rfl⟩
 have HR60 := qH (show r < 60 by rw [hr0]; exact mod_60 k2)
 rw [← hr0] at r1 r2 r3 r4
 have r1' : (k2 : Int).tmod 60 = (r : Int) := r1
 have RS := qH (And.intro r1' (And.intro r2 (And.intro r3 r4)))
 clear hd0 hdz hn hc hk hk2 hm hr0 r1 r1' r2 r3 r4
 go_enter Try.func8, Try.ntmps8
 go_wp2_with fail
 refine (begun14_any HCC.out w).mono ?_
 rintro e w1 ⟨rfl, hb⟩
 have B1 := qH hb
 clear hb
 by_cases hl : 60 < ps.length
 ·have x1 : (60 : Int) < (ps.length : Int) := Int.ofNat_lt.2 hl
  clear hl
  go_wp2_with fail
  go_ret
  exact ⟨rfl, B1.out⟩
 have x1 : ¬ (60 : Int) < (ps.length : Int) := fun h => hl (Int.ofNat_lt.1 h)
 have HL := qH (Nat.le_of_not_lt hl)
 clear hl
 go_wp2_with fail
 refine (playDfa_any n c ps _ w1 HN.out HC.out (R.out.below B1.out) HL.out).mono ?_
 rintro e w2 ⟨cs, rfl, hd, hb⟩
 obtain ⟨D, hD⟩ : ∃ D, D = dfaQ n c ps := ⟨_, rfl⟩
 rw [← hD] at hd
 have HM := qH (show MayD D by rw [hD]; exact dfaQ_may n c ps)
 have HAC := qH (show AllC D by rw [hD]; exact dfaQ_allC n c ps)
 clear hD
 have VA := qH hd.dfa
 obtain ⟨An, Ae, cn, ce, vf, hcl, hcs, _⟩ := VA.out.form
 have HCL2 := qH hcl
 have HLA := qH (show cs.length = 258 by rw [hcs]; exact dcl_len hcl)
 have HOA := qH (show cs.all (·.oneCell') = true by rw [hcs]; exact dcl_one)
 have HSA := qH (show (Try.prog.info? 28).map (·.size) = some cs.length from VA.out.size)
 have B2 := qH (B1.out.trans (hb.mono B1.out.size))
 clear hd hb hcl hcs
 go_wp2_with (first
  | ((with_reducible refine atDst 11 ?_); refine wpList_new rfl 28 rfl id _ d0 hid HDZ.out rfl (Below.refl w2.heap.size w2) (Nat.le_refl _) ?_; intro w3 hk hb hs _; have K3 := qH hk; have B23 := qH hb; clear hk hb hs; (try simp only [Act.put, qA, qB, qC]))
  | ((with_reducible refine atStore 28 11 23 ?_); refine wpList_stBlk rfl 28 _ _ rfl w2.heap.size cs rfl rfl 28 _ K3.out HSA.out (by rw [HDL.out, HLA.out]) HOA.out B23.out (Nat.le_refl _) ?_; intro w4 hk hb hs ho; have K4 := qH hk; have V4 := qH (VA.out.below hb); have B4 := qH (B2.out.trans (hb.mono B2.out.size)); clear hk hb hs ho; (try simp only [Act.put, qA, qB, qC])))
 obtain ⟨gd, hgd⟩ : ∃ g, g = w2.heap.size := ⟨_, rfl⟩
 rw [← hgd] at K4
 rw [← hgd]
 clear hgd K3 B23 VA
 obtain ⟨LA, hLA⟩ : ∃ l, l = wrdW D m 60 := ⟨_, rfl⟩
 obtain ⟨LB, hLB⟩ : ∃ l, l = wrdW D m r := ⟨_, rfl⟩
 have HLA2 := qH hLA
 have HLB := qH hLB
 have HFI := qH (show LB.length = min LA.length r ∧ ∀ (i : Nat) (l : List UInt8), LB[i]? = some l → LA[i]? = some l by rw [hLA, hLB]; exact wrdW_first D m r HM4.out HR60.out)
 have HBK := qH (show LB.length ≤ 1000 by rw [hLB]; exact wrdW_len D m r)
 clear hLA hLB
 refine mc_start (fun V => Below w4.heap.size w4 V) (fun _ => True) 15 (by kernel_rfl) (fun wd hwd => ?_)
 have hX : Below w4.heap.size w4 wd := by rw [hwd]; exact (Below.refl _ _).drew
 have hY : True := trivial
 clear hwd
 obtain ⟨t1, t2, t3, t4⟩ := RR.out
 obtain ⟨s1, s2, s3, s4⟩ := RS.out
 refine mc_take (i := 0) (oi := ⟨some 24, _, _, _, _, _⟩) (v := .agg cs.toArray) rfl (by kernel_rfl) (by kernel_rfl) (by kernel_rfl) (fun _ _ _ h => h) rfl hX (fun V hT => ld_blk 28 (.tmp 11) rfl gd rfl 28 cs _ K4.out K4.out.lt Try.underlying28 rfl HSA.out V hT) ?_; simp only [Act.put, qA, qB, qC]
 refine mc_take (i := 1) (oi := ⟨some 25, _, _, _, _, _⟩) (v := ?_) rfl (by kernel_rfl) (by kernel_rfl) (by kernel_rfl) (fun _ _ _ h => h) rfl hX ?_ ?_; rotate_left; (intro W hW; go_simp; try with_reducible rfl); simp only [Act.put, qA, qB, qC]
 refine mc_take (i := 2) (oi := ⟨some 26, _, _, _, _, _⟩) (v := ?_) rfl (by kernel_rfl) (by kernel_rfl) (by kernel_rfl) (fun _ _ _ h => h) rfl hX ?_ ?_; rotate_left; (intro W hW; go_simp; try with_reducible rfl); simp only [Act.put, qA, qB, qC]
 refine mc_take (i := 3) (oi := ⟨some 27, _, _, _, _, _⟩) (v := ?_) rfl (by kernel_rfl) (by kernel_rfl) (by kernel_rfl) (fun _ _ _ h => h) rfl hX ?_ ?_; rotate_left; (intro W hW; go_simp; try with_reducible rfl); simp only [Act.put, qA, qB, qC]
 refine mc_take (i := 5) (oi := ⟨some 29, _, _, _, _, _⟩) (v := .agg cs.toArray) rfl (by kernel_rfl) (by kernel_rfl) (by kernel_rfl) (fun _ _ _ h => h) rfl hX (fun V hT => ld_blk 28 (.tmp 11) rfl gd rfl 28 cs _ K4.out K4.out.lt Try.underlying28 rfl HSA.out V hT) ?_; simp only [Act.put, qA, qB, qC]
 refine mc_take (i := 6) (oi := ⟨some 30, _, _, _, _, _⟩) (v := ?_) rfl (by kernel_rfl) (by kernel_rfl) (by kernel_rfl) (fun _ _ _ h => h) rfl hX ?_ ?_; rotate_left; (intro W hW; go_simp; try with_reducible rfl); simp only [Act.put, qA, qB, qC]
 refine mc_take (i := 7) (oi := ⟨some 31, _, _, _, _, _⟩) (v := ?_) rfl (by kernel_rfl) (by kernel_rfl) (by kernel_rfl) (fun _ _ _ h => h) rfl hX ?_ ?_; rotate_left; (intro W hW; go_simp; try with_reducible rfl); simp only [Act.put, qA, qB, qC]
 refine mc_take (i := 8) (oi := ⟨some 32, _, _, _, _, _⟩) (v := ?_) rfl (by kernel_rfl) (by kernel_rfl) (by kernel_rfl) (fun _ _ _ h => h) rfl hX ?_ ?_; rotate_left; (intro W hW; go_simp; try with_reducible rfl); simp only [Act.put, qA, qB, qC]
 refine mc_take (i := 9) (oi := ⟨some 33, _, _, _, _, _⟩) (v := ?_) rfl (by kernel_rfl) (by kernel_rfl) (by kernel_rfl) (fun _ _ _ h => h) rfl hX ?_ ?_; rotate_left; (intro W hW; go_simp; try with_reducible rfl); simp only [Act.put, qA, qB, qC]
 refine mc_take (i := 10) (oi := ⟨some 34, _, _, _, _, _⟩) (v := ?_) rfl (by kernel_rfl) (by kernel_rfl) (by kernel_rfl) (fun _ _ _ h => h) rfl hX ?_ ?_; rotate_left; (intro W hW; go_simp; try with_reducible rfl); simp only [Act.put, qA, qB, qC]
 refine mc_take (i := 11) (oi := ⟨some 35, _, _, _, _, _⟩) (v := ?_) rfl (by kernel_rfl) (by kernel_rfl) (by kernel_rfl) (fun _ _ _ h => h) rfl hX ?_ ?_; rotate_left; (intro W hW; go_simp; try with_reducible rfl); simp only [Act.put, qA, qB, qC]
 refine mc_actB (i := 4) (o := ⟨some 28, _, _, _, _, _⟩) rfl (by kernel_rfl) rfl (fun K hK => ?_)
 have X1 := qH hX
 clear t1 t2 t3 t4 s1 s2 s3 s4
 go_wp2_with fail
 refine (HCC.out.words D cs m 60 wd (int_m1 m) (int_1k (le_1k HM4.out)) (by decide) (by decide) (V4.out.below hX) HM.out HAC.out).mono ?_
 rintro e v1 ⟨va, rfl, ⟨asv, hra, hla, hwa⟩, hb⟩
 rw [← HLA2.out] at hla hwa
 have RA1 := qH hra
 have LA1 := qH hla
 have WA1 := qH hwa
 have hX2 := X1.out.trans (hb.mono X1.out.size)
 clear hb hra hla hwa
 go_wp2_with fail
 refine hK _ _ hX2 trivial ?_
 clear hK K hX
 have hX := hX2
 clear hX2
 (try simp only [Act.put, qA, qB, qC])
 refine mc_actB (i := 12) (o := ⟨some 36, _, _, _, _, _⟩) rfl (by kernel_rfl) rfl (fun K hK => ?_)
 have X2 := qH hX
 go_wp2_with fail
 refine (HCC.out.words D cs m r v1 (int_m1 m) (int_1k (le_1k HM4.out)) (int_n0 r) (int_1k (lt_1k HR60.out)) (V4.out.below hX) HM.out HAC.out).mono ?_
 rintro e v2 ⟨vb, rfl, ⟨bs, hrb, hlb, hwb⟩, hb⟩
 rw [← HLB.out] at hlb hwb
 have RB2 := qH hrb
 have LB2 := qH hlb
 have WB2 := qH hwb
 have RA2 := qH (RA1.out.below hb)
 have WA2 := qH (show ∀ (i : Nat) (l : List UInt8), LA[i]? = some l → ∃ x, asv[i]? = some x ∧ Row v2 x (bvs l) from fun i l h => by
  obtain ⟨x, h1, h2⟩ := WA1.out i l h
  exact ⟨x, h1, h2.below hb⟩)
 have hX2 := X2.out.trans (hb.mono X2.out.size)
 clear hb hrb hlb hwb
 go_wp2_with fail
 refine hK _ _ hX2 trivial ?_
 clear hK K hX
 have hX := hX2
 clear hX2
 (try simp only [Act.put, qA, qB, qC])
 refine mc_take (i := 13) (oi := ⟨some 12, _, _, _, _, _⟩) (v := ?_) rfl (by kernel_rfl) (by kernel_rfl) (by kernel_rfl) (fun _ _ _ h => h) rfl hX ?_ ?_; rotate_left; (intro W hW; go_simp; try with_reducible rfl); simp only [Act.put, qA, qB, qC]
 refine mc_take (i := 14) (oi := ⟨some 13, _, _, _, _, _⟩) (v := ?_) rfl (by kernel_rfl) (by kernel_rfl) (by kernel_rfl) (fun _ _ _ h => h) rfl hX ?_ ?_; rotate_left; (intro W hW; go_simp; try with_reducible rfl); simp only [Act.put, qA, qB, qC]
 refine wpAnyC_done (by kernel_rfl) ?_ _
 have X3 := qH hX
 have K5 := qH (K4.out.below hX K4.out.lt)
 have V5 := qH (V4.out.below hX)
 clear hX hY RA1 WA1
 obtain ⟨la, hla⟩ : ∃ l, l = LA.length := ⟨_, rfl⟩
 obtain ⟨lb, hlb⟩ : ∃ l, l = LB.length := ⟨_, rfl⟩
 obtain ⟨Aa, ca, hva⟩ : ∃ A c, va = .slice A la c := by
  obtain ⟨A, c, h, _⟩ := RA2.out
  exact ⟨A, c, by rw [h, LA1.out, hla]⟩
 obtain ⟨Ab, cb, hvb⟩ : ∃ A c, vb = .slice A lb c := by
  obtain ⟨A, c, h, _⟩ := RB2.out
  exact ⟨A, c, by rw [h, LB2.out, hlb]⟩
 have HLAA := qH hla
 have HLBB := qH hlb
 subst hva
 subst hvb
 have hmin := min_cast (show lb = min la r by rw [hla, hlb]; exact HFI.out.1)
 have HBK2 := qH (show lb ≤ 1000 by rw [hlb]; exact HBK.out)
 clear hla hlb
 obtain ⟨s1, s2, s3, s4⟩ := RS.out
 go_wp2_with fail
 clear s1 s2 s3 s4 hmin
 go_loopw [14] (fun iv wl => ∃ i : Nat, i ≤ lb ∧ iv = .int .i64 (i : Int) ∧ Below v2.heap.size v2 wl) (fun iv _ => lb - (intOf iv).toNat)
 case atStart => exact ⟨0, Nat.zero_le _, rfl, Below.refl _ _⟩
 obtain ⟨i, hi, rfl, hb⟩ := hrel
 have HI := qH hi
 have BI := qH hb
 obtain ⟨wi, hwi⟩ : ∃ v : World, v = wr := ⟨_, rfl⟩
 subst hwi
 clear hi hb
 by_cases hil : i < lb
 ·have y1 : (i : Int) < (lb : Int) := Int.ofNat_lt.2 hil
  have HIL := qH hil
  have HMX := qH (sub_next hil)
  obtain ⟨l, hl⟩ : ∃ l, LB[i]? = some l := ⟨_, List.getElem?_eq_getElem (by rw [← HLBB.out]; exact hil)⟩
  have hl2 := HFI.out.2 i l hl
  have HAL := qH (show i < la by rw [HLAA.out]; exact (List.getElem?_eq_some_iff.1 hl2).1)
  obtain ⟨x, hx, hxr⟩ := WA2.out i l hl2
  obtain ⟨y, hy, hyr⟩ := WB2.out i l hl
  obtain ⟨Ax, cx, hxv⟩ : ∃ A c, x = .slice A (bvs l).length c := by
   obtain ⟨A, c, h, _⟩ := hxr
   exact ⟨A, c, h⟩
  obtain ⟨Ay, cy, hyv⟩ : ∃ A c, y = .slice A (bvs l).length c := by
   obtain ⟨A, c, h, _⟩ := hyr
   exact ⟨A, c, h⟩
  subst hxv
  subst hyv
  obtain ⟨nl, hnl⟩ : ∃ n, n = (bvs l).length := ⟨_, rfl⟩
  rw [← hnl] at hx hxr hy hyr
  obtain ⟨ba, oa, rfl, hba, hca⟩ := RA2.out.at_ (by rw [LA1.out, ← HLAA.out]; exact Nat.lt_of_le_of_lt (Nat.zero_le _) HAL.out)
  obtain ⟨bb, ob, rfl, hbb, hcb⟩ := RB2.out.at_ (by rw [LB2.out, ← HLBB.out]; exact Nat.lt_of_le_of_lt (Nat.zero_le _) HIL.out)
  have CA := qH (show ∀ V, Below wi.heap.size wi V → V.cell? ⟨ba, oa + i, none⟩ = some (.slice Ax nl cx) from fun V hV => ((BI.out.trans (hV.mono BI.out.size)).cell (p := ⟨ba, oa + i, none⟩) hba).trans (hca i _ hx))
  have CB := qH (show ∀ V, Below wi.heap.size wi V → V.cell? ⟨bb, ob + i, none⟩ = some (.slice Ay nl cy) from fun V hV => ((BI.out.trans (hV.mono BI.out.size)).cell (p := ⟨bb, ob + i, none⟩) hbb).trans (hcb i _ hy))
  have XR := qH (show ∀ V, Below wi.heap.size wi V → Row V (.slice Ax nl cx) (bvs l) from fun V hV => hxr.below (BI.out.trans (hV.mono BI.out.size)))
  have YR := qH (show ∀ V, Below wi.heap.size wi V → Row V (.slice Ay nl cy) (bvs l) from fun V hV => hyr.below (BI.out.trans (hV.mono BI.out.size)))
  obtain ⟨Z, hZ⟩ : ∃ Z : ByteArray, Z = ⟨l.toArray⟩ := ⟨_, rfl⟩
  have HZ := qH hZ
  have e3 := wrap_one i (fl_1k hil HBK2.out)
  have e4 := wrap_one' i (fl_1k hil HBK2.out)
  clear hil hl hl2 hx hxr hy hyr hnl hba hca hbb hcb hZ
  go_wp2_with fail
  refine mc_start (fun V => Below wi.heap.size wi V) (fun _ => True) 11 (by kernel_rfl) (fun wd hwd => ?_)
  have hX : Below wi.heap.size wi wd := by rw [hwd]; exact (Below.refl _ _).drew
  have hY : True := trivial
  clear hwd
  refine mc_take (i := 0) (oi := ⟨some 52, _, _, _, _, _⟩) (v := ?_) rfl (by kernel_rfl) (by kernel_rfl) (by kernel_rfl) (fun _ _ _ h => h) rfl hX ?_ ?_; rotate_left; (intro W hW; go_simp; try with_reducible rfl); simp only [Act.put, qA, qB, qC]
  refine mc_take (i := 1) (oi := ⟨some 53, _, _, _, _, _⟩) (v := ?_) rfl (by kernel_rfl) (by kernel_rfl) (by kernel_rfl) (fun _ _ _ h => h) rfl hX ?_ ?_; rotate_left; (intro W hW; go_simp; try with_reducible rfl); simp only [Act.put, qA, qB, qC]
  refine mc_take (i := 2) (oi := ⟨some 54, _, _, _, _, _⟩) (v := .pointer (some ⟨ba, oa + i, none⟩)) rfl (by kernel_rfl) (by kernel_rfl) (by kernel_rfl) (fun _ _ _ h => h) rfl hX (fun V _ => wj_ixR (.tmp 52) (.tmp 53) rfl rfl rfl HAL.out V) ?_; simp only [Act.put, qA, qB, qC]
  refine mc_take (i := 3) (oi := ⟨some 55, _, _, _, _, _⟩) (v := .slice Ax nl cx) rfl (by kernel_rfl) (by kernel_rfl) (by kernel_rfl) (fun _ _ _ h => h) rfl hX (fun V hV => wj_ldR (.tmp 54) rfl rfl (CA.out V hV)) ?_; simp only [Act.put, qA, qB, qC]
  refine mc_take (i := 4) (oi := ⟨some 56, _, _, _, _, _⟩) (v := .string Z) rfl (by kernel_rfl) (by kernel_rfl) (by kernel_rfl) (fun _ _ _ h => h) rfl hX (fun V hV => by rw [HZ.out]; exact ex_toStr (x := .tmp 55) (v := .slice Ax nl cx) rfl rfl (XR.out V hV)) ?_; simp only [Act.put, qA, qB, qC]
  refine mc_take (i := 5) (oi := ⟨some 57, _, _, _, _, _⟩) (v := ?_) rfl (by kernel_rfl) (by kernel_rfl) (by kernel_rfl) (fun _ _ _ h => h) rfl hX ?_ ?_; rotate_left; (intro W hW; go_simp; try with_reducible rfl); simp only [Act.put, qA, qB, qC]
  refine mc_take (i := 6) (oi := ⟨some 58, _, _, _, _, _⟩) (v := ?_) rfl (by kernel_rfl) (by kernel_rfl) (by kernel_rfl) (fun _ _ _ h => h) rfl hX ?_ ?_; rotate_left; (intro W hW; go_simp; try with_reducible rfl); simp only [Act.put, qA, qB, qC]
  refine mc_take (i := 7) (oi := ⟨some 59, _, _, _, _, _⟩) (v := .pointer (some ⟨bb, ob + i, none⟩)) rfl (by kernel_rfl) (by kernel_rfl) (by kernel_rfl) (fun _ _ _ h => h) rfl hX (fun V _ => wj_ixR (.tmp 57) (.tmp 58) rfl rfl rfl HIL.out V) ?_; simp only [Act.put, qA, qB, qC]
  refine mc_take (i := 8) (oi := ⟨some 60, _, _, _, _, _⟩) (v := .slice Ay nl cy) rfl (by kernel_rfl) (by kernel_rfl) (by kernel_rfl) (fun _ _ _ h => h) rfl hX (fun V hV => wj_ldR (.tmp 59) rfl rfl (CB.out V hV)) ?_; simp only [Act.put, qA, qB, qC]
  refine mc_take (i := 9) (oi := ⟨some 61, _, _, _, _, _⟩) (v := .string Z) rfl (by kernel_rfl) (by kernel_rfl) (by kernel_rfl) (fun _ _ _ h => h) rfl hX (fun V hV => by rw [HZ.out]; exact ex_toStr (x := .tmp 60) (v := .slice Ay nl cy) rfl rfl (YR.out V hV)) ?_; simp only [Act.put, qA, qB, qC]
  refine mc_take (i := 10) (oi := ⟨some 62, _, _, _, _, _⟩) (v := .bool false) rfl (by kernel_rfl) (by kernel_rfl) (by kernel_rfl) (fun _ _ _ h => h) rfl hX (fun V _ => ex_neW 9 (.tmp 56) (.tmp 61) _ Try.underlying9 rfl rfl rfl HZ.out HZ.out (by simp) V) ?_; simp only [Act.put, qA, qB, qC]
  refine wpAnyC_done (by kernel_rfl) ?_ _
  have BD := qH (BI.out.trans (hX.mono BI.out.size))
  clear hX hY
  go_wp2_with fail
  exact ⟨⟨i + 1, HIL.out, by congr 1, BD.out⟩, by simpa [intOf] using HMX.out⟩
 ·obtain rfl : i = lb := Nat.le_antisymm HI.out (Nat.not_lt.1 hil)
  have y1 : ¬ ((i : Int) < (i : Int)) := Int.lt_irrefl _
  have KI := qH (K5.out.below BI.out K5.out.lt)
  have VI := qH (V5.out.below BI.out)
  have BWI := qH (B4.out.trans ((X3.out.trans (BI.out.mono X3.out.size)).mono B4.out.size))
  clear hil
  go_wp2_with fail
  refine mc_start (fun V => Below wi.heap.size wi V) (fun _ => True) 14 (by kernel_rfl) (fun wd hwd => ?_)
  have hX : Below wi.heap.size wi wd := by rw [hwd]; exact (Below.refl _ _).drew
  have hY : True := trivial
  clear hwd
  refine mc_take (i := 0) (oi := ⟨some 63, _, _, _, _, _⟩) (v := .agg cs.toArray) rfl (by kernel_rfl) (by kernel_rfl) (by kernel_rfl) (fun _ _ _ h => h) rfl hX (fun V hT => ld_blk 28 (.tmp 11) rfl gd rfl 28 cs _ KI.out KI.out.lt Try.underlying28 rfl HSA.out V hT) ?_; simp only [Act.put, qA, qB, qC]
  refine mc_take (i := 3) (oi := ⟨some 66, _, _, _, _, _⟩) (v := .agg cs.toArray) rfl (by kernel_rfl) (by kernel_rfl) (by kernel_rfl) (fun _ _ _ h => h) rfl hX (fun V hT => ld_blk 28 (.tmp 11) rfl gd rfl 28 cs _ KI.out KI.out.lt Try.underlying28 rfl HSA.out V hT) ?_; simp only [Act.put, qA, qB, qC]
  refine mc_actB (i := 1) (o := ⟨some 64, _, _, _, _, _⟩) rfl (by kernel_rfl) rfl (fun K hK => ?_)
  have X5 := qH hX
  go_wp2_with fail
  refine (HCC.out.words D cs (-1) 5 wd (by decide) (by decide) (by decide) (by decide) (VI.out.below hX) HM.out HAC.out).mono ?_
  rintro e v3 ⟨vc, rfl, ⟨cv, hrc, hlc, _⟩, hb⟩
  obtain ⟨Ac, cc, rfl, _⟩ := hrc
  rw [hlc, wrdW_neg]
  have hX2 := X5.out.trans (hb.mono X5.out.size)
  clear hb hlc
  go_wp2_with fail
  refine hK _ _ hX2 trivial ?_
  clear hK K hX
  have hX := hX2
  clear hX2
  (try simp only [Act.put, qA, qB, qC])
  refine mc_take (i := 2) (oi := ⟨some 65, _, _, _, _, _⟩) (v := ?_) rfl (by kernel_rfl) (by kernel_rfl) (by kernel_rfl) (fun _ _ _ h => h) rfl hX ?_ ?_; rotate_left; (intro W hW; go_simp; try with_reducible rfl); simp only [Act.put, qA, qB, qC]
  refine mc_actB (i := 4) (o := ⟨some 67, _, _, _, _, _⟩) rfl (by kernel_rfl) rfl (fun K hK => ?_)
  have X6 := qH hX
  go_wp2_with fail
  refine (HCC.out.words D cs 201 5 v3 (by decide) (by decide) (by decide) (by decide) (VI.out.below hX) HM.out HAC.out).mono ?_
  rintro e v4 ⟨vd, rfl, ⟨dv, hrd, hld, _⟩, hb⟩
  obtain ⟨Ad, cd, rfl, _⟩ := hrd
  rw [hld, wrdW_far]
  have hX2 := X6.out.trans (hb.mono X6.out.size)
  clear hb hld
  go_wp2_with fail
  refine hK _ _ hX2 trivial ?_
  clear hK K hX
  have hX := hX2
  clear hX2
  (try simp only [Act.put, qA, qB, qC])
  refine mc_take (i := 5) (oi := ⟨some 68, _, _, _, _, _⟩) (v := ?_) rfl (by kernel_rfl) (by kernel_rfl) (by kernel_rfl) (fun _ _ _ h => h) rfl hX ?_ ?_; rotate_left; (intro W hW; go_simp; try with_reducible rfl); simp only [Act.put, qA, qB, qC]
  refine mc_take (i := 6) (oi := ⟨some 69, _, _, _, _, _⟩) (v := ?_) rfl (by kernel_rfl) (by kernel_rfl) (by kernel_rfl) (fun _ _ _ h => h) rfl hX ?_ ?_; rotate_left; (intro W hW; go_simp; try with_reducible rfl); simp only [Act.put, qA, qB, qC]
  refine mc_take (i := 7) (oi := ⟨some 70, _, _, _, _, _⟩) (v := ?_) rfl (by kernel_rfl) (by kernel_rfl) (by kernel_rfl) (fun _ _ _ h => h) rfl hX ?_ ?_; rotate_left; (intro W hW; go_simp; try with_reducible rfl); simp only [Act.put, qA, qB, qC]
  refine mc_take (i := 8) (oi := ⟨some 71, _, _, _, _, _⟩) (v := ?_) rfl (by kernel_rfl) (by kernel_rfl) (by kernel_rfl) (fun _ _ _ h => h) rfl hX ?_ ?_; rotate_left; (intro W hW; go_simp; try with_reducible rfl); simp only [Act.put, qA, qB, qC]
  refine mc_take (i := 9) (oi := ⟨some 72, _, _, _, _, _⟩) (v := .agg cs.toArray) rfl (by kernel_rfl) (by kernel_rfl) (by kernel_rfl) (fun _ _ _ h => h) rfl hX (fun V hT => ld_blk 28 (.tmp 11) rfl gd rfl 28 cs _ KI.out KI.out.lt Try.underlying28 rfl HSA.out V hT) ?_; simp only [Act.put, qA, qB, qC]
  refine mc_actB (i := 10) (o := ⟨some 73, _, _, _, _, _⟩) rfl (by kernel_rfl) rfl (fun K hK => ?_)
  have X7 := qH hX
  go_wp2_with fail
  refine (HCC.out.count D cs (-1) v4 (by decide) (by decide) (VI.out.below hX) HM.out HAC.out).mono ?_
  rintro e v5 ⟨rfl, hb⟩
  rw [cntW_neg]
  have hX2 := X7.out.trans (hb.mono X7.out.size)
  clear hb
  go_wp2_with fail
  refine hK _ _ hX2 trivial ?_
  clear hK K hX
  have hX := hX2
  clear hX2
  (try simp only [Act.put, qA, qB, qC])
  refine mc_take (i := 11) (oi := ⟨some 74, _, _, _, _, _⟩) (v := ?_) rfl (by kernel_rfl) (by kernel_rfl) (by kernel_rfl) (fun _ _ _ h => h) rfl hX ?_ ?_; rotate_left; (intro W hW; go_simp; try with_reducible rfl); simp only [Act.put, qA, qB, qC]
  refine mc_take (i := 12) (oi := ⟨some 75, _, _, _, _, _⟩) (v := ?_) rfl (by kernel_rfl) (by kernel_rfl) (by kernel_rfl) (fun _ _ _ h => h) rfl hX ?_ ?_; rotate_left; (intro W hW; go_simp; try with_reducible rfl); simp only [Act.put, qA, qB, qC]
  refine mc_take (i := 13) (oi := ⟨some 10, _, _, _, _, _⟩) (v := ?_) rfl (by kernel_rfl) (by kernel_rfl) (by kernel_rfl) (fun _ _ _ h => h) rfl hX ?_ ?_; rotate_left; (intro W hW; go_simp; try with_reducible rfl); simp only [Act.put, qA, qB, qC]
  refine wpAnyC_done (by kernel_rfl) ?_ _
  have BF := qH (BWI.out.trans (hX.mono BWI.out.size))
  clear hX hY
  go_wp2_with fail
  go_ret
  exact ⟨rfl, BF.out⟩
def psQ (m : Nat) : List (Nat → Bool) := (List.range m).map fun c b => clsQ m b == c
set_option maxRecDepth 1000000 in
theorem tabQ_1 : tabQ 1 256 = ctab (psQ 1) 256 := by kernel_rfl
set_option maxRecDepth 1000000 in
theorem tabQ_2 : tabQ 2 256 = ctab (psQ 2) 256 := by kernel_rfl
set_option maxRecDepth 1000000 in
theorem tabQ_3 : tabQ 3 256 = ctab (psQ 3) 256 := by kernel_rfl
set_option maxRecDepth 1000000 in
theorem tabQ_4 : tabQ 4 256 = ctab (psQ 4) 256 := by kernel_rfl
theorem dfaQ_ctab (n c : Nat) (ps : List UInt8) : ∃ qs, (dfaQ n c ps).cl = ctab qs 256 := by
 refine ⟨psQ (1 + c % 4), ?_⟩
 show tabQ (1 + c % 4) 256 = _
 have h : c % 4 = 0 ∨ c % 4 = 1 ∨ c % 4 = 2 ∨ c % 4 = 3 := by omega
 rcases h with h | h | h | h <;> rw [h]
 ·exact tabQ_1
 ·exact tabQ_2
 ·exact tabQ_3
 ·exact tabQ_4
end Go.Proofs.Ytaakdebcagdfgaa
