/-
  Texts of this proof, put together: WnG. No statement is proved here.
-/
import Derived.Test.YtaakdebcagdfgaaZT
import Derived.Laws.Cover1
namespace Go.Proofs.Ytaakdebcagdfgaa
open Go.RowKit
set_option linter.unusedSimpArgs false
set_option linter.unusedVariables false
theorem bl_ltW : ∀ {u v : List UInt8}, ltW u v → Op.bytesLess u v = true
 | _, [], h => absurd h (by simp [ltW])
 | [], _ :: _, _ => rfl
 | b :: u, c :: v, h => by
  simp only [ltW] at h
  simp only [Op.bytesLess]
  rcases h with h | ⟨rfl, h⟩
  ·simp [h]
  ·simp [bl_ltW h]
theorem ex_geW {P : Program} {ev : Operand → Value} {o : Oper} (t : TypeId) (x y : Operand) (oT : TypeId) (ht : P.underlying t = some .string) (ho : o.op = .binOp .geq t x y oT) {X Y : ByteArray} (hx : ev x = .string X) (hy : ev y = .string Y) {D E : List UInt8}
  (hX : X = ⟨D.toArray⟩) (hY : Y = ⟨E.toArray⟩) (hb : Op.bytesLess D E = true) (W : World) : (execOp ev o).run P W = .ok (.value (.bool false)) W := by
 subst hX hY
 simp only [execOp, ho, hx, hy]
 go_simp
theorem ex_gtW {ev : Operand → Value} {o : Oper} (x : Operand) {r : TypeId} (ho : o.op = .binOp .gtr 3 x (.const (.int .i64 0)) r) {i : Nat} (hx : ev x = .int .i64 (i : Int)) (hc : ev (.const (.int .i64 0)) = .int .i64 0) {b : Bool} (hb : decide ((0 : Int) < (i : Int)) = b) (W : World) : (execOp ev o).run Try.prog W = .ok (.value (.bool b)) W := by
 subst hb
 simp only [execOp, ho, hx, hc]
 go_simp
theorem cntL_le (L : Lang) {n : Nat} (h : n ≤ 2) : cntL L n ≤ 65536 := by
 have h1 := cntL_not L n
 have h2 : 256 ^ n ≤ 256 ^ 2 := Nat.pow_le_pow_right (by decide) h
 have h3 : (256 : Nat) ^ 2 = 65536 := by decide
 omega
theorem wrdW_600 (D : Dm) {m : Nat} (hm : m ≤ 2) : (cntW D m = (wrdW D m 600).length ∨ (600 < cntW D m ∧ (wrdW D m 600).length = 600)) ∧ (∀ (i : Nat) (l : List UInt8), (wrdW D m 600)[i]? = some l → l.length = m ∧ accD D 0 l = true) ∧
  ∀ (i j : Nat) (l l' : List UInt8), i < j → (wrdW D m 600)[i]? = some l → (wrdW D m 600)[j]? = some l' → ltW l l' := by
 have e : wrdW D (m : Int) 600 = (wrds (accD D 0) m).take 600 := wrdW_nat D 600 (by omega)
 have hc : cntW D m = (wrds (accD D 0) m).length := by
  rw [cntW_nat, Nat.min_eq_left (by omega), Nat.mod_eq_of_lt]
  ·rfl
  ·have := cntL_le (accD D 0) hm
   unfold N64
   omega
 rw [e, hc, List.length_take]
 refine ⟨by omega, fun i l hl => wrds_mem.1 (List.mem_of_mem_take (List.mem_of_getElem? hl)), fun i j l l' hij hl hl' => ?_⟩
 have hp := (wrds_rise (accD D 0) m).sublist (List.take_sublist 600 _)
 obtain ⟨h1, h2⟩ := List.getElem?_eq_some_iff.1 hl
 obtain ⟨h3, h4⟩ := List.getElem?_eq_some_iff.1 hl'
 have h5 := List.pairwise_iff_getElem.1 hp i j h1 h3 hij
 rw [h2, h4] at h5
 exact h5
theorem mod_3 (k : Nat) : k % 3 ≤ 2 := by have := Nat.mod_lt k (show 0 < 3 by decide); omega
theorem le_2k {m : Nat} (h : m ≤ 2) : m ≤ 1000 := by omega
theorem sub_1 {i j : Nat} (h : i = j + 1) (hi : i ≤ 1000) : IntKind.i64.wrap ((i : Int) - 1) = (j : Int) ∧ wrap64 ((i : Int) - 1) = (j : Int) := by
 rw [show (i : Int) - 1 = (j : Int) by omega]
 exact ⟨IntWalk.i64_in _ (by omega), IntWalk.wrap64_in _ (by omega)⟩
theorem wrapU_1k {n : Nat} (h : n ≤ 1000) : IntKind.u64.wrap (n : Int) = (n : Int) := by
 rw [wrapU, Nat.mod_eq_of_lt]
 unfold N64
 omega
set_option maxHeartbeats 8000000 in
set_option maxRecDepth 1000000 in
theorem witness_words_walk (C : WitC) (n c : Nat) (V : Value) (ps : List UInt8) (k : Nat) (w : World) (hn : n < 256) (hc : c < 256) (hr : Row w V (bvs ps)) (hk : k < 256) :
  Calls Try.prog 5 #[.int .u8 (n : Int), .int .u8 (c : Int), V, .int .u8 (k : Int)] w fun e w' => e = .returned (.bool true) ∧ Below w.heap.size w w' := by
 have HCC := qH C
 clear C
 have R := qH hr
 obtain ⟨A, cap, rfl, _⟩ := hr
 rw [bvs_length] at R
 rw [bvs_length]
 have HN := qH hn
 have HC := qH hc
 obtain ⟨d0, hd0⟩ : ∃ d0, d0 = dcl (ctab [] 0) (.slice none 0 0) (.slice none 0 0) := ⟨_, rfl⟩
 have HDL := qH (show d0.length = 258 by rw [hd0]; exact dcl_len (ctab_length _ _))
 obtain ⟨id, hid, hdz⟩ := Option.map_eq_some_iff.1 inf_dfa
 rw [← hd0] at hdz
 have HDZ := qH hdz
 obtain ⟨r1, r2, r3, r4⟩ := rem_by k 3 (by decide) (by decide)
 obtain ⟨m, hm⟩ : ∃ m, m = k % 3 := ⟨_, rfl⟩
 have HM3 := qH (show m ≤ 2 by rw [hm]; exact mod_3 k)
 rw [← hm] at r1 r2 r3 r4
 have r1' : (k : Int).tmod 3 = (m : Int) := r1
 have RR := qH (And.intro r1' (And.intro r2 (And.intro r3 r4)))
 clear hd0 hdz hn hc hk hm r1 r1' r2 r3 r4
 go_enter Try.func5, Try.ntmps5
 go_wp2_with fail
 refine (begun14_any HCC.out w).mono ?_
 rintro e w1 ⟨rfl, hb⟩
 have B1 := qH hb
 clear hb
 by_cases hl : 60 < ps.length
 ·have x1 : (60 : Int) < (ps.length : Int) := Int.ofNat_lt.2 hl
  clear hl
  go_wp2_with fail
  go_ret
  exact ⟨rfl, B1.out⟩
 have x1 : ¬ (60 : Int) < (ps.length : Int) := fun h => hl (Int.ofNat_lt.1 h)
 have HL := qH (Nat.le_of_not_lt hl)
 clear hl
 go_wp2_with fail
 refine (playDfa_any n c ps _ w1 HN.out HC.out (R.out.below B1.out) HL.out).mono ?_
 rintro e w2 ⟨cs, rfl, hd, hb⟩
 obtain ⟨D, hD⟩ : ∃ D, D = dfaQ n c ps := ⟨_, rfl⟩
 rw [← hD] at hd
 have HM := qH (show MayD D by rw [hD]; exact dfaQ_may n c ps)
 have HAC := qH (show AllC D by rw [hD]; exact dfaQ_allC n c ps)
 clear hD
 have VA := qH hd.dfa
 obtain ⟨An, Ae, cn, ce, vf, hcl, hcs, _⟩ := VA.out.form
 have HCL2 := qH hcl
 have HLA := qH (show cs.length = 258 by rw [hcs]; exact dcl_len hcl)
 have HOA := qH (show cs.all (·.oneCell') = true by rw [hcs]; exact dcl_one)
 have HSA := qH (show (Try.prog.info? 28).map (·.size) = some cs.length from VA.out.size)
 have B2 := qH (B1.out.trans (hb.mono B1.out.size))
 clear hd hb hcl hcs
 obtain ⟨t1, t2, t3, t4⟩ := RR.out
 go_wp2_with (first
  | ((with_reducible refine atDst 9 ?_); refine wpList_new rfl 28 rfl id _ d0 hid HDZ.out rfl (Below.refl w2.heap.size w2) (Nat.le_refl _) ?_; intro w3 hk hb hs _; have K3 := qH hk; have B23 := qH hb; clear hk hb hs; (try simp only [Act.put, qA, qB, qC]))
  | ((with_reducible refine atStore 28 9 22 ?_); refine wpList_stBlk rfl 28 _ _ rfl w2.heap.size cs rfl rfl 28 _ K3.out HSA.out (by rw [HDL.out, HLA.out]) HOA.out B23.out (Nat.le_refl _) ?_; intro w4 hk hb hs ho; have K4 := qH hk; have V4 := qH (VA.out.below hb); have B4 := qH (B2.out.trans (hb.mono B2.out.size)); clear hk hb hs ho; (try simp only [Act.put, qA, qB, qC]))
  | ((with_reducible refine atDst 26 ?_); refine wpList_ldArr rfl 28 _ rfl w2.heap.size rfl 28 _ _ K4.out Try.underlying28 rfl HSA.out ?_; (try simp only [Act.put, qA, qB, qC])))
 obtain ⟨gd, hgd⟩ : ∃ g, g = w2.heap.size := ⟨_, rfl⟩
 rw [← hgd] at K4
 rw [← hgd]
 clear hgd K3 B23 VA t1 t2 t3 t4
 refine (HCC.out.words D cs m 600 w4 (int_m1 m) (int_1k (le_2k HM3.out)) (by decide) (by decide) V4.out HM.out HAC.out).mono ?_
 rintro e w5 ⟨va, rfl, ⟨asv, hra, hla, hwa⟩, hb⟩
 obtain ⟨L, hL⟩ : ∃ l, l = wrdW D m 600 := ⟨_, rfl⟩
 obtain ⟨lw, hlw⟩ : ∃ l, l = L.length := ⟨_, rfl⟩
 have HL2 := qH hL
 have HLW := qH hlw
 obtain ⟨f1, f2, f3⟩ := wrdW_600 D HM3.out
 have hk1 := wrdW_len D m 600
 rw [← hL] at hla hwa f1 f2 f3 hk1
 have F1 := qH f1
 have F2 := qH f2
 have F3 := qH f3
 have HK1 := qH (show lw ≤ 1000 by rw [hlw]; exact hk1)
 have RA := qH hra
 have LA := qH hla
 have WA := qH hwa
 obtain ⟨Aa, ca, hva⟩ : ∃ A c, va = .slice A lw c := by
  obtain ⟨A, c, h, _⟩ := hra
  exact ⟨A, c, by rw [h, hla, hlw]⟩
 subst hva
 have K5 := qH (K4.out.below hb K4.out.lt)
 have V5 := qH (V4.out.below hb)
 have B5 := qH (B4.out.trans (hb.mono B4.out.size))
 clear hra hla hwa hb hL hlw f1 f2 f3 hk1
 go_wp2_with fail
 go_loopw [12] (fun iv wl => ∃ i : Nat, i ≤ lw ∧ iv = .int .i64 (i : Int) ∧ Below w5.heap.size w5 wl) (fun iv _ => lw - (intOf iv).toNat)
 case atStart => exact ⟨0, Nat.zero_le _, rfl, Below.refl _ _⟩
 obtain ⟨i, hi, rfl, hb⟩ := hrel
 have HI := qH hi
 have BI := qH hb
 obtain ⟨wi, hwi⟩ : ∃ v : World, v = wr := ⟨_, rfl⟩
 subst hwi
 clear hi hb
 have KI := qH (K5.out.below BI.out K5.out.lt)
 have VI := qH (V5.out.below BI.out)
 by_cases hil : i < lw
 ·have y1 : (i : Int) < (lw : Int) := Int.ofNat_lt.2 hil
  have HIL := qH hil
  have HMX := qH (sub_next hil)
  obtain ⟨l, hl⟩ : ∃ l, L[i]? = some l := ⟨_, List.getElem?_eq_getElem (by rw [← HLW.out]; exact hil)⟩
  have HLI := qH hl
  have HACC := qH (F2.out i l hl).2
  obtain ⟨x, hx, hxr⟩ := WA.out i l hl
  obtain ⟨Ax, cx, hxv⟩ : ∃ A c, x = .slice A m c := by
   obtain ⟨A, c, h, _⟩ := hxr
   exact ⟨A, c, by rw [h, bvs_length, (F2.out i l hl).1]⟩
  subst hxv
  obtain ⟨ba, oa, rfl, hba, hca⟩ := RA.out.at_ (by rw [LA.out, ← HLW.out]; exact Nat.lt_of_le_of_lt (Nat.zero_le _) hil)
  have CALL := qH (show ∀ V, Below wi.heap.size wi V → ∀ i v, asv[i]? = some v → V.cell? ⟨ba, oa + i, none⟩ = some v from fun V hV i v hv => ((BI.out.trans (hV.mono BI.out.size)).cell (p := ⟨ba, oa + i, none⟩) hba).trans (hca i v hv))
  have CX := qH hx
  have XR := qH (show ∀ V, Below wi.heap.size wi V → Row V (.slice Ax m cx) (bvs l) from fun V hV => hxr.below (BI.out.trans (hV.mono BI.out.size)))
  obtain ⟨Z, hZ⟩ : ∃ Z : ByteArray, Z = ⟨l.toArray⟩ := ⟨_, rfl⟩
  have HZ := qH hZ
  have e3 := wrap_one i (fl_1k hil HK1.out)
  have e4 := wrap_one' i (fl_1k hil HK1.out)
  clear hil hl hx hxr hba hca hZ
  go_wp2_with fail
  refine mc_start (fun V => Below wi.heap.size wi V) (fun _ => True) 34 (by kernel_rfl) (fun wd hwd => ?_)
  have hX : Below wi.heap.size wi wd := by rw [hwd]; exact (Below.refl _ _).drew
  have hY : True := trivial
  clear hwd
  refine mc_take (i := 0) (oi := ⟨some 35, _, _, _, _, _⟩) (v := ?_) rfl (by kernel_rfl) (by kernel_rfl) (by kernel_rfl) (fun _ _ _ h => h) rfl hX ?_ ?_; rotate_left; (intro W hW; go_simp; try with_reducible rfl); simp only [Act.put, qA, qB, qC]
  refine mc_take (i := 1) (oi := ⟨some 36, _, _, _, _, _⟩) (v := ?_) rfl (by kernel_rfl) (by kernel_rfl) (by kernel_rfl) (fun _ _ _ h => h) rfl hX ?_ ?_; rotate_left; (intro W hW; go_simp; try with_reducible rfl); simp only [Act.put, qA, qB, qC]
  refine mc_take (i := 2) (oi := ⟨some 37, _, _, _, _, _⟩) (v := .pointer (some ⟨ba, oa + i, none⟩)) rfl (by kernel_rfl) (by kernel_rfl) (by kernel_rfl) (fun _ _ _ h => h) rfl hX (fun V _ => wj_ixR (.tmp 35) (.tmp 36) rfl rfl rfl HIL.out V) ?_; simp only [Act.put, qA, qB, qC]
  refine mc_take (i := 3) (oi := ⟨some 38, _, _, _, _, _⟩) (v := .slice Ax m cx) rfl (by kernel_rfl) (by kernel_rfl) (by kernel_rfl) (fun _ _ _ h => h) rfl hX (fun V hV => wj_ldR (.tmp 37) rfl rfl (CALL.out V hV i _ CX.out)) ?_; simp only [Act.put, qA, qB, qC]
  refine mc_take (i := 4) (oi := ⟨some 39, _, _, _, _, _⟩) (v := ?_) rfl (by kernel_rfl) (by kernel_rfl) (by kernel_rfl) (fun _ _ _ h => h) rfl hX ?_ ?_; rotate_left; (intro W hW; go_simp; try with_reducible rfl); simp only [Act.put, qA, qB, qC]
  refine mc_take (i := 5) (oi := ⟨some 40, _, _, _, _, _⟩) (v := ?_) rfl (by kernel_rfl) (by kernel_rfl) (by kernel_rfl) (fun _ _ _ h => h) rfl hX ?_ ?_; rotate_left; (intro W hW; go_simp; try with_reducible rfl); simp only [Act.put, qA, qB, qC]
  refine mc_take (i := 6) (oi := ⟨some 41, _, _, _, _, _⟩) (v := ?_) rfl (by kernel_rfl) (by kernel_rfl) (by kernel_rfl) (fun _ _ _ h => h) rfl hX ?_ ?_; rotate_left; (intro W hW; go_simp; try with_reducible rfl); simp only [Act.put, qA, qB, qC]
  refine mc_take (i := 7) (oi := ⟨some 42, _, _, _, _, _⟩) (v := ?_) rfl (by kernel_rfl) (by kernel_rfl) (by kernel_rfl) (fun _ _ _ h => h) rfl hX ?_ ?_; rotate_left; (intro W hW; go_simp; try with_reducible rfl); simp only [Act.put, qA, qB, qC]
  refine mc_take (i := 8) (oi := ⟨some 43, _, _, _, _, _⟩) (v := .agg cs.toArray) rfl (by kernel_rfl) (by kernel_rfl) (by kernel_rfl) (fun _ _ _ h => h) rfl hX (fun V hT => ld_blk 28 (.tmp 9) rfl gd rfl 28 cs _ KI.out KI.out.lt Try.underlying28 rfl HSA.out V hT) ?_; simp only [Act.put, qA, qB, qC]
  refine mc_take (i := 9) (oi := ⟨some 44, _, _, _, _, _⟩) (v := ?_) rfl (by kernel_rfl) (by kernel_rfl) (by kernel_rfl) (fun _ _ _ h => h) rfl hX ?_ ?_; rotate_left; (intro W hW; go_simp; try with_reducible rfl); simp only [Act.put, qA, qB, qC]
  refine mc_take (i := 10) (oi := ⟨some 45, _, _, _, _, _⟩) (v := ?_) rfl (by kernel_rfl) (by kernel_rfl) (by kernel_rfl) (fun _ _ _ h => h) rfl hX ?_ ?_; rotate_left; (intro W hW; go_simp; try with_reducible rfl); simp only [Act.put, qA, qB, qC]
  refine mc_take (i := 11) (oi := ⟨some 46, _, _, _, _, _⟩) (v := .pointer (some ⟨ba, oa + i, none⟩)) rfl (by kernel_rfl) (by kernel_rfl) (by kernel_rfl) (fun _ _ _ h => h) rfl hX (fun V _ => wj_ixR (.tmp 44) (.tmp 45) rfl rfl rfl HIL.out V) ?_; simp only [Act.put, qA, qB, qC]
  refine mc_take (i := 12) (oi := ⟨some 47, _, _, _, _, _⟩) (v := .slice Ax m cx) rfl (by kernel_rfl) (by kernel_rfl) (by kernel_rfl) (fun _ _ _ h => h) rfl hX (fun V hV => wj_ldR (.tmp 46) rfl rfl (CALL.out V hV i _ CX.out)) ?_; simp only [Act.put, qA, qB, qC]
  refine mc_actB (i := 13) (o := ⟨some 48, _, _, _, _, _⟩) rfl (by kernel_rfl) rfl (fun K hK => ?_)
  have X1 := qH hX
  go_wp2_with fail
  refine (refRun11_any D l cs _ wd (VI.out.below hX) HM.out (XR.out wd hX)).mono ?_
  rintro e w6 ⟨rfl, hb⟩
  rw [show runD D l = true from HACC.out]
  have hX2 := X1.out.trans (hb.mono X1.out.size)
  clear hb
  go_wp2_with fail
  refine hK _ _ hX2 trivial ?_
  clear hK K hX
  have hX := hX2
  clear hX2
  (try simp only [Act.put, qA, qB, qC])
  by_cases hi0 : i = 0
  ·have X0 := qH (show decide ((0 : Int) < (i : Int)) = false by rw [hi0]; rfl)
   clear hi0
   refine mc_take (i := 14) (oi := ⟨some 49, _, _, _, _, _⟩) (v := ?_) rfl (by kernel_rfl) (by kernel_rfl) (by kernel_rfl) (fun _ _ _ h => h) rfl hX ?_ ?_; rotate_left; (intro W hW; go_simp; try with_reducible rfl); simp only [Act.put, qA, qB, qC]
   refine mc_take (i := 15) (oi := ⟨some 50, _, _, _, _, _⟩) (v := ?_) rfl (by kernel_rfl) (by kernel_rfl) (by kernel_rfl) (fun _ _ _ h => h) rfl hX ?_ ?_; rotate_left; (intro W hW; go_simp; try with_reducible rfl); simp only [Act.put, qA, qB, qC]
   refine mc_take (i := 16) (oi := ⟨some 51, _, _, _, _, _⟩) (v := ?_) rfl (by kernel_rfl) (by kernel_rfl) (by kernel_rfl) (fun _ _ _ h => h) rfl hX ?_ ?_; rotate_left; (intro W hW; go_simp; try with_reducible rfl); simp only [Act.put, qA, qB, qC]
   refine mc_take (i := 17) (oi := ⟨some 52, _, _, _, _, _⟩) (v := ?_) rfl (by kernel_rfl) (by kernel_rfl) (by kernel_rfl) (fun _ _ _ h => h) rfl hX ?_ ?_; rotate_left; (intro W hW; go_simp; try with_reducible rfl); simp only [Act.put, qA, qB, qC]
   refine mc_take (i := 18) (oi := ⟨some 53, _, _, _, _, _⟩) (v := .bool false) rfl (by kernel_rfl) (by kernel_rfl) (by kernel_rfl) (fun _ _ _ h => h) rfl hX (fun V _ => ex_gtW (.tmp 52) rfl rfl rfl X0.out V) ?_; simp only [Act.put, qA, qB, qC]
   refine mc_take (i := 19) (oi := ⟨some 54, _, _, _, _, _⟩) (v := ?_) rfl (by kernel_rfl) (by kernel_rfl) (by kernel_rfl) (fun _ _ _ h => h) rfl hX ?_ ?_; rotate_left; (intro W hW; go_simp; try with_reducible rfl); simp only [Act.put, qA, qB, qC]
   refine mc_skip (i := 20) (oi := ⟨some 55, _, _, _, _, _⟩) rfl (by kernel_rfl) (by kernel_rfl) (by kernel_rfl) (fun _ _ _ h => h) rfl hX ?_; simp only [Act.put, qA, qB, qC]
   refine mc_skip (i := 21) (oi := ⟨some 56, _, _, _, _, _⟩) rfl (by kernel_rfl) (by kernel_rfl) (by kernel_rfl) (fun _ _ _ h => h) rfl hX ?_; simp only [Act.put, qA, qB, qC]
   refine mc_skip (i := 22) (oi := ⟨some 57, _, _, _, _, _⟩) rfl (by kernel_rfl) (by kernel_rfl) (by kernel_rfl) (fun _ _ _ h => h) rfl hX ?_; simp only [Act.put, qA, qB, qC]
   refine mc_skip (i := 23) (oi := ⟨some 58, _, _, _, _, _⟩) rfl (by kernel_rfl) (by kernel_rfl) (by kernel_rfl) (fun _ _ _ h => h) rfl hX ?_; simp only [Act.put, qA, qB, qC]
   refine mc_skip (i := 24) (oi := ⟨some 59, _, _, _, _, _⟩) rfl (by kernel_rfl) (by kernel_rfl) (by kernel_rfl) (fun _ _ _ h => h) rfl hX ?_; simp only [Act.put, qA, qB, qC]
   refine mc_skip (i := 25) (oi := ⟨some 60, _, _, _, _, _⟩) rfl (by kernel_rfl) (by kernel_rfl) (by kernel_rfl) (fun _ _ _ h => h) rfl hX ?_; simp only [Act.put, qA, qB, qC]
   refine mc_skip (i := 26) (oi := ⟨some 61, _, _, _, _, _⟩) rfl (by kernel_rfl) (by kernel_rfl) (by kernel_rfl) (fun _ _ _ h => h) rfl hX ?_; simp only [Act.put, qA, qB, qC]
   refine mc_skip (i := 27) (oi := ⟨some 62, _, _, _, _, _⟩) rfl (by kernel_rfl) (by kernel_rfl) (by kernel_rfl) (fun _ _ _ h => h) rfl hX ?_; simp only [Act.put, qA, qB, qC]
   refine mc_skip (i := 28) (oi := ⟨some 63, _, _, _, _, _⟩) rfl (by kernel_rfl) (by kernel_rfl) (by kernel_rfl) (fun _ _ _ h => h) rfl hX ?_; simp only [Act.put, qA, qB, qC]
   refine mc_skip (i := 29) (oi := ⟨some 64, _, _, _, _, _⟩) rfl (by kernel_rfl) (by kernel_rfl) (by kernel_rfl) (fun _ _ _ h => h) rfl hX ?_; simp only [Act.put, qA, qB, qC]
   refine mc_skip (i := 30) (oi := ⟨some 65, _, _, _, _, _⟩) rfl (by kernel_rfl) (by kernel_rfl) (by kernel_rfl) (fun _ _ _ h => h) rfl hX ?_; simp only [Act.put, qA, qB, qC]
   refine mc_skip (i := 31) (oi := ⟨some 66, _, _, _, _, _⟩) rfl (by kernel_rfl) (by kernel_rfl) (by kernel_rfl) (fun _ _ _ h => h) rfl hX ?_; simp only [Act.put, qA, qB, qC]
   refine mc_take (i := 32) (oi := ⟨some 67, _, _, _, _, _⟩) (v := ?_) rfl (by kernel_rfl) (by kernel_rfl) (by kernel_rfl) (fun _ _ _ h => h) rfl hX ?_ ?_; rotate_left; (intro W hW; go_simp; try with_reducible rfl); simp only [Act.put, qA, qB, qC]
   refine mc_take (i := 33) (oi := ⟨some 68, _, _, _, _, _⟩) (v := ?_) rfl (by kernel_rfl) (by kernel_rfl) (by kernel_rfl) (fun _ _ _ h => h) rfl hX ?_ ?_; rotate_left; (intro W hW; go_simp; try with_reducible rfl); simp only [Act.put, qA, qB, qC]
   refine wpAnyC_done (by kernel_rfl) ?_ _
   have BD := qH (BI.out.trans (hX.mono BI.out.size))
   clear hX hY
   go_wp2_with fail
   exact ⟨⟨i + 1, HIL.out, by congr 1, BD.out⟩, by simpa [intOf] using HMX.out⟩
  ·have X0 := qH (show decide ((0 : Int) < (i : Int)) = true from decide_eq_true (Int.ofNat_lt.2 (Nat.pos_of_ne_zero hi0)))
   obtain ⟨j, hj⟩ : ∃ j, i = j + 1 := ⟨i - 1, (Nat.succ_pred_eq_of_pos (Nat.pos_of_ne_zero hi0)).symm⟩
   obtain ⟨g1, g2⟩ := sub_1 hj (Nat.le_of_lt (Nat.lt_of_lt_of_le HIL.out HK1.out))
   have HJL := qH (show j < lw from Nat.lt_trans (by rw [hj]; exact Nat.lt_succ_self j) HIL.out)
   obtain ⟨l0, hl0⟩ : ∃ l, L[j]? = some l := ⟨_, List.getElem?_eq_getElem (by rw [← HLW.out]; exact HJL.out)⟩
   have HLT := qH (bl_ltW (F3.out j i l0 l (by rw [hj]; exact Nat.lt_succ_self j) hl0 HLI.out))
   obtain ⟨y, hy, hyr⟩ := WA.out j l0 hl0
   obtain ⟨Ay, cy, hyv⟩ : ∃ A c, y = .slice A m c := by
    obtain ⟨A, c, h, _⟩ := hyr
    exact ⟨A, c, by rw [h, bvs_length, (F2.out j l0 hl0).1]⟩
   subst hyv
   have CY := qH hy
   have YR := qH (show ∀ V, Below wi.heap.size wi V → Row V (.slice Ay m cy) (bvs l0) from fun V hV => hyr.below (BI.out.trans (hV.mono BI.out.size)))
   obtain ⟨Z0, hZ0⟩ : ∃ Z : ByteArray, Z = ⟨l0.toArray⟩ := ⟨_, rfl⟩
   have HZ0 := qH hZ0
   clear hi0 hj hl0 hy hyr hZ0
   refine mc_take (i := 14) (oi := ⟨some 49, _, _, _, _, _⟩) (v := ?_) rfl (by kernel_rfl) (by kernel_rfl) (by kernel_rfl) (fun _ _ _ h => h) rfl hX ?_ ?_; rotate_left; (intro W hW; go_simp; try with_reducible rfl); simp only [Act.put, qA, qB, qC]
   refine mc_take (i := 15) (oi := ⟨some 50, _, _, _, _, _⟩) (v := ?_) rfl (by kernel_rfl) (by kernel_rfl) (by kernel_rfl) (fun _ _ _ h => h) rfl hX ?_ ?_; rotate_left; (intro W hW; go_simp; try with_reducible rfl); simp only [Act.put, qA, qB, qC]
   refine mc_take (i := 16) (oi := ⟨some 51, _, _, _, _, _⟩) (v := ?_) rfl (by kernel_rfl) (by kernel_rfl) (by kernel_rfl) (fun _ _ _ h => h) rfl hX ?_ ?_; rotate_left; (intro W hW; go_simp; try with_reducible rfl); simp only [Act.put, qA, qB, qC]
   refine mc_take (i := 17) (oi := ⟨some 52, _, _, _, _, _⟩) (v := ?_) rfl (by kernel_rfl) (by kernel_rfl) (by kernel_rfl) (fun _ _ _ h => h) rfl hX ?_ ?_; rotate_left; (intro W hW; go_simp; try with_reducible rfl); simp only [Act.put, qA, qB, qC]
   refine mc_take (i := 18) (oi := ⟨some 53, _, _, _, _, _⟩) (v := .bool true) rfl (by kernel_rfl) (by kernel_rfl) (by kernel_rfl) (fun _ _ _ h => h) rfl hX (fun V _ => ex_gtW (.tmp 52) rfl rfl rfl X0.out V) ?_; simp only [Act.put, qA, qB, qC]
   refine mc_take (i := 19) (oi := ⟨some 54, _, _, _, _, _⟩) (v := ?_) rfl (by kernel_rfl) (by kernel_rfl) (by kernel_rfl) (fun _ _ _ h => h) rfl hX ?_ ?_; rotate_left; (intro W hW; go_simp; try with_reducible rfl); simp only [Act.put, qA, qB, qC]
   refine mc_take (i := 20) (oi := ⟨some 55, _, _, _, _, _⟩) (v := ?_) rfl (by kernel_rfl) (by kernel_rfl) (by kernel_rfl) (fun _ _ _ h => h) rfl hX ?_ ?_; rotate_left; (intro W hW; go_simp; try with_reducible rfl); simp only [Act.put, qA, qB, qC]
   refine mc_take (i := 21) (oi := ⟨some 56, _, _, _, _, _⟩) (v := ?_) rfl (by kernel_rfl) (by kernel_rfl) (by kernel_rfl) (fun _ _ _ h => h) rfl hX ?_ ?_; rotate_left; (intro W hW; go_simp; try with_reducible rfl); simp only [Act.put, qA, qB, qC]
   refine mc_take (i := 22) (oi := ⟨some 57, _, _, _, _, _⟩) (v := ?_) rfl (by kernel_rfl) (by kernel_rfl) (by kernel_rfl) (fun _ _ _ h => h) rfl hX ?_ ?_; rotate_left; (intro W hW; go_simp; try with_reducible rfl); simp only [Act.put, qA, qB, qC]
   refine mc_take (i := 23) (oi := ⟨some 58, _, _, _, _, _⟩) (v := .pointer (some ⟨ba, oa + j, none⟩)) rfl (by kernel_rfl) (by kernel_rfl) (by kernel_rfl) (fun _ _ _ h => h) rfl hX (fun V _ => wj_ixR (.tmp 55) (.tmp 57) rfl rfl rfl HJL.out V) ?_; simp only [Act.put, qA, qB, qC]
   refine mc_take (i := 24) (oi := ⟨some 59, _, _, _, _, _⟩) (v := .slice Ay m cy) rfl (by kernel_rfl) (by kernel_rfl) (by kernel_rfl) (fun _ _ _ h => h) rfl hX (fun V hV => wj_ldR (.tmp 58) rfl rfl (CALL.out V hV j _ CY.out)) ?_; simp only [Act.put, qA, qB, qC]
   refine mc_take (i := 25) (oi := ⟨some 60, _, _, _, _, _⟩) (v := .string Z0) rfl (by kernel_rfl) (by kernel_rfl) (by kernel_rfl) (fun _ _ _ h => h) rfl hX (fun V hV => by rw [HZ0.out]; exact ex_toStr (x := .tmp 59) (v := .slice Ay m cy) rfl rfl (YR.out V hV)) ?_; simp only [Act.put, qA, qB, qC]
   refine mc_take (i := 26) (oi := ⟨some 61, _, _, _, _, _⟩) (v := ?_) rfl (by kernel_rfl) (by kernel_rfl) (by kernel_rfl) (fun _ _ _ h => h) rfl hX ?_ ?_; rotate_left; (intro W hW; go_simp; try with_reducible rfl); simp only [Act.put, qA, qB, qC]
   refine mc_take (i := 27) (oi := ⟨some 62, _, _, _, _, _⟩) (v := ?_) rfl (by kernel_rfl) (by kernel_rfl) (by kernel_rfl) (fun _ _ _ h => h) rfl hX ?_ ?_; rotate_left; (intro W hW; go_simp; try with_reducible rfl); simp only [Act.put, qA, qB, qC]
   refine mc_take (i := 28) (oi := ⟨some 63, _, _, _, _, _⟩) (v := .pointer (some ⟨ba, oa + i, none⟩)) rfl (by kernel_rfl) (by kernel_rfl) (by kernel_rfl) (fun _ _ _ h => h) rfl hX (fun V _ => wj_ixR (.tmp 61) (.tmp 62) rfl rfl rfl HIL.out V) ?_; simp only [Act.put, qA, qB, qC]
   refine mc_take (i := 29) (oi := ⟨some 64, _, _, _, _, _⟩) (v := .slice Ax m cx) rfl (by kernel_rfl) (by kernel_rfl) (by kernel_rfl) (fun _ _ _ h => h) rfl hX (fun V hV => wj_ldR (.tmp 63) rfl rfl (CALL.out V hV i _ CX.out)) ?_; simp only [Act.put, qA, qB, qC]
   refine mc_take (i := 30) (oi := ⟨some 65, _, _, _, _, _⟩) (v := .string Z) rfl (by kernel_rfl) (by kernel_rfl) (by kernel_rfl) (fun _ _ _ h => h) rfl hX (fun V hV => by rw [HZ.out]; exact ex_toStr (x := .tmp 64) (v := .slice Ax m cx) rfl rfl (XR.out V hV)) ?_; simp only [Act.put, qA, qB, qC]
   refine mc_take (i := 31) (oi := ⟨some 66, _, _, _, _, _⟩) (v := .bool false) rfl (by kernel_rfl) (by kernel_rfl) (by kernel_rfl) (fun _ _ _ h => h) rfl hX (fun V _ => ex_geW 9 (.tmp 60) (.tmp 65) _ Try.underlying9 rfl rfl rfl HZ0.out HZ.out HLT.out V) ?_; simp only [Act.put, qA, qB, qC]
   refine mc_take (i := 32) (oi := ⟨some 67, _, _, _, _, _⟩) (v := ?_) rfl (by kernel_rfl) (by kernel_rfl) (by kernel_rfl) (fun _ _ _ h => h) rfl hX ?_ ?_; rotate_left; (intro W hW; go_simp; try with_reducible rfl); simp only [Act.put, qA, qB, qC]
   refine mc_take (i := 33) (oi := ⟨some 68, _, _, _, _, _⟩) (v := ?_) rfl (by kernel_rfl) (by kernel_rfl) (by kernel_rfl) (fun _ _ _ h => h) rfl hX ?_ ?_; rotate_left; (intro W hW; go_simp; try with_reducible rfl); simp only [Act.put, qA, qB, qC]
   refine wpAnyC_done (by kernel_rfl) ?_ _
   have BD := qH (BI.out.trans (hX.mono BI.out.size))
   clear hX hY g1 g2
   go_wp2_with fail
   exact ⟨⟨i + 1, HIL.out, by congr 1, BD.out⟩, by simpa [intOf] using HMX.out⟩
 ·obtain rfl : i = lw := Nat.le_antisymm HI.out (Nat.not_lt.1 hil)
  have y1 : ¬ ((i : Int) < (i : Int)) := Int.lt_irrefl _
  have BWI := qH (B5.out.trans (BI.out.mono B5.out.size))
  clear hil
  go_wp2_with ((with_reducible refine atDst 69 ?_); refine wpList_ldArr rfl 28 _ rfl gd rfl 28 _ _ KI.out Try.underlying28 rfl HSA.out ?_; (try simp only [Act.put, qA, qB, qC]))
  refine (HCC.out.count D cs m wi (int_m1 m) (int_1k (le_2k HM3.out)) VI.out HM.out HAC.out).mono ?_
  rintro e w6 ⟨rfl, hb⟩
  have BF := qH (BWI.out.trans (hb.mono BWI.out.size))
  obtain ⟨q, hq⟩ : ∃ q, q = cntW D m := ⟨_, rfl⟩
  have f1 := F1.out
  rw [← hq, ← HLW.out] at f1
  rw [← hq]
  have g1 := wrapU_1k HK1.out
  clear hb hq
  by_cases hqi : q = i
  ·subst hqi
   clear f1
   go_wp2_with fail
   go_ret
   exact ⟨rfl, BF.out⟩
  ·obtain ⟨h1, h2⟩ : 600 < q ∧ i = 600 := f1.resolve_left hqi
   have z1 : ((q : Int) == (i : Int)) = false := by rw [beq_eq_false_iff_ne]; exact fun e => hqi (Int.ofNat_inj.1 e)
   have z2 : (600 : Int) < (q : Int) := Int.ofNat_lt.2 h1
   have z3 : ((i : Int) == 600) = true := by rw [h2]; rfl
   clear f1 hqi h1 h2
   go_wp2_with fail
   go_ret
   exact ⟨rfl, BF.out⟩
end Go.Proofs.Ytaakdebcagdfgaa
