/-
  Texts of this proof, put together: WnE, WoQ, ScC, MdB, SoO. No statement is proved here.
-/
import Derived.Test.YtaakdebcagdfgaaZQ
import Derived.Test.YtaakdebcagdfgaaZR
import Derived.Test.YtaakdebcagdfgaaZS
import Derived.Test.YtaakdebcagdfgaaZO
import Derived.Test.YtaakdebcagdfgaaZM
import Derived.Test.YtaakdebcagdfgaaZH
import Derived.Test.YtaakdebcagdfgaaZC
import Derived.Test.YtaakdebcagdfgaaZE
import Derived.Test.YtaakdebcagdfgaaZG
namespace Go.Proofs.Ytaakdebcagdfgaa
open Go.RowKit
set_option linter.unusedSimpArgs false
set_option linter.unusedVariables false
section
variable {P : Program}
theorem ex_eqW {ev : Operand → Value} {o : Oper} (t : TypeId) (x y : Operand) (oT : TypeId) (ht : P.underlying t = some .string) (ho : o.op = .binOp .eql t x y oT) {X Y : ByteArray} (hx : ev x = .string X) (hy : ev y = .string Y) {D E : List UInt8}
  (hX : X = ⟨D.toArray⟩) (hY : Y = ⟨E.toArray⟩) {b : Bool} (hb : (D == E) = b) (W : World) : (execOp ev o).run P W = .ok (.value (.bool b)) W := by
 subst hX hY
 simp only [execOp, ho, hx, hy]
 go_simp
end
theorem ex_eqBW {ev : Operand → Value} {o : Oper} (x y : Operand) {r : TypeId} (ho : o.op = .binOp .eql 4 x y r) {p : Bool} (hx : ev x = .bool p) (hy : ev y = .bool p) (W : World) : (execOp ev o).run Try.prog W = .ok (.value (.bool true)) W := by
 simp only [execOp, ho, hx, hy]
 cases p <;> go_simp
theorem cntW_nat (D : Dm) (n : Nat) : cntW D (n : Int) = cntL (accD D 0) (min n 1000) % N64 := by
 unfold cntW
 rw [if_neg (by omega), Int.toNat_natCast]
theorem wrdW_nat (D : Dm) {n : Nat} (m : Nat) (hn : n ≤ 200) : wrdW D (n : Int) (m : Int) = (wrds (accD D 0) n).take (min m 1000) := by
 unfold wrdW
 by_cases h0 : m = 0
 ·subst h0
  rw [if_neg (fun h => absurd h.2.2 (by decide))]
  simp
 ·rw [if_pos ⟨by omega, by omega, by omega⟩, Int.toNat_natCast, Int.toNat_natCast]
theorem mod_20 (k : Nat) : k % 20 ≤ 1000 := by have := Nat.mod_lt k (show 0 < 20 by decide); omega
theorem mod_5 (k : Nat) : k % 5 ≤ 200 := by have := Nat.mod_lt k (show 0 < 5 by decide); omega
theorem mod_40 (k : Nat) : k % 40 ≤ 1000 := by have := Nat.mod_lt k (show 0 < 40 by decide); omega
theorem le_100k {m : Nat} (h : m ≤ 1000) : m ≤ 100000 := by omega
set_option maxHeartbeats 8000000 in
set_option maxRecDepth 1000000 in
theorem same14_any (L : List (List UInt8)) (va vb : Value) (w : World) (ha : WrdsE w va L) (hb : WrdsE w vb L) (hl : L.length ≤ 1000) : Calls Try.prog 15 #[va, vb] w fun e w' => e = .returned (.bool true) ∧ Below w.heap.size w w' := by
 obtain ⟨asv, hra, hla, hwa⟩ := ha
 obtain ⟨bs, hrb, hlb, hwb⟩ := hb
 obtain ⟨lb, hlbb⟩ : ∃ l, l = L.length := ⟨_, rfl⟩
 have RA2 := qH hra
 have RB2 := qH hrb
 have LA1 := qH hla
 have LB2 := qH hlb
 have WA2 := qH hwa
 have WB2 := qH hwb
 obtain ⟨Aa, ca, hva⟩ : ∃ A c, va = .slice A lb c := by
  obtain ⟨A, c, h, _⟩ := hra
  exact ⟨A, c, by rw [h, hla, hlbb]⟩
 obtain ⟨Ab, cb, hvb⟩ : ∃ A c, vb = .slice A lb c := by
  obtain ⟨A, c, h, _⟩ := hrb
  exact ⟨A, c, by rw [h, hlb, hlbb]⟩
 have HLBB := qH hlbb
 have HBK2 := qH (show lb ≤ 1000 by rw [hlbb]; exact hl)
 subst hva
 subst hvb
 clear hra hrb hla hlb hwa hwb hlbb hl
 go_enter Try.func15, Try.ntmps15
 go_wp2_with fail
 go_loopw [5] (fun iv wl => ∃ i : Nat, i ≤ lb ∧ iv = .int .i64 (i : Int) ∧ Below w.heap.size w wl) (fun iv _ => lb - (intOf iv).toNat)
 case atStart => exact ⟨0, Nat.zero_le _, rfl, Below.refl _ _⟩
 obtain ⟨i, hi, rfl, hb⟩ := hrel
 have HI := qH hi
 have BI := qH hb
 obtain ⟨wi, hwi⟩ : ∃ v : World, v = wr := ⟨_, rfl⟩
 subst hwi
 clear hi hb
 by_cases hil : i < lb
 ·have y1 : (i : Int) < (lb : Int) := Int.ofNat_lt.2 hil
  have HIL := qH hil
  have HMX := qH (sub_next hil)
  obtain ⟨l, hl⟩ : ∃ l, L[i]? = some l := ⟨_, List.getElem?_eq_getElem (by rw [← HLBB.out]; exact hil)⟩
  obtain ⟨x, hx, hxr⟩ := WA2.out i l hl
  obtain ⟨y, hy, hyr⟩ := WB2.out i l hl
  obtain ⟨Ax, cx, hxv⟩ : ∃ A c, x = .slice A (bvs l).length c := by
   obtain ⟨A, c, h, _⟩ := hxr
   exact ⟨A, c, h⟩
  obtain ⟨Ay, cy, hyv⟩ : ∃ A c, y = .slice A (bvs l).length c := by
   obtain ⟨A, c, h, _⟩ := hyr
   exact ⟨A, c, h⟩
  subst hxv
  subst hyv
  obtain ⟨nl, hnl⟩ : ∃ n, n = (bvs l).length := ⟨_, rfl⟩
  rw [← hnl] at hx hxr hy hyr
  obtain ⟨ba, oa, rfl, hba, hca⟩ := RA2.out.at_ (by rw [LA1.out, ← HLBB.out]; exact Nat.lt_of_le_of_lt (Nat.zero_le _) HIL.out)
  obtain ⟨bb, ob, rfl, hbb, hcb⟩ := RB2.out.at_ (by rw [LB2.out, ← HLBB.out]; exact Nat.lt_of_le_of_lt (Nat.zero_le _) HIL.out)
  have CA := qH (show ∀ V, Below wi.heap.size wi V → V.cell? ⟨ba, oa + i, none⟩ = some (.slice Ax nl cx) from fun V hV => ((BI.out.trans (hV.mono BI.out.size)).cell (p := ⟨ba, oa + i, none⟩) hba).trans (hca i _ hx))
  have CB := qH (show ∀ V, Below wi.heap.size wi V → V.cell? ⟨bb, ob + i, none⟩ = some (.slice Ay nl cy) from fun V hV => ((BI.out.trans (hV.mono BI.out.size)).cell (p := ⟨bb, ob + i, none⟩) hbb).trans (hcb i _ hy))
  have XR := qH (show ∀ V, Below wi.heap.size wi V → Row V (.slice Ax nl cx) (bvs l) from fun V hV => hxr.below (BI.out.trans (hV.mono BI.out.size)))
  have YR := qH (show ∀ V, Below wi.heap.size wi V → Row V (.slice Ay nl cy) (bvs l) from fun V hV => hyr.below (BI.out.trans (hV.mono BI.out.size)))
  obtain ⟨Z, hZ⟩ : ∃ Z : ByteArray, Z = ⟨l.toArray⟩ := ⟨_, rfl⟩
  have HZ := qH hZ
  have e3 := wrap_one i (fl_1k hil HBK2.out)
  have e4 := wrap_one' i (fl_1k hil HBK2.out)
  clear hil hl hx hxr hy hyr hnl hba hca hbb hcb hZ
  go_wp2_with fail
  refine mc_start (fun V => Below wi.heap.size wi V) (fun _ => True) 11 (by kernel_rfl) (fun wd hwd => ?_)
  have hX : Below wi.heap.size wi wd := by rw [hwd]; exact (Below.refl _ _).drew
  have hY : True := trivial
  clear hwd
  refine mc_take (i := 0) (oi := ⟨some 17, _, _, _, _, _⟩) (v := ?_) rfl (by kernel_rfl) (by kernel_rfl) (by kernel_rfl) (fun _ _ _ h => h) rfl hX ?_ ?_; rotate_left; (intro W hW; go_simp; try with_reducible rfl); simp only [Act.put, qA, qB, qC]
  refine mc_take (i := 1) (oi := ⟨some 18, _, _, _, _, _⟩) (v := ?_) rfl (by kernel_rfl) (by kernel_rfl) (by kernel_rfl) (fun _ _ _ h => h) rfl hX ?_ ?_; rotate_left; (intro W hW; go_simp; try with_reducible rfl); simp only [Act.put, qA, qB, qC]
  refine mc_take (i := 2) (oi := ⟨some 19, _, _, _, _, _⟩) (v := .pointer (some ⟨ba, oa + i, none⟩)) rfl (by kernel_rfl) (by kernel_rfl) (by kernel_rfl) (fun _ _ _ h => h) rfl hX (fun V _ => wj_ixR (.tmp 17) (.tmp 18) rfl rfl rfl HIL.out V) ?_; simp only [Act.put, qA, qB, qC]
  refine mc_take (i := 3) (oi := ⟨some 20, _, _, _, _, _⟩) (v := .slice Ax nl cx) rfl (by kernel_rfl) (by kernel_rfl) (by kernel_rfl) (fun _ _ _ h => h) rfl hX (fun V hV => wj_ldR (.tmp 19) rfl rfl (CA.out V hV)) ?_; simp only [Act.put, qA, qB, qC]
  refine mc_take (i := 4) (oi := ⟨some 21, _, _, _, _, _⟩) (v := .string Z) rfl (by kernel_rfl) (by kernel_rfl) (by kernel_rfl) (fun _ _ _ h => h) rfl hX (fun V hV => by rw [HZ.out]; exact ex_toStr (x := .tmp 20) (v := .slice Ax nl cx) rfl rfl (XR.out V hV)) ?_; simp only [Act.put, qA, qB, qC]
  refine mc_take (i := 5) (oi := ⟨some 22, _, _, _, _, _⟩) (v := ?_) rfl (by kernel_rfl) (by kernel_rfl) (by kernel_rfl) (fun _ _ _ h => h) rfl hX ?_ ?_; rotate_left; (intro W hW; go_simp; try with_reducible rfl); simp only [Act.put, qA, qB, qC]
  refine mc_take (i := 6) (oi := ⟨some 23, _, _, _, _, _⟩) (v := ?_) rfl (by kernel_rfl) (by kernel_rfl) (by kernel_rfl) (fun _ _ _ h => h) rfl hX ?_ ?_; rotate_left; (intro W hW; go_simp; try with_reducible rfl); simp only [Act.put, qA, qB, qC]
  refine mc_take (i := 7) (oi := ⟨some 24, _, _, _, _, _⟩) (v := .pointer (some ⟨bb, ob + i, none⟩)) rfl (by kernel_rfl) (by kernel_rfl) (by kernel_rfl) (fun _ _ _ h => h) rfl hX (fun V _ => wj_ixR (.tmp 22) (.tmp 23) rfl rfl rfl HIL.out V) ?_; simp only [Act.put, qA, qB, qC]
  refine mc_take (i := 8) (oi := ⟨some 25, _, _, _, _, _⟩) (v := .slice Ay nl cy) rfl (by kernel_rfl) (by kernel_rfl) (by kernel_rfl) (fun _ _ _ h => h) rfl hX (fun V hV => wj_ldR (.tmp 24) rfl rfl (CB.out V hV)) ?_; simp only [Act.put, qA, qB, qC]
  refine mc_take (i := 9) (oi := ⟨some 26, _, _, _, _, _⟩) (v := .string Z) rfl (by kernel_rfl) (by kernel_rfl) (by kernel_rfl) (fun _ _ _ h => h) rfl hX (fun V hV => by rw [HZ.out]; exact ex_toStr (x := .tmp 25) (v := .slice Ay nl cy) rfl rfl (YR.out V hV)) ?_; simp only [Act.put, qA, qB, qC]
  refine mc_take (i := 10) (oi := ⟨some 27, _, _, _, _, _⟩) (v := .bool false) rfl (by kernel_rfl) (by kernel_rfl) (by kernel_rfl) (fun _ _ _ h => h) rfl hX (fun V _ => ex_neW 9 (.tmp 21) (.tmp 26) _ Try.underlying9 rfl rfl rfl HZ.out HZ.out (by simp) V) ?_; simp only [Act.put, qA, qB, qC]
  refine wpAnyC_done (by kernel_rfl) ?_ _
  have BD := qH (BI.out.trans (hX.mono BI.out.size))
  clear hX hY
  go_wp2_with fail
  exact ⟨⟨i + 1, HIL.out, by congr 1, BD.out⟩, by simpa [intOf] using HMX.out⟩
 ·obtain rfl : i = lb := Nat.le_antisymm HI.out (Nat.not_lt.1 hil)
  have y1 : ¬ ((i : Int) < (i : Int)) := Int.lt_irrefl _
  clear hil
  go_wp2_with fail
  go_ret
  exact ⟨rfl, BI.out⟩
set_option maxHeartbeats 8000000 in
set_option maxRecDepth 1000000 in
theorem witness_made_walk (C : WitC) (n c : Nat) (V : Value) (ps : List UInt8) (k k2 : Nat) (w : World) (hn : n < 256) (hc : c < 256) (hr : Row w V (bvs ps)) (hk : k < 256) (hk2 : k2 < 256) :
  Calls Try.prog 3 #[.int .u8 (n : Int), .int .u8 (c : Int), V, .int .u8 (k : Int), .int .u8 (k2 : Int)] w fun e w' => e = .returned (.bool true) ∧ Below w.heap.size w w' := by
 have HCC := qH C
 clear C
 have R := qH hr
 obtain ⟨A, cap, rfl, _⟩ := hr
 rw [bvs_length] at R
 rw [bvs_length]
 have HN := qH hn
 have HC := qH hc
 obtain ⟨d0, hd0⟩ : ∃ d0, d0 = dcl (ctab [] 0) (.slice none 0 0) (.slice none 0 0) := ⟨_, rfl⟩
 have HDL := qH (show d0.length = 258 by rw [hd0]; exact dcl_len (ctab_length _ _))
 obtain ⟨id, hid, hdz⟩ := Option.map_eq_some_iff.1 inf_dfa
 rw [← hd0] at hdz
 have HDZ := qH hdz
 clear hd0 hdz hn hc hk hk2
 obtain ⟨r1, r2, r3, r4⟩ := rem_by k 20 (by decide) (by decide)
 obtain ⟨ma, h0⟩ : ∃ m, m = k % 20 := ⟨_, rfl⟩
 have Hma := qH (show ma ≤ 1000 by rw [h0]; exact mod_20 k)
 rw [← h0] at r1 r2 r3 r4
 have r1' : (k : Int).tmod 20 = (ma : Int) := r1
 have Rma := qH (And.intro r1' (And.intro r2 (And.intro r3 r4)))
 clear r1 r1' r2 r3 r4 h0
 obtain ⟨r1, r2, r3, r4⟩ := rem_by k 5 (by decide) (by decide)
 obtain ⟨mb, h0⟩ : ∃ m, m = k % 5 := ⟨_, rfl⟩
 have Hmb := qH (show mb ≤ 200 by rw [h0]; exact mod_5 k)
 rw [← h0] at r1 r2 r3 r4
 have r1' : (k : Int).tmod 5 = (mb : Int) := r1
 have Rmb := qH (And.intro r1' (And.intro r2 (And.intro r3 r4)))
 clear r1 r1' r2 r3 r4 h0
 obtain ⟨r1, r2, r3, r4⟩ := rem_by k2 40 (by decide) (by decide)
 obtain ⟨mc, h0⟩ : ∃ m, m = k2 % 40 := ⟨_, rfl⟩
 have Hmc := qH (show mc ≤ 1000 by rw [h0]; exact mod_40 k2)
 rw [← h0] at r1 r2 r3 r4
 have r1' : (k2 : Int).tmod 40 = (mc : Int) := r1
 have Rmc := qH (And.intro r1' (And.intro r2 (And.intro r3 r4)))
 clear r1 r1' r2 r3 r4 h0
 go_enter Try.func3, Try.ntmps3
 go_wp2_with fail
 refine (begun14_any HCC.out w).mono ?_
 rintro e w1 ⟨rfl, hb⟩
 have B1 := qH hb
 clear hb
 by_cases hl : 60 < ps.length
 ·have x1 : (60 : Int) < (ps.length : Int) := Int.ofNat_lt.2 hl
  clear hl
  go_wp2_with fail
  go_ret
  exact ⟨rfl, B1.out⟩
 have x1 : ¬ (60 : Int) < (ps.length : Int) := fun h => hl (Int.ofNat_lt.1 h)
 have HL := qH (Nat.le_of_not_lt hl)
 clear hl
 go_wp2_with fail
 refine (playDfa_any n c ps _ w1 HN.out HC.out (R.out.below B1.out) HL.out).mono ?_
 rintro e w2 ⟨cs, rfl, hd, hb⟩
 obtain ⟨D, hD⟩ : ∃ D, D = dfaQ n c ps := ⟨_, rfl⟩
 rw [← hD] at hd
 have HM := qH (show MayD D by rw [hD]; exact dfaQ_may n c ps)
 have HAC := qH (show AllC D by rw [hD]; exact dfaQ_allC n c ps)
 have HCT := qH (show ∃ qs, D.cl = ctab qs 256 by rw [hD]; exact dfaQ_ctab n c ps)
 clear hD
 have VA := qH hd.dfa
 obtain ⟨An, Ae, cn, ce, vf, hcl, hcs, _⟩ := VA.out.form
 have HCL2 := qH hcl
 have HLA := qH (show cs.length = 258 by rw [hcs]; exact dcl_len hcl)
 have HOA := qH (show cs.all (·.oneCell') = true by rw [hcs]; exact dcl_one)
 have HSA := qH (show (Try.prog.info? 28).map (·.size) = some cs.length from VA.out.size)
 have B2 := qH (B1.out.trans (hb.mono B1.out.size))
 clear hd hb hcl hcs
 go_wp2_with (first
  | ((with_reducible refine atDst 11 ?_); refine wpList_new rfl 28 rfl id _ d0 hid HDZ.out rfl (Below.refl w2.heap.size w2) (Nat.le_refl _) ?_; intro w3 hk hb hs _; have K3 := qH hk; have B23 := qH hb; clear hk hb hs; (try simp only [Act.put, qA, qB, qC]))
  | ((with_reducible refine atStore 28 11 24 ?_); refine wpList_stBlk rfl 28 _ _ rfl w2.heap.size cs rfl rfl 28 _ K3.out HSA.out (by rw [HDL.out, HLA.out]) HOA.out B23.out (Nat.le_refl _) ?_; intro w4 hk hb hs ho; have K4 := qH hk; have V4 := qH (VA.out.below hb); have B4 := qH (B2.out.trans (hb.mono B2.out.size)); clear hk hb hs ho; (try simp only [Act.put, qA, qB, qC]))
  | ((with_reducible refine atDst 26 ?_); refine wpList_ldArr rfl 28 _ rfl w2.heap.size rfl 28 _ _ K4.out Try.underlying28 rfl HSA.out ?_; (try simp only [Act.put, qA, qB, qC])))
 obtain ⟨gd, hgd⟩ : ∃ g, g = w2.heap.size := ⟨_, rfl⟩
 rw [← hgd] at K4
 rw [← hgd]
 clear hgd K3 B23 VA
 refine (HCC.out.shortest D cs w4 V4.out HM.out HAC.out).mono ?_
 rintro e w5 ⟨v, b, rfl, ht, hf, hb⟩
 have K5 := qH (K4.out.below hb K4.out.lt)
 have V5 := qH (V4.out.below hb)
 have B5 := qH (B4.out.trans (hb.mono B4.out.size))
 have HT := qH ht
 have HF := qH hf
 clear ht hf hb
 go_wp2_with ((with_reducible refine atDst 31 ?_); refine wpList_ldArr rfl 28 _ rfl gd rfl 28 _ _ K5.out Try.underlying28 rfl HSA.out ?_; (try simp only [Act.put, qA, qB, qC]))
 obtain ⟨qs, hqs⟩ := HCT.out
 refine (refShortest_any D qs cs w5 V5.out HM.out hqs).mono ?_
 rintro e w6 ⟨v2, b2, rfl, ht2, hf2, hb⟩
 have K6 := qH (K5.out.below hb K5.out.lt)
 have V6 := qH (V5.out.below hb)
 have B6 := qH (B5.out.trans (hb.mono B5.out.size))
 obtain ⟨u, hu1, hu2, hbb⟩ : ∃ u : List UInt8, Row w6 v (bvs u) ∧ Row w6 v2 (bvs u) ∧ b2 = b := by
  cases b with
  | true =>
   obtain ⟨u, hr, hs⟩ := HT.out rfl
   cases b2 with
   | true =>
    obtain ⟨u2, hr2, hs2⟩ := ht2 rfl
    rw [← sho_one hs hs2] at hr2
    exact ⟨u, hr.below hb, hr2, rfl⟩
   | false =>
    have h1 := (hf2 rfl).2 u
    rw [hs.is] at h1
    cases h1
  | false =>
   obtain ⟨hr, hs⟩ := HF.out rfl
   cases b2 with
   | true =>
    obtain ⟨u2, hr2, hs2⟩ := ht2 rfl
    have h1 := hs u2
    rw [hs2.is] at h1
    cases h1
   | false =>
    obtain ⟨h1, _⟩ := hf2 rfl
    exact ⟨[], hr.below hb, by rw [h1]; exact Row.nil w6, rfl⟩
 subst hbb
 have U1 := qH hu1
 have U2 := qH hu2
 obtain ⟨Z, hZ⟩ : ∃ Z : ByteArray, Z = ⟨u.toArray⟩ := ⟨_, rfl⟩
 have HZ := qH hZ
 clear hqs ht2 hf2 hb hu1 hu2 hZ HT HF
 go_wp2_with fail
 refine mc_start (fun V => Below w6.heap.size w6 V) (fun _ => True) 43 (by kernel_rfl) (fun wd hwd => ?_)
 have hX : Below w6.heap.size w6 wd := by rw [hwd]; exact (Below.refl _ _).drew
 have hY : True := trivial
 clear hwd
 obtain ⟨t1, t2, t3, t4⟩ := Rma.out
 refine mc_take (i := 0) (oi := ⟨some 35, _, _, _, _, _⟩) (v := ?_) rfl (by kernel_rfl) (by kernel_rfl) (by kernel_rfl) (fun _ _ _ h => h) rfl hX ?_ ?_; rotate_left; (intro W hW; go_simp; try with_reducible rfl); simp only [Act.put, qA, qB, qC]
 refine mc_take (i := 1) (oi := ⟨some 36, _, _, _, _, _⟩) (v := .string Z) rfl (by kernel_rfl) (by kernel_rfl) (by kernel_rfl) (fun _ _ _ h => h) rfl hX (fun V hV => by rw [HZ.out]; exact ex_toStr (x := .tmp 35) (v := v) rfl rfl (U1.out.below hV)) ?_; simp only [Act.put, qA, qB, qC]
 refine mc_take (i := 2) (oi := ⟨some 37, _, _, _, _, _⟩) (v := ?_) rfl (by kernel_rfl) (by kernel_rfl) (by kernel_rfl) (fun _ _ _ h => h) rfl hX ?_ ?_; rotate_left; (intro W hW; go_simp; try with_reducible rfl); simp only [Act.put, qA, qB, qC]
 refine mc_take (i := 3) (oi := ⟨some 38, _, _, _, _, _⟩) (v := .string Z) rfl (by kernel_rfl) (by kernel_rfl) (by kernel_rfl) (fun _ _ _ h => h) rfl hX (fun V hV => by rw [HZ.out]; exact ex_toStr (x := .tmp 37) (v := v2) rfl rfl (U2.out.below hV)) ?_; simp only [Act.put, qA, qB, qC]
 refine mc_take (i := 4) (oi := ⟨some 39, _, _, _, _, _⟩) (v := .bool true) rfl (by kernel_rfl) (by kernel_rfl) (by kernel_rfl) (fun _ _ _ h => h) rfl hX (fun V _ => ex_eqW 9 (.tmp 36) (.tmp 38) _ Try.underlying9 rfl rfl rfl HZ.out HZ.out (by simp) V) ?_; simp only [Act.put, qA, qB, qC]
 refine mc_take (i := 5) (oi := ⟨some 40, _, _, _, _, _⟩) (v := ?_) rfl (by kernel_rfl) (by kernel_rfl) (by kernel_rfl) (fun _ _ _ h => h) rfl hX ?_ ?_; rotate_left; (intro W hW; go_simp; try with_reducible rfl); simp only [Act.put, qA, qB, qC]
 refine mc_take (i := 6) (oi := ⟨some 41, _, _, _, _, _⟩) (v := ?_) rfl (by kernel_rfl) (by kernel_rfl) (by kernel_rfl) (fun _ _ _ h => h) rfl hX ?_ ?_; rotate_left; (intro W hW; go_simp; try with_reducible rfl); simp only [Act.put, qA, qB, qC]
 refine mc_take (i := 7) (oi := ⟨some 42, _, _, _, _, _⟩) (v := ?_) rfl (by kernel_rfl) (by kernel_rfl) (by kernel_rfl) (fun _ _ _ h => h) rfl hX ?_ ?_; rotate_left; (intro W hW; go_simp; try with_reducible rfl); simp only [Act.put, qA, qB, qC]
 refine mc_take (i := 8) (oi := ⟨some 43, _, _, _, _, _⟩) (v := .bool true) rfl (by kernel_rfl) (by kernel_rfl) (by kernel_rfl) (fun _ _ _ h => h) rfl hX (fun V _ => ex_eqBW (.tmp 41) (.tmp 42) rfl rfl rfl V) ?_; simp only [Act.put, qA, qB, qC]
 refine mc_take (i := 9) (oi := ⟨some 44, _, _, _, _, _⟩) (v := ?_) rfl (by kernel_rfl) (by kernel_rfl) (by kernel_rfl) (fun _ _ _ h => h) rfl hX ?_ ?_; rotate_left; (intro W hW; go_simp; try with_reducible rfl); simp only [Act.put, qA, qB, qC]
 refine mc_take (i := 10) (oi := ⟨some 45, _, _, _, _, _⟩) (v := ?_) rfl (by kernel_rfl) (by kernel_rfl) (by kernel_rfl) (fun _ _ _ h => h) rfl hX ?_ ?_; rotate_left; (intro W hW; go_simp; try with_reducible rfl); simp only [Act.put, qA, qB, qC]
 refine mc_take (i := 11) (oi := ⟨some 46, _, _, _, _, _⟩) (v := .agg cs.toArray) rfl (by kernel_rfl) (by kernel_rfl) (by kernel_rfl) (fun _ _ _ h => h) rfl hX (fun V hT => ld_blk 28 (.tmp 11) rfl gd rfl 28 cs _ K6.out K6.out.lt Try.underlying28 rfl HSA.out V hT) ?_; simp only [Act.put, qA, qB, qC]
 refine mc_take (i := 12) (oi := ⟨some 47, _, _, _, _, _⟩) (v := ?_) rfl (by kernel_rfl) (by kernel_rfl) (by kernel_rfl) (fun _ _ _ h => h) rfl hX ?_ ?_; rotate_left; (intro W hW; go_simp; try with_reducible rfl); simp only [Act.put, qA, qB, qC]
 refine mc_take (i := 13) (oi := ⟨some 48, _, _, _, _, _⟩) (v := ?_) rfl (by kernel_rfl) (by kernel_rfl) (by kernel_rfl) (fun _ _ _ h => h) rfl hX ?_ ?_; rotate_left; (intro W hW; go_simp; try with_reducible rfl); simp only [Act.put, qA, qB, qC]
 refine mc_take (i := 14) (oi := ⟨some 49, _, _, _, _, _⟩) (v := ?_) rfl (by kernel_rfl) (by kernel_rfl) (by kernel_rfl) (fun _ _ _ h => h) rfl hX ?_ ?_; rotate_left; (intro W hW; go_simp; try with_reducible rfl); simp only [Act.put, qA, qB, qC]
 refine mc_take (i := 16) (oi := ⟨some 51, _, _, _, _, _⟩) (v := .agg cs.toArray) rfl (by kernel_rfl) (by kernel_rfl) (by kernel_rfl) (fun _ _ _ h => h) rfl hX (fun V hT => ld_blk 28 (.tmp 11) rfl gd rfl 28 cs _ K6.out K6.out.lt Try.underlying28 rfl HSA.out V hT) ?_; simp only [Act.put, qA, qB, qC]
 refine mc_take (i := 17) (oi := ⟨some 52, _, _, _, _, _⟩) (v := ?_) rfl (by kernel_rfl) (by kernel_rfl) (by kernel_rfl) (fun _ _ _ h => h) rfl hX ?_ ?_; rotate_left; (intro W hW; go_simp; try with_reducible rfl); simp only [Act.put, qA, qB, qC]
 refine mc_take (i := 18) (oi := ⟨some 53, _, _, _, _, _⟩) (v := ?_) rfl (by kernel_rfl) (by kernel_rfl) (by kernel_rfl) (fun _ _ _ h => h) rfl hX ?_ ?_; rotate_left; (intro W hW; go_simp; try with_reducible rfl); simp only [Act.put, qA, qB, qC]
 refine mc_take (i := 19) (oi := ⟨some 54, _, _, _, _, _⟩) (v := ?_) rfl (by kernel_rfl) (by kernel_rfl) (by kernel_rfl) (fun _ _ _ h => h) rfl hX ?_ ?_; rotate_left; (intro W hW; go_simp; try with_reducible rfl); simp only [Act.put, qA, qB, qC]
 refine mc_actB (i := 15) (o := ⟨some 50, _, _, _, _, _⟩) rfl (by kernel_rfl) rfl (fun K hK => ?_)
 clear t1 t2 t3 t4
 have X1 := qH hX
 go_wp2_with fail
 refine (HCC.out.count D cs ma wd (int_m1 ma) (int_1k Hma.out) (V6.out.below hX) HM.out HAC.out).mono ?_
 rintro e v3 ⟨rfl, hb⟩
 rw [cntW_nat]
 obtain ⟨x, hx⟩ : ∃ x, x = cntL (accD D 0) (min ma 1000) % N64 := ⟨_, rfl⟩
 have HX := qH hx
 rw [← hx]
 clear hx
 have hX2 := X1.out.trans (hb.mono X1.out.size)
 clear hb
 go_wp2_with fail
 refine hK _ _ hX2 trivial ?_
 clear hK K hX
 have hX := hX2
 clear hX2
 (try simp only [Act.put, qA, qB, qC])
 refine mc_actB (i := 20) (o := ⟨some 55, _, _, _, _, _⟩) rfl (by kernel_rfl) rfl (fun K hK => ?_)
 have X2 := qH hX
 go_wp2_with fail
 refine (refCount11_any D cs ma v3 (V6.out.below hX) HM.out).mono ?_
 rintro e v4 ⟨rfl, hb⟩
 rw [← HX.out]
 have hX2 := X2.out.trans (hb.mono X2.out.size)
 clear hb
 go_wp2_with fail
 refine hK _ _ hX2 trivial ?_
 clear hK K hX
 have hX := hX2
 clear hX2
 (try simp only [Act.put, qA, qB, qC])
 obtain ⟨t1, t2, t3, t4⟩ := Rmb.out
 obtain ⟨s1, s2, s3, s4⟩ := Rmc.out
 refine mc_take (i := 21) (oi := ⟨some 56, _, _, _, _, _⟩) (v := ?_) rfl (by kernel_rfl) (by kernel_rfl) (by kernel_rfl) (fun _ _ _ h => h) rfl hX ?_ ?_; rotate_left; (intro W hW; go_simp; try with_reducible rfl); simp only [Act.put, qA, qB, qC]
 refine mc_take (i := 22) (oi := ⟨some 57, _, _, _, _, _⟩) (v := ?_) rfl (by kernel_rfl) (by kernel_rfl) (by kernel_rfl) (fun _ _ _ h => h) rfl hX ?_ ?_; rotate_left; (intro W hW; go_simp; try with_reducible rfl); simp only [Act.put, qA, qB, qC]
 refine mc_take (i := 23) (oi := ⟨some 58, _, _, _, _, _⟩) (v := ?_) rfl (by kernel_rfl) (by kernel_rfl) (by kernel_rfl) (fun _ _ _ h => h) rfl hX ?_ ?_; rotate_left; (intro W hW; go_simp; try with_reducible rfl); simp only [Act.put, qA, qB, qC]
 refine mc_take (i := 24) (oi := ⟨some 59, _, _, _, _, _⟩) (v := .agg cs.toArray) rfl (by kernel_rfl) (by kernel_rfl) (by kernel_rfl) (fun _ _ _ h => h) rfl hX (fun V hT => ld_blk 28 (.tmp 11) rfl gd rfl 28 cs _ K6.out K6.out.lt Try.underlying28 rfl HSA.out V hT) ?_; simp only [Act.put, qA, qB, qC]
 refine mc_take (i := 25) (oi := ⟨some 60, _, _, _, _, _⟩) (v := ?_) rfl (by kernel_rfl) (by kernel_rfl) (by kernel_rfl) (fun _ _ _ h => h) rfl hX ?_ ?_; rotate_left; (intro W hW; go_simp; try with_reducible rfl); simp only [Act.put, qA, qB, qC]
 refine mc_take (i := 26) (oi := ⟨some 61, _, _, _, _, _⟩) (v := ?_) rfl (by kernel_rfl) (by kernel_rfl) (by kernel_rfl) (fun _ _ _ h => h) rfl hX ?_ ?_; rotate_left; (intro W hW; go_simp; try with_reducible rfl); simp only [Act.put, qA, qB, qC]
 refine mc_take (i := 27) (oi := ⟨some 62, _, _, _, _, _⟩) (v := ?_) rfl (by kernel_rfl) (by kernel_rfl) (by kernel_rfl) (fun _ _ _ h => h) rfl hX ?_ ?_; rotate_left; (intro W hW; go_simp; try with_reducible rfl); simp only [Act.put, qA, qB, qC]
 refine mc_take (i := 28) (oi := ⟨some 63, _, _, _, _, _⟩) (v := ?_) rfl (by kernel_rfl) (by kernel_rfl) (by kernel_rfl) (fun _ _ _ h => h) rfl hX ?_ ?_; rotate_left; (intro W hW; go_simp; try with_reducible rfl); simp only [Act.put, qA, qB, qC]
 refine mc_take (i := 29) (oi := ⟨some 64, _, _, _, _, _⟩) (v := ?_) rfl (by kernel_rfl) (by kernel_rfl) (by kernel_rfl) (fun _ _ _ h => h) rfl hX ?_ ?_; rotate_left; (intro W hW; go_simp; try with_reducible rfl); simp only [Act.put, qA, qB, qC]
 refine mc_take (i := 30) (oi := ⟨some 65, _, _, _, _, _⟩) (v := ?_) rfl (by kernel_rfl) (by kernel_rfl) (by kernel_rfl) (fun _ _ _ h => h) rfl hX ?_ ?_; rotate_left; (intro W hW; go_simp; try with_reducible rfl); simp only [Act.put, qA, qB, qC]
 refine mc_take (i := 32) (oi := ⟨some 67, _, _, _, _, _⟩) (v := .agg cs.toArray) rfl (by kernel_rfl) (by kernel_rfl) (by kernel_rfl) (fun _ _ _ h => h) rfl hX (fun V hT => ld_blk 28 (.tmp 11) rfl gd rfl 28 cs _ K6.out K6.out.lt Try.underlying28 rfl HSA.out V hT) ?_; simp only [Act.put, qA, qB, qC]
 refine mc_take (i := 33) (oi := ⟨some 68, _, _, _, _, _⟩) (v := ?_) rfl (by kernel_rfl) (by kernel_rfl) (by kernel_rfl) (fun _ _ _ h => h) rfl hX ?_ ?_; rotate_left; (intro W hW; go_simp; try with_reducible rfl); simp only [Act.put, qA, qB, qC]
 refine mc_take (i := 34) (oi := ⟨some 69, _, _, _, _, _⟩) (v := ?_) rfl (by kernel_rfl) (by kernel_rfl) (by kernel_rfl) (fun _ _ _ h => h) rfl hX ?_ ?_; rotate_left; (intro W hW; go_simp; try with_reducible rfl); simp only [Act.put, qA, qB, qC]
 refine mc_take (i := 35) (oi := ⟨some 70, _, _, _, _, _⟩) (v := ?_) rfl (by kernel_rfl) (by kernel_rfl) (by kernel_rfl) (fun _ _ _ h => h) rfl hX ?_ ?_; rotate_left; (intro W hW; go_simp; try with_reducible rfl); simp only [Act.put, qA, qB, qC]
 refine mc_take (i := 36) (oi := ⟨some 71, _, _, _, _, _⟩) (v := ?_) rfl (by kernel_rfl) (by kernel_rfl) (by kernel_rfl) (fun _ _ _ h => h) rfl hX ?_ ?_; rotate_left; (intro W hW; go_simp; try with_reducible rfl); simp only [Act.put, qA, qB, qC]
 refine mc_take (i := 37) (oi := ⟨some 72, _, _, _, _, _⟩) (v := ?_) rfl (by kernel_rfl) (by kernel_rfl) (by kernel_rfl) (fun _ _ _ h => h) rfl hX ?_ ?_; rotate_left; (intro W hW; go_simp; try with_reducible rfl); simp only [Act.put, qA, qB, qC]
 refine mc_take (i := 38) (oi := ⟨some 73, _, _, _, _, _⟩) (v := ?_) rfl (by kernel_rfl) (by kernel_rfl) (by kernel_rfl) (fun _ _ _ h => h) rfl hX ?_ ?_; rotate_left; (intro W hW; go_simp; try with_reducible rfl); simp only [Act.put, qA, qB, qC]
 refine mc_actB (i := 31) (o := ⟨some 66, _, _, _, _, _⟩) rfl (by kernel_rfl) rfl (fun K hK => ?_)
 clear t1 t2 t3 t4 s1 s2 s3 s4
 have X3 := qH hX
 go_wp2_with fail
 refine (HCC.out.words D cs mb mc v4 (int_m1 mb) (int_1k (le_1k Hmb.out)) (int_n0 mc) (int_1k Hmc.out) (V6.out.below hX) HM.out HAC.out).mono ?_
 rintro e v5 ⟨va, rfl, hwa, hb⟩
 rw [wrdW_nat D mc Hmb.out] at hwa
 obtain ⟨L, hL⟩ : ∃ l, l = (wrds (accD D 0) mb).take (min mc 1000) := ⟨_, rfl⟩
 have HL2 := qH hL
 have HLK := qH (show L.length ≤ 1000 by rw [hL, List.length_take]; exact Nat.le_trans (Nat.min_le_left _ _) (Nat.min_le_right _ _))
 rw [← hL] at hwa
 have WA := qH hwa
 have hX2 := X3.out.trans (hb.mono X3.out.size)
 clear hb hwa hL
 obtain ⟨Aa, la, ca, hva⟩ : ∃ A n c, va = .slice A n c := by
  obtain ⟨vs, ⟨A, c, h, _⟩, _⟩ := WA.out
  exact ⟨A, _, c, h⟩
 subst hva
 go_wp2_with fail
 refine hK _ _ hX2 trivial ?_
 clear hK K hX
 have hX := hX2
 clear hX2
 (try simp only [Act.put, qA, qB, qC])
 refine mc_actB (i := 39) (o := ⟨some 74, _, _, _, _, _⟩) rfl (by kernel_rfl) rfl (fun K hK => ?_)
 have X4 := qH hX
 go_wp2_with fail
 refine (refWords11_any D cs mb mc v5 (V6.out.below hX) HM.out Hmb.out (le_100k Hmc.out)).mono ?_
 rintro e v6 ⟨vb, rfl, hwb, hb⟩
 rw [← HL2.out] at hwb
 have WB := qH hwb
 have WA6 := qH (show WrdsE v6 (.slice Aa la ca) L from by
  obtain ⟨vs, h1, h2, h3⟩ := WA.out
  exact ⟨vs, h1.below hb, h2, fun i l hl => by
   obtain ⟨x, h4, h5⟩ := h3 i l hl
   exact ⟨x, h4, h5.below hb⟩⟩)
 have hX2 := X4.out.trans (hb.mono X4.out.size)
 clear hb hwb
 obtain ⟨Ab, lb, cb, hvb⟩ : ∃ A n c, vb = .slice A n c := by
  obtain ⟨vs, ⟨A, c, h, _⟩, _⟩ := WB.out
  exact ⟨A, _, c, h⟩
 subst hvb
 go_wp2_with fail
 refine hK _ _ hX2 trivial ?_
 clear hK K hX
 have hX := hX2
 clear hX2
 (try simp only [Act.put, qA, qB, qC])
 refine mc_actB (i := 40) (o := ⟨some 75, _, _, _, _, _⟩) rfl (by kernel_rfl) rfl (fun K hK => ?_)
 have X5 := qH hX
 go_wp2_with fail
 refine (same14_any L _ _ v6 WA6.out WB.out HLK.out).mono ?_
 rintro e v7 ⟨rfl, hb⟩
 have hX2 := X5.out.trans (hb.mono X5.out.size)
 clear hb
 go_wp2_with fail
 refine hK _ _ hX2 trivial ?_
 clear hK K hX
 have hX := hX2
 clear hX2
 (try simp only [Act.put, qA, qB, qC])
 refine mc_take (i := 41) (oi := ⟨some 76, _, _, _, _, _⟩) (v := ?_) rfl (by kernel_rfl) (by kernel_rfl) (by kernel_rfl) (fun _ _ _ h => h) rfl hX ?_ ?_; rotate_left; (intro W hW; go_simp; try with_reducible rfl); simp only [Act.put, qA, qB, qC]
 refine mc_take (i := 42) (oi := ⟨some 10, _, _, _, _, _⟩) (v := ?_) rfl (by kernel_rfl) (by kernel_rfl) (by kernel_rfl) (fun _ _ _ h => h) rfl hX ?_ ?_; rotate_left; (intro W hW; go_simp; try with_reducible rfl); simp only [Act.put, qA, qB, qC]
 refine wpAnyC_done (by kernel_rfl) ?_ _
 have BF := qH (B6.out.trans (hX.mono B6.out.size))
 clear hX hY
 go_wp2_with fail
 go_ret
 exact ⟨rfl, BF.out⟩
def wayF (f : Nat → Nat) (s x : Nat) : Nat → Nat := fun t => if t < s then f t else if t = s then x else 0
theorem wayF_zero (f : Nat → Nat) (t : Nat) : wayF f 0 0 t = 0 := by
 unfold wayF
 rw [if_neg (Nat.not_lt_zero _)]
 by_cases h : t = 0
 ·rw [if_pos h]
 ·rw [if_neg h]
theorem wayF_at (f : Nat → Nat) (s x : Nat) : wayF f s x s = x := by
 unfold wayF
 rw [if_neg (Nat.lt_irrefl _), if_pos rfl]
theorem wayF_upd (f : Nat → Nat) (s x y t : Nat) : updN (wayF f s x) s y t = wayF f s y t := by
 unfold updN wayF
 by_cases h : t = s
 ·rw [if_pos h, if_neg (by omega), if_pos h]
 ·rw [if_neg h, if_neg h, if_neg h]
theorem wayF_next (f : Nat → Nat) (s t : Nat) : wayF f s (f s) t = wayF f (s + 1) 0 t := by
 unfold wayF
 by_cases h : t < s
 ·rw [if_pos h, if_pos (by omega)]
 ·rw [if_neg h]
  by_cases h2 : t = s
  ·rw [if_pos h2, if_pos (by omega), h2]
  ·rw [if_neg h2, if_neg (by omega)]
   by_cases h3 : t = s + 1
   ·rw [if_pos h3]
   ·rw [if_neg h3]
theorem wayF_all (f : Nat → Nat) {n t : Nat} (h : t < n) : wayF f n 0 t = f t := by
 unfold wayF
 rw [if_pos h]
def cntR (D : Dm) (i : Nat) : Nat → Nat := fun s => cntL (accD D s) i % N64
def cntK2 (D : Dm) (i s k : Nat) : Nat := sumN (fun c => szK D c * cntL (accD D (stC D s c)) i) k
theorem cntK2_all {D : Dm} (hl : D.cl.length = 256) (i s : Nat) : cntK2 D i s (clsA D.cl) = cntL (accD D s) (i + 1) := by
 unfold cntK2
 rw [szK_sum hl (fun c => cntL (accD D (stC D s c)) i), cntL_acc, sum_byts]
 refine sumN_congr fun b hb => ?_
 rw [stD_stC, show (UInt8.ofNat b).toNat = b by rw [UInt8.toNat_ofNat', Nat.mod_eq_of_lt hb]]
 rfl
theorem cntK2_step (D : Dm) (i s k : Nat) : (cntK2 D i s k % N64 + szK D k * cntR D i (stC D s k) % N64) % N64 = cntK2 D i s (k + 1) % N64 := by
 unfold cntK2 cntR
 rw [sumN_succ, ← Nat.add_mod]
 rw [Nat.add_mod, Nat.mul_mod, Nat.mod_mod, ← Nat.mul_mod, ← Nat.add_mod]
theorem cntR_zero (D : Dm) (s : Nat) : cntR D 0 s = if D.ends.getD s false = true then 1 else 0 := by
 unfold cntR
 rw [cntL_zero]
 show (if D.ends.getD s false = true then 1 else 0) % N64 = _
 by_cases h : D.ends.getD s false = true
 ·rw [if_pos h]
  rfl
 ·rw [if_neg h]
  rfl
theorem cntR_next {D : Dm} (hl : D.cl.length = 256) (i s : Nat) : cntK2 D i s (clsA D.cl) % N64 = cntR D (i + 1) s := by
 rw [cntK2_all hl]
 rfl
/-! ### by bytes -/
def canB (D : Dm) (i s b : Nat) : Bool := (List.range b).any fun c => canC D i (stC D s (clB D c))
theorem canB_succ (D : Dm) (i s b : Nat) : canB D i s (b + 1) = (canB D i s b || canC D i (stC D s (clB D b))) := by
 unfold canB
 rw [List.range_succ, List.any_append]
 simp
theorem canB_all {D : Dm} (hl : D.cl.length = 256) (ha : AllC D) (i s : Nat) : canB D i s 256 = canC D (i + 1) s := by
 rw [Bool.eq_iff_iff]
 show (List.range 256).any _ = true ↔ (List.range (clsA D.cl)).any _ = true
 rw [List.any_eq_true, List.any_eq_true]
 constructor
 ·rintro ⟨b, hb, h⟩
  exact ⟨clB D b, List.mem_range.2 (clB_lt hl (List.mem_range.1 hb)), h⟩
 ·rintro ⟨k, hk, h⟩
  obtain ⟨b, hb⟩ := ha k (List.mem_range.1 hk)
  exact ⟨b.toNat, List.mem_range.2 b.toNat_lt, by
   rw [show clB D b.toNat = k from hb]
   exact h⟩
theorem wrdP_no {D : Dm} (hl : D.cl.length = 256) {i s : Nat} (w : List UInt8) {b : Nat} (hb : b < 256) (h : canC D i (stC D s (clB D b)) = false) : wrdP D i s w (b + 1) = wrdP D i s w b := by
 rw [wrdP_succ, wrdB_none hl, List.append_nil]
 rw [stD_stC, show (UInt8.ofNat b).toNat = b by rw [UInt8.toNat_ofNat', Nat.mod_eq_of_lt hb]]
 exact h
def runD (D : Dm) (w : List UInt8) : Bool := D.ends.getD (toD D 0 w) false
theorem runD_get {D : Dm} (h : MayD D) (hl : D.cl.length = 256) (w : List UInt8) : D.ends[toD D 0 w]? = some (runD D w) := by
 have h1 := toD_lt h hl w 0 (by have := h.pos; omega)
 have h2 : toD D 0 w < D.ends.length := by rw [h.ends]; exact h1
 unfold runD
 rw [List.getD_eq_getElem?_getD, List.getElem?_eq_getElem h2]
 rfl
set_option maxHeartbeats 8000000 in
set_option maxRecDepth 1000000 in
theorem refRun11_any (D : Dm) (W : List UInt8) (cs : List Value) (V : Value) (w : World) (hv : DfaV w cs D) (hm : MayD D) (hw : Row w V (bvs W)) :
  Calls Try.prog 19 #[.agg cs.toArray, V] w fun e w' => e = .returned (.bool (runD D W)) ∧ Below w.heap.size w w' := by
 have V0 := qH hv
 have HM := qH hm
 have HDS := qH hv.size
 have W0 := qH hw
 obtain ⟨An, Ae, cn, ce, vf, hl, hcs, hn, hr, he⟩ := hv.form
 have HCS := qH hcs
 have HL := qH hl
 have HRG := qH (runD_get hm hl W)
 have HNP := qH (show 0 < D.next.length by have := hm.pos; omega)
 have HE := qH he
 obtain ⟨p, hp⟩ : ∃ p, p = toD D 0 W := ⟨_, rfl⟩
 obtain ⟨y, hy⟩ : ∃ y, y = runD D W := ⟨_, rfl⟩
 obtain ⟨k, hk⟩ : ∃ k, k = D.ends.length := ⟨_, rfl⟩
 have HP := qH (show toD D 0 W = p from hp.symm)
 rw [← hp, ← hy] at HRG
 rw [← hy]
 rw [← hk] at HCS HE
 have HPK := qH (show p < k by rw [hk]; exact (List.getElem?_eq_some_iff.1 HRG.out).1)
 have p1 : (p : Int) < (k : Int) := Int.ofNat_lt.2 HPK.out
 have p2 : decide ((0 : Int) ≤ (p : Int)) = true := decide_eq_true (Int.natCast_nonneg p)
 clear hv hm hw hl hcs hn hr he hp hy hk
 go_enter Try.func19, Try.ntmps19
 go_wp2_with (first
  | ((with_reducible refine atDst 2 ?_); refine wpList_box rfl 28 _ rfl cs rfl (Below.refl w.heap.size w) (Nat.le_refl _) ?_; intro w1 hk1 hb1 hs1 _; have K1 := qH hk1; have B1 := qH hb1; clear hk1 hb1 hs1; (try simp only [Act.put, qA, qB, qC]))
  | ((with_reducible refine atDst 6 ?_); refine wpList_ldArr rfl 28 _ rfl w.heap.size rfl 28 _ _ K1.out Try.underlying28 rfl HDS.out ?_; (try simp only [Act.put, qA, qB, qC])))
 refine (refTo11_any D 0 W cs V w1 (V0.out.below B1.out) HM.out HNP.out (W0.out.below B1.out)).mono ?_
 rintro e w2 ⟨rfl, hb⟩
 rw [HP.out]
 have K2 := qH (K1.out.below hb K1.out.lt)
 have B2 := qH (B1.out.trans (hb.mono B1.out.size))
 clear hb
 have c257 : w2.cell? ⟨w.heap.size, 257, none⟩ = some (.slice Ae k ce) := by rw [K2.out.cell 257, HCS.out]; exact dcl_e HL.out
 obtain ⟨be, oe, rfl, hbe, hce⟩ := (HE.out.below B2.out).at_ (by rw [bools_length]; exact Nat.lt_of_le_of_lt (Nat.zero_le _) (List.getElem?_eq_some_iff.1 HRG.out).1)
 have hcp : w2.cell? ⟨be, oe + p, none⟩ = some (.bool y) := hce p _ (by simp [bools, HRG.out])
 clear hbe hce
 go_wp2_with fail
 go_ret
 exact ⟨rfl, B2.out⟩
noncomputable def mayDB (D : Dm) : Bool := @decide (MayD D) (Classical.propDecidable _)
theorem mayDB_iff {D : Dm} : mayDB D = true ↔ MayD D := by
 unfold mayDB
 exact @decide_eq_true_iff _ (Classical.propDecidable _)
theorem mayDB_yes {D : Dm} (h : MayD D) : mayDB D = true := mayDB_iff.2 h
theorem mayDB_no {D : Dm} (h : ¬ MayD D) : mayDB D = false := by
 cases hm : mayDB D with
 | false => rfl
 | true => exact absurd (mayDB_iff.1 hm) h
def okR (n k : Nat) (r : List Int) : Prop := r.length = k ∧ ∀ x ∈ r, 0 ≤ x ∧ x < (n : Int)
theorem may_rows {D : Dm} (h1 : 1 ≤ D.next.length) (h2 : D.next.length ≤ 2000) (h3 : D.ends.length = D.next.length) (h4 : ∀ (i : Nat) r, D.next[i]? = some r → okR D.next.length (clsA D.cl) r) : MayD D := by
 refine ⟨h1, h2, h3, fun r hr => ?_, fun r hr x hx => ?_⟩
 ·obtain ⟨i, hi⟩ := List.mem_iff_getElem?.1 hr
  exact (h4 i r hi).1
 ·obtain ⟨i, hi⟩ := List.mem_iff_getElem?.1 hr
  exact (h4 i r hi).2 x hx
def maxL (l : List UInt8) : Nat := l.foldl (fun m c => max m c.toNat) 0
theorem maxL_snoc (l : List UInt8) (c : UInt8) : maxL (l ++ [c]) = max (maxL l) c.toNat := by simp [maxL]
theorem maxL_up {l : List UInt8} : ∀ {c : UInt8}, c ∈ l → c.toNat ≤ maxL l := by
 have h : ∀ (l : List UInt8) (k : Nat), k ≤ l.foldl (fun m c => max m c.toNat) k ∧ ∀ c ∈ l, c.toNat ≤ l.foldl (fun m c => max m c.toNat) k := by
  intro l
  induction l with
  | nil => intro k; exact ⟨Nat.le_refl _, fun c hc => by cases hc⟩
  | cons a r ih =>
   intro k
   have h1 := ih (max k a.toNat)
   refine ⟨Nat.le_trans (Nat.le_max_left _ _) h1.1, fun c hc => ?_⟩
   rcases List.mem_cons.1 hc with rfl | hc
   ·exact Nat.le_trans (Nat.le_max_right _ _) h1.1
   ·exact h1.2 c hc
 exact fun {c} hc => (h l 0).2 c hc
theorem maxL_in {l : List UInt8} (hl : l ≠ []) : ∃ c ∈ l, c.toNat = maxL l := by
 have h : ∀ (l : List UInt8) (k : Nat), l.foldl (fun m c => max m c.toNat) k = k ∨ ∃ c ∈ l, c.toNat = l.foldl (fun m c => max m c.toNat) k := by
  intro l
  induction l with
  | nil => intro k; exact .inl rfl
  | cons a r ih =>
   intro k
   rcases ih (max k a.toNat) with h1 | ⟨c, hc, h1⟩
   ·rcases Nat.le_total k a.toNat with h2 | h2
    ·exact .inr ⟨a, List.mem_cons_self, by rw [List.foldl_cons, h1, Nat.max_eq_right h2]⟩
    ·exact .inl (by rw [List.foldl_cons, h1, Nat.max_eq_left h2])
   ·exact .inr ⟨c, List.mem_cons_of_mem _ hc, h1⟩
 rcases h l 0 with h1 | h1
 ·obtain ⟨a, ha⟩ := List.exists_mem_of_ne_nil l hl
  refine ⟨a, ha, ?_⟩
  have := maxL_up ha
  unfold maxL at this ⊢
  omega
 ·exact h1
theorem maxL_take {l : List UInt8} {i : Nat} {c : UInt8} (h : l[i]? = some c) : maxL (l.take (i + 1)) = max (maxL (l.take i)) c.toNat := by
 have hi := (List.getElem?_eq_some_iff.1 h).1
 rw [List.take_succ_eq_append_getElem hi, maxL_snoc]
 rw [(List.getElem?_eq_some_iff.1 h).2]
theorem maxL_lt {l : List UInt8} : maxL l < 256 := by
 by_cases h : l = []
 ·rw [h]; decide
 ·obtain ⟨c, _, hc⟩ := maxL_in h
  rw [← hc]
  exact c.toNat_lt
theorem maxJ (m k : Nat) : max (m : Int) (k : Int) = ((max m k : Nat) : Int) := by omega
theorem maxI (m k : Nat) : (if m < k then (k : Int) else (m : Int)) = ((max m k : Nat) : Int) := by split <;> omega
set_option maxHeartbeats 4000000 in
set_option maxRecDepth 1000000 in
theorem maxY_any (l : List UInt8) (v : Value) (w : World) (hr : Row w v (bvs l)) (h1 : 0 < l.length) (hn : l.length ≤ 1048576) :
  Calls Try.prog 43 #[v] w fun e w' => e = .returned (.int .u8 (maxL l : Int)) ∧ w' = w := by
 have HR := qH hr
 have HN := qH hn
 obtain ⟨A, cap, hv, _⟩ := hr
 subst hv
 obtain ⟨b, off, rfl, _, hc⟩ := HR.out.at_ (by rw [bvs_length]; exact h1)
 obtain ⟨n, hnn⟩ : ∃ n, n = (bvs l).length := ⟨_, rfl⟩
 have HNL := qH (show n = l.length by rw [hnn, bvs_length])
 rw [← hnn] at HR ⊢
 have HC := qH (show ∀ (i : Nat) (c : UInt8), l[i]? = some c → w.cell? ⟨b, off + i, none⟩ = some (.int .u8 (c.toNat : Int)) from fun i c h => hc i _ (bvs_get l i c h))
 have x0 : ¬ ((n : Int) < 1) := by rw [HNL.out]; omega
 have x1 : (0 : Int) < (n : Int) := by rw [HNL.out]; omega
 obtain ⟨c0, hc0⟩ : ∃ c, l[0]? = some c := ⟨_, List.getElem?_eq_getElem h1⟩
 have HC0 := qH hc0
 have y0 : w.cell? ⟨b, off, none⟩ = some (.int .u8 (c0.toNat : Int)) := HC.out 0 c0 hc0
 have HM0 := qH (show c0.toNat = maxL (l.take 1) by rw [maxL_take hc0]; simp [maxL])
 have H1 := qH (show 1 ≤ n by rw [HNL.out]; exact h1)
 clear hn hc hnn hc0 h1
 go_enter Try.func43, Try.ntmps43
 go_wp2_with fail
 go_loopw [3, 4] (fun mv iv wl => ∃ i m : Nat, mv = .int .u8 (m : Int) ∧ iv = .int .i64 (i : Int) ∧ i ≤ n ∧ m = maxL (l.take i) ∧ wl = w) (fun _ iv _ => n - (intOf iv).toNat)
 case atStart => exact ⟨1, c0.toNat, rfl, rfl, H1.out, HM0.out, rfl⟩
 obtain ⟨i, m, rfl, rfl, hi, hm, hw⟩ := hrel
 have hw2 := hw.symm
 subst hw2
 have HM := qH hm
 have HI := qH hi
 clear hw hm hi
 by_cases hin : i < n
 ·have z1 : (i : Int) < (n : Int) := Int.ofNat_lt.2 hin
  obtain ⟨c, hc⟩ : ∃ c, l[i]? = some c := ⟨_, List.getElem?_eq_getElem (by rw [← HNL.out]; exact hin)⟩
  have z2 := HC.out i c hc
  have HMX := qH (show max m c.toNat = maxL (l.take (i + 1)) by rw [maxL_take hc, HM.out])
  have HMI := qH (sub_next hin)
  have HI1 := qH (show i + 1 ≤ n from hin)
  have f1 := wrap_one i (Nat.le_trans HI.out (by rw [HNL.out]; exact Nat.le_trans HN.out (by decide)))
  have f2 := wrap_one' i (Nat.le_trans HI.out (by rw [HNL.out]; exact Nat.le_trans HN.out (by decide)))
  clear hin hc
  go_wp2_with fail
  exact ⟨⟨i + 1, max m c.toNat, congrArg (Value.int .u8) (by first | exact maxI m c.toNat | exact maxJ m c.toNat), by simp, HI1.out, HMX.out, trivial⟩, by simpa [intOf] using HMI.out⟩
 ·obtain rfl : i = n := Nat.le_antisymm HI.out (Nat.le_of_not_lt hin)
  have z1 : ¬ ((i : Int) < (i : Int)) := Int.lt_irrefl _
  have HFIN := qH (show m = maxL l by rw [HM.out, List.take_of_length_le (by rw [HNL.out]; exact Nat.le_refl _)])
  clear hin
  go_wp2_with fail
  go_ret
  rw [HFIN.out]
  exact ⟨rfl, rfl⟩
end Go.Proofs.Ytaakdebcagdfgaa
