/-
  Texts of this proof, put together: SoL. No statement is proved here.
-/
import Derived.Test.YtbbodfpnneifgaaYG
namespace Go.Proofs.Ytbbodfpnneifgaa
open Go.RowKit
set_option linter.unusedSimpArgs false
set_option linter.unusedVariables false
def ParP (g : Nat) (zs : List Value) (l0 : List UInt8) (a b : Nat) (w : World) (e : Ending) (w' : World) : Prop := ∃ (j : Nat) (c : Bool), a ≤ j ∧ j < b ∧ e = .returned (.tuple #[.int .i64 (j : Int), .bool c]) ∧ SoP g zs l0 w w'
set_option maxHeartbeats 16000000 in
set_option maxRecDepth 1000000 in
theorem parY_any (g n cap : Nat) (zs : List Value) (l0 : List UInt8) (w : World) (hl : l0.length = n) (hn : n ≤ 1048576) (hd : Dat w g zs l0) (a b pv : Nat) (hb : b ≤ n) (hap : a ≤ pv) (hpb : pv < b) :
  Calls Try.prog 55 #[.slice (some ⟨g, 0, none⟩) n cap, .int .i64 (a : Int), .int .i64 (b : Int), .int .i64 (pv : Int)] w fun e w' => ParP g zs l0 a b w e w' := by
 have HL := qH hl
 have HN := qH hn
 have HB := qH hb
 have HBM := qH (show b ≤ 1048576 from Nat.le_trans hb hn)
 have HAB := qH (show a < b from Nat.lt_of_le_of_lt hap hpb)
 have HAN := qH (show a < n from Nat.lt_of_lt_of_le HAB.out hb)
 have HPN := qH (show pv < n from Nat.lt_of_lt_of_le hpb hb)
 obtain ⟨b1, hb1⟩ := pre_ex (Nat.lt_of_le_of_lt (Nat.zero_le a) HAB.out)
 have HBL := qH (show b1 < b by rw [← hb1]; exact Nat.lt_succ_self b1)
 have HB1 := qH (show b1 < n from Nat.lt_of_lt_of_le HBL.out hb)
 have HBE := qH hb1
 have HAB1 := qH (show a ≤ b1 by have := HAB.out; omega)
 have e1 := sub_w hb1 (Nat.le_trans (Nat.le_of_lt HB1.out) hn)
 have e2 := sub_k hb1 (Nat.le_trans (Nat.le_of_lt HB1.out) hn)
 have e3 := wrap_one a (Nat.le_trans (Nat.le_of_lt HAN.out) (Nat.le_trans hn (by decide)))
 have e4 := wrap_one' a (Nat.le_trans (Nat.le_of_lt HAN.out) (Nat.le_trans hn (by decide)))
 obtain ⟨l, hll⟩ : ∃ l, l = l0 := ⟨_, rfl⟩
 have PL := qH (show l.Perm l0 by rw [hll])
 have SD := qH (show Dat w g zs l by rw [hll]; exact hd)
 have SL := qH (show l.length = n by rw [hll]; exact hl)
 have GD := qH (show w.grownBy w (some g) from ⟨rfl, rfl, rfl, Nat.le_refl _, fun _ _ _ => rfl⟩)
 clear hl hn hd hb hap hpb hb1 hll
 obtain ⟨q, hq⟩ : ∃ q, l[a]? = some q := ⟨_, List.getElem?_eq_getElem (by rw [SL.out]; exact HAN.out)⟩
 have HQ := qH hq
 clear hq
 obtain ⟨p, hp⟩ : ∃ q, l[pv]? = some q := ⟨_, List.getElem?_eq_getElem (by rw [SL.out]; exact HPN.out)⟩
 have HP := qH hp
 clear hp
 go_enter Try.func55, Try.ntmps55
 go_wp2_with fail
 refine mc_start (fun V => w.grownBy V (some g)) (fun V => V.heap[g]? = w.heap[g]?) 13 (by kernel_rfl) (fun wd hwd => ?_)
 have hX : w.grownBy wd (some g) := by rw [hwd]; exact grownS_drew _ _
 have hY : wd.heap[g]? = w.heap[g]? := by rw [hwd]; rfl
 have GW := qH (grownS_trans GD.out hX)
 have HWD := qH hwd
 clear hwd
 refine mc_take (i := 0) (oi := ⟨some 12, _, _, _, _, _⟩) (v := ?_) rfl (by kernel_rfl) (by kernel_rfl) (by kernel_rfl) (fun _ _ _ h => h) rfl hX ?_ ?_; rotate_left; (intro W hW; go_simp; try with_reducible rfl); simp only [Act.put, qA, qB, qC]
 refine mc_take (i := 1) (oi := ⟨some 13, _, _, _, _, _⟩) (v := ?_) rfl (by kernel_rfl) (by kernel_rfl) (by kernel_rfl) (fun _ _ _ h => h) rfl hX ?_ ?_; rotate_left; (intro W hW; go_simp; try with_reducible rfl); simp only [Act.put, qA, qB, qC]
 refine mc_take (i := 2) (oi := ⟨some 14, _, _, _, _, _⟩) (v := ?_) rfl (by kernel_rfl) (by kernel_rfl) (by kernel_rfl) (fun _ _ _ h => h) rfl hX ?_ ?_; rotate_left; (intro W hW; go_simp; try with_reducible rfl); simp only [Act.put, qA, qB, qC]
 refine mc_take (i := 3) (oi := ⟨some 15, _, _, _, _, _⟩) (v := ?_) rfl (by kernel_rfl) (by kernel_rfl) (by kernel_rfl) (fun _ _ _ h => h) rfl hX ?_ ?_; rotate_left; (intro W hW; go_simp; try with_reducible rfl); simp only [Act.put, qA, qB, qC]
 refine mc_take (i := 4) (oi := ⟨some 16, _, _, _, _, _⟩) (v := ?_) rfl (by kernel_rfl) (by kernel_rfl) (by kernel_rfl) (fun _ _ _ h => h) rfl hX ?_ ?_; rotate_left; (intro W hW; go_simp; try with_reducible rfl); simp only [Act.put, qA, qB, qC]
 refine mc_take (i := 5) (oi := ⟨some 17, _, _, _, _, _⟩) (v := ?_) rfl (by kernel_rfl) (by kernel_rfl) (by kernel_rfl) (fun _ _ _ h => h) rfl hX ?_ ?_; rotate_left; (intro W hW; go_simp; try with_reducible rfl); simp only [Act.put, qA, qB, qC]
 refine mc_take (i := 6) (oi := ⟨some 18, _, _, _, _, _⟩) (v := .pointer (some ⟨g, pv, none⟩)) rfl (by kernel_rfl) (by kernel_rfl) (by kernel_rfl) (fun _ _ _ h => h) rfl hX (fun V _ => ix_y (.tmp 16) (.tmp 17) rfl rfl rfl HPN.out V) ?_; simp only [Act.put, qA, qB, qC]
 refine mc_takeS (i := 7) (oi := ⟨some 19, _, _, _, _, _⟩) (v := bv p) rfl (by kernel_rfl) (by kernel_rfl) (by kernel_rfl) (fun _ _ _ h => h) rfl hX hY (fun V hT hS => ld_yt (.tmp 18) rfl rfl (cell_same hS (SD.out.cell HP.out))) ?_; simp only [Act.put, qA, qB, qC]
 refine mc_take (i := 8) (oi := ⟨some 20, _, _, _, _, _⟩) (v := ?_) rfl (by kernel_rfl) (by kernel_rfl) (by kernel_rfl) (fun _ _ _ h => h) rfl hX ?_ ?_; rotate_left; (intro W hW; go_simp; try with_reducible rfl); simp only [Act.put, qA, qB, qC]
 refine mc_take (i := 9) (oi := ⟨some 21, _, _, _, _, _⟩) (v := ?_) rfl (by kernel_rfl) (by kernel_rfl) (by kernel_rfl) (fun _ _ _ h => h) rfl hX ?_ ?_; rotate_left; (intro W hW; go_simp; try with_reducible rfl); simp only [Act.put, qA, qB, qC]
 refine mc_take (i := 10) (oi := ⟨some 22, _, _, _, _, _⟩) (v := .pointer (some ⟨g, a, none⟩)) rfl (by kernel_rfl) (by kernel_rfl) (by kernel_rfl) (fun _ _ _ h => h) rfl hX (fun V _ => ix_y (.tmp 20) (.tmp 21) rfl rfl rfl HAN.out V) ?_; simp only [Act.put, qA, qB, qC]
 refine mc_takeS (i := 11) (oi := ⟨some 23, _, _, _, _, _⟩) (v := bv q) rfl (by kernel_rfl) (by kernel_rfl) (by kernel_rfl) (fun _ _ _ h => h) rfl hX hY (fun V hT hS => ld_yt (.tmp 22) rfl rfl (cell_same hS (SD.out.cell HQ.out))) ?_; simp only [Act.put, qA, qB, qC]
 refine mc_take (i := 12) (oi := ⟨some 24, _, _, _, _, _⟩) (v := .pointer (some ⟨g, a, none⟩)) rfl (by kernel_rfl) (by kernel_rfl) (by kernel_rfl) (fun _ _ _ h => h) rfl hX (fun V _ => ix_y (.tmp 12) (.tmp 13) rfl rfl rfl HAN.out V) ?_; simp only [Act.put, qA, qB, qC]
 refine mc_last (i := 13) (o := ⟨none, _, _, _, _, _⟩) rfl (by kernel_rfl) rfl (fun K hK => ?_)
 have HZ := qH (show Dat wd g zs l from SD.out.keep hY)
 refine wp_stY (.tmp 24) (.tmp 19) rfl g a rfl p rfl _ (HZ.out.cell HQ.out) (HZ.out.frozen _) ?_
 refine hK _ _ (grownS_set hX _ _) ?_
 clear hK K
 have HZ2 := qH (HZ.out.set (List.getElem?_eq_some_iff.1 HQ.out).1 p)
 have HC2 := qH (dat_hit HZ2.out (i := pv) (by rw [List.length_set]; exact (List.getElem?_eq_some_iff.1 HP.out).1))
 clear hY
 replace hX := grownS_set hX a (bv p)
 (try simp only [Act.put, qA, qB, qC])
 refine mc_take (i := 14) (oi := ⟨some 25, _, _, _, _, _⟩) (v := .pointer (some ⟨g, pv, none⟩)) rfl (by kernel_rfl) (by kernel_rfl) (by kernel_rfl) (fun _ _ _ h => h) rfl hX (fun V _ => ix_y (.tmp 14) (.tmp 15) rfl rfl rfl HPN.out V) ?_; simp only [Act.put, qA, qB, qC]
 refine mc_last (i := 15) (o := ⟨none, _, _, _, _, _⟩) rfl (by kernel_rfl) rfl (fun K hK => ?_)
 refine wp_stY (.tmp 25) (.tmp 23) rfl g pv rfl q rfl _ HC2.out (HZ2.out.frozen _) ?_
 refine hK _ _ (grownS_set hX _ _) ?_
 clear hK K hX
 (try simp only [Act.put, qA, qB, qC])
 refine wpAnyC_done (by kernel_rfl) ?_ _
 have HSW := qH (SoP.swap PL.out HZ.out GW.out HP.out HQ.out)
 have HS := HSW
 clear HSW HP HQ HZ HZ2 HC2 GW HWD SD GD PL SL
 obtain ⟨i0, hi0⟩ : ∃ i0, i0 = a + 1 := ⟨_, rfl⟩
 have HAI0 := qH (show a + 1 ≤ i0 by rw [hi0]; exact Nat.le_refl _)
 have HIB0 := qH (show i0 ≤ b by rw [hi0]; exact HAB.out)
 have HI0 := qH hi0
 clear hi0
 obtain ⟨j, hj⟩ : ∃ j, j = b1 := ⟨_, rfl⟩
 have HAJ := qH (show a ≤ j by rw [hj]; exact HAB1.out)
 have HJB := qH (show j ≤ b1 by rw [hj]; exact Nat.le_refl _)
 have HJN := qH (show j < n by rw [hj]; exact HB1.out)
 rw [← hj] at e1 e2
 clear hj
 go_wp2_with fail
 go_loopw [10] (fun iv wl => ∃ i : Nat, iv = .int .i64 (i : Int) ∧ i0 ≤ i ∧ i ≤ b ∧ SoP g zs l0 w wl) (fun iv _ => b - (intOf iv).toNat)
 case atStart => exact ⟨a + 1, by simp, Nat.le_of_eq HI0.out, HAB.out, HS.out⟩
 clear HS
 obtain ⟨i, rfl, hii, hib, hs⟩ := hrel
 have HS := qH hs
 have HAI := qH (Nat.le_trans HAI0.out hii)
 have HII := qH hii
 have HIB := qH hib
 rename_i wr
 clear hs hii hib
 obtain ⟨l, hp, hd⟩ := HS.out.dat
 have PL := qH hp
 have SD := qH hd
 have GD := qH HS.out.grown
 have SL := qH (show l.length = n by rw [hp.length_eq]; exact HL.out)
 clear hp hd
 clear HS
 obtain ⟨v, hv⟩ : ∃ q, l[a]? = some q := ⟨_, List.getElem?_eq_getElem (by rw [SL.out]; exact HAN.out)⟩
 have HV := qH hv
 clear hv
 by_cases hij : i ≤ j
 focus
  have HIJ := qH hij
  have HIN := qH (show i < n from Nat.lt_of_le_of_lt hij HJN.out)
  have HIB2 := qH (show i + 1 ≤ b by have h1 := HJB.out; have h2 := HBE.out; clear e1 e2 e3 e4; omega)
  have f1 := wrap_one i (Nat.le_trans (Nat.le_of_lt HIN.out) (Nat.le_trans HN.out (by decide)))
  have f2 := wrap_one' i (Nat.le_trans (Nat.le_of_lt HIN.out) (Nat.le_trans HN.out (by decide)))
  have HMI := qH (sub_next (show i < b from HIB2.out))
  obtain ⟨u, hu⟩ : ∃ q, l[i]? = some q := ⟨_, List.getElem?_eq_getElem (by rw [SL.out]; exact HIN.out)⟩
  have HU := qH hu
  clear hu
  obtain ⟨c, hc⟩ : ∃ c, c = decide (u.toNat < v.toNat) := ⟨_, rfl⟩
  have HC := qH hc
  clear hc
  clear hij
  go_wp2_with fail
  refine sg_start (S := IsW wr.drew) (by kernel_rfl) rfl (fun wd hwd => ?_)
  have hX : IsW _ wd := hwd
  clear hwd
  refine sg_take (i := 0) (oi := ⟨some 30, _, _, _, _, _⟩) (v := ?_) rfl (by kernel_rfl) (by kernel_rfl) (by kernel_rfl) (fun _ _ _ h => h) rfl hX ?_ ?_; rotate_left; (intro W hW; go_simp; try with_reducible rfl); simp only [Act.put, qA, qB, qC]
  refine sg_take (i := 1) (oi := ⟨some 31, _, _, _, _, _⟩) (v := ?_) rfl (by kernel_rfl) (by kernel_rfl) (by kernel_rfl) (fun _ _ _ h => h) rfl hX ?_ ?_; rotate_left; (intro W hW; go_simp; try with_reducible rfl); simp only [Act.put, qA, qB, qC]
  refine sg_take (i := 2) (oi := ⟨some 32, _, _, _, _, _⟩) (v := .bool true) rfl (by kernel_rfl) (by kernel_rfl) (by kernel_rfl) (fun _ _ _ h => h) rfl hX (fun V _ => ex_leY (.tmp 30) (.tmp 31) rfl (i := i) (j := j) rfl rfl (decide_eq_true HIJ.out) V) ?_; simp only [Act.put, qA, qB, qC]
  refine sg_take (i := 3) (oi := ⟨some 33, _, _, _, _, _⟩) (v := ?_) rfl (by kernel_rfl) (by kernel_rfl) (by kernel_rfl) (fun _ _ _ h => h) rfl hX ?_ ?_; rotate_left; (intro W hW; go_simp; try with_reducible rfl); simp only [Act.put, qA, qB, qC]
  refine sg_take (i := 4) (oi := ⟨some 34, _, _, _, _, _⟩) (v := ?_) rfl (by kernel_rfl) (by kernel_rfl) (by kernel_rfl) (fun _ _ _ h => h) rfl hX ?_ ?_; rotate_left; (intro W hW; go_simp; try with_reducible rfl); simp only [Act.put, qA, qB, qC]
  refine sg_take (i := 5) (oi := ⟨some 35, _, _, _, _, _⟩) (v := ?_) rfl (by kernel_rfl) (by kernel_rfl) (by kernel_rfl) (fun _ _ _ h => h) rfl hX ?_ ?_; rotate_left; (intro W hW; go_simp; try with_reducible rfl); simp only [Act.put, qA, qB, qC]
  refine sg_take (i := 6) (oi := ⟨some 36, _, _, _, _, _⟩) (v := .pointer (some ⟨g, i, none⟩)) rfl (by kernel_rfl) (by kernel_rfl) (by kernel_rfl) (fun _ _ _ h => h) rfl hX (fun V _ => ix_y (.tmp 34) (.tmp 35) rfl rfl rfl HIN.out V) ?_; simp only [Act.put, qA, qB, qC]
  refine sg_take (i := 7) (oi := ⟨some 37, _, _, _, _, _⟩) (v := bv u) rfl (by kernel_rfl) (by kernel_rfl) (by kernel_rfl) (fun _ _ _ h => h) rfl hX (fun V hV => ld_yt (.tmp 36) rfl rfl ((SD.out.is hV).cell HU.out)) ?_; simp only [Act.put, qA, qB, qC]
  refine sg_take (i := 8) (oi := ⟨some 38, _, _, _, _, _⟩) (v := ?_) rfl (by kernel_rfl) (by kernel_rfl) (by kernel_rfl) (fun _ _ _ h => h) rfl hX ?_ ?_; rotate_left; (intro W hW; go_simp; try with_reducible rfl); simp only [Act.put, qA, qB, qC]
  refine sg_take (i := 9) (oi := ⟨some 39, _, _, _, _, _⟩) (v := ?_) rfl (by kernel_rfl) (by kernel_rfl) (by kernel_rfl) (fun _ _ _ h => h) rfl hX ?_ ?_; rotate_left; (intro W hW; go_simp; try with_reducible rfl); simp only [Act.put, qA, qB, qC]
  refine sg_take (i := 10) (oi := ⟨some 40, _, _, _, _, _⟩) (v := .pointer (some ⟨g, a, none⟩)) rfl (by kernel_rfl) (by kernel_rfl) (by kernel_rfl) (fun _ _ _ h => h) rfl hX (fun V _ => ix_y (.tmp 38) (.tmp 39) rfl rfl rfl HAN.out V) ?_; simp only [Act.put, qA, qB, qC]
  refine sg_take (i := 11) (oi := ⟨some 41, _, _, _, _, _⟩) (v := bv v) rfl (by kernel_rfl) (by kernel_rfl) (by kernel_rfl) (fun _ _ _ h => h) rfl hX (fun V hV => ld_yt (.tmp 40) rfl rfl ((SD.out.is hV).cell HV.out)) ?_; simp only [Act.put, qA, qB, qC]
  refine sg_actB (i := 12) (o := ⟨some 42, _, _, _, _, _⟩) rfl (by kernel_rfl) rfl hX (fun K hK => ?_)
  go_wp2_with fail
  refine (lessY_any _ _ _).mono ?_
  rintro e we ⟨rfl, hwe⟩
  subst hwe
  rw [← HC.out]
  go_wp2_with fail
  refine hK _ _ hX ?_
  clear hK K
  (try simp only [Act.put, qA, qB, qC])
  refine sg_take (i := 13) (oi := ⟨some 43, _, _, _, _, _⟩) (v := ?_) rfl (by kernel_rfl) (by kernel_rfl) (by kernel_rfl) (fun _ _ _ h => h) rfl hX ?_ ?_; rotate_left; (intro W hW; go_simp; try with_reducible rfl); simp only [Act.put, qA, qB, qC]
  refine wpAnyH_done (by kernel_rfl) ?_ _
  have HS := qH (show SoP g zs l0 w _ from ⟨⟨l, PL.out, SD.out.is hX⟩, grownS_is GD.out hX⟩)
  clear hX SD GD PL SL
  rcases c with _ | _
  rotate_left
  focus
   go_wp2_with fail
   exact ⟨⟨i + 1, by simp, Nat.le_succ_of_le HII.out, HIB2.out, HS.out⟩, by simpa [intOf] using HMI.out⟩
  clear HV HC HIN HIB2 HMI f1 f2 HIJ HU
  obtain ⟨wr, hwr⟩ : ∃ v : World, v = we := ⟨_, rfl⟩
  subst hwr
 rotate_left
 focus
  have HIJ := qH hij
  clear hij
  go_wp2_with fail
  refine sg_start (S := IsW wr.drew) (by kernel_rfl) rfl (fun wd hwd => ?_)
  have hX : IsW _ wd := hwd
  clear hwd
  refine sg_take (i := 0) (oi := ⟨some 30, _, _, _, _, _⟩) (v := ?_) rfl (by kernel_rfl) (by kernel_rfl) (by kernel_rfl) (fun _ _ _ h => h) rfl hX ?_ ?_; rotate_left; (intro W hW; go_simp; try with_reducible rfl); simp only [Act.put, qA, qB, qC]
  refine sg_take (i := 1) (oi := ⟨some 31, _, _, _, _, _⟩) (v := ?_) rfl (by kernel_rfl) (by kernel_rfl) (by kernel_rfl) (fun _ _ _ h => h) rfl hX ?_ ?_; rotate_left; (intro W hW; go_simp; try with_reducible rfl); simp only [Act.put, qA, qB, qC]
  refine sg_take (i := 2) (oi := ⟨some 32, _, _, _, _, _⟩) (v := .bool false) rfl (by kernel_rfl) (by kernel_rfl) (by kernel_rfl) (fun _ _ _ h => h) rfl hX (fun V _ => ex_leY (.tmp 30) (.tmp 31) rfl (i := i) (j := j) rfl rfl (decide_eq_false HIJ.out) V) ?_; simp only [Act.put, qA, qB, qC]
  refine sg_take (i := 3) (oi := ⟨some 33, _, _, _, _, _⟩) (v := ?_) rfl (by kernel_rfl) (by kernel_rfl) (by kernel_rfl) (fun _ _ _ h => h) rfl hX ?_ ?_; rotate_left; (intro W hW; go_simp; try with_reducible rfl); simp only [Act.put, qA, qB, qC]
  refine sg_skip (i := 4) (oi := ⟨some 34, _, _, _, _, _⟩) rfl (by kernel_rfl) (by kernel_rfl) (by kernel_rfl) (fun _ _ _ h => h) rfl hX ?_; simp only [Act.put, qA, qB, qC]
  refine sg_skip (i := 5) (oi := ⟨some 35, _, _, _, _, _⟩) rfl (by kernel_rfl) (by kernel_rfl) (by kernel_rfl) (fun _ _ _ h => h) rfl hX ?_; simp only [Act.put, qA, qB, qC]
  refine sg_skip (i := 6) (oi := ⟨some 36, _, _, _, _, _⟩) rfl (by kernel_rfl) (by kernel_rfl) (by kernel_rfl) (fun _ _ _ h => h) rfl hX ?_; simp only [Act.put, qA, qB, qC]
  refine sg_skip (i := 7) (oi := ⟨some 37, _, _, _, _, _⟩) rfl (by kernel_rfl) (by kernel_rfl) (by kernel_rfl) (fun _ _ _ h => h) rfl hX ?_; simp only [Act.put, qA, qB, qC]
  refine sg_skip (i := 8) (oi := ⟨some 38, _, _, _, _, _⟩) rfl (by kernel_rfl) (by kernel_rfl) (by kernel_rfl) (fun _ _ _ h => h) rfl hX ?_; simp only [Act.put, qA, qB, qC]
  refine sg_skip (i := 9) (oi := ⟨some 39, _, _, _, _, _⟩) rfl (by kernel_rfl) (by kernel_rfl) (by kernel_rfl) (fun _ _ _ h => h) rfl hX ?_; simp only [Act.put, qA, qB, qC]
  refine sg_skip (i := 10) (oi := ⟨some 40, _, _, _, _, _⟩) rfl (by kernel_rfl) (by kernel_rfl) (by kernel_rfl) (fun _ _ _ h => h) rfl hX ?_; simp only [Act.put, qA, qB, qC]
  refine sg_skip (i := 11) (oi := ⟨some 41, _, _, _, _, _⟩) rfl (by kernel_rfl) (by kernel_rfl) (by kernel_rfl) (fun _ _ _ h => h) rfl hX ?_; simp only [Act.put, qA, qB, qC]
  refine sg_skip (i := 12) (oi := ⟨some 42, _, _, _, _, _⟩) rfl (by kernel_rfl) (by kernel_rfl) (by kernel_rfl) (fun _ _ _ h => h) rfl hX ?_; simp only [Act.put, qA, qB, qC]
  refine sg_take (i := 13) (oi := ⟨some 43, _, _, _, _, _⟩) (v := ?_) rfl (by kernel_rfl) (by kernel_rfl) (by kernel_rfl) (fun _ _ _ h => h) rfl hX ?_ ?_; rotate_left; (intro W hW; go_simp; try with_reducible rfl); simp only [Act.put, qA, qB, qC]
  refine wpAnyH_done (by kernel_rfl) ?_ _
  have HS := qH (show SoP g zs l0 w _ from ⟨⟨l, PL.out, SD.out.is hX⟩, grownS_is GD.out hX⟩)
  clear hX SD GD PL SL
  clear HIJ HV
  obtain ⟨wr, hwr⟩ : ∃ v : World, v = wd := ⟨_, rfl⟩
  subst hwr
 all_goals
  go_wp2_with fail
  go_loopw [11] (fun jv wl => ∃ j : Nat, jv = .int .i64 (j : Int) ∧ a ≤ j ∧ j ≤ b1 ∧ SoP g zs l0 w wl) (fun jv _ => (intOf jv).toNat)
  case atStart => exact ⟨j, rfl, HAJ.out, HJB.out, HS.out⟩
  clear HS HAJ HJB HJN
  obtain ⟨j, rfl, haj, hjb, hs⟩ := hrel
  have HS := qH hs
  have HAJ := qH haj
  have HJB := qH hjb
  have HJN := qH (show j < n from Nat.lt_of_le_of_lt hjb HB1.out)
  rename_i wr
  clear hs haj hjb
  obtain ⟨l, hp, hd⟩ := HS.out.dat
  have PL := qH hp
  have SD := qH hd
  have GD := qH HS.out.grown
  have SL := qH (show l.length = n by rw [hp.length_eq]; exact HL.out)
  clear hp hd
  clear HS
  obtain ⟨v, hv⟩ : ∃ q, l[a]? = some q := ⟨_, List.getElem?_eq_getElem (by rw [SL.out]; exact HAN.out)⟩
  have HV := qH hv
  clear hv
  obtain ⟨u, hu⟩ : ∃ q, l[j]? = some q := ⟨_, List.getElem?_eq_getElem (by rw [SL.out]; exact HJN.out)⟩
  have HU := qH hu
  clear hu
  obtain ⟨c, hc⟩ : ∃ c, c = decide (u.toNat < v.toNat) := ⟨_, rfl⟩
  have HC := qH hc
  clear hc
  by_cases hij : i ≤ j
  focus
   have HIJ := qH hij
   have HIN := qH (show i < n from Nat.lt_of_le_of_lt hij HJN.out)
   obtain ⟨j1, hj1⟩ := pre_ex (Nat.lt_of_lt_of_le (Nat.lt_of_lt_of_le (Nat.succ_pos a) HAI.out) hij)
   have HAJ1 := qH (show a ≤ j1 by have h1 := HAI.out; clear e1 e2 e3 e4; omega)
   have HJB1 := qH (show j1 ≤ b1 by have h1 := HJB.out; clear e1 e2 e3 e4; omega)
   have HJN1 := qH (show j1 < n from Nat.lt_of_le_of_lt HJB1.out HB1.out)
   have HM := qH (show j1 < j by rw [← hj1]; exact Nat.lt_succ_self j1)
   have f1 := wrap_one i (Nat.le_trans (Nat.le_of_lt HIN.out) (Nat.le_trans HN.out (by decide)))
   have f2 := wrap_one' i (Nat.le_trans (Nat.le_of_lt HIN.out) (Nat.le_trans HN.out (by decide)))
   have k1 := sub_w hj1 (Nat.le_trans HJB1.out (Nat.le_trans (Nat.le_of_lt HB1.out) HN.out))
   have k2 := sub_k hj1 (Nat.le_trans HJB1.out (Nat.le_trans (Nat.le_of_lt HB1.out) HN.out))
   have HIB2 := qH (show i + 1 ≤ b by have h1 := HJB.out; have h2 := HBE.out; clear e1 e2 e3 e4 f1 f2 k1 k2; omega)
   have HMI := qH (show b + 1 - (i + 1) < b + 1 - i0 by have h1 := HII.out; have h2 := HIB2.out; clear e1 e2 e3 e4 f1 f2 k1 k2; omega)
   have z1 : ¬ ((j : Int) < (i : Int)) := fun h => Nat.not_lt.2 hij (Int.ofNat_lt.1 h)
   have z2 : ¬ (j < i) := Nat.not_lt.2 hij
   clear hij hj1
   go_wp2_with fail
   refine sg_start (S := IsW wr.drew) (by kernel_rfl) rfl (fun wd hwd => ?_)
   have hX : IsW _ wd := hwd
   clear hwd
   refine sg_take (i := 0) (oi := ⟨some 46, _, _, _, _, _⟩) (v := ?_) rfl (by kernel_rfl) (by kernel_rfl) (by kernel_rfl) (fun _ _ _ h => h) rfl hX ?_ ?_; rotate_left; (intro W hW; go_simp; try with_reducible rfl); simp only [Act.put, qA, qB, qC]
   refine sg_take (i := 1) (oi := ⟨some 47, _, _, _, _, _⟩) (v := ?_) rfl (by kernel_rfl) (by kernel_rfl) (by kernel_rfl) (fun _ _ _ h => h) rfl hX ?_ ?_; rotate_left; (intro W hW; go_simp; try with_reducible rfl); simp only [Act.put, qA, qB, qC]
   refine sg_take (i := 2) (oi := ⟨some 48, _, _, _, _, _⟩) (v := .bool true) rfl (by kernel_rfl) (by kernel_rfl) (by kernel_rfl) (fun _ _ _ h => h) rfl hX (fun V _ => ex_leY (.tmp 46) (.tmp 47) rfl (i := i) (j := j) rfl rfl (decide_eq_true HIJ.out) V) ?_; simp only [Act.put, qA, qB, qC]
   refine sg_take (i := 3) (oi := ⟨some 49, _, _, _, _, _⟩) (v := ?_) rfl (by kernel_rfl) (by kernel_rfl) (by kernel_rfl) (fun _ _ _ h => h) rfl hX ?_ ?_; rotate_left; (intro W hW; go_simp; try with_reducible rfl); simp only [Act.put, qA, qB, qC]
   refine sg_take (i := 4) (oi := ⟨some 50, _, _, _, _, _⟩) (v := ?_) rfl (by kernel_rfl) (by kernel_rfl) (by kernel_rfl) (fun _ _ _ h => h) rfl hX ?_ ?_; rotate_left; (intro W hW; go_simp; try with_reducible rfl); simp only [Act.put, qA, qB, qC]
   refine sg_take (i := 5) (oi := ⟨some 51, _, _, _, _, _⟩) (v := ?_) rfl (by kernel_rfl) (by kernel_rfl) (by kernel_rfl) (fun _ _ _ h => h) rfl hX ?_ ?_; rotate_left; (intro W hW; go_simp; try with_reducible rfl); simp only [Act.put, qA, qB, qC]
   refine sg_take (i := 6) (oi := ⟨some 52, _, _, _, _, _⟩) (v := .pointer (some ⟨g, j, none⟩)) rfl (by kernel_rfl) (by kernel_rfl) (by kernel_rfl) (fun _ _ _ h => h) rfl hX (fun V _ => ix_y (.tmp 50) (.tmp 51) rfl rfl rfl HJN.out V) ?_; simp only [Act.put, qA, qB, qC]
   refine sg_take (i := 7) (oi := ⟨some 53, _, _, _, _, _⟩) (v := bv u) rfl (by kernel_rfl) (by kernel_rfl) (by kernel_rfl) (fun _ _ _ h => h) rfl hX (fun V hV => ld_yt (.tmp 52) rfl rfl ((SD.out.is hV).cell HU.out)) ?_; simp only [Act.put, qA, qB, qC]
   refine sg_take (i := 8) (oi := ⟨some 54, _, _, _, _, _⟩) (v := ?_) rfl (by kernel_rfl) (by kernel_rfl) (by kernel_rfl) (fun _ _ _ h => h) rfl hX ?_ ?_; rotate_left; (intro W hW; go_simp; try with_reducible rfl); simp only [Act.put, qA, qB, qC]
   refine sg_take (i := 9) (oi := ⟨some 55, _, _, _, _, _⟩) (v := ?_) rfl (by kernel_rfl) (by kernel_rfl) (by kernel_rfl) (fun _ _ _ h => h) rfl hX ?_ ?_; rotate_left; (intro W hW; go_simp; try with_reducible rfl); simp only [Act.put, qA, qB, qC]
   refine sg_take (i := 10) (oi := ⟨some 56, _, _, _, _, _⟩) (v := .pointer (some ⟨g, a, none⟩)) rfl (by kernel_rfl) (by kernel_rfl) (by kernel_rfl) (fun _ _ _ h => h) rfl hX (fun V _ => ix_y (.tmp 54) (.tmp 55) rfl rfl rfl HAN.out V) ?_; simp only [Act.put, qA, qB, qC]
   refine sg_take (i := 11) (oi := ⟨some 57, _, _, _, _, _⟩) (v := bv v) rfl (by kernel_rfl) (by kernel_rfl) (by kernel_rfl) (fun _ _ _ h => h) rfl hX (fun V hV => ld_yt (.tmp 56) rfl rfl ((SD.out.is hV).cell HV.out)) ?_; simp only [Act.put, qA, qB, qC]
   refine sg_actB (i := 12) (o := ⟨some 58, _, _, _, _, _⟩) rfl (by kernel_rfl) rfl hX (fun K hK => ?_)
   go_wp2_with fail
   refine (lessY_any _ _ _).mono ?_
   rintro e we ⟨rfl, hwe⟩
   subst hwe
   rw [← HC.out]
   go_wp2_with fail
   refine hK _ _ hX ?_
   clear hK K
   (try simp only [Act.put, qA, qB, qC])
   refine sg_take (i := 13) (oi := ⟨some 59, _, _, _, _, _⟩) (v := ?_) rfl (by kernel_rfl) (by kernel_rfl) (by kernel_rfl) (fun _ _ _ h => h) rfl hX ?_ ?_; rotate_left; (intro W hW; go_simp; try with_reducible rfl); simp only [Act.put, qA, qB, qC]
   refine sg_take (i := 14) (oi := ⟨some 60, _, _, _, _, _⟩) (v := ?_) rfl (by kernel_rfl) (by kernel_rfl) (by kernel_rfl) (fun _ _ _ h => h) rfl hX ?_ ?_; rotate_left; (intro W hW; go_simp; try with_reducible rfl); simp only [Act.put, qA, qB, qC]
   refine wpAnyH_done (by kernel_rfl) ?_ _
   have HS := qH (show SoP g zs l0 w _ from ⟨⟨l, PL.out, SD.out.is hX⟩, grownS_is GD.out hX⟩)
   clear hX SD GD PL SL
   rcases c with _ | _
   focus
    go_wp2_with fail
    exact ⟨⟨j1, rfl, HAJ1.out, HJB1.out, HS.out⟩, by simpa [intOf] using HM.out⟩
   simp only [Bool.not_true]
   clear HV HC HU
   obtain ⟨wr, hwr⟩ : ∃ v : World, v = we := ⟨_, rfl⟩
   subst hwr
   obtain ⟨l, hp, hd⟩ := HS.out.dat
   have PL := qH hp
   have SD := qH hd
   have GD := qH HS.out.grown
   have SL := qH (show l.length = n by rw [hp.length_eq]; exact HL.out)
   clear hp hd
   clear HS
   obtain ⟨q, hq⟩ : ∃ q, l[i]? = some q := ⟨_, List.getElem?_eq_getElem (by rw [SL.out]; exact HIN.out)⟩
   have HQ := qH hq
   clear hq
   obtain ⟨p, hp⟩ : ∃ q, l[j]? = some q := ⟨_, List.getElem?_eq_getElem (by rw [SL.out]; exact HJN.out)⟩
   have HP := qH hp
   clear hp
   go_wp2_with fail
   refine mc_start (fun V => wr.grownBy V (some g)) (fun V => V.heap[g]? = wr.heap[g]?) 13 (by kernel_rfl) (fun wd hwd => ?_)
   have hX : wr.grownBy wd (some g) := by rw [hwd]; exact grownS_drew _ _
   have hY : wd.heap[g]? = wr.heap[g]? := by rw [hwd]; rfl
   have GW := qH (grownS_trans GD.out hX)
   have HWD := qH hwd
   clear hwd
   refine mc_take (i := 0) (oi := ⟨some 81, _, _, _, _, _⟩) (v := ?_) rfl (by kernel_rfl) (by kernel_rfl) (by kernel_rfl) (fun _ _ _ h => h) rfl hX ?_ ?_; rotate_left; (intro W hW; go_simp; try with_reducible rfl); simp only [Act.put, qA, qB, qC]
   refine mc_take (i := 1) (oi := ⟨some 82, _, _, _, _, _⟩) (v := ?_) rfl (by kernel_rfl) (by kernel_rfl) (by kernel_rfl) (fun _ _ _ h => h) rfl hX ?_ ?_; rotate_left; (intro W hW; go_simp; try with_reducible rfl); simp only [Act.put, qA, qB, qC]
   refine mc_take (i := 2) (oi := ⟨some 83, _, _, _, _, _⟩) (v := ?_) rfl (by kernel_rfl) (by kernel_rfl) (by kernel_rfl) (fun _ _ _ h => h) rfl hX ?_ ?_; rotate_left; (intro W hW; go_simp; try with_reducible rfl); simp only [Act.put, qA, qB, qC]
   refine mc_take (i := 3) (oi := ⟨some 84, _, _, _, _, _⟩) (v := ?_) rfl (by kernel_rfl) (by kernel_rfl) (by kernel_rfl) (fun _ _ _ h => h) rfl hX ?_ ?_; rotate_left; (intro W hW; go_simp; try with_reducible rfl); simp only [Act.put, qA, qB, qC]
   refine mc_take (i := 4) (oi := ⟨some 85, _, _, _, _, _⟩) (v := ?_) rfl (by kernel_rfl) (by kernel_rfl) (by kernel_rfl) (fun _ _ _ h => h) rfl hX ?_ ?_; rotate_left; (intro W hW; go_simp; try with_reducible rfl); simp only [Act.put, qA, qB, qC]
   refine mc_take (i := 5) (oi := ⟨some 86, _, _, _, _, _⟩) (v := ?_) rfl (by kernel_rfl) (by kernel_rfl) (by kernel_rfl) (fun _ _ _ h => h) rfl hX ?_ ?_; rotate_left; (intro W hW; go_simp; try with_reducible rfl); simp only [Act.put, qA, qB, qC]
   refine mc_take (i := 6) (oi := ⟨some 87, _, _, _, _, _⟩) (v := .pointer (some ⟨g, j, none⟩)) rfl (by kernel_rfl) (by kernel_rfl) (by kernel_rfl) (fun _ _ _ h => h) rfl hX (fun V _ => ix_y (.tmp 85) (.tmp 86) rfl rfl rfl HJN.out V) ?_; simp only [Act.put, qA, qB, qC]
   refine mc_takeS (i := 7) (oi := ⟨some 88, _, _, _, _, _⟩) (v := bv p) rfl (by kernel_rfl) (by kernel_rfl) (by kernel_rfl) (fun _ _ _ h => h) rfl hX hY (fun V hT hS => ld_yt (.tmp 87) rfl rfl (cell_same hS (SD.out.cell HP.out))) ?_; simp only [Act.put, qA, qB, qC]
   refine mc_take (i := 8) (oi := ⟨some 89, _, _, _, _, _⟩) (v := ?_) rfl (by kernel_rfl) (by kernel_rfl) (by kernel_rfl) (fun _ _ _ h => h) rfl hX ?_ ?_; rotate_left; (intro W hW; go_simp; try with_reducible rfl); simp only [Act.put, qA, qB, qC]
   refine mc_take (i := 9) (oi := ⟨some 90, _, _, _, _, _⟩) (v := ?_) rfl (by kernel_rfl) (by kernel_rfl) (by kernel_rfl) (fun _ _ _ h => h) rfl hX ?_ ?_; rotate_left; (intro W hW; go_simp; try with_reducible rfl); simp only [Act.put, qA, qB, qC]
   refine mc_take (i := 10) (oi := ⟨some 91, _, _, _, _, _⟩) (v := .pointer (some ⟨g, i, none⟩)) rfl (by kernel_rfl) (by kernel_rfl) (by kernel_rfl) (fun _ _ _ h => h) rfl hX (fun V _ => ix_y (.tmp 89) (.tmp 90) rfl rfl rfl HIN.out V) ?_; simp only [Act.put, qA, qB, qC]
   refine mc_takeS (i := 11) (oi := ⟨some 92, _, _, _, _, _⟩) (v := bv q) rfl (by kernel_rfl) (by kernel_rfl) (by kernel_rfl) (fun _ _ _ h => h) rfl hX hY (fun V hT hS => ld_yt (.tmp 91) rfl rfl (cell_same hS (SD.out.cell HQ.out))) ?_; simp only [Act.put, qA, qB, qC]
   refine mc_take (i := 12) (oi := ⟨some 93, _, _, _, _, _⟩) (v := .pointer (some ⟨g, i, none⟩)) rfl (by kernel_rfl) (by kernel_rfl) (by kernel_rfl) (fun _ _ _ h => h) rfl hX (fun V _ => ix_y (.tmp 81) (.tmp 82) rfl rfl rfl HIN.out V) ?_; simp only [Act.put, qA, qB, qC]
   refine mc_last (i := 13) (o := ⟨none, _, _, _, _, _⟩) rfl (by kernel_rfl) rfl (fun K hK => ?_)
   have HZ := qH (show Dat wd g zs l from SD.out.keep hY)
   refine wp_stY (.tmp 93) (.tmp 88) rfl g i rfl p rfl _ (HZ.out.cell HQ.out) (HZ.out.frozen _) ?_
   refine hK _ _ (grownS_set hX _ _) ?_
   clear hK K
   have HZ2 := qH (HZ.out.set (List.getElem?_eq_some_iff.1 HQ.out).1 p)
   have HC2 := qH (dat_hit HZ2.out (i := j) (by rw [List.length_set]; exact (List.getElem?_eq_some_iff.1 HP.out).1))
   clear hY
   replace hX := grownS_set hX i (bv p)
   (try simp only [Act.put, qA, qB, qC])
   refine mc_take (i := 14) (oi := ⟨some 94, _, _, _, _, _⟩) (v := .pointer (some ⟨g, j, none⟩)) rfl (by kernel_rfl) (by kernel_rfl) (by kernel_rfl) (fun _ _ _ h => h) rfl hX (fun V _ => ix_y (.tmp 83) (.tmp 84) rfl rfl rfl HJN.out V) ?_; simp only [Act.put, qA, qB, qC]
   refine mc_last (i := 15) (o := ⟨none, _, _, _, _, _⟩) rfl (by kernel_rfl) rfl (fun K hK => ?_)
   refine wp_stY (.tmp 94) (.tmp 92) rfl g j rfl q rfl _ HC2.out (HZ2.out.frozen _) ?_
   refine hK _ _ (grownS_set hX _ _) ?_
   clear hK K hX
   (try simp only [Act.put, qA, qB, qC])
   refine wpAnyC_done (by kernel_rfl) ?_ _
   have HSW := qH (SoP.swap PL.out HZ.out GW.out HP.out HQ.out)
   have HT := HSW
   clear HSW HP HQ HZ HZ2 HC2 GW HWD SD GD PL SL HMI z1 z2 HM HIJ HII
   go_wp2_with fail
   go_loopw [10, 11] (fun iv jv wl => ∃ i j : Nat, iv = .int .i64 (i : Int) ∧ jv = .int .i64 (j : Int) ∧ a + 1 ≤ i ∧ i ≤ b ∧ a ≤ j ∧ j ≤ b1 ∧ SoP g zs l0 w wl) (fun iv _ _ => b + 1 - (intOf iv).toNat)
   case atStart => exact ⟨i + 1, j1, by simp, rfl, Nat.le_succ_of_le HAI.out, HIB2.out, HAJ1.out, HJB1.out, HT.out⟩
   clear HT HAI HIB2 HAJ1 HJB1 HIB HAJ HJB HJN HJN1 HIN HAI0 HIB0
   obtain ⟨i0, j, rfl, rfl, hai, hib, haj, hjb, hs⟩ := hrel
   have HS := qH hs
   have HAI0 := qH hai
   have HIB0 := qH hib
   have HAJ := qH haj
   have HJB := qH hjb
   have HJN := qH (show j < n from Nat.lt_of_le_of_lt hjb HB1.out)
   clear hs hai hib haj hjb
   go_wp2_with fail
   go_loopw [10] (fun iv wl => ∃ i : Nat, iv = .int .i64 (i : Int) ∧ i0 ≤ i ∧ i ≤ b ∧ SoP g zs l0 w wl) (fun iv _ => b - (intOf iv).toNat)
   case atStart => exact ⟨i0, rfl, Nat.le_refl _, HIB0.out, HS.out⟩
   clear HS
   obtain ⟨i, rfl, hii, hib, hs⟩ := hrel
   have HS := qH hs
   have HAI := qH (Nat.le_trans HAI0.out hii)
   have HII := qH hii
   have HIB := qH hib
   rename_i wr
   clear hs hii hib
   obtain ⟨l, hp, hd⟩ := HS.out.dat
   have PL := qH hp
   have SD := qH hd
   have GD := qH HS.out.grown
   have SL := qH (show l.length = n by rw [hp.length_eq]; exact HL.out)
   clear hp hd
   clear HS
   obtain ⟨v, hv⟩ : ∃ q, l[a]? = some q := ⟨_, List.getElem?_eq_getElem (by rw [SL.out]; exact HAN.out)⟩
   have HV := qH hv
   clear hv
   by_cases hij : i ≤ j
   focus
    have HIJ := qH hij
    have HIN := qH (show i < n from Nat.lt_of_le_of_lt hij HJN.out)
    have HIB2 := qH (show i + 1 ≤ b by have h1 := HJB.out; have h2 := HBE.out; clear e1 e2 e3 e4; omega)
    have f1 := wrap_one i (Nat.le_trans (Nat.le_of_lt HIN.out) (Nat.le_trans HN.out (by decide)))
    have f2 := wrap_one' i (Nat.le_trans (Nat.le_of_lt HIN.out) (Nat.le_trans HN.out (by decide)))
    have HMI := qH (sub_next (show i < b from HIB2.out))
    obtain ⟨u, hu⟩ : ∃ q, l[i]? = some q := ⟨_, List.getElem?_eq_getElem (by rw [SL.out]; exact HIN.out)⟩
    have HU := qH hu
    clear hu
    obtain ⟨c, hc⟩ : ∃ c, c = decide (u.toNat < v.toNat) := ⟨_, rfl⟩
    have HC := qH hc
    clear hc
    clear hij
    go_wp2_with fail
    refine sg_start (S := IsW wr.drew) (by kernel_rfl) rfl (fun wd hwd => ?_)
    have hX : IsW _ wd := hwd
    clear hwd
    refine sg_take (i := 0) (oi := ⟨some 99, _, _, _, _, _⟩) (v := ?_) rfl (by kernel_rfl) (by kernel_rfl) (by kernel_rfl) (fun _ _ _ h => h) rfl hX ?_ ?_; rotate_left; (intro W hW; go_simp; try with_reducible rfl); simp only [Act.put, qA, qB, qC]
    refine sg_take (i := 1) (oi := ⟨some 100, _, _, _, _, _⟩) (v := ?_) rfl (by kernel_rfl) (by kernel_rfl) (by kernel_rfl) (fun _ _ _ h => h) rfl hX ?_ ?_; rotate_left; (intro W hW; go_simp; try with_reducible rfl); simp only [Act.put, qA, qB, qC]
    refine sg_take (i := 2) (oi := ⟨some 101, _, _, _, _, _⟩) (v := .bool true) rfl (by kernel_rfl) (by kernel_rfl) (by kernel_rfl) (fun _ _ _ h => h) rfl hX (fun V _ => ex_leY (.tmp 99) (.tmp 100) rfl (i := i) (j := j) rfl rfl (decide_eq_true HIJ.out) V) ?_; simp only [Act.put, qA, qB, qC]
    refine sg_take (i := 3) (oi := ⟨some 102, _, _, _, _, _⟩) (v := ?_) rfl (by kernel_rfl) (by kernel_rfl) (by kernel_rfl) (fun _ _ _ h => h) rfl hX ?_ ?_; rotate_left; (intro W hW; go_simp; try with_reducible rfl); simp only [Act.put, qA, qB, qC]
    refine sg_take (i := 4) (oi := ⟨some 103, _, _, _, _, _⟩) (v := ?_) rfl (by kernel_rfl) (by kernel_rfl) (by kernel_rfl) (fun _ _ _ h => h) rfl hX ?_ ?_; rotate_left; (intro W hW; go_simp; try with_reducible rfl); simp only [Act.put, qA, qB, qC]
    refine sg_take (i := 5) (oi := ⟨some 104, _, _, _, _, _⟩) (v := ?_) rfl (by kernel_rfl) (by kernel_rfl) (by kernel_rfl) (fun _ _ _ h => h) rfl hX ?_ ?_; rotate_left; (intro W hW; go_simp; try with_reducible rfl); simp only [Act.put, qA, qB, qC]
    refine sg_take (i := 6) (oi := ⟨some 105, _, _, _, _, _⟩) (v := .pointer (some ⟨g, i, none⟩)) rfl (by kernel_rfl) (by kernel_rfl) (by kernel_rfl) (fun _ _ _ h => h) rfl hX (fun V _ => ix_y (.tmp 103) (.tmp 104) rfl rfl rfl HIN.out V) ?_; simp only [Act.put, qA, qB, qC]
    refine sg_take (i := 7) (oi := ⟨some 106, _, _, _, _, _⟩) (v := bv u) rfl (by kernel_rfl) (by kernel_rfl) (by kernel_rfl) (fun _ _ _ h => h) rfl hX (fun V hV => ld_yt (.tmp 105) rfl rfl ((SD.out.is hV).cell HU.out)) ?_; simp only [Act.put, qA, qB, qC]
    refine sg_take (i := 8) (oi := ⟨some 107, _, _, _, _, _⟩) (v := ?_) rfl (by kernel_rfl) (by kernel_rfl) (by kernel_rfl) (fun _ _ _ h => h) rfl hX ?_ ?_; rotate_left; (intro W hW; go_simp; try with_reducible rfl); simp only [Act.put, qA, qB, qC]
    refine sg_take (i := 9) (oi := ⟨some 108, _, _, _, _, _⟩) (v := ?_) rfl (by kernel_rfl) (by kernel_rfl) (by kernel_rfl) (fun _ _ _ h => h) rfl hX ?_ ?_; rotate_left; (intro W hW; go_simp; try with_reducible rfl); simp only [Act.put, qA, qB, qC]
    refine sg_take (i := 10) (oi := ⟨some 109, _, _, _, _, _⟩) (v := .pointer (some ⟨g, a, none⟩)) rfl (by kernel_rfl) (by kernel_rfl) (by kernel_rfl) (fun _ _ _ h => h) rfl hX (fun V _ => ix_y (.tmp 107) (.tmp 108) rfl rfl rfl HAN.out V) ?_; simp only [Act.put, qA, qB, qC]
    refine sg_take (i := 11) (oi := ⟨some 110, _, _, _, _, _⟩) (v := bv v) rfl (by kernel_rfl) (by kernel_rfl) (by kernel_rfl) (fun _ _ _ h => h) rfl hX (fun V hV => ld_yt (.tmp 109) rfl rfl ((SD.out.is hV).cell HV.out)) ?_; simp only [Act.put, qA, qB, qC]
    refine sg_actB (i := 12) (o := ⟨some 111, _, _, _, _, _⟩) rfl (by kernel_rfl) rfl hX (fun K hK => ?_)
    go_wp2_with fail
    refine (lessY_any _ _ _).mono ?_
    rintro e we ⟨rfl, hwe⟩
    subst hwe
    rw [← HC.out]
    go_wp2_with fail
    refine hK _ _ hX ?_
    clear hK K
    (try simp only [Act.put, qA, qB, qC])
    refine sg_take (i := 13) (oi := ⟨some 112, _, _, _, _, _⟩) (v := ?_) rfl (by kernel_rfl) (by kernel_rfl) (by kernel_rfl) (fun _ _ _ h => h) rfl hX ?_ ?_; rotate_left; (intro W hW; go_simp; try with_reducible rfl); simp only [Act.put, qA, qB, qC]
    refine wpAnyH_done (by kernel_rfl) ?_ _
    have HS := qH (show SoP g zs l0 w _ from ⟨⟨l, PL.out, SD.out.is hX⟩, grownS_is GD.out hX⟩)
    clear hX SD GD PL SL
    rcases c with _ | _
    rotate_left
    focus
     go_wp2_with fail
     exact ⟨⟨i + 1, by simp, Nat.le_succ_of_le HII.out, HIB2.out, HS.out⟩, by simpa [intOf] using HMI.out⟩
    clear HV HC HIN HIB2 HMI f1 f2 HIJ HU
    obtain ⟨wr, hwr⟩ : ∃ v : World, v = we := ⟨_, rfl⟩
    subst hwr
   rotate_left
   focus
    have HIJ := qH hij
    clear hij
    go_wp2_with fail
    refine sg_start (S := IsW wr.drew) (by kernel_rfl) rfl (fun wd hwd => ?_)
    have hX : IsW _ wd := hwd
    clear hwd
    refine sg_take (i := 0) (oi := ⟨some 99, _, _, _, _, _⟩) (v := ?_) rfl (by kernel_rfl) (by kernel_rfl) (by kernel_rfl) (fun _ _ _ h => h) rfl hX ?_ ?_; rotate_left; (intro W hW; go_simp; try with_reducible rfl); simp only [Act.put, qA, qB, qC]
    refine sg_take (i := 1) (oi := ⟨some 100, _, _, _, _, _⟩) (v := ?_) rfl (by kernel_rfl) (by kernel_rfl) (by kernel_rfl) (fun _ _ _ h => h) rfl hX ?_ ?_; rotate_left; (intro W hW; go_simp; try with_reducible rfl); simp only [Act.put, qA, qB, qC]
    refine sg_take (i := 2) (oi := ⟨some 101, _, _, _, _, _⟩) (v := .bool false) rfl (by kernel_rfl) (by kernel_rfl) (by kernel_rfl) (fun _ _ _ h => h) rfl hX (fun V _ => ex_leY (.tmp 99) (.tmp 100) rfl (i := i) (j := j) rfl rfl (decide_eq_false HIJ.out) V) ?_; simp only [Act.put, qA, qB, qC]
    refine sg_take (i := 3) (oi := ⟨some 102, _, _, _, _, _⟩) (v := ?_) rfl (by kernel_rfl) (by kernel_rfl) (by kernel_rfl) (fun _ _ _ h => h) rfl hX ?_ ?_; rotate_left; (intro W hW; go_simp; try with_reducible rfl); simp only [Act.put, qA, qB, qC]
    refine sg_skip (i := 4) (oi := ⟨some 103, _, _, _, _, _⟩) rfl (by kernel_rfl) (by kernel_rfl) (by kernel_rfl) (fun _ _ _ h => h) rfl hX ?_; simp only [Act.put, qA, qB, qC]
    refine sg_skip (i := 5) (oi := ⟨some 104, _, _, _, _, _⟩) rfl (by kernel_rfl) (by kernel_rfl) (by kernel_rfl) (fun _ _ _ h => h) rfl hX ?_; simp only [Act.put, qA, qB, qC]
    refine sg_skip (i := 6) (oi := ⟨some 105, _, _, _, _, _⟩) rfl (by kernel_rfl) (by kernel_rfl) (by kernel_rfl) (fun _ _ _ h => h) rfl hX ?_; simp only [Act.put, qA, qB, qC]
    refine sg_skip (i := 7) (oi := ⟨some 106, _, _, _, _, _⟩) rfl (by kernel_rfl) (by kernel_rfl) (by kernel_rfl) (fun _ _ _ h => h) rfl hX ?_; simp only [Act.put, qA, qB, qC]
    refine sg_skip (i := 8) (oi := ⟨some 107, _, _, _, _, _⟩) rfl (by kernel_rfl) (by kernel_rfl) (by kernel_rfl) (fun _ _ _ h => h) rfl hX ?_; simp only [Act.put, qA, qB, qC]
    refine sg_skip (i := 9) (oi := ⟨some 108, _, _, _, _, _⟩) rfl (by kernel_rfl) (by kernel_rfl) (by kernel_rfl) (fun _ _ _ h => h) rfl hX ?_; simp only [Act.put, qA, qB, qC]
    refine sg_skip (i := 10) (oi := ⟨some 109, _, _, _, _, _⟩) rfl (by kernel_rfl) (by kernel_rfl) (by kernel_rfl) (fun _ _ _ h => h) rfl hX ?_; simp only [Act.put, qA, qB, qC]
    refine sg_skip (i := 11) (oi := ⟨some 110, _, _, _, _, _⟩) rfl (by kernel_rfl) (by kernel_rfl) (by kernel_rfl) (fun _ _ _ h => h) rfl hX ?_; simp only [Act.put, qA, qB, qC]
    refine sg_skip (i := 12) (oi := ⟨some 111, _, _, _, _, _⟩) rfl (by kernel_rfl) (by kernel_rfl) (by kernel_rfl) (fun _ _ _ h => h) rfl hX ?_; simp only [Act.put, qA, qB, qC]
    refine sg_take (i := 13) (oi := ⟨some 112, _, _, _, _, _⟩) (v := ?_) rfl (by kernel_rfl) (by kernel_rfl) (by kernel_rfl) (fun _ _ _ h => h) rfl hX ?_ ?_; rotate_left; (intro W hW; go_simp; try with_reducible rfl); simp only [Act.put, qA, qB, qC]
    refine wpAnyH_done (by kernel_rfl) ?_ _
    have HS := qH (show SoP g zs l0 w _ from ⟨⟨l, PL.out, SD.out.is hX⟩, grownS_is GD.out hX⟩)
    clear hX SD GD PL SL
    clear HIJ HV
    obtain ⟨wr, hwr⟩ : ∃ v : World, v = wd := ⟨_, rfl⟩
    subst hwr
   all_goals
    go_wp2_with fail
    go_loopw [11] (fun jv wl => ∃ j : Nat, jv = .int .i64 (j : Int) ∧ a ≤ j ∧ j ≤ b1 ∧ SoP g zs l0 w wl) (fun jv _ => (intOf jv).toNat)
    case atStart => exact ⟨j, rfl, HAJ.out, HJB.out, HS.out⟩
    clear HS HAJ HJB HJN
    obtain ⟨j, rfl, haj, hjb, hs⟩ := hrel
    have HS := qH hs
    have HAJ := qH haj
    have HJB := qH hjb
    have HJN := qH (show j < n from Nat.lt_of_le_of_lt hjb HB1.out)
    rename_i wr
    clear hs haj hjb
    obtain ⟨l, hp, hd⟩ := HS.out.dat
    have PL := qH hp
    have SD := qH hd
    have GD := qH HS.out.grown
    have SL := qH (show l.length = n by rw [hp.length_eq]; exact HL.out)
    clear hp hd
    clear HS
    obtain ⟨v, hv⟩ : ∃ q, l[a]? = some q := ⟨_, List.getElem?_eq_getElem (by rw [SL.out]; exact HAN.out)⟩
    have HV := qH hv
    clear hv
    obtain ⟨u, hu⟩ : ∃ q, l[j]? = some q := ⟨_, List.getElem?_eq_getElem (by rw [SL.out]; exact HJN.out)⟩
    have HU := qH hu
    clear hu
    obtain ⟨c, hc⟩ : ∃ c, c = decide (u.toNat < v.toNat) := ⟨_, rfl⟩
    have HC := qH hc
    clear hc
    by_cases hij : i ≤ j
    focus
     have HIJ := qH hij
     have HIN := qH (show i < n from Nat.lt_of_le_of_lt hij HJN.out)
     obtain ⟨j1, hj1⟩ := pre_ex (Nat.lt_of_lt_of_le (Nat.lt_of_lt_of_le (Nat.succ_pos a) HAI.out) hij)
     have HAJ1 := qH (show a ≤ j1 by have h1 := HAI.out; clear e1 e2 e3 e4; omega)
     have HJB1 := qH (show j1 ≤ b1 by have h1 := HJB.out; clear e1 e2 e3 e4; omega)
     have HJN1 := qH (show j1 < n from Nat.lt_of_le_of_lt HJB1.out HB1.out)
     have HM := qH (show j1 < j by rw [← hj1]; exact Nat.lt_succ_self j1)
     have f1 := wrap_one i (Nat.le_trans (Nat.le_of_lt HIN.out) (Nat.le_trans HN.out (by decide)))
     have f2 := wrap_one' i (Nat.le_trans (Nat.le_of_lt HIN.out) (Nat.le_trans HN.out (by decide)))
     have k1 := sub_w hj1 (Nat.le_trans HJB1.out (Nat.le_trans (Nat.le_of_lt HB1.out) HN.out))
     have k2 := sub_k hj1 (Nat.le_trans HJB1.out (Nat.le_trans (Nat.le_of_lt HB1.out) HN.out))
     have HIB2 := qH (show i + 1 ≤ b by have h1 := HJB.out; have h2 := HBE.out; clear e1 e2 e3 e4 f1 f2 k1 k2; omega)
     have HMI := qH (show b + 1 - (i + 1) < b + 1 - i0 by have h1 := HII.out; have h2 := HIB2.out; clear e1 e2 e3 e4 f1 f2 k1 k2; omega)
     have z1 : ¬ ((j : Int) < (i : Int)) := fun h => Nat.not_lt.2 hij (Int.ofNat_lt.1 h)
     have z2 : ¬ (j < i) := Nat.not_lt.2 hij
     clear hij hj1
     go_wp2_with fail
     refine sg_start (S := IsW wr.drew) (by kernel_rfl) rfl (fun wd hwd => ?_)
     have hX : IsW _ wd := hwd
     clear hwd
     refine sg_take (i := 0) (oi := ⟨some 115, _, _, _, _, _⟩) (v := ?_) rfl (by kernel_rfl) (by kernel_rfl) (by kernel_rfl) (fun _ _ _ h => h) rfl hX ?_ ?_; rotate_left; (intro W hW; go_simp; try with_reducible rfl); simp only [Act.put, qA, qB, qC]
     refine sg_take (i := 1) (oi := ⟨some 116, _, _, _, _, _⟩) (v := ?_) rfl (by kernel_rfl) (by kernel_rfl) (by kernel_rfl) (fun _ _ _ h => h) rfl hX ?_ ?_; rotate_left; (intro W hW; go_simp; try with_reducible rfl); simp only [Act.put, qA, qB, qC]
     refine sg_take (i := 2) (oi := ⟨some 117, _, _, _, _, _⟩) (v := .bool true) rfl (by kernel_rfl) (by kernel_rfl) (by kernel_rfl) (fun _ _ _ h => h) rfl hX (fun V _ => ex_leY (.tmp 115) (.tmp 116) rfl (i := i) (j := j) rfl rfl (decide_eq_true HIJ.out) V) ?_; simp only [Act.put, qA, qB, qC]
     refine sg_take (i := 3) (oi := ⟨some 118, _, _, _, _, _⟩) (v := ?_) rfl (by kernel_rfl) (by kernel_rfl) (by kernel_rfl) (fun _ _ _ h => h) rfl hX ?_ ?_; rotate_left; (intro W hW; go_simp; try with_reducible rfl); simp only [Act.put, qA, qB, qC]
     refine sg_take (i := 4) (oi := ⟨some 119, _, _, _, _, _⟩) (v := ?_) rfl (by kernel_rfl) (by kernel_rfl) (by kernel_rfl) (fun _ _ _ h => h) rfl hX ?_ ?_; rotate_left; (intro W hW; go_simp; try with_reducible rfl); simp only [Act.put, qA, qB, qC]
     refine sg_take (i := 5) (oi := ⟨some 120, _, _, _, _, _⟩) (v := ?_) rfl (by kernel_rfl) (by kernel_rfl) (by kernel_rfl) (fun _ _ _ h => h) rfl hX ?_ ?_; rotate_left; (intro W hW; go_simp; try with_reducible rfl); simp only [Act.put, qA, qB, qC]
     refine sg_take (i := 6) (oi := ⟨some 121, _, _, _, _, _⟩) (v := .pointer (some ⟨g, j, none⟩)) rfl (by kernel_rfl) (by kernel_rfl) (by kernel_rfl) (fun _ _ _ h => h) rfl hX (fun V _ => ix_y (.tmp 119) (.tmp 120) rfl rfl rfl HJN.out V) ?_; simp only [Act.put, qA, qB, qC]
     refine sg_take (i := 7) (oi := ⟨some 122, _, _, _, _, _⟩) (v := bv u) rfl (by kernel_rfl) (by kernel_rfl) (by kernel_rfl) (fun _ _ _ h => h) rfl hX (fun V hV => ld_yt (.tmp 121) rfl rfl ((SD.out.is hV).cell HU.out)) ?_; simp only [Act.put, qA, qB, qC]
     refine sg_take (i := 8) (oi := ⟨some 123, _, _, _, _, _⟩) (v := ?_) rfl (by kernel_rfl) (by kernel_rfl) (by kernel_rfl) (fun _ _ _ h => h) rfl hX ?_ ?_; rotate_left; (intro W hW; go_simp; try with_reducible rfl); simp only [Act.put, qA, qB, qC]
     refine sg_take (i := 9) (oi := ⟨some 124, _, _, _, _, _⟩) (v := ?_) rfl (by kernel_rfl) (by kernel_rfl) (by kernel_rfl) (fun _ _ _ h => h) rfl hX ?_ ?_; rotate_left; (intro W hW; go_simp; try with_reducible rfl); simp only [Act.put, qA, qB, qC]
     refine sg_take (i := 10) (oi := ⟨some 125, _, _, _, _, _⟩) (v := .pointer (some ⟨g, a, none⟩)) rfl (by kernel_rfl) (by kernel_rfl) (by kernel_rfl) (fun _ _ _ h => h) rfl hX (fun V _ => ix_y (.tmp 123) (.tmp 124) rfl rfl rfl HAN.out V) ?_; simp only [Act.put, qA, qB, qC]
     refine sg_take (i := 11) (oi := ⟨some 126, _, _, _, _, _⟩) (v := bv v) rfl (by kernel_rfl) (by kernel_rfl) (by kernel_rfl) (fun _ _ _ h => h) rfl hX (fun V hV => ld_yt (.tmp 125) rfl rfl ((SD.out.is hV).cell HV.out)) ?_; simp only [Act.put, qA, qB, qC]
     refine sg_actB (i := 12) (o := ⟨some 127, _, _, _, _, _⟩) rfl (by kernel_rfl) rfl hX (fun K hK => ?_)
     go_wp2_with fail
     refine (lessY_any _ _ _).mono ?_
     rintro e we ⟨rfl, hwe⟩
     subst hwe
     rw [← HC.out]
     go_wp2_with fail
     refine hK _ _ hX ?_
     clear hK K
     (try simp only [Act.put, qA, qB, qC])
     refine sg_take (i := 13) (oi := ⟨some 128, _, _, _, _, _⟩) (v := ?_) rfl (by kernel_rfl) (by kernel_rfl) (by kernel_rfl) (fun _ _ _ h => h) rfl hX ?_ ?_; rotate_left; (intro W hW; go_simp; try with_reducible rfl); simp only [Act.put, qA, qB, qC]
     refine sg_take (i := 14) (oi := ⟨some 129, _, _, _, _, _⟩) (v := ?_) rfl (by kernel_rfl) (by kernel_rfl) (by kernel_rfl) (fun _ _ _ h => h) rfl hX ?_ ?_; rotate_left; (intro W hW; go_simp; try with_reducible rfl); simp only [Act.put, qA, qB, qC]
     refine wpAnyH_done (by kernel_rfl) ?_ _
     have HS := qH (show SoP g zs l0 w _ from ⟨⟨l, PL.out, SD.out.is hX⟩, grownS_is GD.out hX⟩)
     clear hX SD GD PL SL
     rcases c with _ | _
     focus
      go_wp2_with fail
      exact ⟨⟨j1, rfl, HAJ1.out, HJB1.out, HS.out⟩, by simpa [intOf] using HM.out⟩
     simp only [Bool.not_true]
     clear HV HC HU
     obtain ⟨wr, hwr⟩ : ∃ v : World, v = we := ⟨_, rfl⟩
     subst hwr
     obtain ⟨l, hp, hd⟩ := HS.out.dat
     have PL := qH hp
     have SD := qH hd
     have GD := qH HS.out.grown
     have SL := qH (show l.length = n by rw [hp.length_eq]; exact HL.out)
     clear hp hd
     clear HS
     obtain ⟨q, hq⟩ : ∃ q, l[i]? = some q := ⟨_, List.getElem?_eq_getElem (by rw [SL.out]; exact HIN.out)⟩
     have HQ := qH hq
     clear hq
     obtain ⟨p, hp⟩ : ∃ q, l[j]? = some q := ⟨_, List.getElem?_eq_getElem (by rw [SL.out]; exact HJN.out)⟩
     have HP := qH hp
     clear hp
     go_wp2_with fail
     refine mc_start (fun V => wr.grownBy V (some g)) (fun V => V.heap[g]? = wr.heap[g]?) 13 (by kernel_rfl) (fun wd hwd => ?_)
     have hX : wr.grownBy wd (some g) := by rw [hwd]; exact grownS_drew _ _
     have hY : wd.heap[g]? = wr.heap[g]? := by rw [hwd]; rfl
     have GW := qH (grownS_trans GD.out hX)
     have HWD := qH hwd
     clear hwd
     refine mc_take (i := 0) (oi := ⟨some 135, _, _, _, _, _⟩) (v := ?_) rfl (by kernel_rfl) (by kernel_rfl) (by kernel_rfl) (fun _ _ _ h => h) rfl hX ?_ ?_; rotate_left; (intro W hW; go_simp; try with_reducible rfl); simp only [Act.put, qA, qB, qC]
     refine mc_take (i := 1) (oi := ⟨some 136, _, _, _, _, _⟩) (v := ?_) rfl (by kernel_rfl) (by kernel_rfl) (by kernel_rfl) (fun _ _ _ h => h) rfl hX ?_ ?_; rotate_left; (intro W hW; go_simp; try with_reducible rfl); simp only [Act.put, qA, qB, qC]
     refine mc_take (i := 2) (oi := ⟨some 137, _, _, _, _, _⟩) (v := ?_) rfl (by kernel_rfl) (by kernel_rfl) (by kernel_rfl) (fun _ _ _ h => h) rfl hX ?_ ?_; rotate_left; (intro W hW; go_simp; try with_reducible rfl); simp only [Act.put, qA, qB, qC]
     refine mc_take (i := 3) (oi := ⟨some 138, _, _, _, _, _⟩) (v := ?_) rfl (by kernel_rfl) (by kernel_rfl) (by kernel_rfl) (fun _ _ _ h => h) rfl hX ?_ ?_; rotate_left; (intro W hW; go_simp; try with_reducible rfl); simp only [Act.put, qA, qB, qC]
     refine mc_take (i := 4) (oi := ⟨some 139, _, _, _, _, _⟩) (v := ?_) rfl (by kernel_rfl) (by kernel_rfl) (by kernel_rfl) (fun _ _ _ h => h) rfl hX ?_ ?_; rotate_left; (intro W hW; go_simp; try with_reducible rfl); simp only [Act.put, qA, qB, qC]
     refine mc_take (i := 5) (oi := ⟨some 140, _, _, _, _, _⟩) (v := ?_) rfl (by kernel_rfl) (by kernel_rfl) (by kernel_rfl) (fun _ _ _ h => h) rfl hX ?_ ?_; rotate_left; (intro W hW; go_simp; try with_reducible rfl); simp only [Act.put, qA, qB, qC]
     refine mc_take (i := 6) (oi := ⟨some 141, _, _, _, _, _⟩) (v := .pointer (some ⟨g, j, none⟩)) rfl (by kernel_rfl) (by kernel_rfl) (by kernel_rfl) (fun _ _ _ h => h) rfl hX (fun V _ => ix_y (.tmp 139) (.tmp 140) rfl rfl rfl HJN.out V) ?_; simp only [Act.put, qA, qB, qC]
     refine mc_takeS (i := 7) (oi := ⟨some 142, _, _, _, _, _⟩) (v := bv p) rfl (by kernel_rfl) (by kernel_rfl) (by kernel_rfl) (fun _ _ _ h => h) rfl hX hY (fun V hT hS => ld_yt (.tmp 141) rfl rfl (cell_same hS (SD.out.cell HP.out))) ?_; simp only [Act.put, qA, qB, qC]
     refine mc_take (i := 8) (oi := ⟨some 143, _, _, _, _, _⟩) (v := ?_) rfl (by kernel_rfl) (by kernel_rfl) (by kernel_rfl) (fun _ _ _ h => h) rfl hX ?_ ?_; rotate_left; (intro W hW; go_simp; try with_reducible rfl); simp only [Act.put, qA, qB, qC]
     refine mc_take (i := 9) (oi := ⟨some 144, _, _, _, _, _⟩) (v := ?_) rfl (by kernel_rfl) (by kernel_rfl) (by kernel_rfl) (fun _ _ _ h => h) rfl hX ?_ ?_; rotate_left; (intro W hW; go_simp; try with_reducible rfl); simp only [Act.put, qA, qB, qC]
     refine mc_take (i := 10) (oi := ⟨some 145, _, _, _, _, _⟩) (v := .pointer (some ⟨g, i, none⟩)) rfl (by kernel_rfl) (by kernel_rfl) (by kernel_rfl) (fun _ _ _ h => h) rfl hX (fun V _ => ix_y (.tmp 143) (.tmp 144) rfl rfl rfl HIN.out V) ?_; simp only [Act.put, qA, qB, qC]
     refine mc_takeS (i := 11) (oi := ⟨some 146, _, _, _, _, _⟩) (v := bv q) rfl (by kernel_rfl) (by kernel_rfl) (by kernel_rfl) (fun _ _ _ h => h) rfl hX hY (fun V hT hS => ld_yt (.tmp 145) rfl rfl (cell_same hS (SD.out.cell HQ.out))) ?_; simp only [Act.put, qA, qB, qC]
     refine mc_take (i := 12) (oi := ⟨some 147, _, _, _, _, _⟩) (v := .pointer (some ⟨g, i, none⟩)) rfl (by kernel_rfl) (by kernel_rfl) (by kernel_rfl) (fun _ _ _ h => h) rfl hX (fun V _ => ix_y (.tmp 135) (.tmp 136) rfl rfl rfl HIN.out V) ?_; simp only [Act.put, qA, qB, qC]
     refine mc_last (i := 13) (o := ⟨none, _, _, _, _, _⟩) rfl (by kernel_rfl) rfl (fun K hK => ?_)
     have HZ := qH (show Dat wd g zs l from SD.out.keep hY)
     refine wp_stY (.tmp 147) (.tmp 142) rfl g i rfl p rfl _ (HZ.out.cell HQ.out) (HZ.out.frozen _) ?_
     refine hK _ _ (grownS_set hX _ _) ?_
     clear hK K
     have HZ2 := qH (HZ.out.set (List.getElem?_eq_some_iff.1 HQ.out).1 p)
     have HC2 := qH (dat_hit HZ2.out (i := j) (by rw [List.length_set]; exact (List.getElem?_eq_some_iff.1 HP.out).1))
     clear hY
     replace hX := grownS_set hX i (bv p)
     (try simp only [Act.put, qA, qB, qC])
     refine mc_take (i := 14) (oi := ⟨some 148, _, _, _, _, _⟩) (v := .pointer (some ⟨g, j, none⟩)) rfl (by kernel_rfl) (by kernel_rfl) (by kernel_rfl) (fun _ _ _ h => h) rfl hX (fun V _ => ix_y (.tmp 137) (.tmp 138) rfl rfl rfl HJN.out V) ?_; simp only [Act.put, qA, qB, qC]
     refine mc_last (i := 15) (o := ⟨none, _, _, _, _, _⟩) rfl (by kernel_rfl) rfl (fun K hK => ?_)
     refine wp_stY (.tmp 148) (.tmp 146) rfl g j rfl q rfl _ HC2.out (HZ2.out.frozen _) ?_
     refine hK _ _ (grownS_set hX _ _) ?_
     clear hK K hX
     (try simp only [Act.put, qA, qB, qC])
     refine wpAnyC_done (by kernel_rfl) ?_ _
     have HSW := qH (SoP.swap PL.out HZ.out GW.out HP.out HQ.out)
     go_wp2_with fail
     exact ⟨⟨i + 1, j1, by simp, rfl, Nat.le_succ_of_le HAI.out, HIB2.out, HAJ1.out, HJB1.out, HSW.out⟩, by simpa [intOf] using HMI.out⟩
    focus
     have HIJ := qH hij
     have z1 : (j : Int) < (i : Int) := Int.ofNat_lt.2 (Nat.lt_of_not_le hij)
     have z2 : j < i := Nat.lt_of_not_le hij
     clear hij
     go_wp2_with fail
     refine sg_start (S := IsW wr.drew) (by kernel_rfl) rfl (fun wd hwd => ?_)
     have hX : IsW _ wd := hwd
     clear hwd
     refine sg_take (i := 0) (oi := ⟨some 115, _, _, _, _, _⟩) (v := ?_) rfl (by kernel_rfl) (by kernel_rfl) (by kernel_rfl) (fun _ _ _ h => h) rfl hX ?_ ?_; rotate_left; (intro W hW; go_simp; try with_reducible rfl); simp only [Act.put, qA, qB, qC]
     refine sg_take (i := 1) (oi := ⟨some 116, _, _, _, _, _⟩) (v := ?_) rfl (by kernel_rfl) (by kernel_rfl) (by kernel_rfl) (fun _ _ _ h => h) rfl hX ?_ ?_; rotate_left; (intro W hW; go_simp; try with_reducible rfl); simp only [Act.put, qA, qB, qC]
     refine sg_take (i := 2) (oi := ⟨some 117, _, _, _, _, _⟩) (v := .bool false) rfl (by kernel_rfl) (by kernel_rfl) (by kernel_rfl) (fun _ _ _ h => h) rfl hX (fun V _ => ex_leY (.tmp 115) (.tmp 116) rfl (i := i) (j := j) rfl rfl (decide_eq_false HIJ.out) V) ?_; simp only [Act.put, qA, qB, qC]
     refine sg_take (i := 3) (oi := ⟨some 118, _, _, _, _, _⟩) (v := ?_) rfl (by kernel_rfl) (by kernel_rfl) (by kernel_rfl) (fun _ _ _ h => h) rfl hX ?_ ?_; rotate_left; (intro W hW; go_simp; try with_reducible rfl); simp only [Act.put, qA, qB, qC]
     refine sg_skip (i := 4) (oi := ⟨some 119, _, _, _, _, _⟩) rfl (by kernel_rfl) (by kernel_rfl) (by kernel_rfl) (fun _ _ _ h => h) rfl hX ?_; simp only [Act.put, qA, qB, qC]
     refine sg_skip (i := 5) (oi := ⟨some 120, _, _, _, _, _⟩) rfl (by kernel_rfl) (by kernel_rfl) (by kernel_rfl) (fun _ _ _ h => h) rfl hX ?_; simp only [Act.put, qA, qB, qC]
     refine sg_skip (i := 6) (oi := ⟨some 121, _, _, _, _, _⟩) rfl (by kernel_rfl) (by kernel_rfl) (by kernel_rfl) (fun _ _ _ h => h) rfl hX ?_; simp only [Act.put, qA, qB, qC]
     refine sg_skip (i := 7) (oi := ⟨some 122, _, _, _, _, _⟩) rfl (by kernel_rfl) (by kernel_rfl) (by kernel_rfl) (fun _ _ _ h => h) rfl hX ?_; simp only [Act.put, qA, qB, qC]
     refine sg_skip (i := 8) (oi := ⟨some 123, _, _, _, _, _⟩) rfl (by kernel_rfl) (by kernel_rfl) (by kernel_rfl) (fun _ _ _ h => h) rfl hX ?_; simp only [Act.put, qA, qB, qC]
     refine sg_skip (i := 9) (oi := ⟨some 124, _, _, _, _, _⟩) rfl (by kernel_rfl) (by kernel_rfl) (by kernel_rfl) (fun _ _ _ h => h) rfl hX ?_; simp only [Act.put, qA, qB, qC]
     refine sg_skip (i := 10) (oi := ⟨some 125, _, _, _, _, _⟩) rfl (by kernel_rfl) (by kernel_rfl) (by kernel_rfl) (fun _ _ _ h => h) rfl hX ?_; simp only [Act.put, qA, qB, qC]
     refine sg_skip (i := 11) (oi := ⟨some 126, _, _, _, _, _⟩) rfl (by kernel_rfl) (by kernel_rfl) (by kernel_rfl) (fun _ _ _ h => h) rfl hX ?_; simp only [Act.put, qA, qB, qC]
     refine sg_skip (i := 12) (oi := ⟨some 127, _, _, _, _, _⟩) rfl (by kernel_rfl) (by kernel_rfl) (by kernel_rfl) (fun _ _ _ h => h) rfl hX ?_; simp only [Act.put, qA, qB, qC]
     refine sg_skip (i := 13) (oi := ⟨some 128, _, _, _, _, _⟩) rfl (by kernel_rfl) (by kernel_rfl) (by kernel_rfl) (fun _ _ _ h => h) rfl hX ?_; simp only [Act.put, qA, qB, qC]
     refine sg_take (i := 14) (oi := ⟨some 129, _, _, _, _, _⟩) (v := ?_) rfl (by kernel_rfl) (by kernel_rfl) (by kernel_rfl) (fun _ _ _ h => h) rfl hX ?_ ?_; rotate_left; (intro W hW; go_simp; try with_reducible rfl); simp only [Act.put, qA, qB, qC]
     refine wpAnyH_done (by kernel_rfl) ?_ _
     have HS := qH (show SoP g zs l0 w _ from ⟨⟨l, PL.out, SD.out.is hX⟩, grownS_is GD.out hX⟩)
     clear hX SD GD PL SL
     clear HV HU HC
     obtain ⟨wr, hwr⟩ : ∃ v : World, v = wd := ⟨_, rfl⟩
     subst hwr
     obtain ⟨l, hp, hd⟩ := HS.out.dat
     have PL := qH hp
     have SD := qH hd
     have GD := qH HS.out.grown
     have SL := qH (show l.length = n by rw [hp.length_eq]; exact HL.out)
     clear hp hd
     clear HS
     obtain ⟨q, hq⟩ : ∃ q, l[j]? = some q := ⟨_, List.getElem?_eq_getElem (by rw [SL.out]; exact HJN.out)⟩
     have HQ := qH hq
     clear hq
     obtain ⟨p, hp⟩ : ∃ q, l[a]? = some q := ⟨_, List.getElem?_eq_getElem (by rw [SL.out]; exact HAN.out)⟩
     have HP := qH hp
     clear hp
     go_wp2_with fail
     refine mc_start (fun V => wr.grownBy V (some g)) (fun V => V.heap[g]? = wr.heap[g]?) 13 (by kernel_rfl) (fun wd hwd => ?_)
     have hX : wr.grownBy wd (some g) := by rw [hwd]; exact grownS_drew _ _
     have hY : wd.heap[g]? = wr.heap[g]? := by rw [hwd]; rfl
     have GW := qH (grownS_trans GD.out hX)
     have HWD := qH hwd
     clear hwd
     refine mc_take (i := 0) (oi := ⟨some 153, _, _, _, _, _⟩) (v := ?_) rfl (by kernel_rfl) (by kernel_rfl) (by kernel_rfl) (fun _ _ _ h => h) rfl hX ?_ ?_; rotate_left; (intro W hW; go_simp; try with_reducible rfl); simp only [Act.put, qA, qB, qC]
     refine mc_take (i := 1) (oi := ⟨some 154, _, _, _, _, _⟩) (v := ?_) rfl (by kernel_rfl) (by kernel_rfl) (by kernel_rfl) (fun _ _ _ h => h) rfl hX ?_ ?_; rotate_left; (intro W hW; go_simp; try with_reducible rfl); simp only [Act.put, qA, qB, qC]
     refine mc_take (i := 2) (oi := ⟨some 155, _, _, _, _, _⟩) (v := ?_) rfl (by kernel_rfl) (by kernel_rfl) (by kernel_rfl) (fun _ _ _ h => h) rfl hX ?_ ?_; rotate_left; (intro W hW; go_simp; try with_reducible rfl); simp only [Act.put, qA, qB, qC]
     refine mc_take (i := 3) (oi := ⟨some 156, _, _, _, _, _⟩) (v := ?_) rfl (by kernel_rfl) (by kernel_rfl) (by kernel_rfl) (fun _ _ _ h => h) rfl hX ?_ ?_; rotate_left; (intro W hW; go_simp; try with_reducible rfl); simp only [Act.put, qA, qB, qC]
     refine mc_take (i := 4) (oi := ⟨some 157, _, _, _, _, _⟩) (v := ?_) rfl (by kernel_rfl) (by kernel_rfl) (by kernel_rfl) (fun _ _ _ h => h) rfl hX ?_ ?_; rotate_left; (intro W hW; go_simp; try with_reducible rfl); simp only [Act.put, qA, qB, qC]
     refine mc_take (i := 5) (oi := ⟨some 158, _, _, _, _, _⟩) (v := ?_) rfl (by kernel_rfl) (by kernel_rfl) (by kernel_rfl) (fun _ _ _ h => h) rfl hX ?_ ?_; rotate_left; (intro W hW; go_simp; try with_reducible rfl); simp only [Act.put, qA, qB, qC]
     refine mc_take (i := 6) (oi := ⟨some 159, _, _, _, _, _⟩) (v := .pointer (some ⟨g, a, none⟩)) rfl (by kernel_rfl) (by kernel_rfl) (by kernel_rfl) (fun _ _ _ h => h) rfl hX (fun V _ => ix_y (.tmp 157) (.tmp 158) rfl rfl rfl HAN.out V) ?_; simp only [Act.put, qA, qB, qC]
     refine mc_takeS (i := 7) (oi := ⟨some 160, _, _, _, _, _⟩) (v := bv p) rfl (by kernel_rfl) (by kernel_rfl) (by kernel_rfl) (fun _ _ _ h => h) rfl hX hY (fun V hT hS => ld_yt (.tmp 159) rfl rfl (cell_same hS (SD.out.cell HP.out))) ?_; simp only [Act.put, qA, qB, qC]
     refine mc_take (i := 8) (oi := ⟨some 161, _, _, _, _, _⟩) (v := ?_) rfl (by kernel_rfl) (by kernel_rfl) (by kernel_rfl) (fun _ _ _ h => h) rfl hX ?_ ?_; rotate_left; (intro W hW; go_simp; try with_reducible rfl); simp only [Act.put, qA, qB, qC]
     refine mc_take (i := 9) (oi := ⟨some 162, _, _, _, _, _⟩) (v := ?_) rfl (by kernel_rfl) (by kernel_rfl) (by kernel_rfl) (fun _ _ _ h => h) rfl hX ?_ ?_; rotate_left; (intro W hW; go_simp; try with_reducible rfl); simp only [Act.put, qA, qB, qC]
     refine mc_take (i := 10) (oi := ⟨some 163, _, _, _, _, _⟩) (v := .pointer (some ⟨g, j, none⟩)) rfl (by kernel_rfl) (by kernel_rfl) (by kernel_rfl) (fun _ _ _ h => h) rfl hX (fun V _ => ix_y (.tmp 161) (.tmp 162) rfl rfl rfl HJN.out V) ?_; simp only [Act.put, qA, qB, qC]
     refine mc_takeS (i := 11) (oi := ⟨some 164, _, _, _, _, _⟩) (v := bv q) rfl (by kernel_rfl) (by kernel_rfl) (by kernel_rfl) (fun _ _ _ h => h) rfl hX hY (fun V hT hS => ld_yt (.tmp 163) rfl rfl (cell_same hS (SD.out.cell HQ.out))) ?_; simp only [Act.put, qA, qB, qC]
     refine mc_take (i := 12) (oi := ⟨some 165, _, _, _, _, _⟩) (v := .pointer (some ⟨g, j, none⟩)) rfl (by kernel_rfl) (by kernel_rfl) (by kernel_rfl) (fun _ _ _ h => h) rfl hX (fun V _ => ix_y (.tmp 153) (.tmp 154) rfl rfl rfl HJN.out V) ?_; simp only [Act.put, qA, qB, qC]
     refine mc_last (i := 13) (o := ⟨none, _, _, _, _, _⟩) rfl (by kernel_rfl) rfl (fun K hK => ?_)
     have HZ := qH (show Dat wd g zs l from SD.out.keep hY)
     refine wp_stY (.tmp 165) (.tmp 160) rfl g j rfl p rfl _ (HZ.out.cell HQ.out) (HZ.out.frozen _) ?_
     refine hK _ _ (grownS_set hX _ _) ?_
     clear hK K
     have HZ2 := qH (HZ.out.set (List.getElem?_eq_some_iff.1 HQ.out).1 p)
     have HC2 := qH (dat_hit HZ2.out (i := a) (by rw [List.length_set]; exact (List.getElem?_eq_some_iff.1 HP.out).1))
     clear hY
     replace hX := grownS_set hX j (bv p)
     (try simp only [Act.put, qA, qB, qC])
     refine mc_take (i := 14) (oi := ⟨some 166, _, _, _, _, _⟩) (v := .pointer (some ⟨g, a, none⟩)) rfl (by kernel_rfl) (by kernel_rfl) (by kernel_rfl) (fun _ _ _ h => h) rfl hX (fun V _ => ix_y (.tmp 155) (.tmp 156) rfl rfl rfl HAN.out V) ?_; simp only [Act.put, qA, qB, qC]
     refine mc_last (i := 15) (o := ⟨none, _, _, _, _, _⟩) rfl (by kernel_rfl) rfl (fun K hK => ?_)
     refine wp_stY (.tmp 166) (.tmp 164) rfl g a rfl q rfl _ HC2.out (HZ2.out.frozen _) ?_
     refine hK _ _ (grownS_set hX _ _) ?_
     clear hK K hX
     (try simp only [Act.put, qA, qB, qC])
     refine wpAnyC_done (by kernel_rfl) ?_ _
     have HSW := qH (SoP.swap PL.out HZ.out GW.out HP.out HQ.out)
     go_wp2_with fail
     go_ret2
     exact ⟨j, false, HAJ.out, Nat.lt_of_le_of_lt HJB.out HBL.out, rfl, HSW.out⟩
  focus
   have HIJ := qH hij
   have z1 : (j : Int) < (i : Int) := Int.ofNat_lt.2 (Nat.lt_of_not_le hij)
   have z2 : j < i := Nat.lt_of_not_le hij
   clear hij
   go_wp2_with fail
   refine sg_start (S := IsW wr.drew) (by kernel_rfl) rfl (fun wd hwd => ?_)
   have hX : IsW _ wd := hwd
   clear hwd
   refine sg_take (i := 0) (oi := ⟨some 46, _, _, _, _, _⟩) (v := ?_) rfl (by kernel_rfl) (by kernel_rfl) (by kernel_rfl) (fun _ _ _ h => h) rfl hX ?_ ?_; rotate_left; (intro W hW; go_simp; try with_reducible rfl); simp only [Act.put, qA, qB, qC]
   refine sg_take (i := 1) (oi := ⟨some 47, _, _, _, _, _⟩) (v := ?_) rfl (by kernel_rfl) (by kernel_rfl) (by kernel_rfl) (fun _ _ _ h => h) rfl hX ?_ ?_; rotate_left; (intro W hW; go_simp; try with_reducible rfl); simp only [Act.put, qA, qB, qC]
   refine sg_take (i := 2) (oi := ⟨some 48, _, _, _, _, _⟩) (v := .bool false) rfl (by kernel_rfl) (by kernel_rfl) (by kernel_rfl) (fun _ _ _ h => h) rfl hX (fun V _ => ex_leY (.tmp 46) (.tmp 47) rfl (i := i) (j := j) rfl rfl (decide_eq_false HIJ.out) V) ?_; simp only [Act.put, qA, qB, qC]
   refine sg_take (i := 3) (oi := ⟨some 49, _, _, _, _, _⟩) (v := ?_) rfl (by kernel_rfl) (by kernel_rfl) (by kernel_rfl) (fun _ _ _ h => h) rfl hX ?_ ?_; rotate_left; (intro W hW; go_simp; try with_reducible rfl); simp only [Act.put, qA, qB, qC]
   refine sg_skip (i := 4) (oi := ⟨some 50, _, _, _, _, _⟩) rfl (by kernel_rfl) (by kernel_rfl) (by kernel_rfl) (fun _ _ _ h => h) rfl hX ?_; simp only [Act.put, qA, qB, qC]
   refine sg_skip (i := 5) (oi := ⟨some 51, _, _, _, _, _⟩) rfl (by kernel_rfl) (by kernel_rfl) (by kernel_rfl) (fun _ _ _ h => h) rfl hX ?_; simp only [Act.put, qA, qB, qC]
   refine sg_skip (i := 6) (oi := ⟨some 52, _, _, _, _, _⟩) rfl (by kernel_rfl) (by kernel_rfl) (by kernel_rfl) (fun _ _ _ h => h) rfl hX ?_; simp only [Act.put, qA, qB, qC]
   refine sg_skip (i := 7) (oi := ⟨some 53, _, _, _, _, _⟩) rfl (by kernel_rfl) (by kernel_rfl) (by kernel_rfl) (fun _ _ _ h => h) rfl hX ?_; simp only [Act.put, qA, qB, qC]
   refine sg_skip (i := 8) (oi := ⟨some 54, _, _, _, _, _⟩) rfl (by kernel_rfl) (by kernel_rfl) (by kernel_rfl) (fun _ _ _ h => h) rfl hX ?_; simp only [Act.put, qA, qB, qC]
   refine sg_skip (i := 9) (oi := ⟨some 55, _, _, _, _, _⟩) rfl (by kernel_rfl) (by kernel_rfl) (by kernel_rfl) (fun _ _ _ h => h) rfl hX ?_; simp only [Act.put, qA, qB, qC]
   refine sg_skip (i := 10) (oi := ⟨some 56, _, _, _, _, _⟩) rfl (by kernel_rfl) (by kernel_rfl) (by kernel_rfl) (fun _ _ _ h => h) rfl hX ?_; simp only [Act.put, qA, qB, qC]
   refine sg_skip (i := 11) (oi := ⟨some 57, _, _, _, _, _⟩) rfl (by kernel_rfl) (by kernel_rfl) (by kernel_rfl) (fun _ _ _ h => h) rfl hX ?_; simp only [Act.put, qA, qB, qC]
   refine sg_skip (i := 12) (oi := ⟨some 58, _, _, _, _, _⟩) rfl (by kernel_rfl) (by kernel_rfl) (by kernel_rfl) (fun _ _ _ h => h) rfl hX ?_; simp only [Act.put, qA, qB, qC]
   refine sg_skip (i := 13) (oi := ⟨some 59, _, _, _, _, _⟩) rfl (by kernel_rfl) (by kernel_rfl) (by kernel_rfl) (fun _ _ _ h => h) rfl hX ?_; simp only [Act.put, qA, qB, qC]
   refine sg_take (i := 14) (oi := ⟨some 60, _, _, _, _, _⟩) (v := ?_) rfl (by kernel_rfl) (by kernel_rfl) (by kernel_rfl) (fun _ _ _ h => h) rfl hX ?_ ?_; rotate_left; (intro W hW; go_simp; try with_reducible rfl); simp only [Act.put, qA, qB, qC]
   refine wpAnyH_done (by kernel_rfl) ?_ _
   have HS := qH (show SoP g zs l0 w _ from ⟨⟨l, PL.out, SD.out.is hX⟩, grownS_is GD.out hX⟩)
   clear hX SD GD PL SL
   clear HV HU HC
   obtain ⟨wr, hwr⟩ : ∃ v : World, v = wd := ⟨_, rfl⟩
   subst hwr
   obtain ⟨l, hp, hd⟩ := HS.out.dat
   have PL := qH hp
   have SD := qH hd
   have GD := qH HS.out.grown
   have SL := qH (show l.length = n by rw [hp.length_eq]; exact HL.out)
   clear hp hd
   clear HS
   obtain ⟨q, hq⟩ : ∃ q, l[j]? = some q := ⟨_, List.getElem?_eq_getElem (by rw [SL.out]; exact HJN.out)⟩
   have HQ := qH hq
   clear hq
   obtain ⟨p, hp⟩ : ∃ q, l[a]? = some q := ⟨_, List.getElem?_eq_getElem (by rw [SL.out]; exact HAN.out)⟩
   have HP := qH hp
   clear hp
   go_wp2_with fail
   refine mc_start (fun V => wr.grownBy V (some g)) (fun V => V.heap[g]? = wr.heap[g]?) 13 (by kernel_rfl) (fun wd hwd => ?_)
   have hX : wr.grownBy wd (some g) := by rw [hwd]; exact grownS_drew _ _
   have hY : wd.heap[g]? = wr.heap[g]? := by rw [hwd]; rfl
   have GW := qH (grownS_trans GD.out hX)
   have HWD := qH hwd
   clear hwd
   refine mc_take (i := 0) (oi := ⟨some 66, _, _, _, _, _⟩) (v := ?_) rfl (by kernel_rfl) (by kernel_rfl) (by kernel_rfl) (fun _ _ _ h => h) rfl hX ?_ ?_; rotate_left; (intro W hW; go_simp; try with_reducible rfl); simp only [Act.put, qA, qB, qC]
   refine mc_take (i := 1) (oi := ⟨some 67, _, _, _, _, _⟩) (v := ?_) rfl (by kernel_rfl) (by kernel_rfl) (by kernel_rfl) (fun _ _ _ h => h) rfl hX ?_ ?_; rotate_left; (intro W hW; go_simp; try with_reducible rfl); simp only [Act.put, qA, qB, qC]
   refine mc_take (i := 2) (oi := ⟨some 68, _, _, _, _, _⟩) (v := ?_) rfl (by kernel_rfl) (by kernel_rfl) (by kernel_rfl) (fun _ _ _ h => h) rfl hX ?_ ?_; rotate_left; (intro W hW; go_simp; try with_reducible rfl); simp only [Act.put, qA, qB, qC]
   refine mc_take (i := 3) (oi := ⟨some 69, _, _, _, _, _⟩) (v := ?_) rfl (by kernel_rfl) (by kernel_rfl) (by kernel_rfl) (fun _ _ _ h => h) rfl hX ?_ ?_; rotate_left; (intro W hW; go_simp; try with_reducible rfl); simp only [Act.put, qA, qB, qC]
   refine mc_take (i := 4) (oi := ⟨some 70, _, _, _, _, _⟩) (v := ?_) rfl (by kernel_rfl) (by kernel_rfl) (by kernel_rfl) (fun _ _ _ h => h) rfl hX ?_ ?_; rotate_left; (intro W hW; go_simp; try with_reducible rfl); simp only [Act.put, qA, qB, qC]
   refine mc_take (i := 5) (oi := ⟨some 71, _, _, _, _, _⟩) (v := ?_) rfl (by kernel_rfl) (by kernel_rfl) (by kernel_rfl) (fun _ _ _ h => h) rfl hX ?_ ?_; rotate_left; (intro W hW; go_simp; try with_reducible rfl); simp only [Act.put, qA, qB, qC]
   refine mc_take (i := 6) (oi := ⟨some 72, _, _, _, _, _⟩) (v := .pointer (some ⟨g, a, none⟩)) rfl (by kernel_rfl) (by kernel_rfl) (by kernel_rfl) (fun _ _ _ h => h) rfl hX (fun V _ => ix_y (.tmp 70) (.tmp 71) rfl rfl rfl HAN.out V) ?_; simp only [Act.put, qA, qB, qC]
   refine mc_takeS (i := 7) (oi := ⟨some 73, _, _, _, _, _⟩) (v := bv p) rfl (by kernel_rfl) (by kernel_rfl) (by kernel_rfl) (fun _ _ _ h => h) rfl hX hY (fun V hT hS => ld_yt (.tmp 72) rfl rfl (cell_same hS (SD.out.cell HP.out))) ?_; simp only [Act.put, qA, qB, qC]
   refine mc_take (i := 8) (oi := ⟨some 74, _, _, _, _, _⟩) (v := ?_) rfl (by kernel_rfl) (by kernel_rfl) (by kernel_rfl) (fun _ _ _ h => h) rfl hX ?_ ?_; rotate_left; (intro W hW; go_simp; try with_reducible rfl); simp only [Act.put, qA, qB, qC]
   refine mc_take (i := 9) (oi := ⟨some 75, _, _, _, _, _⟩) (v := ?_) rfl (by kernel_rfl) (by kernel_rfl) (by kernel_rfl) (fun _ _ _ h => h) rfl hX ?_ ?_; rotate_left; (intro W hW; go_simp; try with_reducible rfl); simp only [Act.put, qA, qB, qC]
   refine mc_take (i := 10) (oi := ⟨some 76, _, _, _, _, _⟩) (v := .pointer (some ⟨g, j, none⟩)) rfl (by kernel_rfl) (by kernel_rfl) (by kernel_rfl) (fun _ _ _ h => h) rfl hX (fun V _ => ix_y (.tmp 74) (.tmp 75) rfl rfl rfl HJN.out V) ?_; simp only [Act.put, qA, qB, qC]
   refine mc_takeS (i := 11) (oi := ⟨some 77, _, _, _, _, _⟩) (v := bv q) rfl (by kernel_rfl) (by kernel_rfl) (by kernel_rfl) (fun _ _ _ h => h) rfl hX hY (fun V hT hS => ld_yt (.tmp 76) rfl rfl (cell_same hS (SD.out.cell HQ.out))) ?_; simp only [Act.put, qA, qB, qC]
   refine mc_take (i := 12) (oi := ⟨some 78, _, _, _, _, _⟩) (v := .pointer (some ⟨g, j, none⟩)) rfl (by kernel_rfl) (by kernel_rfl) (by kernel_rfl) (fun _ _ _ h => h) rfl hX (fun V _ => ix_y (.tmp 66) (.tmp 67) rfl rfl rfl HJN.out V) ?_; simp only [Act.put, qA, qB, qC]
   refine mc_last (i := 13) (o := ⟨none, _, _, _, _, _⟩) rfl (by kernel_rfl) rfl (fun K hK => ?_)
   have HZ := qH (show Dat wd g zs l from SD.out.keep hY)
   refine wp_stY (.tmp 78) (.tmp 73) rfl g j rfl p rfl _ (HZ.out.cell HQ.out) (HZ.out.frozen _) ?_
   refine hK _ _ (grownS_set hX _ _) ?_
   clear hK K
   have HZ2 := qH (HZ.out.set (List.getElem?_eq_some_iff.1 HQ.out).1 p)
   have HC2 := qH (dat_hit HZ2.out (i := a) (by rw [List.length_set]; exact (List.getElem?_eq_some_iff.1 HP.out).1))
   clear hY
   replace hX := grownS_set hX j (bv p)
   (try simp only [Act.put, qA, qB, qC])
   refine mc_take (i := 14) (oi := ⟨some 79, _, _, _, _, _⟩) (v := .pointer (some ⟨g, a, none⟩)) rfl (by kernel_rfl) (by kernel_rfl) (by kernel_rfl) (fun _ _ _ h => h) rfl hX (fun V _ => ix_y (.tmp 68) (.tmp 69) rfl rfl rfl HAN.out V) ?_; simp only [Act.put, qA, qB, qC]
   refine mc_last (i := 15) (o := ⟨none, _, _, _, _, _⟩) rfl (by kernel_rfl) rfl (fun K hK => ?_)
   refine wp_stY (.tmp 79) (.tmp 77) rfl g a rfl q rfl _ HC2.out (HZ2.out.frozen _) ?_
   refine hK _ _ (grownS_set hX _ _) ?_
   clear hK K hX
   (try simp only [Act.put, qA, qB, qC])
   refine wpAnyC_done (by kernel_rfl) ?_ _
   have HSW := qH (SoP.swap PL.out HZ.out GW.out HP.out HQ.out)
   go_wp2_with fail
   go_ret2
   exact ⟨j, true, HAJ.out, Nat.lt_of_le_of_lt HJB.out HBL.out, rfl, HSW.out⟩
end Go.Proofs.Ytbbodfpnneifgaa
