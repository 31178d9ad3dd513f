/-
  Texts of this proof, put together: SoK. No statement is proved here.
-/
import Derived.Test.YtbbodfpnneifgaaYG
namespace Go.Proofs.Ytbbodfpnneifgaa
open Go.RowKit
set_option linter.unusedSimpArgs false
set_option linter.unusedVariables false
def ParE (g : Nat) (zs : List Value) (l0 : List UInt8) (a b : Nat) (w : World) (e : Ending) (w' : World) : Prop := ∃ i : Nat, a + 1 ≤ i ∧ i ≤ b ∧ e = .returned (.int .i64 (i : Int)) ∧ SoP g zs l0 w w'
set_option maxHeartbeats 8000000 in
set_option maxRecDepth 1000000 in
theorem parEY_any (g n cap : Nat) (zs : List Value) (l0 : List UInt8) (w : World) (hl : l0.length = n) (hn : n ≤ 1048576) (hd : Dat w g zs l0) (a b pv : Nat) (hb : b ≤ n) (hap : a ≤ pv) (hpb : pv < b) :
  Calls Try.prog 54 #[.slice (some ⟨g, 0, none⟩) n cap, .int .i64 (a : Int), .int .i64 (b : Int), .int .i64 (pv : Int)] w fun e w' => ParE g zs l0 a b w e w' := by
 have HL := qH hl
 have HN := qH hn
 have HB := qH hb
 have HBM := qH (show b ≤ 1048576 from Nat.le_trans hb hn)
 have HAB := qH (show a < b from Nat.lt_of_le_of_lt hap hpb)
 have HAN := qH (show a < n from Nat.lt_of_lt_of_le HAB.out hb)
 have HPN := qH (show pv < n from Nat.lt_of_lt_of_le hpb hb)
 obtain ⟨b1, hb1⟩ := pre_ex (Nat.lt_of_le_of_lt (Nat.zero_le a) HAB.out)
 have HB1 := qH (show b1 < n from Nat.lt_of_lt_of_le (by rw [← hb1]; exact Nat.lt_succ_self b1) hb)
 have HBE := qH hb1
 have HAB1 := qH (show a ≤ b1 by have := HAB.out; omega)
 have e1 := sub_w hb1 (Nat.le_trans (Nat.le_of_lt HB1.out) hn)
 have e2 := sub_k hb1 (Nat.le_trans (Nat.le_of_lt HB1.out) hn)
 have e3 := wrap_one a (Nat.le_trans (Nat.le_of_lt HAN.out) (Nat.le_trans hn (by decide)))
 have e4 := wrap_one' a (Nat.le_trans (Nat.le_of_lt HAN.out) (Nat.le_trans hn (by decide)))
 obtain ⟨l, hll⟩ : ∃ l, l = l0 := ⟨_, rfl⟩
 have PL := qH (show l.Perm l0 by rw [hll])
 have SD := qH (show Dat w g zs l by rw [hll]; exact hd)
 have SL := qH (show l.length = n by rw [hll]; exact hl)
 have GD := qH (show w.grownBy w (some g) from ⟨rfl, rfl, rfl, Nat.le_refl _, fun _ _ _ => rfl⟩)
 clear hl hn hd hb hap hpb hb1 hll
 obtain ⟨q, hq⟩ : ∃ q, l[a]? = some q := ⟨_, List.getElem?_eq_getElem (by rw [SL.out]; exact HAN.out)⟩
 have HQ := qH hq
 clear hq
 obtain ⟨p, hp⟩ : ∃ q, l[pv]? = some q := ⟨_, List.getElem?_eq_getElem (by rw [SL.out]; exact HPN.out)⟩
 have HP := qH hp
 clear hp
 go_enter Try.func54, Try.ntmps54
 go_wp2_with fail
 refine mc_start (fun V => w.grownBy V (some g)) (fun V => V.heap[g]? = w.heap[g]?) 13 (by kernel_rfl) (fun wd hwd => ?_)
 have hX : w.grownBy wd (some g) := by rw [hwd]; exact grownS_drew _ _
 have hY : wd.heap[g]? = w.heap[g]? := by rw [hwd]; rfl
 have GW := qH (grownS_trans GD.out hX)
 have HWD := qH hwd
 clear hwd
 refine mc_take (i := 0) (oi := ⟨some 11, _, _, _, _, _⟩) (v := ?_) rfl (by kernel_rfl) (by kernel_rfl) (by kernel_rfl) (fun _ _ _ h => h) rfl hX ?_ ?_; rotate_left; (intro W hW; go_simp; try with_reducible rfl); simp only [Act.put, qA, qB, qC]
 refine mc_take (i := 1) (oi := ⟨some 12, _, _, _, _, _⟩) (v := ?_) rfl (by kernel_rfl) (by kernel_rfl) (by kernel_rfl) (fun _ _ _ h => h) rfl hX ?_ ?_; rotate_left; (intro W hW; go_simp; try with_reducible rfl); simp only [Act.put, qA, qB, qC]
 refine mc_take (i := 2) (oi := ⟨some 13, _, _, _, _, _⟩) (v := ?_) rfl (by kernel_rfl) (by kernel_rfl) (by kernel_rfl) (fun _ _ _ h => h) rfl hX ?_ ?_; rotate_left; (intro W hW; go_simp; try with_reducible rfl); simp only [Act.put, qA, qB, qC]
 refine mc_take (i := 3) (oi := ⟨some 14, _, _, _, _, _⟩) (v := ?_) rfl (by kernel_rfl) (by kernel_rfl) (by kernel_rfl) (fun _ _ _ h => h) rfl hX ?_ ?_; rotate_left; (intro W hW; go_simp; try with_reducible rfl); simp only [Act.put, qA, qB, qC]
 refine mc_take (i := 4) (oi := ⟨some 15, _, _, _, _, _⟩) (v := ?_) rfl (by kernel_rfl) (by kernel_rfl) (by kernel_rfl) (fun _ _ _ h => h) rfl hX ?_ ?_; rotate_left; (intro W hW; go_simp; try with_reducible rfl); simp only [Act.put, qA, qB, qC]
 refine mc_take (i := 5) (oi := ⟨some 16, _, _, _, _, _⟩) (v := ?_) rfl (by kernel_rfl) (by kernel_rfl) (by kernel_rfl) (fun _ _ _ h => h) rfl hX ?_ ?_; rotate_left; (intro W hW; go_simp; try with_reducible rfl); simp only [Act.put, qA, qB, qC]
 refine mc_take (i := 6) (oi := ⟨some 17, _, _, _, _, _⟩) (v := .pointer (some ⟨g, pv, none⟩)) rfl (by kernel_rfl) (by kernel_rfl) (by kernel_rfl) (fun _ _ _ h => h) rfl hX (fun V _ => ix_y (.tmp 15) (.tmp 16) rfl rfl rfl HPN.out V) ?_; simp only [Act.put, qA, qB, qC]
 refine mc_takeS (i := 7) (oi := ⟨some 18, _, _, _, _, _⟩) (v := bv p) rfl (by kernel_rfl) (by kernel_rfl) (by kernel_rfl) (fun _ _ _ h => h) rfl hX hY (fun V hT hS => ld_yt (.tmp 17) rfl rfl (cell_same hS (SD.out.cell HP.out))) ?_; simp only [Act.put, qA, qB, qC]
 refine mc_take (i := 8) (oi := ⟨some 19, _, _, _, _, _⟩) (v := ?_) rfl (by kernel_rfl) (by kernel_rfl) (by kernel_rfl) (fun _ _ _ h => h) rfl hX ?_ ?_; rotate_left; (intro W hW; go_simp; try with_reducible rfl); simp only [Act.put, qA, qB, qC]
 refine mc_take (i := 9) (oi := ⟨some 20, _, _, _, _, _⟩) (v := ?_) rfl (by kernel_rfl) (by kernel_rfl) (by kernel_rfl) (fun _ _ _ h => h) rfl hX ?_ ?_; rotate_left; (intro W hW; go_simp; try with_reducible rfl); simp only [Act.put, qA, qB, qC]
 refine mc_take (i := 10) (oi := ⟨some 21, _, _, _, _, _⟩) (v := .pointer (some ⟨g, a, none⟩)) rfl (by kernel_rfl) (by kernel_rfl) (by kernel_rfl) (fun _ _ _ h => h) rfl hX (fun V _ => ix_y (.tmp 19) (.tmp 20) rfl rfl rfl HAN.out V) ?_; simp only [Act.put, qA, qB, qC]
 refine mc_takeS (i := 11) (oi := ⟨some 22, _, _, _, _, _⟩) (v := bv q) rfl (by kernel_rfl) (by kernel_rfl) (by kernel_rfl) (fun _ _ _ h => h) rfl hX hY (fun V hT hS => ld_yt (.tmp 21) rfl rfl (cell_same hS (SD.out.cell HQ.out))) ?_; simp only [Act.put, qA, qB, qC]
 refine mc_take (i := 12) (oi := ⟨some 23, _, _, _, _, _⟩) (v := .pointer (some ⟨g, a, none⟩)) rfl (by kernel_rfl) (by kernel_rfl) (by kernel_rfl) (fun _ _ _ h => h) rfl hX (fun V _ => ix_y (.tmp 11) (.tmp 12) rfl rfl rfl HAN.out V) ?_; simp only [Act.put, qA, qB, qC]
 refine mc_last (i := 13) (o := ⟨none, _, _, _, _, _⟩) rfl (by kernel_rfl) rfl (fun K hK => ?_)
 have HZ := qH (show Dat wd g zs l from SD.out.keep hY)
 refine wp_stY (.tmp 23) (.tmp 18) rfl g a rfl p rfl _ (HZ.out.cell HQ.out) (HZ.out.frozen _) ?_
 refine hK _ _ (grownS_set hX _ _) ?_
 clear hK K
 have HZ2 := qH (HZ.out.set (List.getElem?_eq_some_iff.1 HQ.out).1 p)
 have HC2 := qH (dat_hit HZ2.out (i := pv) (by rw [List.length_set]; exact (List.getElem?_eq_some_iff.1 HP.out).1))
 clear hY
 replace hX := grownS_set hX a (bv p)
 (try simp only [Act.put, qA, qB, qC])
 refine mc_take (i := 14) (oi := ⟨some 24, _, _, _, _, _⟩) (v := .pointer (some ⟨g, pv, none⟩)) rfl (by kernel_rfl) (by kernel_rfl) (by kernel_rfl) (fun _ _ _ h => h) rfl hX (fun V _ => ix_y (.tmp 13) (.tmp 14) rfl rfl rfl HPN.out V) ?_; simp only [Act.put, qA, qB, qC]
 refine mc_last (i := 15) (o := ⟨none, _, _, _, _, _⟩) rfl (by kernel_rfl) rfl (fun K hK => ?_)
 refine wp_stY (.tmp 24) (.tmp 22) rfl g pv rfl q rfl _ HC2.out (HZ2.out.frozen _) ?_
 refine hK _ _ (grownS_set hX _ _) ?_
 clear hK K hX
 (try simp only [Act.put, qA, qB, qC])
 refine wpAnyC_done (by kernel_rfl) ?_ _
 have HSW := qH (SoP.swap PL.out HZ.out GW.out HP.out HQ.out)
 have HT := HSW
 clear HSW HP HQ HZ HZ2 HC2 GW HWD SD GD PL SL
 go_wp2_with fail
 go_loopw [9, 10] (fun iv jv wl => ∃ i j : Nat, iv = .int .i64 (i : Int) ∧ jv = .int .i64 (j : Int) ∧ a + 1 ≤ i ∧ i ≤ b ∧ a ≤ j ∧ j ≤ b1 ∧ SoP g zs l0 w wl) (fun iv _ _ => b + 1 - (intOf iv).toNat)
 case atStart => exact ⟨a + 1, b1, by simp, rfl, Nat.le_refl _, HAB.out, HAB1.out, Nat.le_refl _, HT.out⟩
 clear HT
 obtain ⟨i0, j, rfl, rfl, hai, hib, haj, hjb, hs⟩ := hrel
 have HS := qH hs
 have HAI0 := qH hai
 have HIB0 := qH hib
 have HAJ := qH haj
 have HJB := qH hjb
 have HJN := qH (show j < n from Nat.lt_of_le_of_lt hjb HB1.out)
 clear hs hai hib haj hjb
 go_wp2_with fail
 go_loopw [9] (fun iv wl => ∃ i : Nat, iv = .int .i64 (i : Int) ∧ i0 ≤ i ∧ i ≤ b ∧ SoP g zs l0 w wl) (fun iv _ => b - (intOf iv).toNat)
 case atStart => exact ⟨i0, rfl, Nat.le_refl _, HIB0.out, HS.out⟩
 clear HS
 obtain ⟨i, rfl, hii, hib, hs⟩ := hrel
 have HS := qH hs
 have HAI := qH (Nat.le_trans HAI0.out hii)
 have HII := qH hii
 have HIB := qH hib
 rename_i wr
 clear hs hii hib
 obtain ⟨l, hp, hd⟩ := HS.out.dat
 have PL := qH hp
 have SD := qH hd
 have GD := qH HS.out.grown
 have SL := qH (show l.length = n by rw [hp.length_eq]; exact HL.out)
 clear hp hd
 clear HS
 obtain ⟨u, hu⟩ : ∃ q, l[a]? = some q := ⟨_, List.getElem?_eq_getElem (by rw [SL.out]; exact HAN.out)⟩
 have HU := qH hu
 clear hu
 by_cases hij : i ≤ j
 focus
  have HIJ := qH hij
  have HIN := qH (show i < n from Nat.lt_of_le_of_lt hij HJN.out)
  have HIB2 := qH (show i + 1 ≤ b by have h1 := HJB.out; have h2 := HBE.out; clear e1 e2 e3 e4; omega)
  have f1 := wrap_one i (Nat.le_trans (Nat.le_of_lt HIN.out) (Nat.le_trans HN.out (by decide)))
  have f2 := wrap_one' i (Nat.le_trans (Nat.le_of_lt HIN.out) (Nat.le_trans HN.out (by decide)))
  have HMI := qH (sub_next (show i < b from HIB2.out))
  obtain ⟨v, hv⟩ : ∃ q, l[i]? = some q := ⟨_, List.getElem?_eq_getElem (by rw [SL.out]; exact HIN.out)⟩
  have HV := qH hv
  clear hv
  obtain ⟨c, hc⟩ : ∃ c, c = decide (u.toNat < v.toNat) := ⟨_, rfl⟩
  have HC := qH hc
  clear hc
  clear hij
  go_wp2_with fail
  refine sg_start (S := IsW wr.drew) (by kernel_rfl) rfl (fun wd hwd => ?_)
  have hX : IsW _ wd := hwd
  clear hwd
  refine sg_take (i := 0) (oi := ⟨some 29, _, _, _, _, _⟩) (v := ?_) rfl (by kernel_rfl) (by kernel_rfl) (by kernel_rfl) (fun _ _ _ h => h) rfl hX ?_ ?_; rotate_left; (intro W hW; go_simp; try with_reducible rfl); simp only [Act.put, qA, qB, qC]
  refine sg_take (i := 1) (oi := ⟨some 30, _, _, _, _, _⟩) (v := ?_) rfl (by kernel_rfl) (by kernel_rfl) (by kernel_rfl) (fun _ _ _ h => h) rfl hX ?_ ?_; rotate_left; (intro W hW; go_simp; try with_reducible rfl); simp only [Act.put, qA, qB, qC]
  refine sg_take (i := 2) (oi := ⟨some 31, _, _, _, _, _⟩) (v := .bool true) rfl (by kernel_rfl) (by kernel_rfl) (by kernel_rfl) (fun _ _ _ h => h) rfl hX (fun V _ => ex_leY (.tmp 29) (.tmp 30) rfl (i := i) (j := j) rfl rfl (decide_eq_true HIJ.out) V) ?_; simp only [Act.put, qA, qB, qC]
  refine sg_take (i := 3) (oi := ⟨some 32, _, _, _, _, _⟩) (v := ?_) rfl (by kernel_rfl) (by kernel_rfl) (by kernel_rfl) (fun _ _ _ h => h) rfl hX ?_ ?_; rotate_left; (intro W hW; go_simp; try with_reducible rfl); simp only [Act.put, qA, qB, qC]
  refine sg_take (i := 4) (oi := ⟨some 33, _, _, _, _, _⟩) (v := ?_) rfl (by kernel_rfl) (by kernel_rfl) (by kernel_rfl) (fun _ _ _ h => h) rfl hX ?_ ?_; rotate_left; (intro W hW; go_simp; try with_reducible rfl); simp only [Act.put, qA, qB, qC]
  refine sg_take (i := 5) (oi := ⟨some 34, _, _, _, _, _⟩) (v := ?_) rfl (by kernel_rfl) (by kernel_rfl) (by kernel_rfl) (fun _ _ _ h => h) rfl hX ?_ ?_; rotate_left; (intro W hW; go_simp; try with_reducible rfl); simp only [Act.put, qA, qB, qC]
  refine sg_take (i := 6) (oi := ⟨some 35, _, _, _, _, _⟩) (v := .pointer (some ⟨g, a, none⟩)) rfl (by kernel_rfl) (by kernel_rfl) (by kernel_rfl) (fun _ _ _ h => h) rfl hX (fun V _ => ix_y (.tmp 33) (.tmp 34) rfl rfl rfl HAN.out V) ?_; simp only [Act.put, qA, qB, qC]
  refine sg_take (i := 7) (oi := ⟨some 36, _, _, _, _, _⟩) (v := bv u) rfl (by kernel_rfl) (by kernel_rfl) (by kernel_rfl) (fun _ _ _ h => h) rfl hX (fun V hV => ld_yt (.tmp 35) rfl rfl ((SD.out.is hV).cell HU.out)) ?_; simp only [Act.put, qA, qB, qC]
  refine sg_take (i := 8) (oi := ⟨some 37, _, _, _, _, _⟩) (v := ?_) rfl (by kernel_rfl) (by kernel_rfl) (by kernel_rfl) (fun _ _ _ h => h) rfl hX ?_ ?_; rotate_left; (intro W hW; go_simp; try with_reducible rfl); simp only [Act.put, qA, qB, qC]
  refine sg_take (i := 9) (oi := ⟨some 38, _, _, _, _, _⟩) (v := ?_) rfl (by kernel_rfl) (by kernel_rfl) (by kernel_rfl) (fun _ _ _ h => h) rfl hX ?_ ?_; rotate_left; (intro W hW; go_simp; try with_reducible rfl); simp only [Act.put, qA, qB, qC]
  refine sg_take (i := 10) (oi := ⟨some 39, _, _, _, _, _⟩) (v := .pointer (some ⟨g, i, none⟩)) rfl (by kernel_rfl) (by kernel_rfl) (by kernel_rfl) (fun _ _ _ h => h) rfl hX (fun V _ => ix_y (.tmp 37) (.tmp 38) rfl rfl rfl HIN.out V) ?_; simp only [Act.put, qA, qB, qC]
  refine sg_take (i := 11) (oi := ⟨some 40, _, _, _, _, _⟩) (v := bv v) rfl (by kernel_rfl) (by kernel_rfl) (by kernel_rfl) (fun _ _ _ h => h) rfl hX (fun V hV => ld_yt (.tmp 39) rfl rfl ((SD.out.is hV).cell HV.out)) ?_; simp only [Act.put, qA, qB, qC]
  refine sg_actB (i := 12) (o := ⟨some 41, _, _, _, _, _⟩) rfl (by kernel_rfl) rfl hX (fun K hK => ?_)
  go_wp2_with fail
  refine (lessY_any _ _ _).mono ?_
  rintro e we ⟨rfl, hwe⟩
  subst hwe
  rw [← HC.out]
  go_wp2_with fail
  refine hK _ _ hX ?_
  clear hK K
  (try simp only [Act.put, qA, qB, qC])
  refine sg_take (i := 13) (oi := ⟨some 42, _, _, _, _, _⟩) (v := ?_) rfl (by kernel_rfl) (by kernel_rfl) (by kernel_rfl) (fun _ _ _ h => h) rfl hX ?_ ?_; rotate_left; (intro W hW; go_simp; try with_reducible rfl); simp only [Act.put, qA, qB, qC]
  refine sg_take (i := 14) (oi := ⟨some 43, _, _, _, _, _⟩) (v := ?_) rfl (by kernel_rfl) (by kernel_rfl) (by kernel_rfl) (fun _ _ _ h => h) rfl hX ?_ ?_; rotate_left; (intro W hW; go_simp; try with_reducible rfl); simp only [Act.put, qA, qB, qC]
  refine wpAnyH_done (by kernel_rfl) ?_ _
  have HS := qH (show SoP g zs l0 w _ from ⟨⟨l, PL.out, SD.out.is hX⟩, grownS_is GD.out hX⟩)
  clear hX SD GD PL SL
  rcases c with _ | _
  focus
   go_wp2_with fail
   exact ⟨⟨i + 1, by simp, Nat.le_succ_of_le HII.out, HIB2.out, HS.out⟩, by simpa [intOf] using HMI.out⟩
  simp only [Bool.not_true]
  clear HV HC HIN HIB2 HMI f1 f2 HIJ HU
  obtain ⟨wr, hwr⟩ : ∃ v : World, v = we := ⟨_, rfl⟩
  subst hwr
 rotate_left
 focus
  have HIJ := qH hij
  clear hij
  go_wp2_with fail
  refine sg_start (S := IsW wr.drew) (by kernel_rfl) rfl (fun wd hwd => ?_)
  have hX : IsW _ wd := hwd
  clear hwd
  refine sg_take (i := 0) (oi := ⟨some 29, _, _, _, _, _⟩) (v := ?_) rfl (by kernel_rfl) (by kernel_rfl) (by kernel_rfl) (fun _ _ _ h => h) rfl hX ?_ ?_; rotate_left; (intro W hW; go_simp; try with_reducible rfl); simp only [Act.put, qA, qB, qC]
  refine sg_take (i := 1) (oi := ⟨some 30, _, _, _, _, _⟩) (v := ?_) rfl (by kernel_rfl) (by kernel_rfl) (by kernel_rfl) (fun _ _ _ h => h) rfl hX ?_ ?_; rotate_left; (intro W hW; go_simp; try with_reducible rfl); simp only [Act.put, qA, qB, qC]
  refine sg_take (i := 2) (oi := ⟨some 31, _, _, _, _, _⟩) (v := .bool false) rfl (by kernel_rfl) (by kernel_rfl) (by kernel_rfl) (fun _ _ _ h => h) rfl hX (fun V _ => ex_leY (.tmp 29) (.tmp 30) rfl (i := i) (j := j) rfl rfl (decide_eq_false HIJ.out) V) ?_; simp only [Act.put, qA, qB, qC]
  refine sg_take (i := 3) (oi := ⟨some 32, _, _, _, _, _⟩) (v := ?_) rfl (by kernel_rfl) (by kernel_rfl) (by kernel_rfl) (fun _ _ _ h => h) rfl hX ?_ ?_; rotate_left; (intro W hW; go_simp; try with_reducible rfl); simp only [Act.put, qA, qB, qC]
  refine sg_skip (i := 4) (oi := ⟨some 33, _, _, _, _, _⟩) rfl (by kernel_rfl) (by kernel_rfl) (by kernel_rfl) (fun _ _ _ h => h) rfl hX ?_; simp only [Act.put, qA, qB, qC]
  refine sg_skip (i := 5) (oi := ⟨some 34, _, _, _, _, _⟩) rfl (by kernel_rfl) (by kernel_rfl) (by kernel_rfl) (fun _ _ _ h => h) rfl hX ?_; simp only [Act.put, qA, qB, qC]
  refine sg_skip (i := 6) (oi := ⟨some 35, _, _, _, _, _⟩) rfl (by kernel_rfl) (by kernel_rfl) (by kernel_rfl) (fun _ _ _ h => h) rfl hX ?_; simp only [Act.put, qA, qB, qC]
  refine sg_skip (i := 7) (oi := ⟨some 36, _, _, _, _, _⟩) rfl (by kernel_rfl) (by kernel_rfl) (by kernel_rfl) (fun _ _ _ h => h) rfl hX ?_; simp only [Act.put, qA, qB, qC]
  refine sg_skip (i := 8) (oi := ⟨some 37, _, _, _, _, _⟩) rfl (by kernel_rfl) (by kernel_rfl) (by kernel_rfl) (fun _ _ _ h => h) rfl hX ?_; simp only [Act.put, qA, qB, qC]
  refine sg_skip (i := 9) (oi := ⟨some 38, _, _, _, _, _⟩) rfl (by kernel_rfl) (by kernel_rfl) (by kernel_rfl) (fun _ _ _ h => h) rfl hX ?_; simp only [Act.put, qA, qB, qC]
  refine sg_skip (i := 10) (oi := ⟨some 39, _, _, _, _, _⟩) rfl (by kernel_rfl) (by kernel_rfl) (by kernel_rfl) (fun _ _ _ h => h) rfl hX ?_; simp only [Act.put, qA, qB, qC]
  refine sg_skip (i := 11) (oi := ⟨some 40, _, _, _, _, _⟩) rfl (by kernel_rfl) (by kernel_rfl) (by kernel_rfl) (fun _ _ _ h => h) rfl hX ?_; simp only [Act.put, qA, qB, qC]
  refine sg_skip (i := 12) (oi := ⟨some 41, _, _, _, _, _⟩) rfl (by kernel_rfl) (by kernel_rfl) (by kernel_rfl) (fun _ _ _ h => h) rfl hX ?_; simp only [Act.put, qA, qB, qC]
  refine sg_skip (i := 13) (oi := ⟨some 42, _, _, _, _, _⟩) rfl (by kernel_rfl) (by kernel_rfl) (by kernel_rfl) (fun _ _ _ h => h) rfl hX ?_; simp only [Act.put, qA, qB, qC]
  refine sg_take (i := 14) (oi := ⟨some 43, _, _, _, _, _⟩) (v := ?_) rfl (by kernel_rfl) (by kernel_rfl) (by kernel_rfl) (fun _ _ _ h => h) rfl hX ?_ ?_; rotate_left; (intro W hW; go_simp; try with_reducible rfl); simp only [Act.put, qA, qB, qC]
  refine wpAnyH_done (by kernel_rfl) ?_ _
  have HS := qH (show SoP g zs l0 w _ from ⟨⟨l, PL.out, SD.out.is hX⟩, grownS_is GD.out hX⟩)
  clear hX SD GD PL SL
  clear HIJ HU
  obtain ⟨wr, hwr⟩ : ∃ v : World, v = wd := ⟨_, rfl⟩
  subst hwr
 all_goals
  go_wp2_with fail
  go_loopw [10] (fun jv wl => ∃ j : Nat, jv = .int .i64 (j : Int) ∧ a ≤ j ∧ j ≤ b1 ∧ SoP g zs l0 w wl) (fun jv _ => (intOf jv).toNat)
  case atStart => exact ⟨j, rfl, HAJ.out, HJB.out, HS.out⟩
  clear HS HAJ HJB HJN
  obtain ⟨j, rfl, haj, hjb, hs⟩ := hrel
  have HS := qH hs
  have HAJ := qH haj
  have HJB := qH hjb
  have HJN := qH (show j < n from Nat.lt_of_le_of_lt hjb HB1.out)
  rename_i wr
  clear hs haj hjb
  obtain ⟨l, hp, hd⟩ := HS.out.dat
  have PL := qH hp
  have SD := qH hd
  have GD := qH HS.out.grown
  have SL := qH (show l.length = n by rw [hp.length_eq]; exact HL.out)
  clear hp hd
  clear HS
  obtain ⟨u, hu⟩ : ∃ q, l[a]? = some q := ⟨_, List.getElem?_eq_getElem (by rw [SL.out]; exact HAN.out)⟩
  have HU := qH hu
  clear hu
  obtain ⟨v, hv⟩ : ∃ q, l[j]? = some q := ⟨_, List.getElem?_eq_getElem (by rw [SL.out]; exact HJN.out)⟩
  have HV := qH hv
  clear hv
  obtain ⟨c, hc⟩ : ∃ c, c = decide (u.toNat < v.toNat) := ⟨_, rfl⟩
  have HC := qH hc
  clear hc
  by_cases hij : i ≤ j
  focus
   have HIJ := qH hij
   have HIN := qH (show i < n from Nat.lt_of_le_of_lt hij HJN.out)
   obtain ⟨j1, hj1⟩ := pre_ex (Nat.lt_of_lt_of_le (Nat.lt_of_lt_of_le (Nat.succ_pos a) HAI.out) hij)
   have HAJ1 := qH (show a ≤ j1 by have h1 := HAI.out; clear e1 e2 e3 e4; omega)
   have HJB1 := qH (show j1 ≤ b1 by have h1 := HJB.out; clear e1 e2 e3 e4; omega)
   have HM := qH (show j1 < j by rw [← hj1]; exact Nat.lt_succ_self j1)
   have f1 := wrap_one i (Nat.le_trans (Nat.le_of_lt HIN.out) (Nat.le_trans HN.out (by decide)))
   have f2 := wrap_one' i (Nat.le_trans (Nat.le_of_lt HIN.out) (Nat.le_trans HN.out (by decide)))
   have k1 := sub_w hj1 (Nat.le_trans HJB1.out (Nat.le_trans (Nat.le_of_lt HB1.out) HN.out))
   have k2 := sub_k hj1 (Nat.le_trans HJB1.out (Nat.le_trans (Nat.le_of_lt HB1.out) HN.out))
   have HIB2 := qH (show i + 1 ≤ b by have h1 := HJB.out; have h2 := HBE.out; clear e1 e2 e3 e4 f1 f2 k1 k2; omega)
   have HMI := qH (show b + 1 - (i + 1) < b + 1 - i0 by have h1 := HII.out; have h2 := HIB2.out; clear e1 e2 e3 e4 f1 f2 k1 k2; omega)
   have z1 : ¬ ((j : Int) < (i : Int)) := fun h => Nat.not_lt.2 hij (Int.ofNat_lt.1 h)
   have z2 : ¬ (j < i) := Nat.not_lt.2 hij
   clear hij hj1
   go_wp2_with fail
   refine sg_start (S := IsW wr.drew) (by kernel_rfl) rfl (fun wd hwd => ?_)
   have hX : IsW _ wd := hwd
   clear hwd
   refine sg_take (i := 0) (oi := ⟨some 46, _, _, _, _, _⟩) (v := ?_) rfl (by kernel_rfl) (by kernel_rfl) (by kernel_rfl) (fun _ _ _ h => h) rfl hX ?_ ?_; rotate_left; (intro W hW; go_simp; try with_reducible rfl); simp only [Act.put, qA, qB, qC]
   refine sg_take (i := 1) (oi := ⟨some 47, _, _, _, _, _⟩) (v := ?_) rfl (by kernel_rfl) (by kernel_rfl) (by kernel_rfl) (fun _ _ _ h => h) rfl hX ?_ ?_; rotate_left; (intro W hW; go_simp; try with_reducible rfl); simp only [Act.put, qA, qB, qC]
   refine sg_take (i := 2) (oi := ⟨some 48, _, _, _, _, _⟩) (v := .bool true) rfl (by kernel_rfl) (by kernel_rfl) (by kernel_rfl) (fun _ _ _ h => h) rfl hX (fun V _ => ex_leY (.tmp 46) (.tmp 47) rfl (i := i) (j := j) rfl rfl (decide_eq_true HIJ.out) V) ?_; simp only [Act.put, qA, qB, qC]
   refine sg_take (i := 3) (oi := ⟨some 49, _, _, _, _, _⟩) (v := ?_) rfl (by kernel_rfl) (by kernel_rfl) (by kernel_rfl) (fun _ _ _ h => h) rfl hX ?_ ?_; rotate_left; (intro W hW; go_simp; try with_reducible rfl); simp only [Act.put, qA, qB, qC]
   refine sg_take (i := 4) (oi := ⟨some 50, _, _, _, _, _⟩) (v := ?_) rfl (by kernel_rfl) (by kernel_rfl) (by kernel_rfl) (fun _ _ _ h => h) rfl hX ?_ ?_; rotate_left; (intro W hW; go_simp; try with_reducible rfl); simp only [Act.put, qA, qB, qC]
   refine sg_take (i := 5) (oi := ⟨some 51, _, _, _, _, _⟩) (v := ?_) rfl (by kernel_rfl) (by kernel_rfl) (by kernel_rfl) (fun _ _ _ h => h) rfl hX ?_ ?_; rotate_left; (intro W hW; go_simp; try with_reducible rfl); simp only [Act.put, qA, qB, qC]
   refine sg_take (i := 6) (oi := ⟨some 52, _, _, _, _, _⟩) (v := .pointer (some ⟨g, a, none⟩)) rfl (by kernel_rfl) (by kernel_rfl) (by kernel_rfl) (fun _ _ _ h => h) rfl hX (fun V _ => ix_y (.tmp 50) (.tmp 51) rfl rfl rfl HAN.out V) ?_; simp only [Act.put, qA, qB, qC]
   refine sg_take (i := 7) (oi := ⟨some 53, _, _, _, _, _⟩) (v := bv u) rfl (by kernel_rfl) (by kernel_rfl) (by kernel_rfl) (fun _ _ _ h => h) rfl hX (fun V hV => ld_yt (.tmp 52) rfl rfl ((SD.out.is hV).cell HU.out)) ?_; simp only [Act.put, qA, qB, qC]
   refine sg_take (i := 8) (oi := ⟨some 54, _, _, _, _, _⟩) (v := ?_) rfl (by kernel_rfl) (by kernel_rfl) (by kernel_rfl) (fun _ _ _ h => h) rfl hX ?_ ?_; rotate_left; (intro W hW; go_simp; try with_reducible rfl); simp only [Act.put, qA, qB, qC]
   refine sg_take (i := 9) (oi := ⟨some 55, _, _, _, _, _⟩) (v := ?_) rfl (by kernel_rfl) (by kernel_rfl) (by kernel_rfl) (fun _ _ _ h => h) rfl hX ?_ ?_; rotate_left; (intro W hW; go_simp; try with_reducible rfl); simp only [Act.put, qA, qB, qC]
   refine sg_take (i := 10) (oi := ⟨some 56, _, _, _, _, _⟩) (v := .pointer (some ⟨g, j, none⟩)) rfl (by kernel_rfl) (by kernel_rfl) (by kernel_rfl) (fun _ _ _ h => h) rfl hX (fun V _ => ix_y (.tmp 54) (.tmp 55) rfl rfl rfl HJN.out V) ?_; simp only [Act.put, qA, qB, qC]
   refine sg_take (i := 11) (oi := ⟨some 57, _, _, _, _, _⟩) (v := bv v) rfl (by kernel_rfl) (by kernel_rfl) (by kernel_rfl) (fun _ _ _ h => h) rfl hX (fun V hV => ld_yt (.tmp 56) rfl rfl ((SD.out.is hV).cell HV.out)) ?_; simp only [Act.put, qA, qB, qC]
   refine sg_actB (i := 12) (o := ⟨some 58, _, _, _, _, _⟩) rfl (by kernel_rfl) rfl hX (fun K hK => ?_)
   go_wp2_with fail
   refine (lessY_any _ _ _).mono ?_
   rintro e we ⟨rfl, hwe⟩
   subst hwe
   rw [← HC.out]
   go_wp2_with fail
   refine hK _ _ hX ?_
   clear hK K
   (try simp only [Act.put, qA, qB, qC])
   refine sg_take (i := 13) (oi := ⟨some 59, _, _, _, _, _⟩) (v := ?_) rfl (by kernel_rfl) (by kernel_rfl) (by kernel_rfl) (fun _ _ _ h => h) rfl hX ?_ ?_; rotate_left; (intro W hW; go_simp; try with_reducible rfl); simp only [Act.put, qA, qB, qC]
   refine wpAnyH_done (by kernel_rfl) ?_ _
   have HS := qH (show SoP g zs l0 w _ from ⟨⟨l, PL.out, SD.out.is hX⟩, grownS_is GD.out hX⟩)
   clear hX SD GD PL SL
   rcases c with _ | _
   rotate_left
   focus
    go_wp2_with fail
    exact ⟨⟨j1, rfl, HAJ1.out, HJB1.out, HS.out⟩, by simpa [intOf] using HM.out⟩
   clear HV HC HU
   obtain ⟨wr, hwr⟩ : ∃ v : World, v = we := ⟨_, rfl⟩
   subst hwr
   obtain ⟨l, hp, hd⟩ := HS.out.dat
   have PL := qH hp
   have SD := qH hd
   have GD := qH HS.out.grown
   have SL := qH (show l.length = n by rw [hp.length_eq]; exact HL.out)
   clear hp hd
   clear HS
   obtain ⟨q, hq⟩ : ∃ q, l[i]? = some q := ⟨_, List.getElem?_eq_getElem (by rw [SL.out]; exact HIN.out)⟩
   have HQ := qH hq
   clear hq
   obtain ⟨p, hp⟩ : ∃ q, l[j]? = some q := ⟨_, List.getElem?_eq_getElem (by rw [SL.out]; exact HJN.out)⟩
   have HP := qH hp
   clear hp
   go_wp2_with fail
   refine mc_start (fun V => wr.grownBy V (some g)) (fun V => V.heap[g]? = wr.heap[g]?) 13 (by kernel_rfl) (fun wd hwd => ?_)
   have hX : wr.grownBy wd (some g) := by rw [hwd]; exact grownS_drew _ _
   have hY : wd.heap[g]? = wr.heap[g]? := by rw [hwd]; rfl
   have GW := qH (grownS_trans GD.out hX)
   have HWD := qH hwd
   clear hwd
   refine mc_take (i := 0) (oi := ⟨some 65, _, _, _, _, _⟩) (v := ?_) rfl (by kernel_rfl) (by kernel_rfl) (by kernel_rfl) (fun _ _ _ h => h) rfl hX ?_ ?_; rotate_left; (intro W hW; go_simp; try with_reducible rfl); simp only [Act.put, qA, qB, qC]
   refine mc_take (i := 1) (oi := ⟨some 66, _, _, _, _, _⟩) (v := ?_) rfl (by kernel_rfl) (by kernel_rfl) (by kernel_rfl) (fun _ _ _ h => h) rfl hX ?_ ?_; rotate_left; (intro W hW; go_simp; try with_reducible rfl); simp only [Act.put, qA, qB, qC]
   refine mc_take (i := 2) (oi := ⟨some 67, _, _, _, _, _⟩) (v := ?_) rfl (by kernel_rfl) (by kernel_rfl) (by kernel_rfl) (fun _ _ _ h => h) rfl hX ?_ ?_; rotate_left; (intro W hW; go_simp; try with_reducible rfl); simp only [Act.put, qA, qB, qC]
   refine mc_take (i := 3) (oi := ⟨some 68, _, _, _, _, _⟩) (v := ?_) rfl (by kernel_rfl) (by kernel_rfl) (by kernel_rfl) (fun _ _ _ h => h) rfl hX ?_ ?_; rotate_left; (intro W hW; go_simp; try with_reducible rfl); simp only [Act.put, qA, qB, qC]
   refine mc_take (i := 4) (oi := ⟨some 69, _, _, _, _, _⟩) (v := ?_) rfl (by kernel_rfl) (by kernel_rfl) (by kernel_rfl) (fun _ _ _ h => h) rfl hX ?_ ?_; rotate_left; (intro W hW; go_simp; try with_reducible rfl); simp only [Act.put, qA, qB, qC]
   refine mc_take (i := 5) (oi := ⟨some 70, _, _, _, _, _⟩) (v := ?_) rfl (by kernel_rfl) (by kernel_rfl) (by kernel_rfl) (fun _ _ _ h => h) rfl hX ?_ ?_; rotate_left; (intro W hW; go_simp; try with_reducible rfl); simp only [Act.put, qA, qB, qC]
   refine mc_take (i := 6) (oi := ⟨some 71, _, _, _, _, _⟩) (v := .pointer (some ⟨g, j, none⟩)) rfl (by kernel_rfl) (by kernel_rfl) (by kernel_rfl) (fun _ _ _ h => h) rfl hX (fun V _ => ix_y (.tmp 69) (.tmp 70) rfl rfl rfl HJN.out V) ?_; simp only [Act.put, qA, qB, qC]
   refine mc_takeS (i := 7) (oi := ⟨some 72, _, _, _, _, _⟩) (v := bv p) rfl (by kernel_rfl) (by kernel_rfl) (by kernel_rfl) (fun _ _ _ h => h) rfl hX hY (fun V hT hS => ld_yt (.tmp 71) rfl rfl (cell_same hS (SD.out.cell HP.out))) ?_; simp only [Act.put, qA, qB, qC]
   refine mc_take (i := 8) (oi := ⟨some 73, _, _, _, _, _⟩) (v := ?_) rfl (by kernel_rfl) (by kernel_rfl) (by kernel_rfl) (fun _ _ _ h => h) rfl hX ?_ ?_; rotate_left; (intro W hW; go_simp; try with_reducible rfl); simp only [Act.put, qA, qB, qC]
   refine mc_take (i := 9) (oi := ⟨some 74, _, _, _, _, _⟩) (v := ?_) rfl (by kernel_rfl) (by kernel_rfl) (by kernel_rfl) (fun _ _ _ h => h) rfl hX ?_ ?_; rotate_left; (intro W hW; go_simp; try with_reducible rfl); simp only [Act.put, qA, qB, qC]
   refine mc_take (i := 10) (oi := ⟨some 75, _, _, _, _, _⟩) (v := .pointer (some ⟨g, i, none⟩)) rfl (by kernel_rfl) (by kernel_rfl) (by kernel_rfl) (fun _ _ _ h => h) rfl hX (fun V _ => ix_y (.tmp 73) (.tmp 74) rfl rfl rfl HIN.out V) ?_; simp only [Act.put, qA, qB, qC]
   refine mc_takeS (i := 11) (oi := ⟨some 76, _, _, _, _, _⟩) (v := bv q) rfl (by kernel_rfl) (by kernel_rfl) (by kernel_rfl) (fun _ _ _ h => h) rfl hX hY (fun V hT hS => ld_yt (.tmp 75) rfl rfl (cell_same hS (SD.out.cell HQ.out))) ?_; simp only [Act.put, qA, qB, qC]
   refine mc_take (i := 12) (oi := ⟨some 77, _, _, _, _, _⟩) (v := .pointer (some ⟨g, i, none⟩)) rfl (by kernel_rfl) (by kernel_rfl) (by kernel_rfl) (fun _ _ _ h => h) rfl hX (fun V _ => ix_y (.tmp 65) (.tmp 66) rfl rfl rfl HIN.out V) ?_; simp only [Act.put, qA, qB, qC]
   refine mc_last (i := 13) (o := ⟨none, _, _, _, _, _⟩) rfl (by kernel_rfl) rfl (fun K hK => ?_)
   have HZ := qH (show Dat wd g zs l from SD.out.keep hY)
   refine wp_stY (.tmp 77) (.tmp 72) rfl g i rfl p rfl _ (HZ.out.cell HQ.out) (HZ.out.frozen _) ?_
   refine hK _ _ (grownS_set hX _ _) ?_
   clear hK K
   have HZ2 := qH (HZ.out.set (List.getElem?_eq_some_iff.1 HQ.out).1 p)
   have HC2 := qH (dat_hit HZ2.out (i := j) (by rw [List.length_set]; exact (List.getElem?_eq_some_iff.1 HP.out).1))
   clear hY
   replace hX := grownS_set hX i (bv p)
   (try simp only [Act.put, qA, qB, qC])
   refine mc_take (i := 14) (oi := ⟨some 78, _, _, _, _, _⟩) (v := .pointer (some ⟨g, j, none⟩)) rfl (by kernel_rfl) (by kernel_rfl) (by kernel_rfl) (fun _ _ _ h => h) rfl hX (fun V _ => ix_y (.tmp 67) (.tmp 68) rfl rfl rfl HJN.out V) ?_; simp only [Act.put, qA, qB, qC]
   refine mc_last (i := 15) (o := ⟨none, _, _, _, _, _⟩) rfl (by kernel_rfl) rfl (fun K hK => ?_)
   refine wp_stY (.tmp 78) (.tmp 76) rfl g j rfl q rfl _ HC2.out (HZ2.out.frozen _) ?_
   refine hK _ _ (grownS_set hX _ _) ?_
   clear hK K hX
   (try simp only [Act.put, qA, qB, qC])
   refine wpAnyC_done (by kernel_rfl) ?_ _
   have HSW := qH (SoP.swap PL.out HZ.out GW.out HP.out HQ.out)
   go_wp2_with fail
   exact ⟨⟨i + 1, j1, by simp, rfl, Nat.le_succ_of_le HAI.out, HIB2.out, HAJ1.out, HJB1.out, HSW.out⟩, by simpa [intOf] using HMI.out⟩
  focus
   have HIJ := qH hij
   have z1 : (j : Int) < (i : Int) := Int.ofNat_lt.2 (Nat.lt_of_not_le hij)
   have z2 : j < i := Nat.lt_of_not_le hij
   clear hij
   go_wp2_with fail
   refine sg_start (S := IsW wr.drew) (by kernel_rfl) rfl (fun wd hwd => ?_)
   have hX : IsW _ wd := hwd
   clear hwd
   refine sg_take (i := 0) (oi := ⟨some 46, _, _, _, _, _⟩) (v := ?_) rfl (by kernel_rfl) (by kernel_rfl) (by kernel_rfl) (fun _ _ _ h => h) rfl hX ?_ ?_; rotate_left; (intro W hW; go_simp; try with_reducible rfl); simp only [Act.put, qA, qB, qC]
   refine sg_take (i := 1) (oi := ⟨some 47, _, _, _, _, _⟩) (v := ?_) rfl (by kernel_rfl) (by kernel_rfl) (by kernel_rfl) (fun _ _ _ h => h) rfl hX ?_ ?_; rotate_left; (intro W hW; go_simp; try with_reducible rfl); simp only [Act.put, qA, qB, qC]
   refine sg_take (i := 2) (oi := ⟨some 48, _, _, _, _, _⟩) (v := .bool false) rfl (by kernel_rfl) (by kernel_rfl) (by kernel_rfl) (fun _ _ _ h => h) rfl hX (fun V _ => ex_leY (.tmp 46) (.tmp 47) rfl (i := i) (j := j) rfl rfl (decide_eq_false HIJ.out) V) ?_; simp only [Act.put, qA, qB, qC]
   refine sg_take (i := 3) (oi := ⟨some 49, _, _, _, _, _⟩) (v := ?_) rfl (by kernel_rfl) (by kernel_rfl) (by kernel_rfl) (fun _ _ _ h => h) rfl hX ?_ ?_; rotate_left; (intro W hW; go_simp; try with_reducible rfl); simp only [Act.put, qA, qB, qC]
   refine sg_skip (i := 4) (oi := ⟨some 50, _, _, _, _, _⟩) rfl (by kernel_rfl) (by kernel_rfl) (by kernel_rfl) (fun _ _ _ h => h) rfl hX ?_; simp only [Act.put, qA, qB, qC]
   refine sg_skip (i := 5) (oi := ⟨some 51, _, _, _, _, _⟩) rfl (by kernel_rfl) (by kernel_rfl) (by kernel_rfl) (fun _ _ _ h => h) rfl hX ?_; simp only [Act.put, qA, qB, qC]
   refine sg_skip (i := 6) (oi := ⟨some 52, _, _, _, _, _⟩) rfl (by kernel_rfl) (by kernel_rfl) (by kernel_rfl) (fun _ _ _ h => h) rfl hX ?_; simp only [Act.put, qA, qB, qC]
   refine sg_skip (i := 7) (oi := ⟨some 53, _, _, _, _, _⟩) rfl (by kernel_rfl) (by kernel_rfl) (by kernel_rfl) (fun _ _ _ h => h) rfl hX ?_; simp only [Act.put, qA, qB, qC]
   refine sg_skip (i := 8) (oi := ⟨some 54, _, _, _, _, _⟩) rfl (by kernel_rfl) (by kernel_rfl) (by kernel_rfl) (fun _ _ _ h => h) rfl hX ?_; simp only [Act.put, qA, qB, qC]
   refine sg_skip (i := 9) (oi := ⟨some 55, _, _, _, _, _⟩) rfl (by kernel_rfl) (by kernel_rfl) (by kernel_rfl) (fun _ _ _ h => h) rfl hX ?_; simp only [Act.put, qA, qB, qC]
   refine sg_skip (i := 10) (oi := ⟨some 56, _, _, _, _, _⟩) rfl (by kernel_rfl) (by kernel_rfl) (by kernel_rfl) (fun _ _ _ h => h) rfl hX ?_; simp only [Act.put, qA, qB, qC]
   refine sg_skip (i := 11) (oi := ⟨some 57, _, _, _, _, _⟩) rfl (by kernel_rfl) (by kernel_rfl) (by kernel_rfl) (fun _ _ _ h => h) rfl hX ?_; simp only [Act.put, qA, qB, qC]
   refine sg_skip (i := 12) (oi := ⟨some 58, _, _, _, _, _⟩) rfl (by kernel_rfl) (by kernel_rfl) (by kernel_rfl) (fun _ _ _ h => h) rfl hX ?_; simp only [Act.put, qA, qB, qC]
   refine sg_take (i := 13) (oi := ⟨some 59, _, _, _, _, _⟩) (v := ?_) rfl (by kernel_rfl) (by kernel_rfl) (by kernel_rfl) (fun _ _ _ h => h) rfl hX ?_ ?_; rotate_left; (intro W hW; go_simp; try with_reducible rfl); simp only [Act.put, qA, qB, qC]
   refine wpAnyH_done (by kernel_rfl) ?_ _
   have HS := qH (show SoP g zs l0 w _ from ⟨⟨l, PL.out, SD.out.is hX⟩, grownS_is GD.out hX⟩)
   clear hX SD GD PL SL
   go_wp2_with fail
   go_ret
   exact ⟨i, HAI.out, HIB.out, rfl, HS.out⟩
end Go.Proofs.Ytbbodfpnneifgaa
