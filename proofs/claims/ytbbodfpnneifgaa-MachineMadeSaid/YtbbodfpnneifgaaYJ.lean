/-
  Texts of this proof, put together: SoD. No statement is proved here.
-/
import Derived.Test.YtbbodfpnneifgaaYG
namespace Go.Proofs.Ytbbodfpnneifgaa
open Go.RowKit
set_option linter.unusedSimpArgs false
set_option linter.unusedVariables false
theorem two_w (r m : Nat) (h : m = 2 * r) (hb : m ≤ 4194304) : wrap64 (2 * (r : Int)) = (m : Int) := by
 rw [show 2 * (r : Int) = (m : Int) from by omega]; exact w64S m (by omega)
theorem two_k (r m : Nat) (h : m = 2 * r) (hb : m ≤ 4194304) : IntKind.i64.wrap (2 * (r : Int)) = (m : Int) := by
 rw [show 2 * (r : Int) = (m : Int) from by omega]; exact k64S m (by omega)
set_option maxHeartbeats 4000000 in
set_option maxRecDepth 1000000 in
theorem siftY_any (g n cap : Nat) (zs : List Value) (l0 : List UInt8) (w : World) (hl : l0.length = n) (hn : n ≤ 1048576) (hd : Dat w g zs l0) (lo hi f : Nat) (hb : f + hi ≤ n) (hlo : lo ≤ n) :
  Calls Try.prog 58 #[.slice (some ⟨g, 0, none⟩) n cap, .int .i64 (lo : Int), .int .i64 (hi : Int), .int .i64 (f : Int)] w fun e w' => e = .returned (.tuple #[]) ∧ SoP g zs l0 w w' := by
 have HL := qH hl
 have HN := qH hn
 have D0 := qH hd
 have HHI := qH hb
 have HLO := qH hlo
 clear hl hn hd hb hlo
 go_enter Try.func58, Try.ntmps58
 go_wp2_with fail
 go_loopw [8] (fun iv wl => ∃ r : Nat, iv = .int .i64 (r : Int) ∧ (r < hi ∨ r = lo) ∧ SoP g zs l0 w wl) (fun iv _ => hi - (intOf iv).toNat)
 case atStart => exact ⟨lo, rfl, .inr rfl, SoP.refl D0.out⟩
 case round =>
  obtain ⟨r, rfl, hrh, ⟨l, hp, hd⟩, hg⟩ := hrel
  have SD := qH hd
  have PL := qH hp
  have GD := qH hg
  have SL := qH (show l.length = n by rw [hp.length_eq]; exact HL.out)
  clear hp hd hg
  rename_i wr
  obtain ⟨m, hm⟩ : ∃ m, m = 2 * r := ⟨_, rfl⟩
  have HRN := qH (show r ≤ n by have := HLO.out; have := HHI.out; omega)
  have HM2 := qH hm
  have HMB := qH (show m + 2 ≤ 4194304 by have := HRN.out; have := HN.out; omega)
  have g1 := two_w r m hm (by have := HMB.out; omega)
  have g2 := two_k r m hm (by have := HMB.out; omega)
  obtain ⟨k, hk⟩ : ∃ k, k = m + 1 := ⟨_, rfl⟩
  obtain ⟨kk, hkk⟩ : ∃ kk, kk = k + 1 := ⟨_, rfl⟩
  have HKM := qH hk
  have HKK := qH hkk
  have HKB := qH (show kk ≤ 4194304 by have := HMB.out; omega)
  have g3 : wrap64 ((m : Int) + 1) = (k : Int) := by rw [hk]; exact wrap_one m (by have := HMB.out; omega)
  have g4 : IntKind.i64.wrap ((m : Int) + 1) = (k : Int) := by rw [hk]; exact wrap_one' m (by have := HMB.out; omega)
  have g5 : wrap64 ((k : Int) + 1) = (kk : Int) := by rw [hkk]; exact wrap_one k (by have := HMB.out; omega)
  have g6 : IntKind.i64.wrap ((k : Int) + 1) = (kk : Int) := by rw [hkk]; exact wrap_one' k (by have := HMB.out; omega)
  clear hk hkk
  clear hrh hm
  by_cases hch : hi ≤ k
  ·have x1 : (hi : Int) ≤ (k : Int) := by omega
   clear hch
   go_wp2_with fail
   refine bodyPost_end (results_none rfl _ _ _) rfl ?_
   exact ⟨rfl, ⟨⟨l, PL.out, SD.out⟩, GD.out⟩⟩
  ·have x1 : ¬ ((hi : Int) ≤ (k : Int)) := by omega
   have HK1 := qH (show k < hi by omega)
   obtain ⟨fc, hfc⟩ : ∃ fc, fc = f + k := ⟨_, rfl⟩
   have HFC := qH hfc
   have HFN := qH (show fc < n by have := HK1.out; have := HHI.out; omega)
   have HFB := qH (show fc ≤ 4194304 by have := HFN.out; have := HN.out; omega)
   obtain ⟨fd, hfd⟩ : ∃ fd, fd = fc + 1 := ⟨_, rfl⟩
   have HFD := qH hfd
   have HFB1 := qH (show fd ≤ 4194304 by have := HFN.out; have := HN.out; omega)
   clear hch hfc hfd
   by_cases ht : kk < hi
   ·have HT := qH ht
    have HFN1 := qH (show fd < n by have := HFC.out; have := HFD.out; have := HHI.out; have := HKK.out; omega)
    obtain ⟨u, hu⟩ : ∃ u, l[fc]? = some u := ⟨_, List.getElem?_eq_getElem (by rw [SL.out]; exact HFN.out)⟩
    obtain ⟨v, hv⟩ : ∃ v, l[fd]? = some v := ⟨_, List.getElem?_eq_getElem (by rw [SL.out]; exact HFN1.out)⟩
    have HU := qH hu
    have HV := qH hv
    obtain ⟨c, hc⟩ : ∃ c, c = decide (u.toNat < v.toNat) := ⟨_, rfl⟩
    have HC := qH hc
    clear hu hv hc ht
    go_wp2_with fail
    refine sg_start (S := IsW wr.drew) (by kernel_rfl) rfl (fun wd hwd => ?_)
    have hX : IsW _ wd := hwd
    clear hwd
    refine sg_take (i := 0) (oi := ⟨some 17, _, _, _, _, _⟩) (v := ?_) rfl (by kernel_rfl) (by kernel_rfl) (by kernel_rfl) (fun _ _ _ h => h) rfl hX ?_ ?_; rotate_left; (intro W hW; go_simp; try with_reducible rfl); simp only [Act.put, qA, qB, qC]
    refine sg_take (i := 1) (oi := ⟨some 18, _, _, _, _, _⟩) (v := .int .i64 ((kk : Nat) : Int)) rfl (by kernel_rfl) (by kernel_rfl) (by kernel_rfl) (fun _ _ _ h => h) rfl hX (fun V _ => ex_addY (.tmp 17) (.const (.int .i64 1)) rfl rfl (j := 1) rfl HKK.out HKB.out V) ?_; simp only [Act.put, qA, qB, qC]
    refine sg_take (i := 2) (oi := ⟨some 19, _, _, _, _, _⟩) (v := ?_) rfl (by kernel_rfl) (by kernel_rfl) (by kernel_rfl) (fun _ _ _ h => h) rfl hX ?_ ?_; rotate_left; (intro W hW; go_simp; try with_reducible rfl); simp only [Act.put, qA, qB, qC]
    refine sg_take (i := 3) (oi := ⟨some 20, _, _, _, _, _⟩) (v := .bool true) rfl (by kernel_rfl) (by kernel_rfl) (by kernel_rfl) (fun _ _ _ h => h) rfl hX (fun V _ => ex_ltY (.tmp 18) (.tmp 19) rfl (i := kk) (j := hi) rfl rfl (decide_eq_true HT.out) V) ?_; simp only [Act.put, qA, qB, qC]
    refine sg_take (i := 4) (oi := ⟨some 21, _, _, _, _, _⟩) (v := ?_) rfl (by kernel_rfl) (by kernel_rfl) (by kernel_rfl) (fun _ _ _ h => h) rfl hX ?_ ?_; rotate_left; (intro W hW; go_simp; try with_reducible rfl); simp only [Act.put, qA, qB, qC]
    refine sg_take (i := 5) (oi := ⟨some 22, _, _, _, _, _⟩) (v := ?_) rfl (by kernel_rfl) (by kernel_rfl) (by kernel_rfl) (fun _ _ _ h => h) rfl hX ?_ ?_; rotate_left; (intro W hW; go_simp; try with_reducible rfl); simp only [Act.put, qA, qB, qC]
    refine sg_take (i := 6) (oi := ⟨some 23, _, _, _, _, _⟩) (v := ?_) rfl (by kernel_rfl) (by kernel_rfl) (by kernel_rfl) (fun _ _ _ h => h) rfl hX ?_ ?_; rotate_left; (intro W hW; go_simp; try with_reducible rfl); simp only [Act.put, qA, qB, qC]
    refine sg_take (i := 7) (oi := ⟨some 24, _, _, _, _, _⟩) (v := ?_) rfl (by kernel_rfl) (by kernel_rfl) (by kernel_rfl) (fun _ _ _ h => h) rfl hX ?_ ?_; rotate_left; (intro W hW; go_simp; try with_reducible rfl); simp only [Act.put, qA, qB, qC]
    refine sg_take (i := 8) (oi := ⟨some 25, _, _, _, _, _⟩) (v := .int .i64 ((fc : Nat) : Int)) rfl (by kernel_rfl) (by kernel_rfl) (by kernel_rfl) (fun _ _ _ h => h) rfl hX (fun V _ => ex_addY (.tmp 23) (.tmp 24) rfl rfl rfl HFC.out HFB.out V) ?_; simp only [Act.put, qA, qB, qC]
    refine sg_take (i := 9) (oi := ⟨some 26, _, _, _, _, _⟩) (v := .pointer (some ⟨g, fc, none⟩)) rfl (by kernel_rfl) (by kernel_rfl) (by kernel_rfl) (fun _ _ _ h => h) rfl hX (fun V _ => ix_y (.tmp 22) (.tmp 25) rfl rfl rfl HFN.out V) ?_; simp only [Act.put, qA, qB, qC]
    refine sg_take (i := 10) (oi := ⟨some 27, _, _, _, _, _⟩) (v := bv u) rfl (by kernel_rfl) (by kernel_rfl) (by kernel_rfl) (fun _ _ _ h => h) rfl hX (fun V hV => ld_yt (.tmp 26) rfl rfl ((SD.out.is hV).cell HU.out)) ?_; simp only [Act.put, qA, qB, qC]
    refine sg_take (i := 11) (oi := ⟨some 28, _, _, _, _, _⟩) (v := ?_) rfl (by kernel_rfl) (by kernel_rfl) (by kernel_rfl) (fun _ _ _ h => h) rfl hX ?_ ?_; rotate_left; (intro W hW; go_simp; try with_reducible rfl); simp only [Act.put, qA, qB, qC]
    refine sg_take (i := 12) (oi := ⟨some 29, _, _, _, _, _⟩) (v := ?_) rfl (by kernel_rfl) (by kernel_rfl) (by kernel_rfl) (fun _ _ _ h => h) rfl hX ?_ ?_; rotate_left; (intro W hW; go_simp; try with_reducible rfl); simp only [Act.put, qA, qB, qC]
    refine sg_take (i := 13) (oi := ⟨some 30, _, _, _, _, _⟩) (v := ?_) rfl (by kernel_rfl) (by kernel_rfl) (by kernel_rfl) (fun _ _ _ h => h) rfl hX ?_ ?_; rotate_left; (intro W hW; go_simp; try with_reducible rfl); simp only [Act.put, qA, qB, qC]
    refine sg_take (i := 14) (oi := ⟨some 31, _, _, _, _, _⟩) (v := .int .i64 ((fc : Nat) : Int)) rfl (by kernel_rfl) (by kernel_rfl) (by kernel_rfl) (fun _ _ _ h => h) rfl hX (fun V _ => ex_addY (.tmp 29) (.tmp 30) rfl rfl rfl HFC.out HFB.out V) ?_; simp only [Act.put, qA, qB, qC]
    refine sg_take (i := 15) (oi := ⟨some 32, _, _, _, _, _⟩) (v := .int .i64 ((fd : Nat) : Int)) rfl (by kernel_rfl) (by kernel_rfl) (by kernel_rfl) (fun _ _ _ h => h) rfl hX (fun V _ => ex_addY (.tmp 31) (.const (.int .i64 1)) rfl rfl (j := 1) rfl HFD.out HFB1.out V) ?_; simp only [Act.put, qA, qB, qC]
    refine sg_take (i := 16) (oi := ⟨some 33, _, _, _, _, _⟩) (v := .pointer (some ⟨g, fd, none⟩)) rfl (by kernel_rfl) (by kernel_rfl) (by kernel_rfl) (fun _ _ _ h => h) rfl hX (fun V _ => ix_y (.tmp 28) (.tmp 32) rfl rfl rfl HFN1.out V) ?_; simp only [Act.put, qA, qB, qC]
    refine sg_take (i := 17) (oi := ⟨some 34, _, _, _, _, _⟩) (v := bv v) rfl (by kernel_rfl) (by kernel_rfl) (by kernel_rfl) (fun _ _ _ h => h) rfl hX (fun V hV => ld_yt (.tmp 33) rfl rfl ((SD.out.is hV).cell HV.out)) ?_; simp only [Act.put, qA, qB, qC]
    refine sg_actB (i := 18) (o := ⟨some 35, _, _, _, _, _⟩) rfl (by kernel_rfl) rfl hX (fun K hK => ?_)
    go_wp2_with fail
    refine (lessY_any _ _ _).mono ?_
    rintro e we ⟨rfl, hwe⟩
    subst hwe
    rw [← HC.out]
    go_wp2_with fail
    refine hK _ _ hX ?_
    clear hK K
    (try simp only [Act.put, qA, qB, qC])
    refine sg_take (i := 19) (oi := ⟨some 36, _, _, _, _, _⟩) (v := ?_) rfl (by kernel_rfl) (by kernel_rfl) (by kernel_rfl) (fun _ _ _ h => h) rfl hX ?_ ?_; rotate_left; (intro W hW; go_simp; try with_reducible rfl); simp only [Act.put, qA, qB, qC]
    refine wpAnyH_done (by kernel_rfl) ?_ _
    have SE := qH (SD.out.is hX)
    have GE := qH (grownS_is GD.out hX)
    clear hX SD GD
    have SD := SE
    have GD := GE
    clear SE GE
    rename_i wx
    cases c with
    | true =>
     clear HC
     go_wp2_with fail
     have HCH := qH (show kk < hi by exact HT.out)
     have HRC := qH (show r < kk by have := HM2.out; have := HKM.out; have := HKK.out; omega)
     obtain ⟨fr, hfr⟩ : ∃ fr, fr = f + r := ⟨_, rfl⟩
     obtain ⟨fh, hfh⟩ : ∃ fh, fh = f + kk := ⟨_, rfl⟩
     have HFR := qH hfr
     have HFH := qH hfh
     have HFHN := qH (show fh < n by have := HCH.out; have := HHI.out; omega)
     have HFRN := qH (show fr < n by have := HRC.out; have := HFHN.out; omega)
     have HFRb := qH (show fr ≤ 4194304 by have := HFRN.out; have := HN.out; omega)
     have HFHb := qH (show fh ≤ 4194304 by have := HFHN.out; have := HN.out; omega)
     clear hfr hfh
     obtain ⟨q, hq⟩ : ∃ q, l[fr]? = some q := ⟨_, List.getElem?_eq_getElem (by rw [SL.out]; exact HFRN.out)⟩
     obtain ⟨p, hp⟩ : ∃ p, l[fh]? = some p := ⟨_, List.getElem?_eq_getElem (by rw [SL.out]; exact HFHN.out)⟩
     have HP := qH hp
     have HQ := qH hq
     obtain ⟨c2, hc2⟩ : ∃ c, c = decide (q.toNat < p.toNat) := ⟨_, rfl⟩
     have HC := qH hc2
     clear hp hq hc2
     go_wp2_with fail
     refine sg_start (S := IsW we.drew) (by kernel_rfl) rfl (fun wd hwd => ?_)
     have hX : IsW _ wd := hwd
     clear hwd
     refine sg_take (i := 0) (oi := ⟨some 39, _, _, _, _, _⟩) (v := ?_) rfl (by kernel_rfl) (by kernel_rfl) (by kernel_rfl) (fun _ _ _ h => h) rfl hX ?_ ?_; rotate_left; (intro W hW; go_simp; try with_reducible rfl); simp only [Act.put, qA, qB, qC]
     refine sg_take (i := 1) (oi := ⟨some 40, _, _, _, _, _⟩) (v := ?_) rfl (by kernel_rfl) (by kernel_rfl) (by kernel_rfl) (fun _ _ _ h => h) rfl hX ?_ ?_; rotate_left; (intro W hW; go_simp; try with_reducible rfl); simp only [Act.put, qA, qB, qC]
     refine sg_take (i := 2) (oi := ⟨some 41, _, _, _, _, _⟩) (v := ?_) rfl (by kernel_rfl) (by kernel_rfl) (by kernel_rfl) (fun _ _ _ h => h) rfl hX ?_ ?_; rotate_left; (intro W hW; go_simp; try with_reducible rfl); simp only [Act.put, qA, qB, qC]
     refine sg_take (i := 3) (oi := ⟨some 42, _, _, _, _, _⟩) (v := .int .i64 ((fr : Nat) : Int)) rfl (by kernel_rfl) (by kernel_rfl) (by kernel_rfl) (fun _ _ _ h => h) rfl hX (fun V _ => ex_addY (.tmp 40) (.tmp 41) rfl rfl rfl HFR.out HFRb.out V) ?_; simp only [Act.put, qA, qB, qC]
     refine sg_take (i := 4) (oi := ⟨some 43, _, _, _, _, _⟩) (v := .pointer (some ⟨g, fr, none⟩)) rfl (by kernel_rfl) (by kernel_rfl) (by kernel_rfl) (fun _ _ _ h => h) rfl hX (fun V _ => ix_y (.tmp 39) (.tmp 42) rfl rfl rfl HFRN.out V) ?_; simp only [Act.put, qA, qB, qC]
     refine sg_take (i := 5) (oi := ⟨some 44, _, _, _, _, _⟩) (v := bv q) rfl (by kernel_rfl) (by kernel_rfl) (by kernel_rfl) (fun _ _ _ h => h) rfl hX (fun V hV => ld_yt (.tmp 43) rfl rfl ((SD.out.is hV).cell HQ.out)) ?_; simp only [Act.put, qA, qB, qC]
     refine sg_take (i := 6) (oi := ⟨some 45, _, _, _, _, _⟩) (v := ?_) rfl (by kernel_rfl) (by kernel_rfl) (by kernel_rfl) (fun _ _ _ h => h) rfl hX ?_ ?_; rotate_left; (intro W hW; go_simp; try with_reducible rfl); simp only [Act.put, qA, qB, qC]
     refine sg_take (i := 7) (oi := ⟨some 46, _, _, _, _, _⟩) (v := ?_) rfl (by kernel_rfl) (by kernel_rfl) (by kernel_rfl) (fun _ _ _ h => h) rfl hX ?_ ?_; rotate_left; (intro W hW; go_simp; try with_reducible rfl); simp only [Act.put, qA, qB, qC]
     refine sg_take (i := 8) (oi := ⟨some 47, _, _, _, _, _⟩) (v := ?_) rfl (by kernel_rfl) (by kernel_rfl) (by kernel_rfl) (fun _ _ _ h => h) rfl hX ?_ ?_; rotate_left; (intro W hW; go_simp; try with_reducible rfl); simp only [Act.put, qA, qB, qC]
     refine sg_take (i := 9) (oi := ⟨some 48, _, _, _, _, _⟩) (v := .int .i64 ((fh : Nat) : Int)) rfl (by kernel_rfl) (by kernel_rfl) (by kernel_rfl) (fun _ _ _ h => h) rfl hX (fun V _ => ex_addY (.tmp 46) (.tmp 47) rfl rfl rfl HFH.out HFHb.out V) ?_; simp only [Act.put, qA, qB, qC]
     refine sg_take (i := 10) (oi := ⟨some 49, _, _, _, _, _⟩) (v := .pointer (some ⟨g, fh, none⟩)) rfl (by kernel_rfl) (by kernel_rfl) (by kernel_rfl) (fun _ _ _ h => h) rfl hX (fun V _ => ix_y (.tmp 45) (.tmp 48) rfl rfl rfl HFHN.out V) ?_; simp only [Act.put, qA, qB, qC]
     refine sg_take (i := 11) (oi := ⟨some 50, _, _, _, _, _⟩) (v := bv p) rfl (by kernel_rfl) (by kernel_rfl) (by kernel_rfl) (fun _ _ _ h => h) rfl hX (fun V hV => ld_yt (.tmp 49) rfl rfl ((SD.out.is hV).cell HP.out)) ?_; simp only [Act.put, qA, qB, qC]
     refine sg_actB (i := 12) (o := ⟨some 51, _, _, _, _, _⟩) rfl (by kernel_rfl) rfl hX (fun K hK => ?_)
     go_wp2_with fail
     refine (lessY_any _ _ _).mono ?_
     rintro e we ⟨rfl, hwe⟩
     subst hwe
     rw [← HC.out]
     go_wp2_with fail
     refine hK _ _ hX ?_
     clear hK K
     (try simp only [Act.put, qA, qB, qC])
     refine sg_take (i := 13) (oi := ⟨some 52, _, _, _, _, _⟩) (v := ?_) rfl (by kernel_rfl) (by kernel_rfl) (by kernel_rfl) (fun _ _ _ h => h) rfl hX ?_ ?_; rotate_left; (intro W hW; go_simp; try with_reducible rfl); simp only [Act.put, qA, qB, qC]
     refine wpAnyH_done (by kernel_rfl) ?_ _
     cases c2 with
     | false =>
      have SE := qH (SD.out.is hX)
      have GE := qH (grownS_is GD.out hX)
      clear hX
      go_wp2_with fail
      refine bodyPost_ret (results_none rfl _ _ _) rfl ?_
      exact ⟨rfl, ⟨⟨l, PL.out, SE.out⟩, GE.out⟩⟩
     | true =>
      have SE := qH (SD.out.is hX)
      have GE := qH (grownS_is GD.out hX)
      clear hX SD GD
      have SD := SE
      have GD := GE
      go_wp2_with fail
      refine mc_start (fun V => we.grownBy V (some g)) (fun V => V.heap[g]? = we.heap[g]?) 21 (by kernel_rfl) (fun wd hwd => ?_)
      have hX : we.grownBy wd (some g) := by rw [hwd]; exact grownS_drew _ _
      have hY : wd.heap[g]? = we.heap[g]? := by rw [hwd]; rfl
      have GW := qH (grownS_trans GD.out hX)
      have HWD := qH hwd
      clear hwd
      refine mc_take (i := 0) (oi := ⟨some 53, _, _, _, _, _⟩) (v := ?_) rfl (by kernel_rfl) (by kernel_rfl) (by kernel_rfl) (fun _ _ _ h => h) rfl hX ?_ ?_; rotate_left; (intro W hW; go_simp; try with_reducible rfl); simp only [Act.put, qA, qB, qC]
      refine mc_take (i := 1) (oi := ⟨some 54, _, _, _, _, _⟩) (v := ?_) rfl (by kernel_rfl) (by kernel_rfl) (by kernel_rfl) (fun _ _ _ h => h) rfl hX ?_ ?_; rotate_left; (intro W hW; go_simp; try with_reducible rfl); simp only [Act.put, qA, qB, qC]
      refine mc_take (i := 2) (oi := ⟨some 55, _, _, _, _, _⟩) (v := ?_) rfl (by kernel_rfl) (by kernel_rfl) (by kernel_rfl) (fun _ _ _ h => h) rfl hX ?_ ?_; rotate_left; (intro W hW; go_simp; try with_reducible rfl); simp only [Act.put, qA, qB, qC]
      refine mc_take (i := 3) (oi := ⟨some 56, _, _, _, _, _⟩) (v := .int .i64 ((fr : Nat) : Int)) rfl (by kernel_rfl) (by kernel_rfl) (by kernel_rfl) (fun _ _ _ h => h) rfl hX (fun V _ => ex_addY (.tmp 54) (.tmp 55) rfl rfl rfl HFR.out HFRb.out V) ?_; simp only [Act.put, qA, qB, qC]
      refine mc_take (i := 4) (oi := ⟨some 57, _, _, _, _, _⟩) (v := ?_) rfl (by kernel_rfl) (by kernel_rfl) (by kernel_rfl) (fun _ _ _ h => h) rfl hX ?_ ?_; rotate_left; (intro W hW; go_simp; try with_reducible rfl); simp only [Act.put, qA, qB, qC]
      refine mc_take (i := 5) (oi := ⟨some 58, _, _, _, _, _⟩) (v := ?_) rfl (by kernel_rfl) (by kernel_rfl) (by kernel_rfl) (fun _ _ _ h => h) rfl hX ?_ ?_; rotate_left; (intro W hW; go_simp; try with_reducible rfl); simp only [Act.put, qA, qB, qC]
      refine mc_take (i := 6) (oi := ⟨some 59, _, _, _, _, _⟩) (v := ?_) rfl (by kernel_rfl) (by kernel_rfl) (by kernel_rfl) (fun _ _ _ h => h) rfl hX ?_ ?_; rotate_left; (intro W hW; go_simp; try with_reducible rfl); simp only [Act.put, qA, qB, qC]
      refine mc_take (i := 7) (oi := ⟨some 60, _, _, _, _, _⟩) (v := .int .i64 ((fh : Nat) : Int)) rfl (by kernel_rfl) (by kernel_rfl) (by kernel_rfl) (fun _ _ _ h => h) rfl hX (fun V _ => ex_addY (.tmp 58) (.tmp 59) rfl rfl rfl HFH.out HFHb.out V) ?_; simp only [Act.put, qA, qB, qC]
      refine mc_take (i := 8) (oi := ⟨some 61, _, _, _, _, _⟩) (v := ?_) rfl (by kernel_rfl) (by kernel_rfl) (by kernel_rfl) (fun _ _ _ h => h) rfl hX ?_ ?_; rotate_left; (intro W hW; go_simp; try with_reducible rfl); simp only [Act.put, qA, qB, qC]
      refine mc_take (i := 9) (oi := ⟨some 62, _, _, _, _, _⟩) (v := ?_) rfl (by kernel_rfl) (by kernel_rfl) (by kernel_rfl) (fun _ _ _ h => h) rfl hX ?_ ?_; rotate_left; (intro W hW; go_simp; try with_reducible rfl); simp only [Act.put, qA, qB, qC]
      refine mc_take (i := 10) (oi := ⟨some 63, _, _, _, _, _⟩) (v := ?_) rfl (by kernel_rfl) (by kernel_rfl) (by kernel_rfl) (fun _ _ _ h => h) rfl hX ?_ ?_; rotate_left; (intro W hW; go_simp; try with_reducible rfl); simp only [Act.put, qA, qB, qC]
      refine mc_take (i := 11) (oi := ⟨some 64, _, _, _, _, _⟩) (v := .int .i64 ((fh : Nat) : Int)) rfl (by kernel_rfl) (by kernel_rfl) (by kernel_rfl) (fun _ _ _ h => h) rfl hX (fun V _ => ex_addY (.tmp 62) (.tmp 63) rfl rfl rfl HFH.out HFHb.out V) ?_; simp only [Act.put, qA, qB, qC]
      refine mc_take (i := 12) (oi := ⟨some 65, _, _, _, _, _⟩) (v := .pointer (some ⟨g, fh, none⟩)) rfl (by kernel_rfl) (by kernel_rfl) (by kernel_rfl) (fun _ _ _ h => h) rfl hX (fun V _ => ix_y (.tmp 61) (.tmp 64) rfl rfl rfl HFHN.out V) ?_; simp only [Act.put, qA, qB, qC]
      refine mc_takeS (i := 13) (oi := ⟨some 66, _, _, _, _, _⟩) (v := bv p) rfl (by kernel_rfl) (by kernel_rfl) (by kernel_rfl) (fun _ _ _ h => h) rfl hX hY (fun V hT hS => ld_yt (.tmp 65) rfl rfl (cell_same hS (SD.out.cell HP.out))) ?_; simp only [Act.put, qA, qB, qC]
      refine mc_take (i := 14) (oi := ⟨some 67, _, _, _, _, _⟩) (v := ?_) rfl (by kernel_rfl) (by kernel_rfl) (by kernel_rfl) (fun _ _ _ h => h) rfl hX ?_ ?_; rotate_left; (intro W hW; go_simp; try with_reducible rfl); simp only [Act.put, qA, qB, qC]
      refine mc_take (i := 15) (oi := ⟨some 68, _, _, _, _, _⟩) (v := ?_) rfl (by kernel_rfl) (by kernel_rfl) (by kernel_rfl) (fun _ _ _ h => h) rfl hX ?_ ?_; rotate_left; (intro W hW; go_simp; try with_reducible rfl); simp only [Act.put, qA, qB, qC]
      refine mc_take (i := 16) (oi := ⟨some 69, _, _, _, _, _⟩) (v := ?_) rfl (by kernel_rfl) (by kernel_rfl) (by kernel_rfl) (fun _ _ _ h => h) rfl hX ?_ ?_; rotate_left; (intro W hW; go_simp; try with_reducible rfl); simp only [Act.put, qA, qB, qC]
      refine mc_take (i := 17) (oi := ⟨some 70, _, _, _, _, _⟩) (v := .int .i64 ((fr : Nat) : Int)) rfl (by kernel_rfl) (by kernel_rfl) (by kernel_rfl) (fun _ _ _ h => h) rfl hX (fun V _ => ex_addY (.tmp 68) (.tmp 69) rfl rfl rfl HFR.out HFRb.out V) ?_; simp only [Act.put, qA, qB, qC]
      refine mc_take (i := 18) (oi := ⟨some 71, _, _, _, _, _⟩) (v := .pointer (some ⟨g, fr, none⟩)) rfl (by kernel_rfl) (by kernel_rfl) (by kernel_rfl) (fun _ _ _ h => h) rfl hX (fun V _ => ix_y (.tmp 67) (.tmp 70) rfl rfl rfl HFRN.out V) ?_; simp only [Act.put, qA, qB, qC]
      refine mc_takeS (i := 19) (oi := ⟨some 72, _, _, _, _, _⟩) (v := bv q) rfl (by kernel_rfl) (by kernel_rfl) (by kernel_rfl) (fun _ _ _ h => h) rfl hX hY (fun V hT hS => ld_yt (.tmp 71) rfl rfl (cell_same hS (SD.out.cell HQ.out))) ?_; simp only [Act.put, qA, qB, qC]
      refine mc_take (i := 20) (oi := ⟨some 73, _, _, _, _, _⟩) (v := .pointer (some ⟨g, fr, none⟩)) rfl (by kernel_rfl) (by kernel_rfl) (by kernel_rfl) (fun _ _ _ h => h) rfl hX (fun V _ => ix_y (.tmp 53) (.tmp 56) rfl rfl rfl HFRN.out V) ?_; simp only [Act.put, qA, qB, qC]
      refine mc_last (i := 21) (o := ⟨none, _, _, _, _, _⟩) rfl (by kernel_rfl) rfl (fun K hK => ?_)
      have HZ := qH (show Dat wd g zs l from SD.out.keep hY)
      refine wp_stY (.tmp 73) (.tmp 66) rfl g fr rfl p rfl _ (HZ.out.cell HQ.out) (HZ.out.frozen _) ?_
      refine hK _ _ (grownS_set hX _ _) ?_
      clear hK K
      have HZ2 := qH (HZ.out.set (List.getElem?_eq_some_iff.1 HQ.out).1 p)
      have HC2 := qH (dat_hit HZ2.out (i := fh) (by rw [List.length_set]; exact (List.getElem?_eq_some_iff.1 HP.out).1))
      clear hY
      replace hX := grownS_set hX fr (bv p)
      (try simp only [Act.put, qA, qB, qC])
      refine mc_take (i := 22) (oi := ⟨some 74, _, _, _, _, _⟩) (v := .pointer (some ⟨g, fh, none⟩)) rfl (by kernel_rfl) (by kernel_rfl) (by kernel_rfl) (fun _ _ _ h => h) rfl hX (fun V _ => ix_y (.tmp 57) (.tmp 60) rfl rfl rfl HFHN.out V) ?_; simp only [Act.put, qA, qB, qC]
      refine mc_last (i := 23) (o := ⟨none, _, _, _, _, _⟩) rfl (by kernel_rfl) rfl (fun K hK => ?_)
      refine wp_stY (.tmp 74) (.tmp 72) rfl g fh rfl q rfl _ HC2.out (HZ2.out.frozen _) ?_
      refine hK _ _ (grownS_set hX _ _) ?_
      clear hK K hX
      (try simp only [Act.put, qA, qB, qC])
      refine wpAnyC_done (by kernel_rfl) ?_ _
      have HSW := qH (SoP.swap PL.out HZ.out GW.out HP.out HQ.out)
      have HM := qH (show hi - kk < hi - r by have := HRC.out; have := HCH.out; omega)
      go_wp2_with fail
      exact ⟨⟨kk, rfl, Or.inl HCH.out, HSW.out⟩, by simpa [intOf] using HM.out⟩
    | false =>
     clear HC
     have HCH := qH (show k < hi by exact HK1.out)
     have HRC := qH (show r < k by have := HM2.out; have := HKM.out; have := HKK.out; omega)
     obtain ⟨fr, hfr⟩ : ∃ fr, fr = f + r := ⟨_, rfl⟩
     obtain ⟨fh, hfh⟩ : ∃ fh, fh = f + k := ⟨_, rfl⟩
     have HFR := qH hfr
     have HFH := qH hfh
     have HFHN := qH (show fh < n by have := HCH.out; have := HHI.out; omega)
     have HFRN := qH (show fr < n by have := HRC.out; have := HFHN.out; omega)
     have HFRb := qH (show fr ≤ 4194304 by have := HFRN.out; have := HN.out; omega)
     have HFHb := qH (show fh ≤ 4194304 by have := HFHN.out; have := HN.out; omega)
     clear hfr hfh
     obtain ⟨q, hq⟩ : ∃ q, l[fr]? = some q := ⟨_, List.getElem?_eq_getElem (by rw [SL.out]; exact HFRN.out)⟩
     obtain ⟨p, hp⟩ : ∃ p, l[fh]? = some p := ⟨_, List.getElem?_eq_getElem (by rw [SL.out]; exact HFHN.out)⟩
     have HP := qH hp
     have HQ := qH hq
     obtain ⟨c2, hc2⟩ : ∃ c, c = decide (q.toNat < p.toNat) := ⟨_, rfl⟩
     have HC := qH hc2
     clear hp hq hc2
     go_wp2_with fail
     refine sg_start (S := IsW we.drew) (by kernel_rfl) rfl (fun wd hwd => ?_)
     have hX : IsW _ wd := hwd
     clear hwd
     refine sg_take (i := 0) (oi := ⟨some 39, _, _, _, _, _⟩) (v := ?_) rfl (by kernel_rfl) (by kernel_rfl) (by kernel_rfl) (fun _ _ _ h => h) rfl hX ?_ ?_; rotate_left; (intro W hW; go_simp; try with_reducible rfl); simp only [Act.put, qA, qB, qC]
     refine sg_take (i := 1) (oi := ⟨some 40, _, _, _, _, _⟩) (v := ?_) rfl (by kernel_rfl) (by kernel_rfl) (by kernel_rfl) (fun _ _ _ h => h) rfl hX ?_ ?_; rotate_left; (intro W hW; go_simp; try with_reducible rfl); simp only [Act.put, qA, qB, qC]
     refine sg_take (i := 2) (oi := ⟨some 41, _, _, _, _, _⟩) (v := ?_) rfl (by kernel_rfl) (by kernel_rfl) (by kernel_rfl) (fun _ _ _ h => h) rfl hX ?_ ?_; rotate_left; (intro W hW; go_simp; try with_reducible rfl); simp only [Act.put, qA, qB, qC]
     refine sg_take (i := 3) (oi := ⟨some 42, _, _, _, _, _⟩) (v := .int .i64 ((fr : Nat) : Int)) rfl (by kernel_rfl) (by kernel_rfl) (by kernel_rfl) (fun _ _ _ h => h) rfl hX (fun V _ => ex_addY (.tmp 40) (.tmp 41) rfl rfl rfl HFR.out HFRb.out V) ?_; simp only [Act.put, qA, qB, qC]
     refine sg_take (i := 4) (oi := ⟨some 43, _, _, _, _, _⟩) (v := .pointer (some ⟨g, fr, none⟩)) rfl (by kernel_rfl) (by kernel_rfl) (by kernel_rfl) (fun _ _ _ h => h) rfl hX (fun V _ => ix_y (.tmp 39) (.tmp 42) rfl rfl rfl HFRN.out V) ?_; simp only [Act.put, qA, qB, qC]
     refine sg_take (i := 5) (oi := ⟨some 44, _, _, _, _, _⟩) (v := bv q) rfl (by kernel_rfl) (by kernel_rfl) (by kernel_rfl) (fun _ _ _ h => h) rfl hX (fun V hV => ld_yt (.tmp 43) rfl rfl ((SD.out.is hV).cell HQ.out)) ?_; simp only [Act.put, qA, qB, qC]
     refine sg_take (i := 6) (oi := ⟨some 45, _, _, _, _, _⟩) (v := ?_) rfl (by kernel_rfl) (by kernel_rfl) (by kernel_rfl) (fun _ _ _ h => h) rfl hX ?_ ?_; rotate_left; (intro W hW; go_simp; try with_reducible rfl); simp only [Act.put, qA, qB, qC]
     refine sg_take (i := 7) (oi := ⟨some 46, _, _, _, _, _⟩) (v := ?_) rfl (by kernel_rfl) (by kernel_rfl) (by kernel_rfl) (fun _ _ _ h => h) rfl hX ?_ ?_; rotate_left; (intro W hW; go_simp; try with_reducible rfl); simp only [Act.put, qA, qB, qC]
     refine sg_take (i := 8) (oi := ⟨some 47, _, _, _, _, _⟩) (v := ?_) rfl (by kernel_rfl) (by kernel_rfl) (by kernel_rfl) (fun _ _ _ h => h) rfl hX ?_ ?_; rotate_left; (intro W hW; go_simp; try with_reducible rfl); simp only [Act.put, qA, qB, qC]
     refine sg_take (i := 9) (oi := ⟨some 48, _, _, _, _, _⟩) (v := .int .i64 ((fh : Nat) : Int)) rfl (by kernel_rfl) (by kernel_rfl) (by kernel_rfl) (fun _ _ _ h => h) rfl hX (fun V _ => ex_addY (.tmp 46) (.tmp 47) rfl rfl rfl HFH.out HFHb.out V) ?_; simp only [Act.put, qA, qB, qC]
     refine sg_take (i := 10) (oi := ⟨some 49, _, _, _, _, _⟩) (v := .pointer (some ⟨g, fh, none⟩)) rfl (by kernel_rfl) (by kernel_rfl) (by kernel_rfl) (fun _ _ _ h => h) rfl hX (fun V _ => ix_y (.tmp 45) (.tmp 48) rfl rfl rfl HFHN.out V) ?_; simp only [Act.put, qA, qB, qC]
     refine sg_take (i := 11) (oi := ⟨some 50, _, _, _, _, _⟩) (v := bv p) rfl (by kernel_rfl) (by kernel_rfl) (by kernel_rfl) (fun _ _ _ h => h) rfl hX (fun V hV => ld_yt (.tmp 49) rfl rfl ((SD.out.is hV).cell HP.out)) ?_; simp only [Act.put, qA, qB, qC]
     refine sg_actB (i := 12) (o := ⟨some 51, _, _, _, _, _⟩) rfl (by kernel_rfl) rfl hX (fun K hK => ?_)
     go_wp2_with fail
     refine (lessY_any _ _ _).mono ?_
     rintro e we ⟨rfl, hwe⟩
     subst hwe
     rw [← HC.out]
     go_wp2_with fail
     refine hK _ _ hX ?_
     clear hK K
     (try simp only [Act.put, qA, qB, qC])
     refine sg_take (i := 13) (oi := ⟨some 52, _, _, _, _, _⟩) (v := ?_) rfl (by kernel_rfl) (by kernel_rfl) (by kernel_rfl) (fun _ _ _ h => h) rfl hX ?_ ?_; rotate_left; (intro W hW; go_simp; try with_reducible rfl); simp only [Act.put, qA, qB, qC]
     refine wpAnyH_done (by kernel_rfl) ?_ _
     cases c2 with
     | false =>
      have SE := qH (SD.out.is hX)
      have GE := qH (grownS_is GD.out hX)
      clear hX
      go_wp2_with fail
      refine bodyPost_ret (results_none rfl _ _ _) rfl ?_
      exact ⟨rfl, ⟨⟨l, PL.out, SE.out⟩, GE.out⟩⟩
     | true =>
      have SE := qH (SD.out.is hX)
      have GE := qH (grownS_is GD.out hX)
      clear hX SD GD
      have SD := SE
      have GD := GE
      go_wp2_with fail
      refine mc_start (fun V => we.grownBy V (some g)) (fun V => V.heap[g]? = we.heap[g]?) 21 (by kernel_rfl) (fun wd hwd => ?_)
      have hX : we.grownBy wd (some g) := by rw [hwd]; exact grownS_drew _ _
      have hY : wd.heap[g]? = we.heap[g]? := by rw [hwd]; rfl
      have GW := qH (grownS_trans GD.out hX)
      have HWD := qH hwd
      clear hwd
      refine mc_take (i := 0) (oi := ⟨some 53, _, _, _, _, _⟩) (v := ?_) rfl (by kernel_rfl) (by kernel_rfl) (by kernel_rfl) (fun _ _ _ h => h) rfl hX ?_ ?_; rotate_left; (intro W hW; go_simp; try with_reducible rfl); simp only [Act.put, qA, qB, qC]
      refine mc_take (i := 1) (oi := ⟨some 54, _, _, _, _, _⟩) (v := ?_) rfl (by kernel_rfl) (by kernel_rfl) (by kernel_rfl) (fun _ _ _ h => h) rfl hX ?_ ?_; rotate_left; (intro W hW; go_simp; try with_reducible rfl); simp only [Act.put, qA, qB, qC]
      refine mc_take (i := 2) (oi := ⟨some 55, _, _, _, _, _⟩) (v := ?_) rfl (by kernel_rfl) (by kernel_rfl) (by kernel_rfl) (fun _ _ _ h => h) rfl hX ?_ ?_; rotate_left; (intro W hW; go_simp; try with_reducible rfl); simp only [Act.put, qA, qB, qC]
      refine mc_take (i := 3) (oi := ⟨some 56, _, _, _, _, _⟩) (v := .int .i64 ((fr : Nat) : Int)) rfl (by kernel_rfl) (by kernel_rfl) (by kernel_rfl) (fun _ _ _ h => h) rfl hX (fun V _ => ex_addY (.tmp 54) (.tmp 55) rfl rfl rfl HFR.out HFRb.out V) ?_; simp only [Act.put, qA, qB, qC]
      refine mc_take (i := 4) (oi := ⟨some 57, _, _, _, _, _⟩) (v := ?_) rfl (by kernel_rfl) (by kernel_rfl) (by kernel_rfl) (fun _ _ _ h => h) rfl hX ?_ ?_; rotate_left; (intro W hW; go_simp; try with_reducible rfl); simp only [Act.put, qA, qB, qC]
      refine mc_take (i := 5) (oi := ⟨some 58, _, _, _, _, _⟩) (v := ?_) rfl (by kernel_rfl) (by kernel_rfl) (by kernel_rfl) (fun _ _ _ h => h) rfl hX ?_ ?_; rotate_left; (intro W hW; go_simp; try with_reducible rfl); simp only [Act.put, qA, qB, qC]
      refine mc_take (i := 6) (oi := ⟨some 59, _, _, _, _, _⟩) (v := ?_) rfl (by kernel_rfl) (by kernel_rfl) (by kernel_rfl) (fun _ _ _ h => h) rfl hX ?_ ?_; rotate_left; (intro W hW; go_simp; try with_reducible rfl); simp only [Act.put, qA, qB, qC]
      refine mc_take (i := 7) (oi := ⟨some 60, _, _, _, _, _⟩) (v := .int .i64 ((fh : Nat) : Int)) rfl (by kernel_rfl) (by kernel_rfl) (by kernel_rfl) (fun _ _ _ h => h) rfl hX (fun V _ => ex_addY (.tmp 58) (.tmp 59) rfl rfl rfl HFH.out HFHb.out V) ?_; simp only [Act.put, qA, qB, qC]
      refine mc_take (i := 8) (oi := ⟨some 61, _, _, _, _, _⟩) (v := ?_) rfl (by kernel_rfl) (by kernel_rfl) (by kernel_rfl) (fun _ _ _ h => h) rfl hX ?_ ?_; rotate_left; (intro W hW; go_simp; try with_reducible rfl); simp only [Act.put, qA, qB, qC]
      refine mc_take (i := 9) (oi := ⟨some 62, _, _, _, _, _⟩) (v := ?_) rfl (by kernel_rfl) (by kernel_rfl) (by kernel_rfl) (fun _ _ _ h => h) rfl hX ?_ ?_; rotate_left; (intro W hW; go_simp; try with_reducible rfl); simp only [Act.put, qA, qB, qC]
      refine mc_take (i := 10) (oi := ⟨some 63, _, _, _, _, _⟩) (v := ?_) rfl (by kernel_rfl) (by kernel_rfl) (by kernel_rfl) (fun _ _ _ h => h) rfl hX ?_ ?_; rotate_left; (intro W hW; go_simp; try with_reducible rfl); simp only [Act.put, qA, qB, qC]
      refine mc_take (i := 11) (oi := ⟨some 64, _, _, _, _, _⟩) (v := .int .i64 ((fh : Nat) : Int)) rfl (by kernel_rfl) (by kernel_rfl) (by kernel_rfl) (fun _ _ _ h => h) rfl hX (fun V _ => ex_addY (.tmp 62) (.tmp 63) rfl rfl rfl HFH.out HFHb.out V) ?_; simp only [Act.put, qA, qB, qC]
      refine mc_take (i := 12) (oi := ⟨some 65, _, _, _, _, _⟩) (v := .pointer (some ⟨g, fh, none⟩)) rfl (by kernel_rfl) (by kernel_rfl) (by kernel_rfl) (fun _ _ _ h => h) rfl hX (fun V _ => ix_y (.tmp 61) (.tmp 64) rfl rfl rfl HFHN.out V) ?_; simp only [Act.put, qA, qB, qC]
      refine mc_takeS (i := 13) (oi := ⟨some 66, _, _, _, _, _⟩) (v := bv p) rfl (by kernel_rfl) (by kernel_rfl) (by kernel_rfl) (fun _ _ _ h => h) rfl hX hY (fun V hT hS => ld_yt (.tmp 65) rfl rfl (cell_same hS (SD.out.cell HP.out))) ?_; simp only [Act.put, qA, qB, qC]
      refine mc_take (i := 14) (oi := ⟨some 67, _, _, _, _, _⟩) (v := ?_) rfl (by kernel_rfl) (by kernel_rfl) (by kernel_rfl) (fun _ _ _ h => h) rfl hX ?_ ?_; rotate_left; (intro W hW; go_simp; try with_reducible rfl); simp only [Act.put, qA, qB, qC]
      refine mc_take (i := 15) (oi := ⟨some 68, _, _, _, _, _⟩) (v := ?_) rfl (by kernel_rfl) (by kernel_rfl) (by kernel_rfl) (fun _ _ _ h => h) rfl hX ?_ ?_; rotate_left; (intro W hW; go_simp; try with_reducible rfl); simp only [Act.put, qA, qB, qC]
      refine mc_take (i := 16) (oi := ⟨some 69, _, _, _, _, _⟩) (v := ?_) rfl (by kernel_rfl) (by kernel_rfl) (by kernel_rfl) (fun _ _ _ h => h) rfl hX ?_ ?_; rotate_left; (intro W hW; go_simp; try with_reducible rfl); simp only [Act.put, qA, qB, qC]
      refine mc_take (i := 17) (oi := ⟨some 70, _, _, _, _, _⟩) (v := .int .i64 ((fr : Nat) : Int)) rfl (by kernel_rfl) (by kernel_rfl) (by kernel_rfl) (fun _ _ _ h => h) rfl hX (fun V _ => ex_addY (.tmp 68) (.tmp 69) rfl rfl rfl HFR.out HFRb.out V) ?_; simp only [Act.put, qA, qB, qC]
      refine mc_take (i := 18) (oi := ⟨some 71, _, _, _, _, _⟩) (v := .pointer (some ⟨g, fr, none⟩)) rfl (by kernel_rfl) (by kernel_rfl) (by kernel_rfl) (fun _ _ _ h => h) rfl hX (fun V _ => ix_y (.tmp 67) (.tmp 70) rfl rfl rfl HFRN.out V) ?_; simp only [Act.put, qA, qB, qC]
      refine mc_takeS (i := 19) (oi := ⟨some 72, _, _, _, _, _⟩) (v := bv q) rfl (by kernel_rfl) (by kernel_rfl) (by kernel_rfl) (fun _ _ _ h => h) rfl hX hY (fun V hT hS => ld_yt (.tmp 71) rfl rfl (cell_same hS (SD.out.cell HQ.out))) ?_; simp only [Act.put, qA, qB, qC]
      refine mc_take (i := 20) (oi := ⟨some 73, _, _, _, _, _⟩) (v := .pointer (some ⟨g, fr, none⟩)) rfl (by kernel_rfl) (by kernel_rfl) (by kernel_rfl) (fun _ _ _ h => h) rfl hX (fun V _ => ix_y (.tmp 53) (.tmp 56) rfl rfl rfl HFRN.out V) ?_; simp only [Act.put, qA, qB, qC]
      refine mc_last (i := 21) (o := ⟨none, _, _, _, _, _⟩) rfl (by kernel_rfl) rfl (fun K hK => ?_)
      have HZ := qH (show Dat wd g zs l from SD.out.keep hY)
      refine wp_stY (.tmp 73) (.tmp 66) rfl g fr rfl p rfl _ (HZ.out.cell HQ.out) (HZ.out.frozen _) ?_
      refine hK _ _ (grownS_set hX _ _) ?_
      clear hK K
      have HZ2 := qH (HZ.out.set (List.getElem?_eq_some_iff.1 HQ.out).1 p)
      have HC2 := qH (dat_hit HZ2.out (i := fh) (by rw [List.length_set]; exact (List.getElem?_eq_some_iff.1 HP.out).1))
      clear hY
      replace hX := grownS_set hX fr (bv p)
      (try simp only [Act.put, qA, qB, qC])
      refine mc_take (i := 22) (oi := ⟨some 74, _, _, _, _, _⟩) (v := .pointer (some ⟨g, fh, none⟩)) rfl (by kernel_rfl) (by kernel_rfl) (by kernel_rfl) (fun _ _ _ h => h) rfl hX (fun V _ => ix_y (.tmp 57) (.tmp 60) rfl rfl rfl HFHN.out V) ?_; simp only [Act.put, qA, qB, qC]
      refine mc_last (i := 23) (o := ⟨none, _, _, _, _, _⟩) rfl (by kernel_rfl) rfl (fun K hK => ?_)
      refine wp_stY (.tmp 74) (.tmp 72) rfl g fh rfl q rfl _ HC2.out (HZ2.out.frozen _) ?_
      refine hK _ _ (grownS_set hX _ _) ?_
      clear hK K hX
      (try simp only [Act.put, qA, qB, qC])
      refine wpAnyC_done (by kernel_rfl) ?_ _
      have HSW := qH (SoP.swap PL.out HZ.out GW.out HP.out HQ.out)
      have HM := qH (show hi - k < hi - r by have := HRC.out; have := HCH.out; omega)
      go_wp2_with fail
      exact ⟨⟨k, rfl, Or.inl HCH.out, HSW.out⟩, by simpa [intOf] using HM.out⟩
   ·have HT := qH ht
    clear ht
    go_wp2_with fail
    refine sg_start (S := IsW wr.drew) (by kernel_rfl) rfl (fun wd hwd => ?_)
    have hX : IsW _ wd := hwd
    clear hwd
    refine sg_take (i := 0) (oi := ⟨some 17, _, _, _, _, _⟩) (v := ?_) rfl (by kernel_rfl) (by kernel_rfl) (by kernel_rfl) (fun _ _ _ h => h) rfl hX ?_ ?_; rotate_left; (intro W hW; go_simp; try with_reducible rfl); simp only [Act.put, qA, qB, qC]
    refine sg_take (i := 1) (oi := ⟨some 18, _, _, _, _, _⟩) (v := .int .i64 ((kk : Nat) : Int)) rfl (by kernel_rfl) (by kernel_rfl) (by kernel_rfl) (fun _ _ _ h => h) rfl hX (fun V _ => ex_addY (.tmp 17) (.const (.int .i64 1)) rfl rfl (j := 1) rfl HKK.out HKB.out V) ?_; simp only [Act.put, qA, qB, qC]
    refine sg_take (i := 2) (oi := ⟨some 19, _, _, _, _, _⟩) (v := ?_) rfl (by kernel_rfl) (by kernel_rfl) (by kernel_rfl) (fun _ _ _ h => h) rfl hX ?_ ?_; rotate_left; (intro W hW; go_simp; try with_reducible rfl); simp only [Act.put, qA, qB, qC]
    refine sg_take (i := 3) (oi := ⟨some 20, _, _, _, _, _⟩) (v := .bool false) rfl (by kernel_rfl) (by kernel_rfl) (by kernel_rfl) (fun _ _ _ h => h) rfl hX (fun V _ => ex_ltY (.tmp 18) (.tmp 19) rfl (i := kk) (j := hi) rfl rfl (decide_eq_false HT.out) V) ?_; simp only [Act.put, qA, qB, qC]
    refine sg_take (i := 4) (oi := ⟨some 21, _, _, _, _, _⟩) (v := ?_) rfl (by kernel_rfl) (by kernel_rfl) (by kernel_rfl) (fun _ _ _ h => h) rfl hX ?_ ?_; rotate_left; (intro W hW; go_simp; try with_reducible rfl); simp only [Act.put, qA, qB, qC]
    refine sg_skip (i := 5) (oi := ⟨some 22, _, _, _, _, _⟩) rfl (by kernel_rfl) (by kernel_rfl) (by kernel_rfl) (fun _ _ _ h => h) rfl hX ?_; simp only [Act.put, qA, qB, qC]
    refine sg_skip (i := 6) (oi := ⟨some 23, _, _, _, _, _⟩) rfl (by kernel_rfl) (by kernel_rfl) (by kernel_rfl) (fun _ _ _ h => h) rfl hX ?_; simp only [Act.put, qA, qB, qC]
    refine sg_skip (i := 7) (oi := ⟨some 24, _, _, _, _, _⟩) rfl (by kernel_rfl) (by kernel_rfl) (by kernel_rfl) (fun _ _ _ h => h) rfl hX ?_; simp only [Act.put, qA, qB, qC]
    refine sg_skip (i := 8) (oi := ⟨some 25, _, _, _, _, _⟩) rfl (by kernel_rfl) (by kernel_rfl) (by kernel_rfl) (fun _ _ _ h => h) rfl hX ?_; simp only [Act.put, qA, qB, qC]
    refine sg_skip (i := 9) (oi := ⟨some 26, _, _, _, _, _⟩) rfl (by kernel_rfl) (by kernel_rfl) (by kernel_rfl) (fun _ _ _ h => h) rfl hX ?_; simp only [Act.put, qA, qB, qC]
    refine sg_skip (i := 10) (oi := ⟨some 27, _, _, _, _, _⟩) rfl (by kernel_rfl) (by kernel_rfl) (by kernel_rfl) (fun _ _ _ h => h) rfl hX ?_; simp only [Act.put, qA, qB, qC]
    refine sg_skip (i := 11) (oi := ⟨some 28, _, _, _, _, _⟩) rfl (by kernel_rfl) (by kernel_rfl) (by kernel_rfl) (fun _ _ _ h => h) rfl hX ?_; simp only [Act.put, qA, qB, qC]
    refine sg_skip (i := 12) (oi := ⟨some 29, _, _, _, _, _⟩) rfl (by kernel_rfl) (by kernel_rfl) (by kernel_rfl) (fun _ _ _ h => h) rfl hX ?_; simp only [Act.put, qA, qB, qC]
    refine sg_skip (i := 13) (oi := ⟨some 30, _, _, _, _, _⟩) rfl (by kernel_rfl) (by kernel_rfl) (by kernel_rfl) (fun _ _ _ h => h) rfl hX ?_; simp only [Act.put, qA, qB, qC]
    refine sg_skip (i := 14) (oi := ⟨some 31, _, _, _, _, _⟩) rfl (by kernel_rfl) (by kernel_rfl) (by kernel_rfl) (fun _ _ _ h => h) rfl hX ?_; simp only [Act.put, qA, qB, qC]
    refine sg_skip (i := 15) (oi := ⟨some 32, _, _, _, _, _⟩) rfl (by kernel_rfl) (by kernel_rfl) (by kernel_rfl) (fun _ _ _ h => h) rfl hX ?_; simp only [Act.put, qA, qB, qC]
    refine sg_skip (i := 16) (oi := ⟨some 33, _, _, _, _, _⟩) rfl (by kernel_rfl) (by kernel_rfl) (by kernel_rfl) (fun _ _ _ h => h) rfl hX ?_; simp only [Act.put, qA, qB, qC]
    refine sg_skip (i := 17) (oi := ⟨some 34, _, _, _, _, _⟩) rfl (by kernel_rfl) (by kernel_rfl) (by kernel_rfl) (fun _ _ _ h => h) rfl hX ?_; simp only [Act.put, qA, qB, qC]
    refine sg_skip (i := 18) (oi := ⟨some 35, _, _, _, _, _⟩) rfl (by kernel_rfl) (by kernel_rfl) (by kernel_rfl) (fun _ _ _ h => h) rfl hX ?_; simp only [Act.put, qA, qB, qC]
    refine sg_take (i := 19) (oi := ⟨some 36, _, _, _, _, _⟩) (v := ?_) rfl (by kernel_rfl) (by kernel_rfl) (by kernel_rfl) (fun _ _ _ h => h) rfl hX ?_ ?_; rotate_left; (intro W hW; go_simp; try with_reducible rfl); simp only [Act.put, qA, qB, qC]
    refine wpAnyH_done (by kernel_rfl) ?_ _
    have SE := qH (SD.out.is hX)
    have GE := qH (grownS_is GD.out hX)
    clear hX SD GD
    have SD := SE
    have GD := GE
    clear SE GE
    have HCH := qH (show k < hi by exact HK1.out)
    have HRC := qH (show r < k by have := HM2.out; have := HKM.out; have := HKK.out; omega)
    obtain ⟨fr, hfr⟩ : ∃ fr, fr = f + r := ⟨_, rfl⟩
    obtain ⟨fh, hfh⟩ : ∃ fh, fh = f + k := ⟨_, rfl⟩
    have HFR := qH hfr
    have HFH := qH hfh
    have HFHN := qH (show fh < n by have := HCH.out; have := HHI.out; omega)
    have HFRN := qH (show fr < n by have := HRC.out; have := HFHN.out; omega)
    have HFRb := qH (show fr ≤ 4194304 by have := HFRN.out; have := HN.out; omega)
    have HFHb := qH (show fh ≤ 4194304 by have := HFHN.out; have := HN.out; omega)
    clear hfr hfh
    obtain ⟨q, hq⟩ : ∃ q, l[fr]? = some q := ⟨_, List.getElem?_eq_getElem (by rw [SL.out]; exact HFRN.out)⟩
    obtain ⟨p, hp⟩ : ∃ p, l[fh]? = some p := ⟨_, List.getElem?_eq_getElem (by rw [SL.out]; exact HFHN.out)⟩
    have HP := qH hp
    have HQ := qH hq
    obtain ⟨c2, hc2⟩ : ∃ c, c = decide (q.toNat < p.toNat) := ⟨_, rfl⟩
    have HC := qH hc2
    clear hp hq hc2
    go_wp2_with fail
    refine sg_start (S := IsW wd.drew) (by kernel_rfl) rfl (fun wd hwd => ?_)
    have hX : IsW _ wd := hwd
    clear hwd
    refine sg_take (i := 0) (oi := ⟨some 39, _, _, _, _, _⟩) (v := ?_) rfl (by kernel_rfl) (by kernel_rfl) (by kernel_rfl) (fun _ _ _ h => h) rfl hX ?_ ?_; rotate_left; (intro W hW; go_simp; try with_reducible rfl); simp only [Act.put, qA, qB, qC]
    refine sg_take (i := 1) (oi := ⟨some 40, _, _, _, _, _⟩) (v := ?_) rfl (by kernel_rfl) (by kernel_rfl) (by kernel_rfl) (fun _ _ _ h => h) rfl hX ?_ ?_; rotate_left; (intro W hW; go_simp; try with_reducible rfl); simp only [Act.put, qA, qB, qC]
    refine sg_take (i := 2) (oi := ⟨some 41, _, _, _, _, _⟩) (v := ?_) rfl (by kernel_rfl) (by kernel_rfl) (by kernel_rfl) (fun _ _ _ h => h) rfl hX ?_ ?_; rotate_left; (intro W hW; go_simp; try with_reducible rfl); simp only [Act.put, qA, qB, qC]
    refine sg_take (i := 3) (oi := ⟨some 42, _, _, _, _, _⟩) (v := .int .i64 ((fr : Nat) : Int)) rfl (by kernel_rfl) (by kernel_rfl) (by kernel_rfl) (fun _ _ _ h => h) rfl hX (fun V _ => ex_addY (.tmp 40) (.tmp 41) rfl rfl rfl HFR.out HFRb.out V) ?_; simp only [Act.put, qA, qB, qC]
    refine sg_take (i := 4) (oi := ⟨some 43, _, _, _, _, _⟩) (v := .pointer (some ⟨g, fr, none⟩)) rfl (by kernel_rfl) (by kernel_rfl) (by kernel_rfl) (fun _ _ _ h => h) rfl hX (fun V _ => ix_y (.tmp 39) (.tmp 42) rfl rfl rfl HFRN.out V) ?_; simp only [Act.put, qA, qB, qC]
    refine sg_take (i := 5) (oi := ⟨some 44, _, _, _, _, _⟩) (v := bv q) rfl (by kernel_rfl) (by kernel_rfl) (by kernel_rfl) (fun _ _ _ h => h) rfl hX (fun V hV => ld_yt (.tmp 43) rfl rfl ((SD.out.is hV).cell HQ.out)) ?_; simp only [Act.put, qA, qB, qC]
    refine sg_take (i := 6) (oi := ⟨some 45, _, _, _, _, _⟩) (v := ?_) rfl (by kernel_rfl) (by kernel_rfl) (by kernel_rfl) (fun _ _ _ h => h) rfl hX ?_ ?_; rotate_left; (intro W hW; go_simp; try with_reducible rfl); simp only [Act.put, qA, qB, qC]
    refine sg_take (i := 7) (oi := ⟨some 46, _, _, _, _, _⟩) (v := ?_) rfl (by kernel_rfl) (by kernel_rfl) (by kernel_rfl) (fun _ _ _ h => h) rfl hX ?_ ?_; rotate_left; (intro W hW; go_simp; try with_reducible rfl); simp only [Act.put, qA, qB, qC]
    refine sg_take (i := 8) (oi := ⟨some 47, _, _, _, _, _⟩) (v := ?_) rfl (by kernel_rfl) (by kernel_rfl) (by kernel_rfl) (fun _ _ _ h => h) rfl hX ?_ ?_; rotate_left; (intro W hW; go_simp; try with_reducible rfl); simp only [Act.put, qA, qB, qC]
    refine sg_take (i := 9) (oi := ⟨some 48, _, _, _, _, _⟩) (v := .int .i64 ((fh : Nat) : Int)) rfl (by kernel_rfl) (by kernel_rfl) (by kernel_rfl) (fun _ _ _ h => h) rfl hX (fun V _ => ex_addY (.tmp 46) (.tmp 47) rfl rfl rfl HFH.out HFHb.out V) ?_; simp only [Act.put, qA, qB, qC]
    refine sg_take (i := 10) (oi := ⟨some 49, _, _, _, _, _⟩) (v := .pointer (some ⟨g, fh, none⟩)) rfl (by kernel_rfl) (by kernel_rfl) (by kernel_rfl) (fun _ _ _ h => h) rfl hX (fun V _ => ix_y (.tmp 45) (.tmp 48) rfl rfl rfl HFHN.out V) ?_; simp only [Act.put, qA, qB, qC]
    refine sg_take (i := 11) (oi := ⟨some 50, _, _, _, _, _⟩) (v := bv p) rfl (by kernel_rfl) (by kernel_rfl) (by kernel_rfl) (fun _ _ _ h => h) rfl hX (fun V hV => ld_yt (.tmp 49) rfl rfl ((SD.out.is hV).cell HP.out)) ?_; simp only [Act.put, qA, qB, qC]
    refine sg_actB (i := 12) (o := ⟨some 51, _, _, _, _, _⟩) rfl (by kernel_rfl) rfl hX (fun K hK => ?_)
    go_wp2_with fail
    refine (lessY_any _ _ _).mono ?_
    rintro e we ⟨rfl, hwe⟩
    subst hwe
    rw [← HC.out]
    go_wp2_with fail
    refine hK _ _ hX ?_
    clear hK K
    (try simp only [Act.put, qA, qB, qC])
    refine sg_take (i := 13) (oi := ⟨some 52, _, _, _, _, _⟩) (v := ?_) rfl (by kernel_rfl) (by kernel_rfl) (by kernel_rfl) (fun _ _ _ h => h) rfl hX ?_ ?_; rotate_left; (intro W hW; go_simp; try with_reducible rfl); simp only [Act.put, qA, qB, qC]
    refine wpAnyH_done (by kernel_rfl) ?_ _
    cases c2 with
    | false =>
     have SE := qH (SD.out.is hX)
     have GE := qH (grownS_is GD.out hX)
     clear hX
     go_wp2_with fail
     refine bodyPost_ret (results_none rfl _ _ _) rfl ?_
     exact ⟨rfl, ⟨⟨l, PL.out, SE.out⟩, GE.out⟩⟩
    | true =>
     have SE := qH (SD.out.is hX)
     have GE := qH (grownS_is GD.out hX)
     clear hX SD GD
     have SD := SE
     have GD := GE
     go_wp2_with fail
     refine mc_start (fun V => we.grownBy V (some g)) (fun V => V.heap[g]? = we.heap[g]?) 21 (by kernel_rfl) (fun wd hwd => ?_)
     have hX : we.grownBy wd (some g) := by rw [hwd]; exact grownS_drew _ _
     have hY : wd.heap[g]? = we.heap[g]? := by rw [hwd]; rfl
     have GW := qH (grownS_trans GD.out hX)
     have HWD := qH hwd
     clear hwd
     refine mc_take (i := 0) (oi := ⟨some 53, _, _, _, _, _⟩) (v := ?_) rfl (by kernel_rfl) (by kernel_rfl) (by kernel_rfl) (fun _ _ _ h => h) rfl hX ?_ ?_; rotate_left; (intro W hW; go_simp; try with_reducible rfl); simp only [Act.put, qA, qB, qC]
     refine mc_take (i := 1) (oi := ⟨some 54, _, _, _, _, _⟩) (v := ?_) rfl (by kernel_rfl) (by kernel_rfl) (by kernel_rfl) (fun _ _ _ h => h) rfl hX ?_ ?_; rotate_left; (intro W hW; go_simp; try with_reducible rfl); simp only [Act.put, qA, qB, qC]
     refine mc_take (i := 2) (oi := ⟨some 55, _, _, _, _, _⟩) (v := ?_) rfl (by kernel_rfl) (by kernel_rfl) (by kernel_rfl) (fun _ _ _ h => h) rfl hX ?_ ?_; rotate_left; (intro W hW; go_simp; try with_reducible rfl); simp only [Act.put, qA, qB, qC]
     refine mc_take (i := 3) (oi := ⟨some 56, _, _, _, _, _⟩) (v := .int .i64 ((fr : Nat) : Int)) rfl (by kernel_rfl) (by kernel_rfl) (by kernel_rfl) (fun _ _ _ h => h) rfl hX (fun V _ => ex_addY (.tmp 54) (.tmp 55) rfl rfl rfl HFR.out HFRb.out V) ?_; simp only [Act.put, qA, qB, qC]
     refine mc_take (i := 4) (oi := ⟨some 57, _, _, _, _, _⟩) (v := ?_) rfl (by kernel_rfl) (by kernel_rfl) (by kernel_rfl) (fun _ _ _ h => h) rfl hX ?_ ?_; rotate_left; (intro W hW; go_simp; try with_reducible rfl); simp only [Act.put, qA, qB, qC]
     refine mc_take (i := 5) (oi := ⟨some 58, _, _, _, _, _⟩) (v := ?_) rfl (by kernel_rfl) (by kernel_rfl) (by kernel_rfl) (fun _ _ _ h => h) rfl hX ?_ ?_; rotate_left; (intro W hW; go_simp; try with_reducible rfl); simp only [Act.put, qA, qB, qC]
     refine mc_take (i := 6) (oi := ⟨some 59, _, _, _, _, _⟩) (v := ?_) rfl (by kernel_rfl) (by kernel_rfl) (by kernel_rfl) (fun _ _ _ h => h) rfl hX ?_ ?_; rotate_left; (intro W hW; go_simp; try with_reducible rfl); simp only [Act.put, qA, qB, qC]
     refine mc_take (i := 7) (oi := ⟨some 60, _, _, _, _, _⟩) (v := .int .i64 ((fh : Nat) : Int)) rfl (by kernel_rfl) (by kernel_rfl) (by kernel_rfl) (fun _ _ _ h => h) rfl hX (fun V _ => ex_addY (.tmp 58) (.tmp 59) rfl rfl rfl HFH.out HFHb.out V) ?_; simp only [Act.put, qA, qB, qC]
     refine mc_take (i := 8) (oi := ⟨some 61, _, _, _, _, _⟩) (v := ?_) rfl (by kernel_rfl) (by kernel_rfl) (by kernel_rfl) (fun _ _ _ h => h) rfl hX ?_ ?_; rotate_left; (intro W hW; go_simp; try with_reducible rfl); simp only [Act.put, qA, qB, qC]
     refine mc_take (i := 9) (oi := ⟨some 62, _, _, _, _, _⟩) (v := ?_) rfl (by kernel_rfl) (by kernel_rfl) (by kernel_rfl) (fun _ _ _ h => h) rfl hX ?_ ?_; rotate_left; (intro W hW; go_simp; try with_reducible rfl); simp only [Act.put, qA, qB, qC]
     refine mc_take (i := 10) (oi := ⟨some 63, _, _, _, _, _⟩) (v := ?_) rfl (by kernel_rfl) (by kernel_rfl) (by kernel_rfl) (fun _ _ _ h => h) rfl hX ?_ ?_; rotate_left; (intro W hW; go_simp; try with_reducible rfl); simp only [Act.put, qA, qB, qC]
     refine mc_take (i := 11) (oi := ⟨some 64, _, _, _, _, _⟩) (v := .int .i64 ((fh : Nat) : Int)) rfl (by kernel_rfl) (by kernel_rfl) (by kernel_rfl) (fun _ _ _ h => h) rfl hX (fun V _ => ex_addY (.tmp 62) (.tmp 63) rfl rfl rfl HFH.out HFHb.out V) ?_; simp only [Act.put, qA, qB, qC]
     refine mc_take (i := 12) (oi := ⟨some 65, _, _, _, _, _⟩) (v := .pointer (some ⟨g, fh, none⟩)) rfl (by kernel_rfl) (by kernel_rfl) (by kernel_rfl) (fun _ _ _ h => h) rfl hX (fun V _ => ix_y (.tmp 61) (.tmp 64) rfl rfl rfl HFHN.out V) ?_; simp only [Act.put, qA, qB, qC]
     refine mc_takeS (i := 13) (oi := ⟨some 66, _, _, _, _, _⟩) (v := bv p) rfl (by kernel_rfl) (by kernel_rfl) (by kernel_rfl) (fun _ _ _ h => h) rfl hX hY (fun V hT hS => ld_yt (.tmp 65) rfl rfl (cell_same hS (SD.out.cell HP.out))) ?_; simp only [Act.put, qA, qB, qC]
     refine mc_take (i := 14) (oi := ⟨some 67, _, _, _, _, _⟩) (v := ?_) rfl (by kernel_rfl) (by kernel_rfl) (by kernel_rfl) (fun _ _ _ h => h) rfl hX ?_ ?_; rotate_left; (intro W hW; go_simp; try with_reducible rfl); simp only [Act.put, qA, qB, qC]
     refine mc_take (i := 15) (oi := ⟨some 68, _, _, _, _, _⟩) (v := ?_) rfl (by kernel_rfl) (by kernel_rfl) (by kernel_rfl) (fun _ _ _ h => h) rfl hX ?_ ?_; rotate_left; (intro W hW; go_simp; try with_reducible rfl); simp only [Act.put, qA, qB, qC]
     refine mc_take (i := 16) (oi := ⟨some 69, _, _, _, _, _⟩) (v := ?_) rfl (by kernel_rfl) (by kernel_rfl) (by kernel_rfl) (fun _ _ _ h => h) rfl hX ?_ ?_; rotate_left; (intro W hW; go_simp; try with_reducible rfl); simp only [Act.put, qA, qB, qC]
     refine mc_take (i := 17) (oi := ⟨some 70, _, _, _, _, _⟩) (v := .int .i64 ((fr : Nat) : Int)) rfl (by kernel_rfl) (by kernel_rfl) (by kernel_rfl) (fun _ _ _ h => h) rfl hX (fun V _ => ex_addY (.tmp 68) (.tmp 69) rfl rfl rfl HFR.out HFRb.out V) ?_; simp only [Act.put, qA, qB, qC]
     refine mc_take (i := 18) (oi := ⟨some 71, _, _, _, _, _⟩) (v := .pointer (some ⟨g, fr, none⟩)) rfl (by kernel_rfl) (by kernel_rfl) (by kernel_rfl) (fun _ _ _ h => h) rfl hX (fun V _ => ix_y (.tmp 67) (.tmp 70) rfl rfl rfl HFRN.out V) ?_; simp only [Act.put, qA, qB, qC]
     refine mc_takeS (i := 19) (oi := ⟨some 72, _, _, _, _, _⟩) (v := bv q) rfl (by kernel_rfl) (by kernel_rfl) (by kernel_rfl) (fun _ _ _ h => h) rfl hX hY (fun V hT hS => ld_yt (.tmp 71) rfl rfl (cell_same hS (SD.out.cell HQ.out))) ?_; simp only [Act.put, qA, qB, qC]
     refine mc_take (i := 20) (oi := ⟨some 73, _, _, _, _, _⟩) (v := .pointer (some ⟨g, fr, none⟩)) rfl (by kernel_rfl) (by kernel_rfl) (by kernel_rfl) (fun _ _ _ h => h) rfl hX (fun V _ => ix_y (.tmp 53) (.tmp 56) rfl rfl rfl HFRN.out V) ?_; simp only [Act.put, qA, qB, qC]
     refine mc_last (i := 21) (o := ⟨none, _, _, _, _, _⟩) rfl (by kernel_rfl) rfl (fun K hK => ?_)
     have HZ := qH (show Dat wd g zs l from SD.out.keep hY)
     refine wp_stY (.tmp 73) (.tmp 66) rfl g fr rfl p rfl _ (HZ.out.cell HQ.out) (HZ.out.frozen _) ?_
     refine hK _ _ (grownS_set hX _ _) ?_
     clear hK K
     have HZ2 := qH (HZ.out.set (List.getElem?_eq_some_iff.1 HQ.out).1 p)
     have HC2 := qH (dat_hit HZ2.out (i := fh) (by rw [List.length_set]; exact (List.getElem?_eq_some_iff.1 HP.out).1))
     clear hY
     replace hX := grownS_set hX fr (bv p)
     (try simp only [Act.put, qA, qB, qC])
     refine mc_take (i := 22) (oi := ⟨some 74, _, _, _, _, _⟩) (v := .pointer (some ⟨g, fh, none⟩)) rfl (by kernel_rfl) (by kernel_rfl) (by kernel_rfl) (fun _ _ _ h => h) rfl hX (fun V _ => ix_y (.tmp 57) (.tmp 60) rfl rfl rfl HFHN.out V) ?_; simp only [Act.put, qA, qB, qC]
     refine mc_last (i := 23) (o := ⟨none, _, _, _, _, _⟩) rfl (by kernel_rfl) rfl (fun K hK => ?_)
     refine wp_stY (.tmp 74) (.tmp 72) rfl g fh rfl q rfl _ HC2.out (HZ2.out.frozen _) ?_
     refine hK _ _ (grownS_set hX _ _) ?_
     clear hK K hX
     (try simp only [Act.put, qA, qB, qC])
     refine wpAnyC_done (by kernel_rfl) ?_ _
     have HSW := qH (SoP.swap PL.out HZ.out GW.out HP.out HQ.out)
     have HM := qH (show hi - k < hi - r by have := HRC.out; have := HCH.out; omega)
     go_wp2_with fail
     exact ⟨⟨k, rfl, Or.inl HCH.out, HSW.out⟩, by simpa [intOf] using HM.out⟩
end Go.Proofs.Ytbbodfpnneifgaa
