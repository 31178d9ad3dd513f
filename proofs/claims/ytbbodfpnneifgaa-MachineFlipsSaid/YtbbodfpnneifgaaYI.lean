/-
  Texts of this proof, put together: SoC. No statement is proved here.
-/
import Derived.Test.YtbbodfpnneifgaaYG
namespace Go.Proofs.Ytbbodfpnneifgaa
open Go.RowKit
set_option linter.unusedSimpArgs false
set_option linter.unusedVariables false
set_option maxHeartbeats 4000000 in
set_option maxRecDepth 1000000 in
theorem insY_any (g n cap : Nat) (zs : List Value) (l0 : List UInt8) (w : World) (hl : l0.length = n) (hn : n ≤ 1048576) (hd : Dat w g zs l0) (a b : Nat) (hb : b ≤ n) (ha : a ≤ n) :
  Calls Try.prog 47 #[.slice (some ⟨g, 0, none⟩) n cap, .int .i64 (a : Int), .int .i64 (b : Int)] w fun e w' => e = .returned (.tuple #[]) ∧ SoP g zs l0 w w' := by
 have HL := qH hl
 have HN := qH hn
 have D0 := qH hd
 have HB := qH hb
 have a1 := wrap_one a (by omega)
 have a2 := wrap_one' a (by omega)
 clear hl hn hd hb ha
 go_enter Try.func47, Try.ntmps47
 go_wp2_with fail
 go_loopw [6] (fun iv wl => ∃ i : Nat, iv = .int .i64 (i : Int) ∧ a + 1 ≤ i ∧ SoP g zs l0 w wl) (fun iv _ => b - (intOf iv).toNat)
 case atStart => exact ⟨a + 1, by simp, Nat.le_refl _, SoP.refl D0.out⟩
 case round =>
  obtain ⟨i, rfl, hai, hs⟩ := hrel
  have HS := qH hs
  have HAI := qH hai
  clear hs hai
  by_cases hib : i < b
  ·have x1 : (i : Int) < (b : Int) := Int.ofNat_lt.2 hib
   have HIB := qH hib
   have HMI := qH (sub_next hib)
   have f1 := wrap_one i (by have := HN.out; have := HB.out; omega)
   have f2 := wrap_one' i (by have := HN.out; have := HB.out; omega)
   clear hib
   rename_i wq
   go_wp2_with fail
   go_loopw [7] (fun jv wl => ∃ j : Nat, jv = .int .i64 (j : Int) ∧ j ≤ i ∧ SoP g zs l0 w wl) (fun jv _ => (intOf jv).toNat)
   case atStart => exact ⟨i, rfl, Nat.le_refl _, HS.out⟩
   case round =>
    obtain ⟨j, rfl, hji, ⟨l, hp, hd⟩, hg⟩ := hrel
    have SD := qH hd
    have PL := qH hp
    have GD := qH hg
    have SL := qH (show l.length = n by rw [hp.length_eq]; exact HL.out)
    clear hp hd hg
    rename_i wr
    by_cases haj : a < j
    ·obtain ⟨j1, rfl⟩ : ∃ j1, j = j1 + 1 := ⟨j - 1, by omega⟩
     have HAJ := qH haj
     have HJN := qH (show j1 + 1 < n by have := HIB.out; have := HB.out; omega)
     have HJ1 := qH (show j1 < n by have := HJN.out; omega)
     have HJI := qH (show j1 ≤ i by omega)
     have HJK := qH (show j1 ≤ 1048576 by have := HJN.out; have := HN.out; omega)
     have g1 := w64S j1 (by have := HJK.out; omega)
     have g2 := k64S j1 (by have := HJK.out; omega)
     obtain ⟨q, hq⟩ : ∃ q, l[j1 + 1]? = some q := ⟨_, List.getElem?_eq_getElem (by rw [SL.out]; exact HJN.out)⟩
     obtain ⟨p, hp⟩ : ∃ p, l[j1]? = some p := ⟨_, List.getElem?_eq_getElem (by rw [SL.out]; exact HJ1.out)⟩
     have HP := qH hp
     have HQ := qH hq
     obtain ⟨c, hc⟩ : ∃ c, c = decide (q.toNat < p.toNat) := ⟨_, rfl⟩
     have HC := qH hc
     clear hp hq hji haj hc
     go_wp2_with fail
     refine sg_start (S := IsW wr.drew) (by kernel_rfl) rfl (fun wd hwd => ?_)
     have hX : IsW _ wd := hwd
     clear hwd
     refine sg_take (i := 0) (oi := ⟨some 16, _, _, _, _, _⟩) (v := ?_) rfl (by kernel_rfl) (by kernel_rfl) (by kernel_rfl) (fun _ _ _ h => h) rfl hX ?_ ?_; rotate_left; (intro W hW; go_simp; try with_reducible rfl); simp only [Act.put, qA, qB, qC]
     refine sg_take (i := 1) (oi := ⟨some 17, _, _, _, _, _⟩) (v := ?_) rfl (by kernel_rfl) (by kernel_rfl) (by kernel_rfl) (fun _ _ _ h => h) rfl hX ?_ ?_; rotate_left; (intro W hW; go_simp; try with_reducible rfl); simp only [Act.put, qA, qB, qC]
     refine sg_take (i := 2) (oi := ⟨some 18, _, _, _, _, _⟩) (v := .bool true) rfl (by kernel_rfl) (by kernel_rfl) (by kernel_rfl) (fun _ _ _ h => h) rfl hX (fun V _ => ex_gtY (.tmp 16) (.tmp 17) rfl (i := (j1 + 1)) (j := a) rfl rfl (decide_eq_true HAJ.out) V) ?_; simp only [Act.put, qA, qB, qC]
     refine sg_take (i := 3) (oi := ⟨some 19, _, _, _, _, _⟩) (v := ?_) rfl (by kernel_rfl) (by kernel_rfl) (by kernel_rfl) (fun _ _ _ h => h) rfl hX ?_ ?_; rotate_left; (intro W hW; go_simp; try with_reducible rfl); simp only [Act.put, qA, qB, qC]
     refine sg_take (i := 4) (oi := ⟨some 20, _, _, _, _, _⟩) (v := ?_) rfl (by kernel_rfl) (by kernel_rfl) (by kernel_rfl) (fun _ _ _ h => h) rfl hX ?_ ?_; rotate_left; (intro W hW; go_simp; try with_reducible rfl); simp only [Act.put, qA, qB, qC]
     refine sg_take (i := 5) (oi := ⟨some 21, _, _, _, _, _⟩) (v := ?_) rfl (by kernel_rfl) (by kernel_rfl) (by kernel_rfl) (fun _ _ _ h => h) rfl hX ?_ ?_; rotate_left; (intro W hW; go_simp; try with_reducible rfl); simp only [Act.put, qA, qB, qC]
     refine sg_take (i := 6) (oi := ⟨some 22, _, _, _, _, _⟩) (v := .pointer (some ⟨g, (j1 + 1), none⟩)) rfl (by kernel_rfl) (by kernel_rfl) (by kernel_rfl) (fun _ _ _ h => h) rfl hX (fun V _ => ix_y (.tmp 20) (.tmp 21) rfl rfl rfl HJN.out V) ?_; simp only [Act.put, qA, qB, qC]
     refine sg_take (i := 7) (oi := ⟨some 23, _, _, _, _, _⟩) (v := bv q) rfl (by kernel_rfl) (by kernel_rfl) (by kernel_rfl) (fun _ _ _ h => h) rfl hX (fun V hV => ld_yt (.tmp 22) rfl rfl ((SD.out.is hV).cell HQ.out)) ?_; simp only [Act.put, qA, qB, qC]
     refine sg_take (i := 8) (oi := ⟨some 24, _, _, _, _, _⟩) (v := ?_) rfl (by kernel_rfl) (by kernel_rfl) (by kernel_rfl) (fun _ _ _ h => h) rfl hX ?_ ?_; rotate_left; (intro W hW; go_simp; try with_reducible rfl); simp only [Act.put, qA, qB, qC]
     refine sg_take (i := 9) (oi := ⟨some 25, _, _, _, _, _⟩) (v := ?_) rfl (by kernel_rfl) (by kernel_rfl) (by kernel_rfl) (fun _ _ _ h => h) rfl hX ?_ ?_; rotate_left; (intro W hW; go_simp; try with_reducible rfl); simp only [Act.put, qA, qB, qC]
     refine sg_take (i := 10) (oi := ⟨some 26, _, _, _, _, _⟩) (v := .int .i64 ((j1 : Nat) : Int)) rfl (by kernel_rfl) (by kernel_rfl) (by kernel_rfl) (fun _ _ _ h => h) rfl hX (fun V _ => ex_sub1Y (.tmp 25) rfl rfl rfl HJK.out V) ?_; simp only [Act.put, qA, qB, qC]
     refine sg_take (i := 11) (oi := ⟨some 27, _, _, _, _, _⟩) (v := .pointer (some ⟨g, j1, none⟩)) rfl (by kernel_rfl) (by kernel_rfl) (by kernel_rfl) (fun _ _ _ h => h) rfl hX (fun V _ => ix_y (.tmp 24) (.tmp 26) rfl rfl rfl HJ1.out V) ?_; simp only [Act.put, qA, qB, qC]
     refine sg_take (i := 12) (oi := ⟨some 28, _, _, _, _, _⟩) (v := bv p) rfl (by kernel_rfl) (by kernel_rfl) (by kernel_rfl) (fun _ _ _ h => h) rfl hX (fun V hV => ld_yt (.tmp 27) rfl rfl ((SD.out.is hV).cell HP.out)) ?_; simp only [Act.put, qA, qB, qC]
     refine sg_actB (i := 13) (o := ⟨some 29, _, _, _, _, _⟩) rfl (by kernel_rfl) rfl hX (fun K hK => ?_)
     go_wp2_with fail
     refine (lessY_any _ _ _).mono ?_
     rintro e we ⟨rfl, hwe⟩
     subst hwe
     rw [← HC.out]
     go_wp2_with fail
     refine hK _ _ hX ?_
     clear hK K
     (try simp only [Act.put, qA, qB, qC])
     refine sg_take (i := 14) (oi := ⟨some 30, _, _, _, _, _⟩) (v := ?_) rfl (by kernel_rfl) (by kernel_rfl) (by kernel_rfl) (fun _ _ _ h => h) rfl hX ?_ ?_; rotate_left; (intro W hW; go_simp; try with_reducible rfl); simp only [Act.put, qA, qB, qC]
     refine wpAnyH_done (by kernel_rfl) ?_ _
     cases c with
     | false =>
      have SE := qH (SD.out.is hX)
      have GE := qH (grownS_is GD.out hX)
      clear hX
      go_wp2_with fail
      exact ⟨⟨i + 1, by congr 1, Nat.le_succ_of_le HAI.out, ⟨⟨l, PL.out, SE.out⟩, GE.out⟩⟩, by simpa [intOf] using HMI.out⟩
     | true =>
      have SE := qH (SD.out.is hX)
      have GE := qH (grownS_is GD.out hX)
      clear hX SD GD
      have SD := SE
      have GD := GE
      go_wp2_with fail
      refine mc_start (fun V => we.grownBy V (some g)) (fun V => V.heap[g]? = we.heap[g]?) 15 (by kernel_rfl) (fun wd hwd => ?_)
      have hX : we.grownBy wd (some g) := by rw [hwd]; exact grownS_drew _ _
      have hY : wd.heap[g]? = we.heap[g]? := by rw [hwd]; rfl
      have GW := qH (grownS_trans GD.out hX)
      have HWD := qH hwd
      clear hwd
      refine mc_take (i := 0) (oi := ⟨some 33, _, _, _, _, _⟩) (v := ?_) rfl (by kernel_rfl) (by kernel_rfl) (by kernel_rfl) (fun _ _ _ h => h) rfl hX ?_ ?_; rotate_left; (intro W hW; go_simp; try with_reducible rfl); simp only [Act.put, qA, qB, qC]
      refine mc_take (i := 1) (oi := ⟨some 34, _, _, _, _, _⟩) (v := ?_) rfl (by kernel_rfl) (by kernel_rfl) (by kernel_rfl) (fun _ _ _ h => h) rfl hX ?_ ?_; rotate_left; (intro W hW; go_simp; try with_reducible rfl); simp only [Act.put, qA, qB, qC]
      refine mc_take (i := 2) (oi := ⟨some 35, _, _, _, _, _⟩) (v := ?_) rfl (by kernel_rfl) (by kernel_rfl) (by kernel_rfl) (fun _ _ _ h => h) rfl hX ?_ ?_; rotate_left; (intro W hW; go_simp; try with_reducible rfl); simp only [Act.put, qA, qB, qC]
      refine mc_take (i := 3) (oi := ⟨some 36, _, _, _, _, _⟩) (v := ?_) rfl (by kernel_rfl) (by kernel_rfl) (by kernel_rfl) (fun _ _ _ h => h) rfl hX ?_ ?_; rotate_left; (intro W hW; go_simp; try with_reducible rfl); simp only [Act.put, qA, qB, qC]
      refine mc_take (i := 4) (oi := ⟨some 37, _, _, _, _, _⟩) (v := .int .i64 ((j1 : Nat) : Int)) rfl (by kernel_rfl) (by kernel_rfl) (by kernel_rfl) (fun _ _ _ h => h) rfl hX (fun V _ => ex_sub1Y (.tmp 36) rfl rfl rfl HJK.out V) ?_; simp only [Act.put, qA, qB, qC]
      refine mc_take (i := 5) (oi := ⟨some 38, _, _, _, _, _⟩) (v := ?_) rfl (by kernel_rfl) (by kernel_rfl) (by kernel_rfl) (fun _ _ _ h => h) rfl hX ?_ ?_; rotate_left; (intro W hW; go_simp; try with_reducible rfl); simp only [Act.put, qA, qB, qC]
      refine mc_take (i := 6) (oi := ⟨some 39, _, _, _, _, _⟩) (v := ?_) rfl (by kernel_rfl) (by kernel_rfl) (by kernel_rfl) (fun _ _ _ h => h) rfl hX ?_ ?_; rotate_left; (intro W hW; go_simp; try with_reducible rfl); simp only [Act.put, qA, qB, qC]
      refine mc_take (i := 7) (oi := ⟨some 40, _, _, _, _, _⟩) (v := .int .i64 ((j1 : Nat) : Int)) rfl (by kernel_rfl) (by kernel_rfl) (by kernel_rfl) (fun _ _ _ h => h) rfl hX (fun V _ => ex_sub1Y (.tmp 39) rfl rfl rfl HJK.out V) ?_; simp only [Act.put, qA, qB, qC]
      refine mc_take (i := 8) (oi := ⟨some 41, _, _, _, _, _⟩) (v := .pointer (some ⟨g, j1, none⟩)) rfl (by kernel_rfl) (by kernel_rfl) (by kernel_rfl) (fun _ _ _ h => h) rfl hX (fun V _ => ix_y (.tmp 38) (.tmp 40) rfl rfl rfl HJ1.out V) ?_; simp only [Act.put, qA, qB, qC]
      refine mc_takeS (i := 9) (oi := ⟨some 42, _, _, _, _, _⟩) (v := bv p) rfl (by kernel_rfl) (by kernel_rfl) (by kernel_rfl) (fun _ _ _ h => h) rfl hX hY (fun V hT hS => ld_yt (.tmp 41) rfl rfl (cell_same hS (SD.out.cell HP.out))) ?_; simp only [Act.put, qA, qB, qC]
      refine mc_take (i := 10) (oi := ⟨some 43, _, _, _, _, _⟩) (v := ?_) rfl (by kernel_rfl) (by kernel_rfl) (by kernel_rfl) (fun _ _ _ h => h) rfl hX ?_ ?_; rotate_left; (intro W hW; go_simp; try with_reducible rfl); simp only [Act.put, qA, qB, qC]
      refine mc_take (i := 11) (oi := ⟨some 44, _, _, _, _, _⟩) (v := ?_) rfl (by kernel_rfl) (by kernel_rfl) (by kernel_rfl) (fun _ _ _ h => h) rfl hX ?_ ?_; rotate_left; (intro W hW; go_simp; try with_reducible rfl); simp only [Act.put, qA, qB, qC]
      refine mc_take (i := 12) (oi := ⟨some 45, _, _, _, _, _⟩) (v := .pointer (some ⟨g, (j1 + 1), none⟩)) rfl (by kernel_rfl) (by kernel_rfl) (by kernel_rfl) (fun _ _ _ h => h) rfl hX (fun V _ => ix_y (.tmp 43) (.tmp 44) rfl rfl rfl HJN.out V) ?_; simp only [Act.put, qA, qB, qC]
      refine mc_takeS (i := 13) (oi := ⟨some 46, _, _, _, _, _⟩) (v := bv q) rfl (by kernel_rfl) (by kernel_rfl) (by kernel_rfl) (fun _ _ _ h => h) rfl hX hY (fun V hT hS => ld_yt (.tmp 45) rfl rfl (cell_same hS (SD.out.cell HQ.out))) ?_; simp only [Act.put, qA, qB, qC]
      refine mc_take (i := 14) (oi := ⟨some 47, _, _, _, _, _⟩) (v := .pointer (some ⟨g, (j1 + 1), none⟩)) rfl (by kernel_rfl) (by kernel_rfl) (by kernel_rfl) (fun _ _ _ h => h) rfl hX (fun V _ => ix_y (.tmp 33) (.tmp 34) rfl rfl rfl HJN.out V) ?_; simp only [Act.put, qA, qB, qC]
      refine mc_last (i := 15) (o := ⟨none, _, _, _, _, _⟩) rfl (by kernel_rfl) rfl (fun K hK => ?_)
      have HZ := qH (show Dat wd g zs l from SD.out.keep hY)
      refine wp_stY (.tmp 47) (.tmp 42) rfl g (j1 + 1) rfl p rfl _ (HZ.out.cell HQ.out) (HZ.out.frozen _) ?_
      refine hK _ _ (grownS_set hX _ _) ?_
      clear hK K
      have HZ2 := qH (HZ.out.set (List.getElem?_eq_some_iff.1 HQ.out).1 p)
      have HC2 := qH (dat_hit HZ2.out (i := j1) (by rw [List.length_set]; exact (List.getElem?_eq_some_iff.1 HP.out).1))
      clear hY
      replace hX := grownS_set hX (j1 + 1) (bv p)
      (try simp only [Act.put, qA, qB, qC])
      refine mc_take (i := 16) (oi := ⟨some 48, _, _, _, _, _⟩) (v := .pointer (some ⟨g, j1, none⟩)) rfl (by kernel_rfl) (by kernel_rfl) (by kernel_rfl) (fun _ _ _ h => h) rfl hX (fun V _ => ix_y (.tmp 35) (.tmp 37) rfl rfl rfl HJ1.out V) ?_; simp only [Act.put, qA, qB, qC]
      refine mc_last (i := 17) (o := ⟨none, _, _, _, _, _⟩) rfl (by kernel_rfl) rfl (fun K hK => ?_)
      refine wp_stY (.tmp 48) (.tmp 46) rfl g j1 rfl q rfl _ HC2.out (HZ2.out.frozen _) ?_
      refine hK _ _ (grownS_set hX _ _) ?_
      clear hK K hX
      (try simp only [Act.put, qA, qB, qC])
      refine wpAnyC_done (by kernel_rfl) ?_ _
      have HSW := qH (SoP.swap PL.out HZ.out GW.out HP.out HQ.out)
      have HM := qH (Nat.lt_succ_self j1)
      go_wp2_with fail
      exact ⟨⟨j1, rfl, HJI.out, HSW.out⟩, by simp [intOf]⟩
    ·have HAJ := qH haj
     clear haj hji
     go_wp2_with fail
     refine sg_start (S := IsW wr.drew) (by kernel_rfl) rfl (fun wd hwd => ?_)
     have hX : IsW _ wd := hwd
     clear hwd
     refine sg_take (i := 0) (oi := ⟨some 16, _, _, _, _, _⟩) (v := ?_) rfl (by kernel_rfl) (by kernel_rfl) (by kernel_rfl) (fun _ _ _ h => h) rfl hX ?_ ?_; rotate_left; (intro W hW; go_simp; try with_reducible rfl); simp only [Act.put, qA, qB, qC]
     refine sg_take (i := 1) (oi := ⟨some 17, _, _, _, _, _⟩) (v := ?_) rfl (by kernel_rfl) (by kernel_rfl) (by kernel_rfl) (fun _ _ _ h => h) rfl hX ?_ ?_; rotate_left; (intro W hW; go_simp; try with_reducible rfl); simp only [Act.put, qA, qB, qC]
     refine sg_take (i := 2) (oi := ⟨some 18, _, _, _, _, _⟩) (v := .bool false) rfl (by kernel_rfl) (by kernel_rfl) (by kernel_rfl) (fun _ _ _ h => h) rfl hX (fun V _ => ex_gtY (.tmp 16) (.tmp 17) rfl (i := j) (j := a) rfl rfl (decide_eq_false HAJ.out) V) ?_; simp only [Act.put, qA, qB, qC]
     refine sg_take (i := 3) (oi := ⟨some 19, _, _, _, _, _⟩) (v := ?_) rfl (by kernel_rfl) (by kernel_rfl) (by kernel_rfl) (fun _ _ _ h => h) rfl hX ?_ ?_; rotate_left; (intro W hW; go_simp; try with_reducible rfl); simp only [Act.put, qA, qB, qC]
     refine sg_skip (i := 4) (oi := ⟨some 20, _, _, _, _, _⟩) rfl (by kernel_rfl) (by kernel_rfl) (by kernel_rfl) (fun _ _ _ h => h) rfl hX ?_; simp only [Act.put, qA, qB, qC]
     refine sg_skip (i := 5) (oi := ⟨some 21, _, _, _, _, _⟩) rfl (by kernel_rfl) (by kernel_rfl) (by kernel_rfl) (fun _ _ _ h => h) rfl hX ?_; simp only [Act.put, qA, qB, qC]
     refine sg_skip (i := 6) (oi := ⟨some 22, _, _, _, _, _⟩) rfl (by kernel_rfl) (by kernel_rfl) (by kernel_rfl) (fun _ _ _ h => h) rfl hX ?_; simp only [Act.put, qA, qB, qC]
     refine sg_skip (i := 7) (oi := ⟨some 23, _, _, _, _, _⟩) rfl (by kernel_rfl) (by kernel_rfl) (by kernel_rfl) (fun _ _ _ h => h) rfl hX ?_; simp only [Act.put, qA, qB, qC]
     refine sg_skip (i := 8) (oi := ⟨some 24, _, _, _, _, _⟩) rfl (by kernel_rfl) (by kernel_rfl) (by kernel_rfl) (fun _ _ _ h => h) rfl hX ?_; simp only [Act.put, qA, qB, qC]
     refine sg_skip (i := 9) (oi := ⟨some 25, _, _, _, _, _⟩) rfl (by kernel_rfl) (by kernel_rfl) (by kernel_rfl) (fun _ _ _ h => h) rfl hX ?_; simp only [Act.put, qA, qB, qC]
     refine sg_skip (i := 10) (oi := ⟨some 26, _, _, _, _, _⟩) rfl (by kernel_rfl) (by kernel_rfl) (by kernel_rfl) (fun _ _ _ h => h) rfl hX ?_; simp only [Act.put, qA, qB, qC]
     refine sg_skip (i := 11) (oi := ⟨some 27, _, _, _, _, _⟩) rfl (by kernel_rfl) (by kernel_rfl) (by kernel_rfl) (fun _ _ _ h => h) rfl hX ?_; simp only [Act.put, qA, qB, qC]
     refine sg_skip (i := 12) (oi := ⟨some 28, _, _, _, _, _⟩) rfl (by kernel_rfl) (by kernel_rfl) (by kernel_rfl) (fun _ _ _ h => h) rfl hX ?_; simp only [Act.put, qA, qB, qC]
     refine sg_skip (i := 13) (oi := ⟨some 29, _, _, _, _, _⟩) rfl (by kernel_rfl) (by kernel_rfl) (by kernel_rfl) (fun _ _ _ h => h) rfl hX ?_; simp only [Act.put, qA, qB, qC]
     refine sg_take (i := 14) (oi := ⟨some 30, _, _, _, _, _⟩) (v := ?_) rfl (by kernel_rfl) (by kernel_rfl) (by kernel_rfl) (fun _ _ _ h => h) rfl hX ?_ ?_; rotate_left; (intro W hW; go_simp; try with_reducible rfl); simp only [Act.put, qA, qB, qC]
     refine wpAnyH_done (by kernel_rfl) ?_ _
     have SE := qH (SD.out.is hX)
     have GE := qH (grownS_is GD.out hX)
     clear hX
     go_wp2_with fail
     exact ⟨⟨i + 1, by congr 1, Nat.le_succ_of_le HAI.out, ⟨⟨l, PL.out, SE.out⟩, GE.out⟩⟩, by simpa [intOf] using HMI.out⟩
  ·have x1 : ¬ ((i : Int) < (b : Int)) := by omega
   clear hib
   go_wp2_with fail
   refine bodyPost_end (results_none rfl _ _ _) rfl ?_
   exact ⟨rfl, HS.out⟩
end Go.Proofs.Ytbbodfpnneifgaa
