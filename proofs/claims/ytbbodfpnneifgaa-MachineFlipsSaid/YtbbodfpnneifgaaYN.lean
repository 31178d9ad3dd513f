/-
  Texts of this proof, put together: SoJ. No statement is proved here.
-/
import Derived.Test.YtbbodfpnneifgaaYG
namespace Go.Proofs.Ytbbodfpnneifgaa
open Go.RowKit
set_option linter.unusedSimpArgs false
set_option linter.unusedVariables false
def PinP (g : Nat) (zs : List Value) (l0 : List UInt8) (w : World) (e : Ending) (w' : World) : Prop := ∃ c : Bool, e = .returned (.bool c) ∧ SoP g zs l0 w w'
set_option maxHeartbeats 8000000 in
set_option maxRecDepth 1000000 in
theorem pinY_any (g n cap : Nat) (zs : List Value) (l0 : List UInt8) (w : World) (hl : l0.length = n) (hn : n ≤ 1048576) (hd : Dat w g zs l0) (a b : Nat) (hab : a < b) (hb : b ≤ n) :
  Calls Try.prog 52 #[.slice (some ⟨g, 0, none⟩) n cap, .int .i64 (a : Int), .int .i64 (b : Int)] w fun e w' => PinP g zs l0 w e w' := by
 have HL := qH hl
 have HN := qH hn
 have D0 := qH hd
 have HB := qH hb
 have HAB := qH hab
 obtain ⟨len, hlen⟩ : ∃ len, a + len = b := ⟨b - a, Nat.add_sub_cancel' (Nat.le_of_lt hab)⟩
 have HLN := qH hlen
 have HBM := qH (show b ≤ 1048576 from Nat.le_trans hb hn)
 have a1 := wrap_one a (by omega)
 have a2 := wrap_one' a (by omega)
 have e1 := dif_w hlen HBM.out
 have e2 := dif_k hlen HBM.out
 clear hl hn hd hb hab hlen
 go_enter Try.func52, Try.ntmps52
 go_wp2_with fail
 go_loopw [7, 8] (fun iv jv wl => ∃ i jc : Nat, iv = .int .i64 (i : Int) ∧ jv = .int .i64 (jc : Int) ∧ a + 1 ≤ i ∧ i ≤ b ∧ jc ≤ 5 ∧ SoP g zs l0 w wl) (fun _ jv _ => 5 - (intOf jv).toNat)
 case atStart => exact ⟨a + 1, 0, by simp, rfl, Nat.le_refl _, HAB.out, by decide, SoP.refl D0.out⟩
 case round =>
  obtain ⟨i, jc, rfl, rfl, hai, hib, hjc, hs⟩ := hrel
  have HS := qH hs
  have HAI0 := qH hai
  have HIB0 := qH hib
  clear hs hai hib
  by_cases hj5 : jc < 5
  ·have x1 : (jc : Int) < 5 := Int.ofNat_lt.2 hj5
   have HMC := qH (sub_next hj5)
   have HJC := qH (show jc + 1 ≤ 5 from hj5)
   have c1 := wrap_one jc (Nat.le_trans hjc (by decide))
   have c2 := wrap_one' jc (Nat.le_trans hjc (by decide))
   clear hj5 hjc
   rename_i wq
   go_wp2_with fail
   go_loopw [7] (fun iv wl => ∃ i : Nat, iv = .int .i64 (i : Int) ∧ a + 1 ≤ i ∧ i ≤ b ∧ SoP g zs l0 w wl) (fun iv _ => b - (intOf iv).toNat)
   case atStart => exact ⟨i, rfl, HAI0.out, HIB0.out, HS.out⟩
   case round =>
    clear HS HAI0 HIB0
    obtain ⟨i, rfl, hai, hib, hs⟩ := hrel
    have HS := qH hs
    have HAI := qH hai
    have HIB2 := qH hib
    clear hs
    rename_i wr
    by_cases hlt : i < b
    ·obtain ⟨i1, hi1⟩ := pre_ex (Nat.lt_of_lt_of_le (Nat.succ_pos a) hai)
     have HIE := qH hi1
     have HIB := qH hlt
     have HIN := qH (show i < n from Nat.lt_of_lt_of_le hlt HB.out)
     have HI1 := qH (show i1 < n from Nat.lt_of_succ_lt (by rw [Nat.succ_eq_add_one, hi1]; exact HIN.out))
     have HIK := qH (show i1 ≤ 1048576 from Nat.le_trans (Nat.le_of_lt HI1.out) HN.out)
     have HMI := qH (sub_next hlt)
     have f1 := sub_w hi1 HIK.out
     have f2 := sub_k hi1 HIK.out
     have f3 := wrap_one i (Nat.le_trans (Nat.le_of_lt HIN.out) (Nat.le_trans HN.out (by decide)))
     have f4 := wrap_one' i (Nat.le_trans (Nat.le_of_lt HIN.out) (Nat.le_trans HN.out (by decide)))
     clear hlt hai hib hi1
     obtain ⟨l, hp, hd⟩ := HS.out.dat
     have PL := qH hp
     have SD := qH hd
     have GD := qH HS.out.grown
     have SL := qH (show l.length = n by rw [hp.length_eq]; exact HL.out)
     clear hp hd
     obtain ⟨q, hq⟩ : ∃ q, l[i]? = some q := ⟨_, List.getElem?_eq_getElem (by rw [SL.out]; exact HIN.out)⟩
     obtain ⟨p, hp⟩ : ∃ p, l[i1]? = some p := ⟨_, List.getElem?_eq_getElem (by rw [SL.out]; exact HI1.out)⟩
     have HP := qH hp
     have HQ := qH hq
     obtain ⟨c, hc⟩ : ∃ c, c = decide (q.toNat < p.toNat) := ⟨_, rfl⟩
     have HC := qH hc
     clear hp hq hc
     clear HS
     go_wp2_with fail
     refine sg_start (S := IsW wr.drew) (by kernel_rfl) rfl (fun wd hwd => ?_)
     have hX : IsW _ wd := hwd
     clear hwd
     refine sg_take (i := 0) (oi := ⟨some 17, _, _, _, _, _⟩) (v := ?_) rfl (by kernel_rfl) (by kernel_rfl) (by kernel_rfl) (fun _ _ _ h => h) rfl hX ?_ ?_; rotate_left; (intro W hW; go_simp; try with_reducible rfl); simp only [Act.put, qA, qB, qC]
     refine sg_take (i := 1) (oi := ⟨some 18, _, _, _, _, _⟩) (v := ?_) rfl (by kernel_rfl) (by kernel_rfl) (by kernel_rfl) (fun _ _ _ h => h) rfl hX ?_ ?_; rotate_left; (intro W hW; go_simp; try with_reducible rfl); simp only [Act.put, qA, qB, qC]
     refine sg_take (i := 2) (oi := ⟨some 19, _, _, _, _, _⟩) (v := .bool true) rfl (by kernel_rfl) (by kernel_rfl) (by kernel_rfl) (fun _ _ _ h => h) rfl hX (fun V _ => ex_ltY (.tmp 17) (.tmp 18) rfl (i := i) (j := b) rfl rfl (decide_eq_true HIB.out) V) ?_; simp only [Act.put, qA, qB, qC]
     refine sg_take (i := 3) (oi := ⟨some 20, _, _, _, _, _⟩) (v := ?_) rfl (by kernel_rfl) (by kernel_rfl) (by kernel_rfl) (fun _ _ _ h => h) rfl hX ?_ ?_; rotate_left; (intro W hW; go_simp; try with_reducible rfl); simp only [Act.put, qA, qB, qC]
     refine sg_take (i := 4) (oi := ⟨some 21, _, _, _, _, _⟩) (v := ?_) rfl (by kernel_rfl) (by kernel_rfl) (by kernel_rfl) (fun _ _ _ h => h) rfl hX ?_ ?_; rotate_left; (intro W hW; go_simp; try with_reducible rfl); simp only [Act.put, qA, qB, qC]
     refine sg_take (i := 5) (oi := ⟨some 22, _, _, _, _, _⟩) (v := ?_) rfl (by kernel_rfl) (by kernel_rfl) (by kernel_rfl) (fun _ _ _ h => h) rfl hX ?_ ?_; rotate_left; (intro W hW; go_simp; try with_reducible rfl); simp only [Act.put, qA, qB, qC]
     refine sg_take (i := 6) (oi := ⟨some 23, _, _, _, _, _⟩) (v := .pointer (some ⟨g, i, none⟩)) rfl (by kernel_rfl) (by kernel_rfl) (by kernel_rfl) (fun _ _ _ h => h) rfl hX (fun V _ => ix_y (.tmp 21) (.tmp 22) rfl rfl rfl HIN.out V) ?_; simp only [Act.put, qA, qB, qC]
     refine sg_take (i := 7) (oi := ⟨some 24, _, _, _, _, _⟩) (v := bv q) rfl (by kernel_rfl) (by kernel_rfl) (by kernel_rfl) (fun _ _ _ h => h) rfl hX (fun V hV => ld_yt (.tmp 23) rfl rfl ((SD.out.is hV).cell HQ.out)) ?_; simp only [Act.put, qA, qB, qC]
     refine sg_take (i := 8) (oi := ⟨some 25, _, _, _, _, _⟩) (v := ?_) rfl (by kernel_rfl) (by kernel_rfl) (by kernel_rfl) (fun _ _ _ h => h) rfl hX ?_ ?_; rotate_left; (intro W hW; go_simp; try with_reducible rfl); simp only [Act.put, qA, qB, qC]
     refine sg_take (i := 9) (oi := ⟨some 26, _, _, _, _, _⟩) (v := ?_) rfl (by kernel_rfl) (by kernel_rfl) (by kernel_rfl) (fun _ _ _ h => h) rfl hX ?_ ?_; rotate_left; (intro W hW; go_simp; try with_reducible rfl); simp only [Act.put, qA, qB, qC]
     refine sg_take (i := 10) (oi := ⟨some 27, _, _, _, _, _⟩) (v := .int .i64 ((i1 : Nat) : Int)) rfl (by kernel_rfl) (by kernel_rfl) (by kernel_rfl) (fun _ _ _ h => h) rfl hX (fun V _ => ex_subV (.tmp 26) rfl rfl rfl HIE.out HIK.out V) ?_; simp only [Act.put, qA, qB, qC]
     refine sg_take (i := 11) (oi := ⟨some 28, _, _, _, _, _⟩) (v := .pointer (some ⟨g, i1, none⟩)) rfl (by kernel_rfl) (by kernel_rfl) (by kernel_rfl) (fun _ _ _ h => h) rfl hX (fun V _ => ix_y (.tmp 25) (.tmp 27) rfl rfl rfl HI1.out V) ?_; simp only [Act.put, qA, qB, qC]
     refine sg_take (i := 12) (oi := ⟨some 29, _, _, _, _, _⟩) (v := bv p) rfl (by kernel_rfl) (by kernel_rfl) (by kernel_rfl) (fun _ _ _ h => h) rfl hX (fun V hV => ld_yt (.tmp 28) rfl rfl ((SD.out.is hV).cell HP.out)) ?_; simp only [Act.put, qA, qB, qC]
     refine sg_actB (i := 13) (o := ⟨some 30, _, _, _, _, _⟩) rfl (by kernel_rfl) rfl hX (fun K hK => ?_)
     go_wp2_with fail
     refine (lessY_any _ _ _).mono ?_
     rintro e we ⟨rfl, hwe⟩
     subst hwe
     rw [← HC.out]
     go_wp2_with fail
     refine hK _ _ hX ?_
     clear hK K
     (try simp only [Act.put, qA, qB, qC])
     refine sg_take (i := 14) (oi := ⟨some 31, _, _, _, _, _⟩) (v := ?_) rfl (by kernel_rfl) (by kernel_rfl) (by kernel_rfl) (fun _ _ _ h => h) rfl hX ?_ ?_; rotate_left; (intro W hW; go_simp; try with_reducible rfl); simp only [Act.put, qA, qB, qC]
     refine sg_take (i := 15) (oi := ⟨some 32, _, _, _, _, _⟩) (v := ?_) rfl (by kernel_rfl) (by kernel_rfl) (by kernel_rfl) (fun _ _ _ h => h) rfl hX ?_ ?_; rotate_left; (intro W hW; go_simp; try with_reducible rfl); simp only [Act.put, qA, qB, qC]
     refine wpAnyH_done (by kernel_rfl) ?_ _
     have SE := qH (SD.out.is hX)
     have GE := qH (grownS_is GD.out hX)
     clear hX SD GD
     have SD := SE
     have GD := GE
     clear SE GE
     cases c with
     | false =>
      go_wp2_with fail
      exact ⟨⟨i + 1, by simp, Nat.le_succ_of_le HAI.out, HIB.out, ⟨⟨l, PL.out, SD.out⟩, GD.out⟩⟩, by simpa [intOf] using HMI.out⟩
     | true =>
      have HNE := qH (Nat.ne_of_lt HIB.out)
      have y1 : ¬ ((i : Int) = (b : Int)) := fun h => HNE.out (Int.ofNat.inj h)
      by_cases h50 : len < 50
      ·have z1 : (len : Int) < 50 := Int.ofNat_lt.2 h50
       go_wp2_with fail
       go_ret
       exact ⟨_, rfl, ⟨⟨l, PL.out, SD.out⟩, GD.out⟩⟩
      ·have z1 : ¬ ((len : Int) < 50) := fun h => h50 (Int.ofNat_lt.1 h)
       obtain ⟨ia, hia⟩ : ∃ x, a + x = i := ⟨i - a, Nat.add_sub_cancel' (Nat.le_of_succ_le HAI.out)⟩
       obtain ⟨bi, hbi⟩ : ∃ x, i + x = b := ⟨b - i, Nat.add_sub_cancel' HIB2.out⟩
       have g1 := dif_w hia (Nat.le_trans HIB2.out HBM.out)
       have g2 := dif_k hia (Nat.le_trans HIB2.out HBM.out)
       have g3 := dif_w hbi HBM.out
       have g4 := dif_k hbi HBM.out
       clear hia hbi
       go_wp2_with fail
       refine mc_start (fun V => we.grownBy V (some g)) (fun V => V.heap[g]? = we.heap[g]?) 15 (by kernel_rfl) (fun wd hwd => ?_)
       have hX : we.grownBy wd (some g) := by rw [hwd]; exact grownS_drew _ _
       have hY : wd.heap[g]? = we.heap[g]? := by rw [hwd]; rfl
       have GW := qH (grownS_trans GD.out hX)
       have HWD := qH hwd
       clear hwd
       refine mc_take (i := 0) (oi := ⟨some 42, _, _, _, _, _⟩) (v := ?_) rfl (by kernel_rfl) (by kernel_rfl) (by kernel_rfl) (fun _ _ _ h => h) rfl hX ?_ ?_; rotate_left; (intro W hW; go_simp; try with_reducible rfl); simp only [Act.put, qA, qB, qC]
       refine mc_take (i := 1) (oi := ⟨some 43, _, _, _, _, _⟩) (v := ?_) rfl (by kernel_rfl) (by kernel_rfl) (by kernel_rfl) (fun _ _ _ h => h) rfl hX ?_ ?_; rotate_left; (intro W hW; go_simp; try with_reducible rfl); simp only [Act.put, qA, qB, qC]
       refine mc_take (i := 2) (oi := ⟨some 44, _, _, _, _, _⟩) (v := ?_) rfl (by kernel_rfl) (by kernel_rfl) (by kernel_rfl) (fun _ _ _ h => h) rfl hX ?_ ?_; rotate_left; (intro W hW; go_simp; try with_reducible rfl); simp only [Act.put, qA, qB, qC]
       refine mc_take (i := 3) (oi := ⟨some 45, _, _, _, _, _⟩) (v := ?_) rfl (by kernel_rfl) (by kernel_rfl) (by kernel_rfl) (fun _ _ _ h => h) rfl hX ?_ ?_; rotate_left; (intro W hW; go_simp; try with_reducible rfl); simp only [Act.put, qA, qB, qC]
       refine mc_take (i := 4) (oi := ⟨some 46, _, _, _, _, _⟩) (v := .int .i64 ((i1 : Nat) : Int)) rfl (by kernel_rfl) (by kernel_rfl) (by kernel_rfl) (fun _ _ _ h => h) rfl hX (fun V _ => ex_subV (.tmp 45) rfl rfl rfl HIE.out HIK.out V) ?_; simp only [Act.put, qA, qB, qC]
       refine mc_take (i := 5) (oi := ⟨some 47, _, _, _, _, _⟩) (v := ?_) rfl (by kernel_rfl) (by kernel_rfl) (by kernel_rfl) (fun _ _ _ h => h) rfl hX ?_ ?_; rotate_left; (intro W hW; go_simp; try with_reducible rfl); simp only [Act.put, qA, qB, qC]
       refine mc_take (i := 6) (oi := ⟨some 48, _, _, _, _, _⟩) (v := ?_) rfl (by kernel_rfl) (by kernel_rfl) (by kernel_rfl) (fun _ _ _ h => h) rfl hX ?_ ?_; rotate_left; (intro W hW; go_simp; try with_reducible rfl); simp only [Act.put, qA, qB, qC]
       refine mc_take (i := 7) (oi := ⟨some 49, _, _, _, _, _⟩) (v := .int .i64 ((i1 : Nat) : Int)) rfl (by kernel_rfl) (by kernel_rfl) (by kernel_rfl) (fun _ _ _ h => h) rfl hX (fun V _ => ex_subV (.tmp 48) rfl rfl rfl HIE.out HIK.out V) ?_; simp only [Act.put, qA, qB, qC]
       refine mc_take (i := 8) (oi := ⟨some 50, _, _, _, _, _⟩) (v := .pointer (some ⟨g, i1, none⟩)) rfl (by kernel_rfl) (by kernel_rfl) (by kernel_rfl) (fun _ _ _ h => h) rfl hX (fun V _ => ix_y (.tmp 47) (.tmp 49) rfl rfl rfl HI1.out V) ?_; simp only [Act.put, qA, qB, qC]
       refine mc_takeS (i := 9) (oi := ⟨some 51, _, _, _, _, _⟩) (v := bv p) rfl (by kernel_rfl) (by kernel_rfl) (by kernel_rfl) (fun _ _ _ h => h) rfl hX hY (fun V hT hS => ld_yt (.tmp 50) rfl rfl (cell_same hS (SD.out.cell HP.out))) ?_; simp only [Act.put, qA, qB, qC]
       refine mc_take (i := 10) (oi := ⟨some 52, _, _, _, _, _⟩) (v := ?_) rfl (by kernel_rfl) (by kernel_rfl) (by kernel_rfl) (fun _ _ _ h => h) rfl hX ?_ ?_; rotate_left; (intro W hW; go_simp; try with_reducible rfl); simp only [Act.put, qA, qB, qC]
       refine mc_take (i := 11) (oi := ⟨some 53, _, _, _, _, _⟩) (v := ?_) rfl (by kernel_rfl) (by kernel_rfl) (by kernel_rfl) (fun _ _ _ h => h) rfl hX ?_ ?_; rotate_left; (intro W hW; go_simp; try with_reducible rfl); simp only [Act.put, qA, qB, qC]
       refine mc_take (i := 12) (oi := ⟨some 54, _, _, _, _, _⟩) (v := .pointer (some ⟨g, i, none⟩)) rfl (by kernel_rfl) (by kernel_rfl) (by kernel_rfl) (fun _ _ _ h => h) rfl hX (fun V _ => ix_y (.tmp 52) (.tmp 53) rfl rfl rfl HIN.out V) ?_; simp only [Act.put, qA, qB, qC]
       refine mc_takeS (i := 13) (oi := ⟨some 55, _, _, _, _, _⟩) (v := bv q) rfl (by kernel_rfl) (by kernel_rfl) (by kernel_rfl) (fun _ _ _ h => h) rfl hX hY (fun V hT hS => ld_yt (.tmp 54) rfl rfl (cell_same hS (SD.out.cell HQ.out))) ?_; simp only [Act.put, qA, qB, qC]
       refine mc_take (i := 14) (oi := ⟨some 56, _, _, _, _, _⟩) (v := .pointer (some ⟨g, i, none⟩)) rfl (by kernel_rfl) (by kernel_rfl) (by kernel_rfl) (fun _ _ _ h => h) rfl hX (fun V _ => ix_y (.tmp 42) (.tmp 43) rfl rfl rfl HIN.out V) ?_; simp only [Act.put, qA, qB, qC]
       refine mc_last (i := 15) (o := ⟨none, _, _, _, _, _⟩) rfl (by kernel_rfl) rfl (fun K hK => ?_)
       have HZ := qH (show Dat wd g zs l from SD.out.keep hY)
       refine wp_stY (.tmp 56) (.tmp 51) rfl g i rfl p rfl _ (HZ.out.cell HQ.out) (HZ.out.frozen _) ?_
       refine hK _ _ (grownS_set hX _ _) ?_
       clear hK K
       have HZ2 := qH (HZ.out.set (List.getElem?_eq_some_iff.1 HQ.out).1 p)
       have HC2 := qH (dat_hit HZ2.out (i := i1) (by rw [List.length_set]; exact (List.getElem?_eq_some_iff.1 HP.out).1))
       clear hY
       replace hX := grownS_set hX i (bv p)
       (try simp only [Act.put, qA, qB, qC])
       refine mc_take (i := 16) (oi := ⟨some 57, _, _, _, _, _⟩) (v := .pointer (some ⟨g, i1, none⟩)) rfl (by kernel_rfl) (by kernel_rfl) (by kernel_rfl) (fun _ _ _ h => h) rfl hX (fun V _ => ix_y (.tmp 44) (.tmp 46) rfl rfl rfl HI1.out V) ?_; simp only [Act.put, qA, qB, qC]
       refine mc_last (i := 17) (o := ⟨none, _, _, _, _, _⟩) rfl (by kernel_rfl) rfl (fun K hK => ?_)
       refine wp_stY (.tmp 57) (.tmp 55) rfl g i1 rfl q rfl _ HC2.out (HZ2.out.frozen _) ?_
       refine hK _ _ (grownS_set hX _ _) ?_
       clear hK K hX
       (try simp only [Act.put, qA, qB, qC])
       refine wpAnyC_done (by kernel_rfl) ?_ _
       have HSW := qH (SoP.swap PL.out HZ.out GW.out HP.out HQ.out)
       have HT := HSW
       clear HSW HP HQ HZ HZ2 HC2 GW HWD SD GD PL SL HC
       by_cases hia : 2 ≤ ia
       ·have w1 : (2 : Int) ≤ (ia : Int) := Int.ofNat_le.2 hia
        go_wp2_with fail
        go_loopw [9] (fun jv wl => ∃ j : Nat, jv = .int .i64 (j : Int) ∧ j ≤ i1 ∧ SoP g zs l0 w wl) (fun jv _ => (intOf jv).toNat)
        case atStart => exact ⟨i1, rfl, Nat.le_refl _, HT.out⟩
        case round =>
         clear HT
         obtain ⟨j, rfl, hji, hs⟩ := hrel
         have HS := qH hs
         clear hs
         rename_i wr
         by_cases hj0 : 1 ≤ j
         ·have w2 : (1 : Int) ≤ (j : Int) := Int.ofNat_le.2 hj0
          obtain ⟨j1, hj1⟩ := pre_ex hj0
          have HJI := qH (show j1 ≤ i1 from Nat.le_of_succ_le (by rw [Nat.succ_eq_add_one, hj1]; exact hji))
          have HJN := qH (show j < n from Nat.lt_of_le_of_lt hji HI1.out)
          have HM := qH (show j1 < j by rw [← hj1]; exact Nat.lt_succ_self j1)
          have HJE := qH hj1
          have HJ1 := qH (show j1 < n from Nat.lt_of_succ_lt (by rw [Nat.succ_eq_add_one, hj1]; exact HJN.out))
          have HJK := qH (show j1 ≤ 1048576 from Nat.le_trans (Nat.le_of_lt HJ1.out) HN.out)
          have k1 := sub_w hj1 HJK.out
          have k2 := sub_k hj1 HJK.out
          clear hj1
          clear hj0 hji
          obtain ⟨l, hp, hd⟩ := HS.out.dat
          have PL := qH hp
          have SD := qH hd
          have GD := qH HS.out.grown
          have SL := qH (show l.length = n by rw [hp.length_eq]; exact HL.out)
          clear hp hd
          obtain ⟨q, hq⟩ : ∃ q, l[j]? = some q := ⟨_, List.getElem?_eq_getElem (by rw [SL.out]; exact HJN.out)⟩
          obtain ⟨p, hp⟩ : ∃ p, l[j1]? = some p := ⟨_, List.getElem?_eq_getElem (by rw [SL.out]; exact HJ1.out)⟩
          have HP := qH hp
          have HQ := qH hq
          obtain ⟨c, hc⟩ : ∃ c, c = decide (q.toNat < p.toNat) := ⟨_, rfl⟩
          have HC := qH hc
          clear hp hq hc
          clear HS
          go_wp2_with fail
          refine sg_start (S := IsW wr.drew) (by kernel_rfl) rfl (fun wd hwd => ?_)
          have hX : IsW _ wd := hwd
          clear hwd
          refine sg_take (i := 0) (oi := ⟨some 68, _, _, _, _, _⟩) (v := ?_) rfl (by kernel_rfl) (by kernel_rfl) (by kernel_rfl) (fun _ _ _ h => h) rfl hX ?_ ?_; rotate_left; (intro W hW; go_simp; try with_reducible rfl); simp only [Act.put, qA, qB, qC]
          refine sg_take (i := 1) (oi := ⟨some 69, _, _, _, _, _⟩) (v := ?_) rfl (by kernel_rfl) (by kernel_rfl) (by kernel_rfl) (fun _ _ _ h => h) rfl hX ?_ ?_; rotate_left; (intro W hW; go_simp; try with_reducible rfl); simp only [Act.put, qA, qB, qC]
          refine sg_take (i := 2) (oi := ⟨some 70, _, _, _, _, _⟩) (v := .pointer (some ⟨g, j, none⟩)) rfl (by kernel_rfl) (by kernel_rfl) (by kernel_rfl) (fun _ _ _ h => h) rfl hX (fun V _ => ix_y (.tmp 68) (.tmp 69) rfl rfl rfl HJN.out V) ?_; simp only [Act.put, qA, qB, qC]
          refine sg_take (i := 3) (oi := ⟨some 71, _, _, _, _, _⟩) (v := bv q) rfl (by kernel_rfl) (by kernel_rfl) (by kernel_rfl) (fun _ _ _ h => h) rfl hX (fun V hV => ld_yt (.tmp 70) rfl rfl ((SD.out.is hV).cell HQ.out)) ?_; simp only [Act.put, qA, qB, qC]
          refine sg_take (i := 4) (oi := ⟨some 72, _, _, _, _, _⟩) (v := ?_) rfl (by kernel_rfl) (by kernel_rfl) (by kernel_rfl) (fun _ _ _ h => h) rfl hX ?_ ?_; rotate_left; (intro W hW; go_simp; try with_reducible rfl); simp only [Act.put, qA, qB, qC]
          refine sg_take (i := 5) (oi := ⟨some 73, _, _, _, _, _⟩) (v := ?_) rfl (by kernel_rfl) (by kernel_rfl) (by kernel_rfl) (fun _ _ _ h => h) rfl hX ?_ ?_; rotate_left; (intro W hW; go_simp; try with_reducible rfl); simp only [Act.put, qA, qB, qC]
          refine sg_take (i := 6) (oi := ⟨some 74, _, _, _, _, _⟩) (v := .int .i64 ((j1 : Nat) : Int)) rfl (by kernel_rfl) (by kernel_rfl) (by kernel_rfl) (fun _ _ _ h => h) rfl hX (fun V _ => ex_subV (.tmp 73) rfl rfl rfl HJE.out HJK.out V) ?_; simp only [Act.put, qA, qB, qC]
          refine sg_take (i := 7) (oi := ⟨some 75, _, _, _, _, _⟩) (v := .pointer (some ⟨g, j1, none⟩)) rfl (by kernel_rfl) (by kernel_rfl) (by kernel_rfl) (fun _ _ _ h => h) rfl hX (fun V _ => ix_y (.tmp 72) (.tmp 74) rfl rfl rfl HJ1.out V) ?_; simp only [Act.put, qA, qB, qC]
          refine sg_take (i := 8) (oi := ⟨some 76, _, _, _, _, _⟩) (v := bv p) rfl (by kernel_rfl) (by kernel_rfl) (by kernel_rfl) (fun _ _ _ h => h) rfl hX (fun V hV => ld_yt (.tmp 75) rfl rfl ((SD.out.is hV).cell HP.out)) ?_; simp only [Act.put, qA, qB, qC]
          refine sg_actB (i := 9) (o := ⟨some 77, _, _, _, _, _⟩) rfl (by kernel_rfl) rfl hX (fun K hK => ?_)
          go_wp2_with fail
          refine (lessY_any _ _ _).mono ?_
          rintro e we ⟨rfl, hwe⟩
          subst hwe
          rw [← HC.out]
          go_wp2_with fail
          refine hK _ _ hX ?_
          clear hK K
          (try simp only [Act.put, qA, qB, qC])
          refine sg_take (i := 10) (oi := ⟨some 78, _, _, _, _, _⟩) (v := ?_) rfl (by kernel_rfl) (by kernel_rfl) (by kernel_rfl) (fun _ _ _ h => h) rfl hX ?_ ?_; rotate_left; (intro W hW; go_simp; try with_reducible rfl); simp only [Act.put, qA, qB, qC]
          refine wpAnyH_done (by kernel_rfl) ?_ _
          have SE := qH (SD.out.is hX)
          have GE := qH (grownS_is GD.out hX)
          clear hX SD GD
          have SD := SE
          have GD := GE
          clear SE GE
          cases c with
          | false =>
           simp only [Bool.not_false]
           have HT := qH (show SoP g zs l0 w _ from ⟨⟨l, PL.out, SD.out⟩, GD.out⟩)
           clear SD GD PL SL HP HQ HC HJ1 HJK k1 k2 HJN HJI w2 HJE
           by_cases hbi : 2 ≤ bi
           ·have v1 : (2 : Int) ≤ (bi : Int) := Int.ofNat_le.2 hbi
            clear hbi
            go_wp2_with fail
            go_loopw [10] (fun jv wl => ∃ j : Nat, jv = .int .i64 (j : Int) ∧ i + 1 ≤ j ∧ SoP g zs l0 w wl) (fun jv _ => b - (intOf jv).toNat)
            case atStart => exact ⟨i + 1, by simp, Nat.le_refl _, HT.out⟩
            case round =>
             obtain ⟨j, rfl, hij, hs⟩ := hrel
             have HS := qH hs
             have HIJ := qH hij
             clear hs hij
             rename_i wr
             by_cases hjb : j < b
             ·have v2 : (j : Int) < (b : Int) := Int.ofNat_lt.2 hjb
              obtain ⟨j1, hj1⟩ := pre_ex (Nat.lt_of_lt_of_le (Nat.succ_pos i) HIJ.out)
              have HJN := qH (show j < n from Nat.lt_of_lt_of_le hjb HB.out)
              have HMJ := qH (sub_next hjb)
              have k3 := wrap_one j (Nat.le_trans (Nat.le_of_lt HJN.out) (Nat.le_trans HN.out (by decide)))
              have k4 := wrap_one' j (Nat.le_trans (Nat.le_of_lt HJN.out) (Nat.le_trans HN.out (by decide)))
              have HJE := qH hj1
              have HJ1 := qH (show j1 < n from Nat.lt_of_succ_lt (by rw [Nat.succ_eq_add_one, hj1]; exact HJN.out))
              have HJK := qH (show j1 ≤ 1048576 from Nat.le_trans (Nat.le_of_lt HJ1.out) HN.out)
              have k1 := sub_w hj1 HJK.out
              have k2 := sub_k hj1 HJK.out
              clear hj1
              clear hjb
              obtain ⟨l, hp, hd⟩ := HS.out.dat
              have PL := qH hp
              have SD := qH hd
              have GD := qH HS.out.grown
              have SL := qH (show l.length = n by rw [hp.length_eq]; exact HL.out)
              clear hp hd
              obtain ⟨q, hq⟩ : ∃ q, l[j]? = some q := ⟨_, List.getElem?_eq_getElem (by rw [SL.out]; exact HJN.out)⟩
              obtain ⟨p, hp⟩ : ∃ p, l[j1]? = some p := ⟨_, List.getElem?_eq_getElem (by rw [SL.out]; exact HJ1.out)⟩
              have HP := qH hp
              have HQ := qH hq
              obtain ⟨c, hc⟩ : ∃ c, c = decide (q.toNat < p.toNat) := ⟨_, rfl⟩
              have HC := qH hc
              clear hp hq hc
              clear HS
              go_wp2_with fail
              refine sg_start (S := IsW wr.drew) (by kernel_rfl) rfl (fun wd hwd => ?_)
              have hX : IsW _ wd := hwd
              clear hwd
              refine sg_take (i := 0) (oi := ⟨some 106, _, _, _, _, _⟩) (v := ?_) rfl (by kernel_rfl) (by kernel_rfl) (by kernel_rfl) (fun _ _ _ h => h) rfl hX ?_ ?_; rotate_left; (intro W hW; go_simp; try with_reducible rfl); simp only [Act.put, qA, qB, qC]
              refine sg_take (i := 1) (oi := ⟨some 107, _, _, _, _, _⟩) (v := ?_) rfl (by kernel_rfl) (by kernel_rfl) (by kernel_rfl) (fun _ _ _ h => h) rfl hX ?_ ?_; rotate_left; (intro W hW; go_simp; try with_reducible rfl); simp only [Act.put, qA, qB, qC]
              refine sg_take (i := 2) (oi := ⟨some 108, _, _, _, _, _⟩) (v := .pointer (some ⟨g, j, none⟩)) rfl (by kernel_rfl) (by kernel_rfl) (by kernel_rfl) (fun _ _ _ h => h) rfl hX (fun V _ => ix_y (.tmp 106) (.tmp 107) rfl rfl rfl HJN.out V) ?_; simp only [Act.put, qA, qB, qC]
              refine sg_take (i := 3) (oi := ⟨some 109, _, _, _, _, _⟩) (v := bv q) rfl (by kernel_rfl) (by kernel_rfl) (by kernel_rfl) (fun _ _ _ h => h) rfl hX (fun V hV => ld_yt (.tmp 108) rfl rfl ((SD.out.is hV).cell HQ.out)) ?_; simp only [Act.put, qA, qB, qC]
              refine sg_take (i := 4) (oi := ⟨some 110, _, _, _, _, _⟩) (v := ?_) rfl (by kernel_rfl) (by kernel_rfl) (by kernel_rfl) (fun _ _ _ h => h) rfl hX ?_ ?_; rotate_left; (intro W hW; go_simp; try with_reducible rfl); simp only [Act.put, qA, qB, qC]
              refine sg_take (i := 5) (oi := ⟨some 111, _, _, _, _, _⟩) (v := ?_) rfl (by kernel_rfl) (by kernel_rfl) (by kernel_rfl) (fun _ _ _ h => h) rfl hX ?_ ?_; rotate_left; (intro W hW; go_simp; try with_reducible rfl); simp only [Act.put, qA, qB, qC]
              refine sg_take (i := 6) (oi := ⟨some 112, _, _, _, _, _⟩) (v := .int .i64 ((j1 : Nat) : Int)) rfl (by kernel_rfl) (by kernel_rfl) (by kernel_rfl) (fun _ _ _ h => h) rfl hX (fun V _ => ex_subV (.tmp 111) rfl rfl rfl HJE.out HJK.out V) ?_; simp only [Act.put, qA, qB, qC]
              refine sg_take (i := 7) (oi := ⟨some 113, _, _, _, _, _⟩) (v := .pointer (some ⟨g, j1, none⟩)) rfl (by kernel_rfl) (by kernel_rfl) (by kernel_rfl) (fun _ _ _ h => h) rfl hX (fun V _ => ix_y (.tmp 110) (.tmp 112) rfl rfl rfl HJ1.out V) ?_; simp only [Act.put, qA, qB, qC]
              refine sg_take (i := 8) (oi := ⟨some 114, _, _, _, _, _⟩) (v := bv p) rfl (by kernel_rfl) (by kernel_rfl) (by kernel_rfl) (fun _ _ _ h => h) rfl hX (fun V hV => ld_yt (.tmp 113) rfl rfl ((SD.out.is hV).cell HP.out)) ?_; simp only [Act.put, qA, qB, qC]
              refine sg_actB (i := 9) (o := ⟨some 115, _, _, _, _, _⟩) rfl (by kernel_rfl) rfl hX (fun K hK => ?_)
              go_wp2_with fail
              refine (lessY_any _ _ _).mono ?_
              rintro e we ⟨rfl, hwe⟩
              subst hwe
              rw [← HC.out]
              go_wp2_with fail
              refine hK _ _ hX ?_
              clear hK K
              (try simp only [Act.put, qA, qB, qC])
              refine sg_take (i := 10) (oi := ⟨some 116, _, _, _, _, _⟩) (v := ?_) rfl (by kernel_rfl) (by kernel_rfl) (by kernel_rfl) (fun _ _ _ h => h) rfl hX ?_ ?_; rotate_left; (intro W hW; go_simp; try with_reducible rfl); simp only [Act.put, qA, qB, qC]
              refine wpAnyH_done (by kernel_rfl) ?_ _
              have SE := qH (SD.out.is hX)
              have GE := qH (grownS_is GD.out hX)
              clear hX SD GD
              have SD := SE
              have GD := GE
              clear SE GE
              cases c with
              | false =>
               go_wp2_with fail
               exact ⟨⟨i, jc + 1, rfl, by simp, HAI.out, HIB2.out, HJC.out, ⟨⟨l, PL.out, SD.out⟩, GD.out⟩⟩, by simpa [intOf] using HMC.out⟩
              | true =>
               go_wp2_with fail
               refine mc_start (fun V => we.grownBy V (some g)) (fun V => V.heap[g]? = we.heap[g]?) 15 (by kernel_rfl) (fun wd hwd => ?_)
               have hX : we.grownBy wd (some g) := by rw [hwd]; exact grownS_drew _ _
               have hY : wd.heap[g]? = we.heap[g]? := by rw [hwd]; rfl
               have GW := qH (grownS_trans GD.out hX)
               have HWD := qH hwd
               clear hwd
               refine mc_take (i := 0) (oi := ⟨some 117, _, _, _, _, _⟩) (v := ?_) rfl (by kernel_rfl) (by kernel_rfl) (by kernel_rfl) (fun _ _ _ h => h) rfl hX ?_ ?_; rotate_left; (intro W hW; go_simp; try with_reducible rfl); simp only [Act.put, qA, qB, qC]
               refine mc_take (i := 1) (oi := ⟨some 118, _, _, _, _, _⟩) (v := ?_) rfl (by kernel_rfl) (by kernel_rfl) (by kernel_rfl) (fun _ _ _ h => h) rfl hX ?_ ?_; rotate_left; (intro W hW; go_simp; try with_reducible rfl); simp only [Act.put, qA, qB, qC]
               refine mc_take (i := 2) (oi := ⟨some 119, _, _, _, _, _⟩) (v := ?_) rfl (by kernel_rfl) (by kernel_rfl) (by kernel_rfl) (fun _ _ _ h => h) rfl hX ?_ ?_; rotate_left; (intro W hW; go_simp; try with_reducible rfl); simp only [Act.put, qA, qB, qC]
               refine mc_take (i := 3) (oi := ⟨some 120, _, _, _, _, _⟩) (v := ?_) rfl (by kernel_rfl) (by kernel_rfl) (by kernel_rfl) (fun _ _ _ h => h) rfl hX ?_ ?_; rotate_left; (intro W hW; go_simp; try with_reducible rfl); simp only [Act.put, qA, qB, qC]
               refine mc_take (i := 4) (oi := ⟨some 121, _, _, _, _, _⟩) (v := .int .i64 ((j1 : Nat) : Int)) rfl (by kernel_rfl) (by kernel_rfl) (by kernel_rfl) (fun _ _ _ h => h) rfl hX (fun V _ => ex_subV (.tmp 120) rfl rfl rfl HJE.out HJK.out V) ?_; simp only [Act.put, qA, qB, qC]
               refine mc_take (i := 5) (oi := ⟨some 122, _, _, _, _, _⟩) (v := ?_) rfl (by kernel_rfl) (by kernel_rfl) (by kernel_rfl) (fun _ _ _ h => h) rfl hX ?_ ?_; rotate_left; (intro W hW; go_simp; try with_reducible rfl); simp only [Act.put, qA, qB, qC]
               refine mc_take (i := 6) (oi := ⟨some 123, _, _, _, _, _⟩) (v := ?_) rfl (by kernel_rfl) (by kernel_rfl) (by kernel_rfl) (fun _ _ _ h => h) rfl hX ?_ ?_; rotate_left; (intro W hW; go_simp; try with_reducible rfl); simp only [Act.put, qA, qB, qC]
               refine mc_take (i := 7) (oi := ⟨some 124, _, _, _, _, _⟩) (v := .int .i64 ((j1 : Nat) : Int)) rfl (by kernel_rfl) (by kernel_rfl) (by kernel_rfl) (fun _ _ _ h => h) rfl hX (fun V _ => ex_subV (.tmp 123) rfl rfl rfl HJE.out HJK.out V) ?_; simp only [Act.put, qA, qB, qC]
               refine mc_take (i := 8) (oi := ⟨some 125, _, _, _, _, _⟩) (v := .pointer (some ⟨g, j1, none⟩)) rfl (by kernel_rfl) (by kernel_rfl) (by kernel_rfl) (fun _ _ _ h => h) rfl hX (fun V _ => ix_y (.tmp 122) (.tmp 124) rfl rfl rfl HJ1.out V) ?_; simp only [Act.put, qA, qB, qC]
               refine mc_takeS (i := 9) (oi := ⟨some 126, _, _, _, _, _⟩) (v := bv p) rfl (by kernel_rfl) (by kernel_rfl) (by kernel_rfl) (fun _ _ _ h => h) rfl hX hY (fun V hT hS => ld_yt (.tmp 125) rfl rfl (cell_same hS (SD.out.cell HP.out))) ?_; simp only [Act.put, qA, qB, qC]
               refine mc_take (i := 10) (oi := ⟨some 127, _, _, _, _, _⟩) (v := ?_) rfl (by kernel_rfl) (by kernel_rfl) (by kernel_rfl) (fun _ _ _ h => h) rfl hX ?_ ?_; rotate_left; (intro W hW; go_simp; try with_reducible rfl); simp only [Act.put, qA, qB, qC]
               refine mc_take (i := 11) (oi := ⟨some 128, _, _, _, _, _⟩) (v := ?_) rfl (by kernel_rfl) (by kernel_rfl) (by kernel_rfl) (fun _ _ _ h => h) rfl hX ?_ ?_; rotate_left; (intro W hW; go_simp; try with_reducible rfl); simp only [Act.put, qA, qB, qC]
               refine mc_take (i := 12) (oi := ⟨some 129, _, _, _, _, _⟩) (v := .pointer (some ⟨g, j, none⟩)) rfl (by kernel_rfl) (by kernel_rfl) (by kernel_rfl) (fun _ _ _ h => h) rfl hX (fun V _ => ix_y (.tmp 127) (.tmp 128) rfl rfl rfl HJN.out V) ?_; simp only [Act.put, qA, qB, qC]
               refine mc_takeS (i := 13) (oi := ⟨some 130, _, _, _, _, _⟩) (v := bv q) rfl (by kernel_rfl) (by kernel_rfl) (by kernel_rfl) (fun _ _ _ h => h) rfl hX hY (fun V hT hS => ld_yt (.tmp 129) rfl rfl (cell_same hS (SD.out.cell HQ.out))) ?_; simp only [Act.put, qA, qB, qC]
               refine mc_take (i := 14) (oi := ⟨some 131, _, _, _, _, _⟩) (v := .pointer (some ⟨g, j, none⟩)) rfl (by kernel_rfl) (by kernel_rfl) (by kernel_rfl) (fun _ _ _ h => h) rfl hX (fun V _ => ix_y (.tmp 117) (.tmp 118) rfl rfl rfl HJN.out V) ?_; simp only [Act.put, qA, qB, qC]
               refine mc_last (i := 15) (o := ⟨none, _, _, _, _, _⟩) rfl (by kernel_rfl) rfl (fun K hK => ?_)
               have HZ := qH (show Dat wd g zs l from SD.out.keep hY)
               refine wp_stY (.tmp 131) (.tmp 126) rfl g j rfl p rfl _ (HZ.out.cell HQ.out) (HZ.out.frozen _) ?_
               refine hK _ _ (grownS_set hX _ _) ?_
               clear hK K
               have HZ2 := qH (HZ.out.set (List.getElem?_eq_some_iff.1 HQ.out).1 p)
               have HC2 := qH (dat_hit HZ2.out (i := j1) (by rw [List.length_set]; exact (List.getElem?_eq_some_iff.1 HP.out).1))
               clear hY
               replace hX := grownS_set hX j (bv p)
               (try simp only [Act.put, qA, qB, qC])
               refine mc_take (i := 16) (oi := ⟨some 132, _, _, _, _, _⟩) (v := .pointer (some ⟨g, j1, none⟩)) rfl (by kernel_rfl) (by kernel_rfl) (by kernel_rfl) (fun _ _ _ h => h) rfl hX (fun V _ => ix_y (.tmp 119) (.tmp 121) rfl rfl rfl HJ1.out V) ?_; simp only [Act.put, qA, qB, qC]
               refine mc_last (i := 17) (o := ⟨none, _, _, _, _, _⟩) rfl (by kernel_rfl) rfl (fun K hK => ?_)
               refine wp_stY (.tmp 132) (.tmp 130) rfl g j1 rfl q rfl _ HC2.out (HZ2.out.frozen _) ?_
               refine hK _ _ (grownS_set hX _ _) ?_
               clear hK K hX
               (try simp only [Act.put, qA, qB, qC])
               refine wpAnyC_done (by kernel_rfl) ?_ _
               have HSW := qH (SoP.swap PL.out HZ.out GW.out HP.out HQ.out)
               go_wp2_with fail
               exact ⟨⟨j + 1, by simp, Nat.le_succ_of_le HIJ.out, HSW.out⟩, by simpa [intOf] using HMJ.out⟩
             ·have v2 : ¬ ((j : Int) < (b : Int)) := fun h => hjb (Int.ofNat_lt.1 h)
              go_wp2_with fail
              exact ⟨⟨i, jc + 1, rfl, by simp, HAI.out, HIB2.out, HJC.out, HS.out⟩, by simpa [intOf] using HMC.out⟩
           ·have v1 : ¬ ((2 : Int) ≤ (bi : Int)) := fun h => hbi (Int.ofNat_le.1 h)
            go_wp2_with fail
            exact ⟨⟨i, jc + 1, rfl, by simp, HAI.out, HIB2.out, HJC.out, HT.out⟩, by simpa [intOf] using HMC.out⟩
          | true =>
           go_wp2_with fail
           refine mc_start (fun V => we.grownBy V (some g)) (fun V => V.heap[g]? = we.heap[g]?) 15 (by kernel_rfl) (fun wd hwd => ?_)
           have hX : we.grownBy wd (some g) := by rw [hwd]; exact grownS_drew _ _
           have hY : wd.heap[g]? = we.heap[g]? := by rw [hwd]; rfl
           have GW := qH (grownS_trans GD.out hX)
           have HWD := qH hwd
           clear hwd
           refine mc_take (i := 0) (oi := ⟨some 79, _, _, _, _, _⟩) (v := ?_) rfl (by kernel_rfl) (by kernel_rfl) (by kernel_rfl) (fun _ _ _ h => h) rfl hX ?_ ?_; rotate_left; (intro W hW; go_simp; try with_reducible rfl); simp only [Act.put, qA, qB, qC]
           refine mc_take (i := 1) (oi := ⟨some 80, _, _, _, _, _⟩) (v := ?_) rfl (by kernel_rfl) (by kernel_rfl) (by kernel_rfl) (fun _ _ _ h => h) rfl hX ?_ ?_; rotate_left; (intro W hW; go_simp; try with_reducible rfl); simp only [Act.put, qA, qB, qC]
           refine mc_take (i := 2) (oi := ⟨some 81, _, _, _, _, _⟩) (v := ?_) rfl (by kernel_rfl) (by kernel_rfl) (by kernel_rfl) (fun _ _ _ h => h) rfl hX ?_ ?_; rotate_left; (intro W hW; go_simp; try with_reducible rfl); simp only [Act.put, qA, qB, qC]
           refine mc_take (i := 3) (oi := ⟨some 82, _, _, _, _, _⟩) (v := ?_) rfl (by kernel_rfl) (by kernel_rfl) (by kernel_rfl) (fun _ _ _ h => h) rfl hX ?_ ?_; rotate_left; (intro W hW; go_simp; try with_reducible rfl); simp only [Act.put, qA, qB, qC]
           refine mc_take (i := 4) (oi := ⟨some 83, _, _, _, _, _⟩) (v := .int .i64 ((j1 : Nat) : Int)) rfl (by kernel_rfl) (by kernel_rfl) (by kernel_rfl) (fun _ _ _ h => h) rfl hX (fun V _ => ex_subV (.tmp 82) rfl rfl rfl HJE.out HJK.out V) ?_; simp only [Act.put, qA, qB, qC]
           refine mc_take (i := 5) (oi := ⟨some 84, _, _, _, _, _⟩) (v := ?_) rfl (by kernel_rfl) (by kernel_rfl) (by kernel_rfl) (fun _ _ _ h => h) rfl hX ?_ ?_; rotate_left; (intro W hW; go_simp; try with_reducible rfl); simp only [Act.put, qA, qB, qC]
           refine mc_take (i := 6) (oi := ⟨some 85, _, _, _, _, _⟩) (v := ?_) rfl (by kernel_rfl) (by kernel_rfl) (by kernel_rfl) (fun _ _ _ h => h) rfl hX ?_ ?_; rotate_left; (intro W hW; go_simp; try with_reducible rfl); simp only [Act.put, qA, qB, qC]
           refine mc_take (i := 7) (oi := ⟨some 86, _, _, _, _, _⟩) (v := .int .i64 ((j1 : Nat) : Int)) rfl (by kernel_rfl) (by kernel_rfl) (by kernel_rfl) (fun _ _ _ h => h) rfl hX (fun V _ => ex_subV (.tmp 85) rfl rfl rfl HJE.out HJK.out V) ?_; simp only [Act.put, qA, qB, qC]
           refine mc_take (i := 8) (oi := ⟨some 87, _, _, _, _, _⟩) (v := .pointer (some ⟨g, j1, none⟩)) rfl (by kernel_rfl) (by kernel_rfl) (by kernel_rfl) (fun _ _ _ h => h) rfl hX (fun V _ => ix_y (.tmp 84) (.tmp 86) rfl rfl rfl HJ1.out V) ?_; simp only [Act.put, qA, qB, qC]
           refine mc_takeS (i := 9) (oi := ⟨some 88, _, _, _, _, _⟩) (v := bv p) rfl (by kernel_rfl) (by kernel_rfl) (by kernel_rfl) (fun _ _ _ h => h) rfl hX hY (fun V hT hS => ld_yt (.tmp 87) rfl rfl (cell_same hS (SD.out.cell HP.out))) ?_; simp only [Act.put, qA, qB, qC]
           refine mc_take (i := 10) (oi := ⟨some 89, _, _, _, _, _⟩) (v := ?_) rfl (by kernel_rfl) (by kernel_rfl) (by kernel_rfl) (fun _ _ _ h => h) rfl hX ?_ ?_; rotate_left; (intro W hW; go_simp; try with_reducible rfl); simp only [Act.put, qA, qB, qC]
           refine mc_take (i := 11) (oi := ⟨some 90, _, _, _, _, _⟩) (v := ?_) rfl (by kernel_rfl) (by kernel_rfl) (by kernel_rfl) (fun _ _ _ h => h) rfl hX ?_ ?_; rotate_left; (intro W hW; go_simp; try with_reducible rfl); simp only [Act.put, qA, qB, qC]
           refine mc_take (i := 12) (oi := ⟨some 91, _, _, _, _, _⟩) (v := .pointer (some ⟨g, j, none⟩)) rfl (by kernel_rfl) (by kernel_rfl) (by kernel_rfl) (fun _ _ _ h => h) rfl hX (fun V _ => ix_y (.tmp 89) (.tmp 90) rfl rfl rfl HJN.out V) ?_; simp only [Act.put, qA, qB, qC]
           refine mc_takeS (i := 13) (oi := ⟨some 92, _, _, _, _, _⟩) (v := bv q) rfl (by kernel_rfl) (by kernel_rfl) (by kernel_rfl) (fun _ _ _ h => h) rfl hX hY (fun V hT hS => ld_yt (.tmp 91) rfl rfl (cell_same hS (SD.out.cell HQ.out))) ?_; simp only [Act.put, qA, qB, qC]
           refine mc_take (i := 14) (oi := ⟨some 93, _, _, _, _, _⟩) (v := .pointer (some ⟨g, j, none⟩)) rfl (by kernel_rfl) (by kernel_rfl) (by kernel_rfl) (fun _ _ _ h => h) rfl hX (fun V _ => ix_y (.tmp 79) (.tmp 80) rfl rfl rfl HJN.out V) ?_; simp only [Act.put, qA, qB, qC]
           refine mc_last (i := 15) (o := ⟨none, _, _, _, _, _⟩) rfl (by kernel_rfl) rfl (fun K hK => ?_)
           have HZ := qH (show Dat wd g zs l from SD.out.keep hY)
           refine wp_stY (.tmp 93) (.tmp 88) rfl g j rfl p rfl _ (HZ.out.cell HQ.out) (HZ.out.frozen _) ?_
           refine hK _ _ (grownS_set hX _ _) ?_
           clear hK K
           have HZ2 := qH (HZ.out.set (List.getElem?_eq_some_iff.1 HQ.out).1 p)
           have HC2 := qH (dat_hit HZ2.out (i := j1) (by rw [List.length_set]; exact (List.getElem?_eq_some_iff.1 HP.out).1))
           clear hY
           replace hX := grownS_set hX j (bv p)
           (try simp only [Act.put, qA, qB, qC])
           refine mc_take (i := 16) (oi := ⟨some 94, _, _, _, _, _⟩) (v := .pointer (some ⟨g, j1, none⟩)) rfl (by kernel_rfl) (by kernel_rfl) (by kernel_rfl) (fun _ _ _ h => h) rfl hX (fun V _ => ix_y (.tmp 81) (.tmp 83) rfl rfl rfl HJ1.out V) ?_; simp only [Act.put, qA, qB, qC]
           refine mc_last (i := 17) (o := ⟨none, _, _, _, _, _⟩) rfl (by kernel_rfl) rfl (fun K hK => ?_)
           refine wp_stY (.tmp 94) (.tmp 92) rfl g j1 rfl q rfl _ HC2.out (HZ2.out.frozen _) ?_
           refine hK _ _ (grownS_set hX _ _) ?_
           clear hK K hX
           (try simp only [Act.put, qA, qB, qC])
           refine wpAnyC_done (by kernel_rfl) ?_ _
           have HSW := qH (SoP.swap PL.out HZ.out GW.out HP.out HQ.out)
           go_wp2_with fail
           exact ⟨⟨j1, rfl, HJI.out, HSW.out⟩, by simpa [intOf] using HM.out⟩
         ·have w2 : ¬ ((1 : Int) ≤ (j : Int)) := fun h => hj0 (Int.ofNat_le.1 h)
          have HT := HS
          clear HS hji
          by_cases hbi : 2 ≤ bi
          ·have v1 : (2 : Int) ≤ (bi : Int) := Int.ofNat_le.2 hbi
           clear hbi
           go_wp2_with fail
           go_loopw [10] (fun jv wl => ∃ j : Nat, jv = .int .i64 (j : Int) ∧ i + 1 ≤ j ∧ SoP g zs l0 w wl) (fun jv _ => b - (intOf jv).toNat)
           case atStart => exact ⟨i + 1, by simp, Nat.le_refl _, HT.out⟩
           case round =>
            obtain ⟨j, rfl, hij, hs⟩ := hrel
            have HS := qH hs
            have HIJ := qH hij
            clear hs hij
            rename_i wr
            by_cases hjb : j < b
            ·have v2 : (j : Int) < (b : Int) := Int.ofNat_lt.2 hjb
             obtain ⟨j1, hj1⟩ := pre_ex (Nat.lt_of_lt_of_le (Nat.succ_pos i) HIJ.out)
             have HJN := qH (show j < n from Nat.lt_of_lt_of_le hjb HB.out)
             have HMJ := qH (sub_next hjb)
             have k3 := wrap_one j (Nat.le_trans (Nat.le_of_lt HJN.out) (Nat.le_trans HN.out (by decide)))
             have k4 := wrap_one' j (Nat.le_trans (Nat.le_of_lt HJN.out) (Nat.le_trans HN.out (by decide)))
             have HJE := qH hj1
             have HJ1 := qH (show j1 < n from Nat.lt_of_succ_lt (by rw [Nat.succ_eq_add_one, hj1]; exact HJN.out))
             have HJK := qH (show j1 ≤ 1048576 from Nat.le_trans (Nat.le_of_lt HJ1.out) HN.out)
             have k1 := sub_w hj1 HJK.out
             have k2 := sub_k hj1 HJK.out
             clear hj1
             clear hjb
             obtain ⟨l, hp, hd⟩ := HS.out.dat
             have PL := qH hp
             have SD := qH hd
             have GD := qH HS.out.grown
             have SL := qH (show l.length = n by rw [hp.length_eq]; exact HL.out)
             clear hp hd
             obtain ⟨q, hq⟩ : ∃ q, l[j]? = some q := ⟨_, List.getElem?_eq_getElem (by rw [SL.out]; exact HJN.out)⟩
             obtain ⟨p, hp⟩ : ∃ p, l[j1]? = some p := ⟨_, List.getElem?_eq_getElem (by rw [SL.out]; exact HJ1.out)⟩
             have HP := qH hp
             have HQ := qH hq
             obtain ⟨c, hc⟩ : ∃ c, c = decide (q.toNat < p.toNat) := ⟨_, rfl⟩
             have HC := qH hc
             clear hp hq hc
             clear HS
             go_wp2_with fail
             refine sg_start (S := IsW wr.drew) (by kernel_rfl) rfl (fun wd hwd => ?_)
             have hX : IsW _ wd := hwd
             clear hwd
             refine sg_take (i := 0) (oi := ⟨some 106, _, _, _, _, _⟩) (v := ?_) rfl (by kernel_rfl) (by kernel_rfl) (by kernel_rfl) (fun _ _ _ h => h) rfl hX ?_ ?_; rotate_left; (intro W hW; go_simp; try with_reducible rfl); simp only [Act.put, qA, qB, qC]
             refine sg_take (i := 1) (oi := ⟨some 107, _, _, _, _, _⟩) (v := ?_) rfl (by kernel_rfl) (by kernel_rfl) (by kernel_rfl) (fun _ _ _ h => h) rfl hX ?_ ?_; rotate_left; (intro W hW; go_simp; try with_reducible rfl); simp only [Act.put, qA, qB, qC]
             refine sg_take (i := 2) (oi := ⟨some 108, _, _, _, _, _⟩) (v := .pointer (some ⟨g, j, none⟩)) rfl (by kernel_rfl) (by kernel_rfl) (by kernel_rfl) (fun _ _ _ h => h) rfl hX (fun V _ => ix_y (.tmp 106) (.tmp 107) rfl rfl rfl HJN.out V) ?_; simp only [Act.put, qA, qB, qC]
             refine sg_take (i := 3) (oi := ⟨some 109, _, _, _, _, _⟩) (v := bv q) rfl (by kernel_rfl) (by kernel_rfl) (by kernel_rfl) (fun _ _ _ h => h) rfl hX (fun V hV => ld_yt (.tmp 108) rfl rfl ((SD.out.is hV).cell HQ.out)) ?_; simp only [Act.put, qA, qB, qC]
             refine sg_take (i := 4) (oi := ⟨some 110, _, _, _, _, _⟩) (v := ?_) rfl (by kernel_rfl) (by kernel_rfl) (by kernel_rfl) (fun _ _ _ h => h) rfl hX ?_ ?_; rotate_left; (intro W hW; go_simp; try with_reducible rfl); simp only [Act.put, qA, qB, qC]
             refine sg_take (i := 5) (oi := ⟨some 111, _, _, _, _, _⟩) (v := ?_) rfl (by kernel_rfl) (by kernel_rfl) (by kernel_rfl) (fun _ _ _ h => h) rfl hX ?_ ?_; rotate_left; (intro W hW; go_simp; try with_reducible rfl); simp only [Act.put, qA, qB, qC]
             refine sg_take (i := 6) (oi := ⟨some 112, _, _, _, _, _⟩) (v := .int .i64 ((j1 : Nat) : Int)) rfl (by kernel_rfl) (by kernel_rfl) (by kernel_rfl) (fun _ _ _ h => h) rfl hX (fun V _ => ex_subV (.tmp 111) rfl rfl rfl HJE.out HJK.out V) ?_; simp only [Act.put, qA, qB, qC]
             refine sg_take (i := 7) (oi := ⟨some 113, _, _, _, _, _⟩) (v := .pointer (some ⟨g, j1, none⟩)) rfl (by kernel_rfl) (by kernel_rfl) (by kernel_rfl) (fun _ _ _ h => h) rfl hX (fun V _ => ix_y (.tmp 110) (.tmp 112) rfl rfl rfl HJ1.out V) ?_; simp only [Act.put, qA, qB, qC]
             refine sg_take (i := 8) (oi := ⟨some 114, _, _, _, _, _⟩) (v := bv p) rfl (by kernel_rfl) (by kernel_rfl) (by kernel_rfl) (fun _ _ _ h => h) rfl hX (fun V hV => ld_yt (.tmp 113) rfl rfl ((SD.out.is hV).cell HP.out)) ?_; simp only [Act.put, qA, qB, qC]
             refine sg_actB (i := 9) (o := ⟨some 115, _, _, _, _, _⟩) rfl (by kernel_rfl) rfl hX (fun K hK => ?_)
             go_wp2_with fail
             refine (lessY_any _ _ _).mono ?_
             rintro e we ⟨rfl, hwe⟩
             subst hwe
             rw [← HC.out]
             go_wp2_with fail
             refine hK _ _ hX ?_
             clear hK K
             (try simp only [Act.put, qA, qB, qC])
             refine sg_take (i := 10) (oi := ⟨some 116, _, _, _, _, _⟩) (v := ?_) rfl (by kernel_rfl) (by kernel_rfl) (by kernel_rfl) (fun _ _ _ h => h) rfl hX ?_ ?_; rotate_left; (intro W hW; go_simp; try with_reducible rfl); simp only [Act.put, qA, qB, qC]
             refine wpAnyH_done (by kernel_rfl) ?_ _
             have SE := qH (SD.out.is hX)
             have GE := qH (grownS_is GD.out hX)
             clear hX SD GD
             have SD := SE
             have GD := GE
             clear SE GE
             cases c with
             | false =>
              go_wp2_with fail
              exact ⟨⟨i, jc + 1, rfl, by simp, HAI.out, HIB2.out, HJC.out, ⟨⟨l, PL.out, SD.out⟩, GD.out⟩⟩, by simpa [intOf] using HMC.out⟩
             | true =>
              go_wp2_with fail
              refine mc_start (fun V => we.grownBy V (some g)) (fun V => V.heap[g]? = we.heap[g]?) 15 (by kernel_rfl) (fun wd hwd => ?_)
              have hX : we.grownBy wd (some g) := by rw [hwd]; exact grownS_drew _ _
              have hY : wd.heap[g]? = we.heap[g]? := by rw [hwd]; rfl
              have GW := qH (grownS_trans GD.out hX)
              have HWD := qH hwd
              clear hwd
              refine mc_take (i := 0) (oi := ⟨some 117, _, _, _, _, _⟩) (v := ?_) rfl (by kernel_rfl) (by kernel_rfl) (by kernel_rfl) (fun _ _ _ h => h) rfl hX ?_ ?_; rotate_left; (intro W hW; go_simp; try with_reducible rfl); simp only [Act.put, qA, qB, qC]
              refine mc_take (i := 1) (oi := ⟨some 118, _, _, _, _, _⟩) (v := ?_) rfl (by kernel_rfl) (by kernel_rfl) (by kernel_rfl) (fun _ _ _ h => h) rfl hX ?_ ?_; rotate_left; (intro W hW; go_simp; try with_reducible rfl); simp only [Act.put, qA, qB, qC]
              refine mc_take (i := 2) (oi := ⟨some 119, _, _, _, _, _⟩) (v := ?_) rfl (by kernel_rfl) (by kernel_rfl) (by kernel_rfl) (fun _ _ _ h => h) rfl hX ?_ ?_; rotate_left; (intro W hW; go_simp; try with_reducible rfl); simp only [Act.put, qA, qB, qC]
              refine mc_take (i := 3) (oi := ⟨some 120, _, _, _, _, _⟩) (v := ?_) rfl (by kernel_rfl) (by kernel_rfl) (by kernel_rfl) (fun _ _ _ h => h) rfl hX ?_ ?_; rotate_left; (intro W hW; go_simp; try with_reducible rfl); simp only [Act.put, qA, qB, qC]
              refine mc_take (i := 4) (oi := ⟨some 121, _, _, _, _, _⟩) (v := .int .i64 ((j1 : Nat) : Int)) rfl (by kernel_rfl) (by kernel_rfl) (by kernel_rfl) (fun _ _ _ h => h) rfl hX (fun V _ => ex_subV (.tmp 120) rfl rfl rfl HJE.out HJK.out V) ?_; simp only [Act.put, qA, qB, qC]
              refine mc_take (i := 5) (oi := ⟨some 122, _, _, _, _, _⟩) (v := ?_) rfl (by kernel_rfl) (by kernel_rfl) (by kernel_rfl) (fun _ _ _ h => h) rfl hX ?_ ?_; rotate_left; (intro W hW; go_simp; try with_reducible rfl); simp only [Act.put, qA, qB, qC]
              refine mc_take (i := 6) (oi := ⟨some 123, _, _, _, _, _⟩) (v := ?_) rfl (by kernel_rfl) (by kernel_rfl) (by kernel_rfl) (fun _ _ _ h => h) rfl hX ?_ ?_; rotate_left; (intro W hW; go_simp; try with_reducible rfl); simp only [Act.put, qA, qB, qC]
              refine mc_take (i := 7) (oi := ⟨some 124, _, _, _, _, _⟩) (v := .int .i64 ((j1 : Nat) : Int)) rfl (by kernel_rfl) (by kernel_rfl) (by kernel_rfl) (fun _ _ _ h => h) rfl hX (fun V _ => ex_subV (.tmp 123) rfl rfl rfl HJE.out HJK.out V) ?_; simp only [Act.put, qA, qB, qC]
              refine mc_take (i := 8) (oi := ⟨some 125, _, _, _, _, _⟩) (v := .pointer (some ⟨g, j1, none⟩)) rfl (by kernel_rfl) (by kernel_rfl) (by kernel_rfl) (fun _ _ _ h => h) rfl hX (fun V _ => ix_y (.tmp 122) (.tmp 124) rfl rfl rfl HJ1.out V) ?_; simp only [Act.put, qA, qB, qC]
              refine mc_takeS (i := 9) (oi := ⟨some 126, _, _, _, _, _⟩) (v := bv p) rfl (by kernel_rfl) (by kernel_rfl) (by kernel_rfl) (fun _ _ _ h => h) rfl hX hY (fun V hT hS => ld_yt (.tmp 125) rfl rfl (cell_same hS (SD.out.cell HP.out))) ?_; simp only [Act.put, qA, qB, qC]
              refine mc_take (i := 10) (oi := ⟨some 127, _, _, _, _, _⟩) (v := ?_) rfl (by kernel_rfl) (by kernel_rfl) (by kernel_rfl) (fun _ _ _ h => h) rfl hX ?_ ?_; rotate_left; (intro W hW; go_simp; try with_reducible rfl); simp only [Act.put, qA, qB, qC]
              refine mc_take (i := 11) (oi := ⟨some 128, _, _, _, _, _⟩) (v := ?_) rfl (by kernel_rfl) (by kernel_rfl) (by kernel_rfl) (fun _ _ _ h => h) rfl hX ?_ ?_; rotate_left; (intro W hW; go_simp; try with_reducible rfl); simp only [Act.put, qA, qB, qC]
              refine mc_take (i := 12) (oi := ⟨some 129, _, _, _, _, _⟩) (v := .pointer (some ⟨g, j, none⟩)) rfl (by kernel_rfl) (by kernel_rfl) (by kernel_rfl) (fun _ _ _ h => h) rfl hX (fun V _ => ix_y (.tmp 127) (.tmp 128) rfl rfl rfl HJN.out V) ?_; simp only [Act.put, qA, qB, qC]
              refine mc_takeS (i := 13) (oi := ⟨some 130, _, _, _, _, _⟩) (v := bv q) rfl (by kernel_rfl) (by kernel_rfl) (by kernel_rfl) (fun _ _ _ h => h) rfl hX hY (fun V hT hS => ld_yt (.tmp 129) rfl rfl (cell_same hS (SD.out.cell HQ.out))) ?_; simp only [Act.put, qA, qB, qC]
              refine mc_take (i := 14) (oi := ⟨some 131, _, _, _, _, _⟩) (v := .pointer (some ⟨g, j, none⟩)) rfl (by kernel_rfl) (by kernel_rfl) (by kernel_rfl) (fun _ _ _ h => h) rfl hX (fun V _ => ix_y (.tmp 117) (.tmp 118) rfl rfl rfl HJN.out V) ?_; simp only [Act.put, qA, qB, qC]
              refine mc_last (i := 15) (o := ⟨none, _, _, _, _, _⟩) rfl (by kernel_rfl) rfl (fun K hK => ?_)
              have HZ := qH (show Dat wd g zs l from SD.out.keep hY)
              refine wp_stY (.tmp 131) (.tmp 126) rfl g j rfl p rfl _ (HZ.out.cell HQ.out) (HZ.out.frozen _) ?_
              refine hK _ _ (grownS_set hX _ _) ?_
              clear hK K
              have HZ2 := qH (HZ.out.set (List.getElem?_eq_some_iff.1 HQ.out).1 p)
              have HC2 := qH (dat_hit HZ2.out (i := j1) (by rw [List.length_set]; exact (List.getElem?_eq_some_iff.1 HP.out).1))
              clear hY
              replace hX := grownS_set hX j (bv p)
              (try simp only [Act.put, qA, qB, qC])
              refine mc_take (i := 16) (oi := ⟨some 132, _, _, _, _, _⟩) (v := .pointer (some ⟨g, j1, none⟩)) rfl (by kernel_rfl) (by kernel_rfl) (by kernel_rfl) (fun _ _ _ h => h) rfl hX (fun V _ => ix_y (.tmp 119) (.tmp 121) rfl rfl rfl HJ1.out V) ?_; simp only [Act.put, qA, qB, qC]
              refine mc_last (i := 17) (o := ⟨none, _, _, _, _, _⟩) rfl (by kernel_rfl) rfl (fun K hK => ?_)
              refine wp_stY (.tmp 132) (.tmp 130) rfl g j1 rfl q rfl _ HC2.out (HZ2.out.frozen _) ?_
              refine hK _ _ (grownS_set hX _ _) ?_
              clear hK K hX
              (try simp only [Act.put, qA, qB, qC])
              refine wpAnyC_done (by kernel_rfl) ?_ _
              have HSW := qH (SoP.swap PL.out HZ.out GW.out HP.out HQ.out)
              go_wp2_with fail
              exact ⟨⟨j + 1, by simp, Nat.le_succ_of_le HIJ.out, HSW.out⟩, by simpa [intOf] using HMJ.out⟩
            ·have v2 : ¬ ((j : Int) < (b : Int)) := fun h => hjb (Int.ofNat_lt.1 h)
             go_wp2_with fail
             exact ⟨⟨i, jc + 1, rfl, by simp, HAI.out, HIB2.out, HJC.out, HS.out⟩, by simpa [intOf] using HMC.out⟩
          ·have v1 : ¬ ((2 : Int) ≤ (bi : Int)) := fun h => hbi (Int.ofNat_le.1 h)
           go_wp2_with fail
           exact ⟨⟨i, jc + 1, rfl, by simp, HAI.out, HIB2.out, HJC.out, HT.out⟩, by simpa [intOf] using HMC.out⟩
       ·have w1 : ¬ ((2 : Int) ≤ (ia : Int)) := fun h => hia (Int.ofNat_le.1 h)
        by_cases hbi : 2 ≤ bi
        ·have v1 : (2 : Int) ≤ (bi : Int) := Int.ofNat_le.2 hbi
         clear hbi
         go_wp2_with fail
         go_loopw [10] (fun jv wl => ∃ j : Nat, jv = .int .i64 (j : Int) ∧ i + 1 ≤ j ∧ SoP g zs l0 w wl) (fun jv _ => b - (intOf jv).toNat)
         case atStart => exact ⟨i + 1, by simp, Nat.le_refl _, HT.out⟩
         case round =>
          obtain ⟨j, rfl, hij, hs⟩ := hrel
          have HS := qH hs
          have HIJ := qH hij
          clear hs hij
          rename_i wr
          by_cases hjb : j < b
          ·have v2 : (j : Int) < (b : Int) := Int.ofNat_lt.2 hjb
           obtain ⟨j1, hj1⟩ := pre_ex (Nat.lt_of_lt_of_le (Nat.succ_pos i) HIJ.out)
           have HJN := qH (show j < n from Nat.lt_of_lt_of_le hjb HB.out)
           have HMJ := qH (sub_next hjb)
           have k3 := wrap_one j (Nat.le_trans (Nat.le_of_lt HJN.out) (Nat.le_trans HN.out (by decide)))
           have k4 := wrap_one' j (Nat.le_trans (Nat.le_of_lt HJN.out) (Nat.le_trans HN.out (by decide)))
           have HJE := qH hj1
           have HJ1 := qH (show j1 < n from Nat.lt_of_succ_lt (by rw [Nat.succ_eq_add_one, hj1]; exact HJN.out))
           have HJK := qH (show j1 ≤ 1048576 from Nat.le_trans (Nat.le_of_lt HJ1.out) HN.out)
           have k1 := sub_w hj1 HJK.out
           have k2 := sub_k hj1 HJK.out
           clear hj1
           clear hjb
           obtain ⟨l, hp, hd⟩ := HS.out.dat
           have PL := qH hp
           have SD := qH hd
           have GD := qH HS.out.grown
           have SL := qH (show l.length = n by rw [hp.length_eq]; exact HL.out)
           clear hp hd
           obtain ⟨q, hq⟩ : ∃ q, l[j]? = some q := ⟨_, List.getElem?_eq_getElem (by rw [SL.out]; exact HJN.out)⟩
           obtain ⟨p, hp⟩ : ∃ p, l[j1]? = some p := ⟨_, List.getElem?_eq_getElem (by rw [SL.out]; exact HJ1.out)⟩
           have HP := qH hp
           have HQ := qH hq
           obtain ⟨c, hc⟩ : ∃ c, c = decide (q.toNat < p.toNat) := ⟨_, rfl⟩
           have HC := qH hc
           clear hp hq hc
           clear HS
           go_wp2_with fail
           refine sg_start (S := IsW wr.drew) (by kernel_rfl) rfl (fun wd hwd => ?_)
           have hX : IsW _ wd := hwd
           clear hwd
           refine sg_take (i := 0) (oi := ⟨some 106, _, _, _, _, _⟩) (v := ?_) rfl (by kernel_rfl) (by kernel_rfl) (by kernel_rfl) (fun _ _ _ h => h) rfl hX ?_ ?_; rotate_left; (intro W hW; go_simp; try with_reducible rfl); simp only [Act.put, qA, qB, qC]
           refine sg_take (i := 1) (oi := ⟨some 107, _, _, _, _, _⟩) (v := ?_) rfl (by kernel_rfl) (by kernel_rfl) (by kernel_rfl) (fun _ _ _ h => h) rfl hX ?_ ?_; rotate_left; (intro W hW; go_simp; try with_reducible rfl); simp only [Act.put, qA, qB, qC]
           refine sg_take (i := 2) (oi := ⟨some 108, _, _, _, _, _⟩) (v := .pointer (some ⟨g, j, none⟩)) rfl (by kernel_rfl) (by kernel_rfl) (by kernel_rfl) (fun _ _ _ h => h) rfl hX (fun V _ => ix_y (.tmp 106) (.tmp 107) rfl rfl rfl HJN.out V) ?_; simp only [Act.put, qA, qB, qC]
           refine sg_take (i := 3) (oi := ⟨some 109, _, _, _, _, _⟩) (v := bv q) rfl (by kernel_rfl) (by kernel_rfl) (by kernel_rfl) (fun _ _ _ h => h) rfl hX (fun V hV => ld_yt (.tmp 108) rfl rfl ((SD.out.is hV).cell HQ.out)) ?_; simp only [Act.put, qA, qB, qC]
           refine sg_take (i := 4) (oi := ⟨some 110, _, _, _, _, _⟩) (v := ?_) rfl (by kernel_rfl) (by kernel_rfl) (by kernel_rfl) (fun _ _ _ h => h) rfl hX ?_ ?_; rotate_left; (intro W hW; go_simp; try with_reducible rfl); simp only [Act.put, qA, qB, qC]
           refine sg_take (i := 5) (oi := ⟨some 111, _, _, _, _, _⟩) (v := ?_) rfl (by kernel_rfl) (by kernel_rfl) (by kernel_rfl) (fun _ _ _ h => h) rfl hX ?_ ?_; rotate_left; (intro W hW; go_simp; try with_reducible rfl); simp only [Act.put, qA, qB, qC]
           refine sg_take (i := 6) (oi := ⟨some 112, _, _, _, _, _⟩) (v := .int .i64 ((j1 : Nat) : Int)) rfl (by kernel_rfl) (by kernel_rfl) (by kernel_rfl) (fun _ _ _ h => h) rfl hX (fun V _ => ex_subV (.tmp 111) rfl rfl rfl HJE.out HJK.out V) ?_; simp only [Act.put, qA, qB, qC]
           refine sg_take (i := 7) (oi := ⟨some 113, _, _, _, _, _⟩) (v := .pointer (some ⟨g, j1, none⟩)) rfl (by kernel_rfl) (by kernel_rfl) (by kernel_rfl) (fun _ _ _ h => h) rfl hX (fun V _ => ix_y (.tmp 110) (.tmp 112) rfl rfl rfl HJ1.out V) ?_; simp only [Act.put, qA, qB, qC]
           refine sg_take (i := 8) (oi := ⟨some 114, _, _, _, _, _⟩) (v := bv p) rfl (by kernel_rfl) (by kernel_rfl) (by kernel_rfl) (fun _ _ _ h => h) rfl hX (fun V hV => ld_yt (.tmp 113) rfl rfl ((SD.out.is hV).cell HP.out)) ?_; simp only [Act.put, qA, qB, qC]
           refine sg_actB (i := 9) (o := ⟨some 115, _, _, _, _, _⟩) rfl (by kernel_rfl) rfl hX (fun K hK => ?_)
           go_wp2_with fail
           refine (lessY_any _ _ _).mono ?_
           rintro e we ⟨rfl, hwe⟩
           subst hwe
           rw [← HC.out]
           go_wp2_with fail
           refine hK _ _ hX ?_
           clear hK K
           (try simp only [Act.put, qA, qB, qC])
           refine sg_take (i := 10) (oi := ⟨some 116, _, _, _, _, _⟩) (v := ?_) rfl (by kernel_rfl) (by kernel_rfl) (by kernel_rfl) (fun _ _ _ h => h) rfl hX ?_ ?_; rotate_left; (intro W hW; go_simp; try with_reducible rfl); simp only [Act.put, qA, qB, qC]
           refine wpAnyH_done (by kernel_rfl) ?_ _
           have SE := qH (SD.out.is hX)
           have GE := qH (grownS_is GD.out hX)
           clear hX SD GD
           have SD := SE
           have GD := GE
           clear SE GE
           cases c with
           | false =>
            go_wp2_with fail
            exact ⟨⟨i, jc + 1, rfl, by simp, HAI.out, HIB2.out, HJC.out, ⟨⟨l, PL.out, SD.out⟩, GD.out⟩⟩, by simpa [intOf] using HMC.out⟩
           | true =>
            go_wp2_with fail
            refine mc_start (fun V => we.grownBy V (some g)) (fun V => V.heap[g]? = we.heap[g]?) 15 (by kernel_rfl) (fun wd hwd => ?_)
            have hX : we.grownBy wd (some g) := by rw [hwd]; exact grownS_drew _ _
            have hY : wd.heap[g]? = we.heap[g]? := by rw [hwd]; rfl
            have GW := qH (grownS_trans GD.out hX)
            have HWD := qH hwd
            clear hwd
            refine mc_take (i := 0) (oi := ⟨some 117, _, _, _, _, _⟩) (v := ?_) rfl (by kernel_rfl) (by kernel_rfl) (by kernel_rfl) (fun _ _ _ h => h) rfl hX ?_ ?_; rotate_left; (intro W hW; go_simp; try with_reducible rfl); simp only [Act.put, qA, qB, qC]
            refine mc_take (i := 1) (oi := ⟨some 118, _, _, _, _, _⟩) (v := ?_) rfl (by kernel_rfl) (by kernel_rfl) (by kernel_rfl) (fun _ _ _ h => h) rfl hX ?_ ?_; rotate_left; (intro W hW; go_simp; try with_reducible rfl); simp only [Act.put, qA, qB, qC]
            refine mc_take (i := 2) (oi := ⟨some 119, _, _, _, _, _⟩) (v := ?_) rfl (by kernel_rfl) (by kernel_rfl) (by kernel_rfl) (fun _ _ _ h => h) rfl hX ?_ ?_; rotate_left; (intro W hW; go_simp; try with_reducible rfl); simp only [Act.put, qA, qB, qC]
            refine mc_take (i := 3) (oi := ⟨some 120, _, _, _, _, _⟩) (v := ?_) rfl (by kernel_rfl) (by kernel_rfl) (by kernel_rfl) (fun _ _ _ h => h) rfl hX ?_ ?_; rotate_left; (intro W hW; go_simp; try with_reducible rfl); simp only [Act.put, qA, qB, qC]
            refine mc_take (i := 4) (oi := ⟨some 121, _, _, _, _, _⟩) (v := .int .i64 ((j1 : Nat) : Int)) rfl (by kernel_rfl) (by kernel_rfl) (by kernel_rfl) (fun _ _ _ h => h) rfl hX (fun V _ => ex_subV (.tmp 120) rfl rfl rfl HJE.out HJK.out V) ?_; simp only [Act.put, qA, qB, qC]
            refine mc_take (i := 5) (oi := ⟨some 122, _, _, _, _, _⟩) (v := ?_) rfl (by kernel_rfl) (by kernel_rfl) (by kernel_rfl) (fun _ _ _ h => h) rfl hX ?_ ?_; rotate_left; (intro W hW; go_simp; try with_reducible rfl); simp only [Act.put, qA, qB, qC]
            refine mc_take (i := 6) (oi := ⟨some 123, _, _, _, _, _⟩) (v := ?_) rfl (by kernel_rfl) (by kernel_rfl) (by kernel_rfl) (fun _ _ _ h => h) rfl hX ?_ ?_; rotate_left; (intro W hW; go_simp; try with_reducible rfl); simp only [Act.put, qA, qB, qC]
            refine mc_take (i := 7) (oi := ⟨some 124, _, _, _, _, _⟩) (v := .int .i64 ((j1 : Nat) : Int)) rfl (by kernel_rfl) (by kernel_rfl) (by kernel_rfl) (fun _ _ _ h => h) rfl hX (fun V _ => ex_subV (.tmp 123) rfl rfl rfl HJE.out HJK.out V) ?_; simp only [Act.put, qA, qB, qC]
            refine mc_take (i := 8) (oi := ⟨some 125, _, _, _, _, _⟩) (v := .pointer (some ⟨g, j1, none⟩)) rfl (by kernel_rfl) (by kernel_rfl) (by kernel_rfl) (fun _ _ _ h => h) rfl hX (fun V _ => ix_y (.tmp 122) (.tmp 124) rfl rfl rfl HJ1.out V) ?_; simp only [Act.put, qA, qB, qC]
            refine mc_takeS (i := 9) (oi := ⟨some 126, _, _, _, _, _⟩) (v := bv p) rfl (by kernel_rfl) (by kernel_rfl) (by kernel_rfl) (fun _ _ _ h => h) rfl hX hY (fun V hT hS => ld_yt (.tmp 125) rfl rfl (cell_same hS (SD.out.cell HP.out))) ?_; simp only [Act.put, qA, qB, qC]
            refine mc_take (i := 10) (oi := ⟨some 127, _, _, _, _, _⟩) (v := ?_) rfl (by kernel_rfl) (by kernel_rfl) (by kernel_rfl) (fun _ _ _ h => h) rfl hX ?_ ?_; rotate_left; (intro W hW; go_simp; try with_reducible rfl); simp only [Act.put, qA, qB, qC]
            refine mc_take (i := 11) (oi := ⟨some 128, _, _, _, _, _⟩) (v := ?_) rfl (by kernel_rfl) (by kernel_rfl) (by kernel_rfl) (fun _ _ _ h => h) rfl hX ?_ ?_; rotate_left; (intro W hW; go_simp; try with_reducible rfl); simp only [Act.put, qA, qB, qC]
            refine mc_take (i := 12) (oi := ⟨some 129, _, _, _, _, _⟩) (v := .pointer (some ⟨g, j, none⟩)) rfl (by kernel_rfl) (by kernel_rfl) (by kernel_rfl) (fun _ _ _ h => h) rfl hX (fun V _ => ix_y (.tmp 127) (.tmp 128) rfl rfl rfl HJN.out V) ?_; simp only [Act.put, qA, qB, qC]
            refine mc_takeS (i := 13) (oi := ⟨some 130, _, _, _, _, _⟩) (v := bv q) rfl (by kernel_rfl) (by kernel_rfl) (by kernel_rfl) (fun _ _ _ h => h) rfl hX hY (fun V hT hS => ld_yt (.tmp 129) rfl rfl (cell_same hS (SD.out.cell HQ.out))) ?_; simp only [Act.put, qA, qB, qC]
            refine mc_take (i := 14) (oi := ⟨some 131, _, _, _, _, _⟩) (v := .pointer (some ⟨g, j, none⟩)) rfl (by kernel_rfl) (by kernel_rfl) (by kernel_rfl) (fun _ _ _ h => h) rfl hX (fun V _ => ix_y (.tmp 117) (.tmp 118) rfl rfl rfl HJN.out V) ?_; simp only [Act.put, qA, qB, qC]
            refine mc_last (i := 15) (o := ⟨none, _, _, _, _, _⟩) rfl (by kernel_rfl) rfl (fun K hK => ?_)
            have HZ := qH (show Dat wd g zs l from SD.out.keep hY)
            refine wp_stY (.tmp 131) (.tmp 126) rfl g j rfl p rfl _ (HZ.out.cell HQ.out) (HZ.out.frozen _) ?_
            refine hK _ _ (grownS_set hX _ _) ?_
            clear hK K
            have HZ2 := qH (HZ.out.set (List.getElem?_eq_some_iff.1 HQ.out).1 p)
            have HC2 := qH (dat_hit HZ2.out (i := j1) (by rw [List.length_set]; exact (List.getElem?_eq_some_iff.1 HP.out).1))
            clear hY
            replace hX := grownS_set hX j (bv p)
            (try simp only [Act.put, qA, qB, qC])
            refine mc_take (i := 16) (oi := ⟨some 132, _, _, _, _, _⟩) (v := .pointer (some ⟨g, j1, none⟩)) rfl (by kernel_rfl) (by kernel_rfl) (by kernel_rfl) (fun _ _ _ h => h) rfl hX (fun V _ => ix_y (.tmp 119) (.tmp 121) rfl rfl rfl HJ1.out V) ?_; simp only [Act.put, qA, qB, qC]
            refine mc_last (i := 17) (o := ⟨none, _, _, _, _, _⟩) rfl (by kernel_rfl) rfl (fun K hK => ?_)
            refine wp_stY (.tmp 132) (.tmp 130) rfl g j1 rfl q rfl _ HC2.out (HZ2.out.frozen _) ?_
            refine hK _ _ (grownS_set hX _ _) ?_
            clear hK K hX
            (try simp only [Act.put, qA, qB, qC])
            refine wpAnyC_done (by kernel_rfl) ?_ _
            have HSW := qH (SoP.swap PL.out HZ.out GW.out HP.out HQ.out)
            go_wp2_with fail
            exact ⟨⟨j + 1, by simp, Nat.le_succ_of_le HIJ.out, HSW.out⟩, by simpa [intOf] using HMJ.out⟩
          ·have v2 : ¬ ((j : Int) < (b : Int)) := fun h => hjb (Int.ofNat_lt.1 h)
           go_wp2_with fail
           exact ⟨⟨i, jc + 1, rfl, by simp, HAI.out, HIB2.out, HJC.out, HS.out⟩, by simpa [intOf] using HMC.out⟩
        ·have v1 : ¬ ((2 : Int) ≤ (bi : Int)) := fun h => hbi (Int.ofNat_le.1 h)
         go_wp2_with fail
         exact ⟨⟨i, jc + 1, rfl, by simp, HAI.out, HIB2.out, HJC.out, HT.out⟩, by simpa [intOf] using HMC.out⟩
    ·have hib2 : i = b := Nat.le_antisymm hib (Nat.le_of_not_lt hlt)
     have HNB := qH hlt
     have HY1 := qH (show (i : Int) = (b : Int) from congrArg Nat.cast hib2)
     have HIE2 := qH hib2
     clear hlt hai hib hib2
     obtain ⟨l, hp, hd⟩ := HS.out.dat
     have PL := qH hp
     have SD := qH hd
     have GD := qH HS.out.grown
     have SL := qH (show l.length = n by rw [hp.length_eq]; exact HL.out)
     clear hp hd
     clear HS
     go_wp2_with fail
     refine sg_start (S := IsW wr.drew) (by kernel_rfl) rfl (fun wd hwd => ?_)
     have hX : IsW _ wd := hwd
     clear hwd
     refine sg_take (i := 0) (oi := ⟨some 17, _, _, _, _, _⟩) (v := ?_) rfl (by kernel_rfl) (by kernel_rfl) (by kernel_rfl) (fun _ _ _ h => h) rfl hX ?_ ?_; rotate_left; (intro W hW; go_simp; try with_reducible rfl); simp only [Act.put, qA, qB, qC]
     refine sg_take (i := 1) (oi := ⟨some 18, _, _, _, _, _⟩) (v := ?_) rfl (by kernel_rfl) (by kernel_rfl) (by kernel_rfl) (fun _ _ _ h => h) rfl hX ?_ ?_; rotate_left; (intro W hW; go_simp; try with_reducible rfl); simp only [Act.put, qA, qB, qC]
     refine sg_take (i := 2) (oi := ⟨some 19, _, _, _, _, _⟩) (v := .bool false) rfl (by kernel_rfl) (by kernel_rfl) (by kernel_rfl) (fun _ _ _ h => h) rfl hX (fun V _ => ex_ltY (.tmp 17) (.tmp 18) rfl (i := i) (j := b) rfl rfl (decide_eq_false HNB.out) V) ?_; simp only [Act.put, qA, qB, qC]
     refine sg_take (i := 3) (oi := ⟨some 20, _, _, _, _, _⟩) (v := ?_) rfl (by kernel_rfl) (by kernel_rfl) (by kernel_rfl) (fun _ _ _ h => h) rfl hX ?_ ?_; rotate_left; (intro W hW; go_simp; try with_reducible rfl); simp only [Act.put, qA, qB, qC]
     refine sg_skip (i := 4) (oi := ⟨some 21, _, _, _, _, _⟩) rfl (by kernel_rfl) (by kernel_rfl) (by kernel_rfl) (fun _ _ _ h => h) rfl hX ?_; simp only [Act.put, qA, qB, qC]
     refine sg_skip (i := 5) (oi := ⟨some 22, _, _, _, _, _⟩) rfl (by kernel_rfl) (by kernel_rfl) (by kernel_rfl) (fun _ _ _ h => h) rfl hX ?_; simp only [Act.put, qA, qB, qC]
     refine sg_skip (i := 6) (oi := ⟨some 23, _, _, _, _, _⟩) rfl (by kernel_rfl) (by kernel_rfl) (by kernel_rfl) (fun _ _ _ h => h) rfl hX ?_; simp only [Act.put, qA, qB, qC]
     refine sg_skip (i := 7) (oi := ⟨some 24, _, _, _, _, _⟩) rfl (by kernel_rfl) (by kernel_rfl) (by kernel_rfl) (fun _ _ _ h => h) rfl hX ?_; simp only [Act.put, qA, qB, qC]
     refine sg_skip (i := 8) (oi := ⟨some 25, _, _, _, _, _⟩) rfl (by kernel_rfl) (by kernel_rfl) (by kernel_rfl) (fun _ _ _ h => h) rfl hX ?_; simp only [Act.put, qA, qB, qC]
     refine sg_skip (i := 9) (oi := ⟨some 26, _, _, _, _, _⟩) rfl (by kernel_rfl) (by kernel_rfl) (by kernel_rfl) (fun _ _ _ h => h) rfl hX ?_; simp only [Act.put, qA, qB, qC]
     refine sg_skip (i := 10) (oi := ⟨some 27, _, _, _, _, _⟩) rfl (by kernel_rfl) (by kernel_rfl) (by kernel_rfl) (fun _ _ _ h => h) rfl hX ?_; simp only [Act.put, qA, qB, qC]
     refine sg_skip (i := 11) (oi := ⟨some 28, _, _, _, _, _⟩) rfl (by kernel_rfl) (by kernel_rfl) (by kernel_rfl) (fun _ _ _ h => h) rfl hX ?_; simp only [Act.put, qA, qB, qC]
     refine sg_skip (i := 12) (oi := ⟨some 29, _, _, _, _, _⟩) rfl (by kernel_rfl) (by kernel_rfl) (by kernel_rfl) (fun _ _ _ h => h) rfl hX ?_; simp only [Act.put, qA, qB, qC]
     refine sg_skip (i := 13) (oi := ⟨some 30, _, _, _, _, _⟩) rfl (by kernel_rfl) (by kernel_rfl) (by kernel_rfl) (fun _ _ _ h => h) rfl hX ?_; simp only [Act.put, qA, qB, qC]
     refine sg_skip (i := 14) (oi := ⟨some 31, _, _, _, _, _⟩) rfl (by kernel_rfl) (by kernel_rfl) (by kernel_rfl) (fun _ _ _ h => h) rfl hX ?_; simp only [Act.put, qA, qB, qC]
     refine sg_take (i := 15) (oi := ⟨some 32, _, _, _, _, _⟩) (v := ?_) rfl (by kernel_rfl) (by kernel_rfl) (by kernel_rfl) (fun _ _ _ h => h) rfl hX ?_ ?_; rotate_left; (intro W hW; go_simp; try with_reducible rfl); simp only [Act.put, qA, qB, qC]
     refine wpAnyH_done (by kernel_rfl) ?_ _
     have SE := qH (SD.out.is hX)
     have GE := qH (grownS_is GD.out hX)
     clear hX
     have y1 := HY1.out
     go_wp2_with fail
     go_ret
     exact ⟨_, rfl, ⟨⟨l, PL.out, SE.out⟩, GE.out⟩⟩
  ·obtain rfl : jc = 5 := Nat.le_antisymm hjc (Nat.le_of_not_lt hj5)
   clear hjc hj5
   go_wp2_with fail
   go_ret
   exact ⟨_, rfl, HS.out⟩
end Go.Proofs.Ytbbodfpnneifgaa
