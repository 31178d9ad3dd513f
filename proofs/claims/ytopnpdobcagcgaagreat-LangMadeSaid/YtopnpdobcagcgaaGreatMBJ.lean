/-
  Texts of this proof, put together: SpC. No statement is proved here.
-/
import Derived.Test.YtopnpdobcagcgaaGreatMBI
namespace Go.Proofs.YtopnpdobcagcgaaGreat
open Go.RowKit
set_option linter.unusedSimpArgs false
set_option linter.unusedVariables false
def jnI (f u : Nat → Nat → Bool) (i j p q : Nat) : Bool := if p < i ∨ (p = i ∧ q < j) then f p q || u p q else f p q
theorem jnI_at (f u : Nat → Nat → Bool) (i j : Nat) : jnI f u i j i j = f i j := by unfold jnI; rw [if_neg (by omega)]
theorem jnI_put (f u : Nat → Nat → Bool) (i j : Nat) : upd2 (jnI f u i j) i j (f i j || u i j) = jnI f u i (j + 1) := by
 funext p q
 unfold upd2 updB jnI
 by_cases hp : p = i
 ·subst hp
  rw [if_pos rfl]
  by_cases hq : q = j
  ·subst hq
   rw [if_pos rfl, if_pos (.inr ⟨rfl, by omega⟩)]
  ·rw [if_neg hq]
   by_cases h : q < j
   ·rw [if_pos (.inr ⟨rfl, h⟩), if_pos (.inr ⟨rfl, by omega⟩)]
   ·rw [if_neg (by omega), if_neg (by omega)]
 ·rw [if_neg hp]
  by_cases h : p < i
  ·rw [if_pos (.inl h), if_pos (.inl h)]
  ·rw [if_neg (by omega), if_neg (by omega)]
theorem jnI_zero (f u : Nat → Nat → Bool) : jnI f u 0 0 = f := by funext p q; unfold jnI; rw [if_neg (by omega)]
theorem jnI_next {f u : Nat → Nat → Bool} {n i p q : Nat} (hq : q < n) : jnI f u i n p q = jnI f u (i + 1) 0 p q := by
 unfold jnI
 by_cases h : p < i ∨ (p = i ∧ q < n)
 ·rw [if_pos h, if_pos (by omega)]
 ·rw [if_neg h, if_neg (by omega)]
theorem jnI_all {f u : Nat → Nat → Bool} {n p q : Nat} (hp : p < n) : jnI f u n 0 p q = (f p q || u p q) := by unfold jnI; rw [if_pos (.inl hp)]
set_option maxHeartbeats 4000000 in
set_option maxRecDepth 1000000 in
theorem refJoin_any (n : Nat) (hn : n ≤ 1048576) {Bt gt Bu gu : Nat} {bt bu : Nat → Nat} {ft fu : Nat → Nat → Bool} (w : World) (ht : Tbl w Bt gt bt n n ft) (hu : Tbl w Bu gu bu n n fu) (hlt : ∀ p, p < n → bt p < Bu) :
  Calls Tryz.prog 55 #[.slice (some ⟨gt, 0, none⟩) n n, .slice (some ⟨gu, 0, none⟩) n n] w fun e w' => e = .returned (.tuple #[]) ∧ Tbl w' Bt gt bt n n (fun p q => ft p q || fu p q) ∧ Tbl w' Bu gu bu n n fu ∧ Below Bt w w' := by
 have HN := qH hn
 have T0 := qH ht
 have U0 := qH hu
 have HLT := qH hlt
 clear hn ht hu hlt
 go_enter Tryz.func55, Tryz.ntmps55
 go_wp2_with fail
 go_loopw [4] (fun iv wl => ∃ i : Nat, i ≤ n ∧ iv = .int .i64 (i : Int) ∧ Tbl wl Bt gt bt n n (jnI ft fu i 0) ∧ Tbl wl Bu gu bu n n fu ∧ Below Bt w wl) (fun iv _ => n - (intOf iv).toNat)
 case atStart => exact ⟨0, Nat.zero_le _, by simp, by rw [jnI_zero]; exact T0.out, U0.out, Below.refl _ _⟩
 case round =>
  obtain ⟨i, hi, rfl, hT, hU, hB⟩ := hrel
  have TQ := qH hT
  have UQ := qH hU
  have BQ := qH hB
  clear hT hU hB
  by_cases hin : i < n
  ·have i1 : (i : Int) < (n : Int) := Int.ofNat_lt.2 hin
   have HI := qH hin
   have HMI := qH (sub_next hin)
   have e3 := wrap_one i (by have := HN.out; omega)
   have e4 := wrap_one' i (by have := HN.out; omega)
   clear hi hin
   rename_i wq
   go_wp2_with fail
   go_loopw [5] (fun jv wl => ∃ j : Nat, j ≤ n ∧ jv = .int .i64 (j : Int) ∧ Tbl wl Bt gt bt n n (jnI ft fu i j) ∧ Tbl wl Bu gu bu n n fu ∧ Below Bt w wl) (fun jv _ => n - (intOf jv).toNat)
   case atStart => exact ⟨0, Nat.zero_le _, by simp, TQ.out, UQ.out, BQ.out⟩
   case round =>
    obtain ⟨j, hj, rfl, hT, hU, hB⟩ := hrel
    have TR := qH hT
    have UR := qH hU
    have BR := qH hB
    clear hT hU hB
    by_cases hjn : j < n
    ·have j1 : (j : Int) < (n : Int) := Int.ofNat_lt.2 hjn
     have HJ := qH hjn
     have HMJ := qH (sub_next hjn)
     have f3 := wrap_one j (by have := HN.out; omega)
     have f4 := wrap_one' j (by have := HN.out; omega)
     clear hj hjn
     obtain ⟨c, hc⟩ : ∃ c, ft i j = c := ⟨_, rfl⟩
     obtain ⟨u, hu⟩ : ∃ c, fu i j = c := ⟨_, rfl⟩
     have HUV := qH hu
     clear hu
     cases c with
     | true =>
      have HC := qH hc
      clear hc
      go_wp2_with fail
      refine sg_start (S := fun V => wr.grownBy V (some (bt i))) (by kernel_rfl) (grown_start _ _) (fun wd hwd => ?_)
      have hX : wr.grownBy wd (some (bt i)) := by rw [hwd]; exact grown_start _ _
      have TD := qH (show Tbl wd Bt gt bt n n (jnI ft fu i j) by rw [hwd]; exact TR.out.drew)
      have UD := qH (show Tbl wd Bu gu bu n n fu by rw [hwd]; exact UR.out.drew)
      have BD := qH (show Below Bt w wd by rw [hwd]; exact BR.out.drew)
      clear hwd
      have HT1 := qH (TR.out.at_ HI.out HI.out)
      have HU1 := qH (UR.out.at_ HI.out HI.out)
      have HU2 := qH (UR.out.cell HI.out HJ.out)
      have HT2 := qH (show wd.cell? ⟨bt i, j, none⟩ = some (.bool true) by rw [TD.out.cell HI.out HJ.out, jnI_at, HC.out])
      have HL1 := qH TR.out.top.lt
      have HL3 := qH UR.out.top.lt
      have HL4 := qH (UR.out.row i HI.out).lt
      have HE1 := qH (show some gt ≠ some (bt i) from fun h => TR.out.ne i HI.out (Option.some.inj h).symm)
      have HE3 := qH (show some gu ≠ some (bt i) from fun h => by have h1 := Option.some.inj h; have h2 := HLT.out i HI.out; have h3 := UR.out.base; omega)
      have HE4 := qH (show some (bu i) ≠ some (bt i) from fun h => by have h1 := Option.some.inj h; have h2 := HLT.out i HI.out; have h3 := UR.out.bbase i HI.out; omega)
      refine sg_take (i := 0) (oi := ⟨some 18, _, _, _, _, _⟩) (v := ?_) rfl (by kernel_rfl) (by kernel_rfl) (by kernel_rfl) (fun _ _ _ h => h) rfl hX ?_ ?_; rotate_left; (intro W hW; go_simp; try with_reducible rfl); simp only [Act.put, qA, qB, qC]
      refine sg_take (i := 1) (oi := ⟨some 19, _, _, _, _, _⟩) (v := ?_) rfl (by kernel_rfl) (by kernel_rfl) (by kernel_rfl) (fun _ _ _ h => h) rfl hX ?_ ?_; rotate_left; (intro W hW; go_simp; try with_reducible rfl); simp only [Act.put, qA, qB, qC]
      refine sg_take (i := 2) (oi := ⟨some 20, _, _, _, _, _⟩) (v := ?_) rfl (by kernel_rfl) (by kernel_rfl) (by kernel_rfl) (fun _ _ _ h => h) rfl hX ?_ ?_; rotate_left; (intro W hW; go_simp; try with_reducible rfl); simp only [Act.put, qA, qB, qC]
      refine sg_take (i := 3) (oi := ⟨some 21, _, _, _, _, _⟩) (v := .slice (some ⟨bt i, 0, none⟩) n n) rfl (by kernel_rfl) (by kernel_rfl) (by kernel_rfl) (fun _ _ _ h => h) rfl hX (fun V hV => ld_bs (.tmp 20) rfl rfl (grown_cell hV HL1.out HE1.out HT1.out)) ?_; simp only [Act.put, qA, qB, qC]
      refine sg_take (i := 4) (oi := ⟨some 22, _, _, _, _, _⟩) (v := ?_) rfl (by kernel_rfl) (by kernel_rfl) (by kernel_rfl) (fun _ _ _ h => h) rfl hX ?_ ?_; rotate_left; (intro W hW; go_simp; try with_reducible rfl); simp only [Act.put, qA, qB, qC]
      refine sg_take (i := 5) (oi := ⟨some 23, _, _, _, _, _⟩) (v := ?_) rfl (by kernel_rfl) (by kernel_rfl) (by kernel_rfl) (fun _ _ _ h => h) rfl hX ?_ ?_; rotate_left; (intro W hW; go_simp; try with_reducible rfl); simp only [Act.put, qA, qB, qC]
      refine sg_take (i := 6) (oi := ⟨some 24, _, _, _, _, _⟩) (v := ?_) rfl (by kernel_rfl) (by kernel_rfl) (by kernel_rfl) (fun _ _ _ h => h) rfl hX ?_ ?_; rotate_left; (intro W hW; go_simp; try with_reducible rfl); simp only [Act.put, qA, qB, qC]
      refine sg_take (i := 7) (oi := ⟨some 25, _, _, _, _, _⟩) (v := ?_) rfl (by kernel_rfl) (by kernel_rfl) (by kernel_rfl) (fun _ _ _ h => h) rfl hX ?_ ?_; rotate_left; (intro W hW; go_simp; try with_reducible rfl); simp only [Act.put, qA, qB, qC]
      refine sg_take (i := 8) (oi := ⟨some 26, _, _, _, _, _⟩) (v := .slice (some ⟨bt i, 0, none⟩) n n) rfl (by kernel_rfl) (by kernel_rfl) (by kernel_rfl) (fun _ _ _ h => h) rfl hX (fun V hV => ld_bs (.tmp 25) rfl rfl (grown_cell hV HL1.out HE1.out HT1.out)) ?_; simp only [Act.put, qA, qB, qC]
      refine sg_take (i := 9) (oi := ⟨some 27, _, _, _, _, _⟩) (v := ?_) rfl (by kernel_rfl) (by kernel_rfl) (by kernel_rfl) (fun _ _ _ h => h) rfl hX ?_ ?_; rotate_left; (intro W hW; go_simp; try with_reducible rfl); simp only [Act.put, qA, qB, qC]
      refine sg_take (i := 10) (oi := ⟨some 28, _, _, _, _, _⟩) (v := ?_) rfl (by kernel_rfl) (by kernel_rfl) (by kernel_rfl) (fun _ _ _ h => h) rfl hX ?_ ?_; rotate_left; (intro W hW; go_simp; try with_reducible rfl); simp only [Act.put, qA, qB, qC]
      refine sg_actB (i := 11) (o := ⟨some 29, _, _, _, _, _⟩) rfl (by kernel_rfl) rfl hX (fun K hK => ?_)
      refine wp_ldB (.tmp 28) rfl rfl HT2.out ?_
      refine hK _ _ hX ?_
      clear hK K
      (try simp only [Act.put, qA, qB, qC])
      refine sg_take (i := 12) (oi := ⟨some 30, _, _, _, _, _⟩) (v := ?_) rfl (by kernel_rfl) (by kernel_rfl) (by kernel_rfl) (fun _ _ _ h => h) rfl hX ?_ ?_; rotate_left; (intro W hW; go_simp; try with_reducible rfl); simp only [Act.put, qA, qB, qC]
      refine sg_skip (i := 13) (oi := ⟨some 31, _, _, _, _, _⟩) rfl (by kernel_rfl) (by kernel_rfl) (by kernel_rfl) (fun _ _ _ h => h) rfl hX ?_; simp only [Act.put, qA, qB, qC]
      refine sg_skip (i := 14) (oi := ⟨some 32, _, _, _, _, _⟩) rfl (by kernel_rfl) (by kernel_rfl) (by kernel_rfl) (fun _ _ _ h => h) rfl hX ?_; simp only [Act.put, qA, qB, qC]
      refine sg_skip (i := 15) (oi := ⟨some 33, _, _, _, _, _⟩) rfl (by kernel_rfl) (by kernel_rfl) (by kernel_rfl) (fun _ _ _ h => h) rfl hX ?_; simp only [Act.put, qA, qB, qC]
      refine sg_skip (i := 16) (oi := ⟨some 34, _, _, _, _, _⟩) rfl (by kernel_rfl) (by kernel_rfl) (by kernel_rfl) (fun _ _ _ h => h) rfl hX ?_; simp only [Act.put, qA, qB, qC]
      refine sg_skip (i := 17) (oi := ⟨some 35, _, _, _, _, _⟩) rfl (by kernel_rfl) (by kernel_rfl) (by kernel_rfl) (fun _ _ _ h => h) rfl hX ?_; simp only [Act.put, qA, qB, qC]
      refine sg_skip (i := 18) (oi := ⟨some 36, _, _, _, _, _⟩) rfl (by kernel_rfl) (by kernel_rfl) (by kernel_rfl) (fun _ _ _ h => h) rfl hX ?_; simp only [Act.put, qA, qB, qC]
      refine sg_skip (i := 19) (oi := ⟨some 37, _, _, _, _, _⟩) rfl (by kernel_rfl) (by kernel_rfl) (by kernel_rfl) (fun _ _ _ h => h) rfl hX ?_; simp only [Act.put, qA, qB, qC]
      refine sg_take (i := 20) (oi := ⟨some 38, _, _, _, _, _⟩) (v := ?_) rfl (by kernel_rfl) (by kernel_rfl) (by kernel_rfl) (fun _ _ _ h => h) rfl hX ?_ ?_; rotate_left; (intro W hW; go_simp; try with_reducible rfl); simp only [Act.put, qA, qB, qC]
      refine sg_take (i := 21) (oi := ⟨some 39, _, _, _, _, _⟩) (v := ?_) rfl (by kernel_rfl) (by kernel_rfl) (by kernel_rfl) (fun _ _ _ h => h) rfl hX ?_ ?_; rotate_left; (intro W hW; go_simp; try with_reducible rfl); simp only [Act.put, qA, qB, qC]
      refine sg_actB (i := 22) (o := ⟨none, _, _, _, _, _⟩) rfl (by kernel_rfl) rfl hX (fun K hK => ?_)
      refine wp_stB (.tmp 39) (.tmp 38) rfl (bt i) j rfl true rfl _ HT2.out (TD.out.frozen HI.out j) ?_
      refine hK _ _ (grown_set hX j _) ?_
      clear hK K
      refine wpAnyH_done (by kernel_rfl) ?_ _
      have TE := qH (TD.out.put HI.out j true)
      have UE := qH (TD.out.apart UD.out HI.out (HLT.out i HI.out) j true)
      have BE := qH (BD.out.setCell (p := ⟨bt i, j, none⟩) (TR.out.bbase i HI.out) (Value.bool true))
      have HV := qH (show (true : Bool) = (ft i j || fu i j) by rw [HC.out, HUV.out]; rfl)
      clear hX
      go_wp2_with fail
      refine ⟨⟨j + 1, HJ.out, by congr 1, ?_, UE.out, BE.out⟩, by simpa [intOf] using HMJ.out⟩
      rw [← jnI_put, ← HV.out]
      exact TE.out
     | false =>
      have HC := qH hc
      clear hc
      go_wp2_with fail
      refine sg_start (S := fun V => wr.grownBy V (some (bt i))) (by kernel_rfl) (grown_start _ _) (fun wd hwd => ?_)
      have hX : wr.grownBy wd (some (bt i)) := by rw [hwd]; exact grown_start _ _
      have TD := qH (show Tbl wd Bt gt bt n n (jnI ft fu i j) by rw [hwd]; exact TR.out.drew)
      have UD := qH (show Tbl wd Bu gu bu n n fu by rw [hwd]; exact UR.out.drew)
      have BD := qH (show Below Bt w wd by rw [hwd]; exact BR.out.drew)
      clear hwd
      have HT1 := qH (TR.out.at_ HI.out HI.out)
      have HU1 := qH (UR.out.at_ HI.out HI.out)
      have HU2 := qH (UR.out.cell HI.out HJ.out)
      have HT2 := qH (show wd.cell? ⟨bt i, j, none⟩ = some (.bool false) by rw [TD.out.cell HI.out HJ.out, jnI_at, HC.out])
      have HL1 := qH TR.out.top.lt
      have HL3 := qH UR.out.top.lt
      have HL4 := qH (UR.out.row i HI.out).lt
      have HE1 := qH (show some gt ≠ some (bt i) from fun h => TR.out.ne i HI.out (Option.some.inj h).symm)
      have HE3 := qH (show some gu ≠ some (bt i) from fun h => by have h1 := Option.some.inj h; have h2 := HLT.out i HI.out; have h3 := UR.out.base; omega)
      have HE4 := qH (show some (bu i) ≠ some (bt i) from fun h => by have h1 := Option.some.inj h; have h2 := HLT.out i HI.out; have h3 := UR.out.bbase i HI.out; omega)
      refine sg_take (i := 0) (oi := ⟨some 18, _, _, _, _, _⟩) (v := ?_) rfl (by kernel_rfl) (by kernel_rfl) (by kernel_rfl) (fun _ _ _ h => h) rfl hX ?_ ?_; rotate_left; (intro W hW; go_simp; try with_reducible rfl); simp only [Act.put, qA, qB, qC]
      refine sg_take (i := 1) (oi := ⟨some 19, _, _, _, _, _⟩) (v := ?_) rfl (by kernel_rfl) (by kernel_rfl) (by kernel_rfl) (fun _ _ _ h => h) rfl hX ?_ ?_; rotate_left; (intro W hW; go_simp; try with_reducible rfl); simp only [Act.put, qA, qB, qC]
      refine sg_take (i := 2) (oi := ⟨some 20, _, _, _, _, _⟩) (v := ?_) rfl (by kernel_rfl) (by kernel_rfl) (by kernel_rfl) (fun _ _ _ h => h) rfl hX ?_ ?_; rotate_left; (intro W hW; go_simp; try with_reducible rfl); simp only [Act.put, qA, qB, qC]
      refine sg_take (i := 3) (oi := ⟨some 21, _, _, _, _, _⟩) (v := .slice (some ⟨bt i, 0, none⟩) n n) rfl (by kernel_rfl) (by kernel_rfl) (by kernel_rfl) (fun _ _ _ h => h) rfl hX (fun V hV => ld_bs (.tmp 20) rfl rfl (grown_cell hV HL1.out HE1.out HT1.out)) ?_; simp only [Act.put, qA, qB, qC]
      refine sg_take (i := 4) (oi := ⟨some 22, _, _, _, _, _⟩) (v := ?_) rfl (by kernel_rfl) (by kernel_rfl) (by kernel_rfl) (fun _ _ _ h => h) rfl hX ?_ ?_; rotate_left; (intro W hW; go_simp; try with_reducible rfl); simp only [Act.put, qA, qB, qC]
      refine sg_take (i := 5) (oi := ⟨some 23, _, _, _, _, _⟩) (v := ?_) rfl (by kernel_rfl) (by kernel_rfl) (by kernel_rfl) (fun _ _ _ h => h) rfl hX ?_ ?_; rotate_left; (intro W hW; go_simp; try with_reducible rfl); simp only [Act.put, qA, qB, qC]
      refine sg_take (i := 6) (oi := ⟨some 24, _, _, _, _, _⟩) (v := ?_) rfl (by kernel_rfl) (by kernel_rfl) (by kernel_rfl) (fun _ _ _ h => h) rfl hX ?_ ?_; rotate_left; (intro W hW; go_simp; try with_reducible rfl); simp only [Act.put, qA, qB, qC]
      refine sg_take (i := 7) (oi := ⟨some 25, _, _, _, _, _⟩) (v := ?_) rfl (by kernel_rfl) (by kernel_rfl) (by kernel_rfl) (fun _ _ _ h => h) rfl hX ?_ ?_; rotate_left; (intro W hW; go_simp; try with_reducible rfl); simp only [Act.put, qA, qB, qC]
      refine sg_take (i := 8) (oi := ⟨some 26, _, _, _, _, _⟩) (v := .slice (some ⟨bt i, 0, none⟩) n n) rfl (by kernel_rfl) (by kernel_rfl) (by kernel_rfl) (fun _ _ _ h => h) rfl hX (fun V hV => ld_bs (.tmp 25) rfl rfl (grown_cell hV HL1.out HE1.out HT1.out)) ?_; simp only [Act.put, qA, qB, qC]
      refine sg_take (i := 9) (oi := ⟨some 27, _, _, _, _, _⟩) (v := ?_) rfl (by kernel_rfl) (by kernel_rfl) (by kernel_rfl) (fun _ _ _ h => h) rfl hX ?_ ?_; rotate_left; (intro W hW; go_simp; try with_reducible rfl); simp only [Act.put, qA, qB, qC]
      refine sg_take (i := 10) (oi := ⟨some 28, _, _, _, _, _⟩) (v := ?_) rfl (by kernel_rfl) (by kernel_rfl) (by kernel_rfl) (fun _ _ _ h => h) rfl hX ?_ ?_; rotate_left; (intro W hW; go_simp; try with_reducible rfl); simp only [Act.put, qA, qB, qC]
      refine sg_actB (i := 11) (o := ⟨some 29, _, _, _, _, _⟩) rfl (by kernel_rfl) rfl hX (fun K hK => ?_)
      refine wp_ldB (.tmp 28) rfl rfl HT2.out ?_
      refine hK _ _ hX ?_
      clear hK K
      (try simp only [Act.put, qA, qB, qC])
      refine sg_take (i := 12) (oi := ⟨some 30, _, _, _, _, _⟩) (v := ?_) rfl (by kernel_rfl) (by kernel_rfl) (by kernel_rfl) (fun _ _ _ h => h) rfl hX ?_ ?_; rotate_left; (intro W hW; go_simp; try with_reducible rfl); simp only [Act.put, qA, qB, qC]
      refine sg_take (i := 13) (oi := ⟨some 31, _, _, _, _, _⟩) (v := ?_) rfl (by kernel_rfl) (by kernel_rfl) (by kernel_rfl) (fun _ _ _ h => h) rfl hX ?_ ?_; rotate_left; (intro W hW; go_simp; try with_reducible rfl); simp only [Act.put, qA, qB, qC]
      refine sg_take (i := 14) (oi := ⟨some 32, _, _, _, _, _⟩) (v := ?_) rfl (by kernel_rfl) (by kernel_rfl) (by kernel_rfl) (fun _ _ _ h => h) rfl hX ?_ ?_; rotate_left; (intro W hW; go_simp; try with_reducible rfl); simp only [Act.put, qA, qB, qC]
      refine sg_take (i := 15) (oi := ⟨some 33, _, _, _, _, _⟩) (v := ?_) rfl (by kernel_rfl) (by kernel_rfl) (by kernel_rfl) (fun _ _ _ h => h) rfl hX ?_ ?_; rotate_left; (intro W hW; go_simp; try with_reducible rfl); simp only [Act.put, qA, qB, qC]
      refine sg_take (i := 16) (oi := ⟨some 34, _, _, _, _, _⟩) (v := .slice (some ⟨bu i, 0, none⟩) n n) rfl (by kernel_rfl) (by kernel_rfl) (by kernel_rfl) (fun _ _ _ h => h) rfl hX (fun V hV => ld_bs (.tmp 33) rfl rfl (grown_cell hV HL3.out HE3.out HU1.out)) ?_; simp only [Act.put, qA, qB, qC]
      refine sg_take (i := 17) (oi := ⟨some 35, _, _, _, _, _⟩) (v := ?_) rfl (by kernel_rfl) (by kernel_rfl) (by kernel_rfl) (fun _ _ _ h => h) rfl hX ?_ ?_; rotate_left; (intro W hW; go_simp; try with_reducible rfl); simp only [Act.put, qA, qB, qC]
      refine sg_take (i := 18) (oi := ⟨some 36, _, _, _, _, _⟩) (v := ?_) rfl (by kernel_rfl) (by kernel_rfl) (by kernel_rfl) (fun _ _ _ h => h) rfl hX ?_ ?_; rotate_left; (intro W hW; go_simp; try with_reducible rfl); simp only [Act.put, qA, qB, qC]
      refine sg_take (i := 19) (oi := ⟨some 37, _, _, _, _, _⟩) (v := .bool u) rfl (by kernel_rfl) (by kernel_rfl) (by kernel_rfl) (fun _ _ _ h => h) rfl hX (fun V hV => ld_b (.tmp 36) rfl rfl (grown_cell hV HL4.out HE4.out (HU2.out.trans (congrArg (fun x => some (Value.bool x)) HUV.out)))) ?_; simp only [Act.put, qA, qB, qC]
      refine sg_take (i := 20) (oi := ⟨some 38, _, _, _, _, _⟩) (v := ?_) rfl (by kernel_rfl) (by kernel_rfl) (by kernel_rfl) (fun _ _ _ h => h) rfl hX ?_ ?_; rotate_left; (intro W hW; go_simp; try with_reducible rfl); simp only [Act.put, qA, qB, qC]
      refine sg_take (i := 21) (oi := ⟨some 39, _, _, _, _, _⟩) (v := ?_) rfl (by kernel_rfl) (by kernel_rfl) (by kernel_rfl) (fun _ _ _ h => h) rfl hX ?_ ?_; rotate_left; (intro W hW; go_simp; try with_reducible rfl); simp only [Act.put, qA, qB, qC]
      refine sg_actB (i := 22) (o := ⟨none, _, _, _, _, _⟩) rfl (by kernel_rfl) rfl hX (fun K hK => ?_)
      refine wp_stB (.tmp 39) (.tmp 38) rfl (bt i) j rfl u rfl _ HT2.out (TD.out.frozen HI.out j) ?_
      refine hK _ _ (grown_set hX j _) ?_
      clear hK K
      refine wpAnyH_done (by kernel_rfl) ?_ _
      have TE := qH (TD.out.put HI.out j u)
      have UE := qH (TD.out.apart UD.out HI.out (HLT.out i HI.out) j u)
      have BE := qH (BD.out.setCell (p := ⟨bt i, j, none⟩) (TR.out.bbase i HI.out) (Value.bool u))
      have HV := qH (show (u : Bool) = (ft i j || fu i j) by rw [HC.out, HUV.out]; rfl)
      clear hX
      go_wp2_with fail
      refine ⟨⟨j + 1, HJ.out, by congr 1, ?_, UE.out, BE.out⟩, by simpa [intOf] using HMJ.out⟩
      rw [← jnI_put, ← HV.out]
      exact TE.out
    ·obtain rfl : j = n := by omega
     have j1 : ¬ ((j : Int) < (j : Int)) := by omega
     go_wp2_with fail
     refine ⟨⟨i + 1, HI.out, by congr 1, TR.out.congr fun p q _ hq => jnI_next hq, UR.out, BR.out⟩, by simpa [intOf] using HMI.out⟩
  ·obtain rfl : i = n := by omega
   have i1 : ¬ ((i : Int) < (i : Int)) := by omega
   go_wp2_with fail
   refine bodyPost_end (results_none rfl _ _ _) rfl ?_
   exact ⟨rfl, TQ.out.congr fun p q hp _ => jnI_all hp, UQ.out, BQ.out⟩
end Go.Proofs.YtopnpdobcagcgaaGreat
