/-
  Texts of this proof, put together: WmB. No statement is proved here.
-/
import Derived.Test.YtaakdebcagdfgaaZM
namespace Go.Proofs.Ytaakdebcagdfgaa
open Go.RowKit
set_option linter.unusedSimpArgs false
set_option linter.unusedVariables false
section
variable {ev : Operand → Value} {o : Oper} {p : Addr} {W : World} {A : Option Addr} {n c : Nat}
theorem wm_ldO (x : Operand) (ho : o.op = .load 35 x) (hx : ev x = .pointer (some p)) (hc : W.cell? p = some (.slice A n c)) : (execOp ev o).run Try.prog W = .ok (.value (.slice A n c)) W := by
 simp only [execOp, ho, hx]
 go_simp
theorem wm_ixC (x i : Operand) (ho : o.op = .indexAddr 24 x i) {b q : Nat} (hx : ev x = .pointer (some ⟨b, 0, none⟩)) (hi : ev i = .int .i64 (q : Int)) (hq : q < 256) (W : World) : (execOp ev o).run Try.prog W = .ok (.value (.pointer (some ⟨b, q, none⟩))) W := by
 have h0 : (0 : Int) ≤ (q : Int) := by omega
 have h1 : (q : Int) < 256 := by omega
 simp only [execOp, ho, hx, hi]
 go_simp
end
theorem wm_stO {o : Oper} {a : Act} {K : Act → World → Prop} {Q : Exit → Act → World → Prop} {w : World} (x y : Operand) (ho : o.op = .store 35 x y) {p : Addr} (hx : a.eval x = .pointer (some p)) {A : Option Addr} {n c : Nat} (hy : a.eval y = .slice A n c) {v : Value} (hc : w.cell? p = some v) (hf : w.frozen? p = false)
  (h : K (a.put o.dst undef) (w.setCell p (.slice A n c))) : o.wp Try.prog a w K Q := by
 unfold Oper.wp
 simp only [execOp, ho, hx, hy]
 go_simp
 exact h
theorem wj_256m {b : Nat} (h : b < 256) : b ≤ 4611686018427387904 := by omega
def WrdE (D : Dm) (B H g most i s : Nat) (u : List UInt8) (ov : Value) (o : List (List UInt8)) (w : World) (e : Ending) (w' : World) : Prop :=
 e = .returned (.tuple #[]) ∧ ∃ ov' os', OutV w' B H g ov' os' (moreW most o (wrdB D i s u)) ∧ OStp w w' g ov ov'
set_option maxHeartbeats 16000000 in
set_option maxRecDepth 1000000 in
theorem words_any {D : Dm} {cs : List Value} {n N bc oc cc most : Nat} {wE : World} (hv : DfaV wE cs D) (hm : MayD D) (hn : n = D.next.length) (hcan : CanV wE D n N bc oc) (hmo : most ≤ 1000) :
  ∀ (i s : Nat) (u : List UInt8) (wv ov : Value) (os : List Value) (o : List (List UInt8)) (H g : Nat) (w : World), i < N → s < n → u.length + i ≤ 200 → Below wE.heap.size wE w → OutV w wE.heap.size H g ov os o → o.length ≤ most → RO w (uO g ov) wv (bvs u) →
   Calls Try.prog 33 #[.agg cs.toArray, .slice (some ⟨bc, oc, none⟩) N cc, .int .i64 (s : Int), .int .i64 (i : Int), wv, .int .i64 (most : Int), .pointer (some ⟨g, 0, none⟩)] w fun e w' => WrdE D wE.heap.size H g most i s u ov o w e w' := by
 have V0 := qH hv
 have HM := qH hm
 have HDS := qH hv.size
 have HN := qH hn
 have HMO := qH hmo
 obtain ⟨kd, hkd⟩ : ∃ k, k = clsA D.cl := ⟨_, rfl⟩
 obtain ⟨bn, on, cn, be, oe, ce, hdr⟩ := dr_of hv hm hn hkd
 have HR := qH hdr
 have HKD := qH hkd
 have HL := qH hdr.hl
 have HCS := qH hdr.cs
 have HCAN := qH hcan
 obtain ⟨iu, hiu, hu0, hu1, hu2⟩ := infoP inf_u8
 obtain ⟨ir, hir, hr0, hr1, hr2⟩ := infoP inf_rowW
 clear hv hm hn hcan hmo hkd hdr
 intro i
 induction i using Nat.strongRecOn with
 | ind i IH0 =>
 intro s u wv ov os o H g w hi hs hu hbl hov hol hwv
 have IH := qH IH0
 have HI := qH hi
 have HS := qH hs
 have HU := qH hu
 have BL := qH hbl
 have OV := qH hov
 have HOL := qH hol
 have HWV := qH hwv
 obtain ⟨Ao, co, hvo⟩ : ∃ A c, ov = .slice A os.length c := by
  obtain ⟨A, c, h, _⟩ := Row.of_own hov.own
  exact ⟨A, c, h⟩
 obtain ⟨m, hm⟩ : ∃ m, m = os.length := ⟨_, rfl⟩
 have HMO2 := qH (show m = o.length by rw [hm, hov.rows.1])
 rw [← hm] at hvo
 subst hvo
 obtain ⟨bi, oi, ci, hcc, hbi, hce⟩ := HCAN.out.2 i hi
 obtain ⟨cb, hcb⟩ : ∃ b, canC D i s = b := ⟨_, rfl⟩
 have HCB := qH hcb
 have COUT := qH (show ∀ V, Below w.heap.size w V → V.cell? ⟨g, 0, none⟩ = some (.slice Ao m co) from fun V hV => (hV.cell (p := ⟨g, 0, none⟩) hov.blk.lt).trans (hov.blk.cell 0))
 have CCAN := qH (show ∀ V, Below w.heap.size w V → V.cell? ⟨bc, oc + i, none⟩ = some (.slice (some ⟨bi, oi, none⟩) n ci) from fun V hV => ((hbl.trans (hV.mono hbl.size)).cell (p := ⟨bc, oc + i, none⟩) HCAN.out.1).trans hcc)
 have CENT := qH (show ∀ V, Below w.heap.size w V → V.cell? ⟨bi, oi + s, none⟩ = some (.bool cb) from fun V hV => ((hbl.trans (hV.mono hbl.size)).cell (p := ⟨bi, oi + s, none⟩) hbi).trans (by rw [hce s hs, hcb]))
 have iN : (i : Int) < (N : Int) := Int.ofNat_lt.2 hi
 have sn : (s : Int) < (n : Int) := Int.ofNat_lt.2 hs
 clear IH0 hi hs hu hbl hov hol hwv hm hcc hbi hce hcb
 by_cases hfull : most ≤ m
 ·have x1 : (most : Int) ≤ (m : Int) := Int.ofNat_le.2 hfull
  have HF := qH hfull
  clear hfull
  go_enter Try.func33, Try.ntmps33
  go_wp2_with (first
   | ((with_reducible refine atDst 7 ?_); refine wpList_box rfl 28 _ rfl cs rfl (Below.refl w.heap.size w) (Nat.le_refl _) ?_; intro w1 hk hb hs _; have K1 := qH hk; have B1 := qH hb; have O1 := qH (OV.out.new hb); have cout := COUT.out w1 hb; have ccan := CCAN.out w1 hb; have cent := CENT.out w1 hb; clear hk hb hs; (try simp only [Act.put, qA, qB, qC]))
   )
  go_end0
  exact ⟨rfl, _, os, by rw [moreW_full (by rw [← HMO2.out]; exact HF.out)]; exact O1.out, OStp.of B1.out g _⟩
 ·have x1 : ¬ ((most : Int) ≤ (m : Int)) := fun h => hfull (Int.ofNat_le.1 h)
  have HF := qH (Nat.lt_of_not_le hfull)
  clear hfull
  cases cb with
  | false =>
   go_enter Try.func33, Try.ntmps33
   go_wp2_with (first
    | ((with_reducible refine atDst 7 ?_); refine wpList_box rfl 28 _ rfl cs rfl (Below.refl w.heap.size w) (Nat.le_refl _) ?_; intro w1 hk hb hs _; have K1 := qH hk; have B1 := qH hb; have O1 := qH (OV.out.new hb); have cout := COUT.out w1 hb; have ccan := CCAN.out w1 hb; have cent := CENT.out w1 hb; clear hk hb hs; (try simp only [Act.put, qA, qB, qC]))
    )
   go_end0
   exact ⟨rfl, _, os, by rw [wrdB_none HL.out u HCB.out, moreW_nil]; exact O1.out, OStp.of B1.out g _⟩
  | true =>
   by_cases hi0 : i = 0
   ·have hz : ((i : Int) == 0) = true := by rw [hi0]; rfl
    have HI0 := qH hi0
    clear hi0
    go_enter Try.func33, Try.ntmps33
    go_wp2_with (first
     | ((with_reducible refine atDst 7 ?_); refine wpList_box rfl 28 _ rfl cs rfl (Below.refl w.heap.size w) (Nat.le_refl _) ?_; intro w1 hk hb hs _; have K1 := qH hk; have B1 := qH hb; have O1 := qH (OV.out.new hb); have cout := COUT.out w1 hb; have ccan := CCAN.out w1 hb; have cent := CENT.out w1 hb; clear hk hb hs; (try simp only [Act.put, qA, qB, qC]))
     )
    clear cout ccan cent
    have HW1 := qH (HWV.out.step (Off.new _ B1.out) fun k hk => .inl hk)
    have HRW := qH (show ∀ V, Off (fun k => (Value.slice none 0 0).ownBlock = some k ∨ (Value.slice none 0 0).ownBlock = some k ∨ (Value.slice Ao m co).ownBlock = some k) w1 V → Row V wv (bvs u) from fun V hV => HW1.out.1.off hV fun k hk h => (HW1.out.2 k hk).2 (by
     rcases h with e | e | e
     ·cases e
     ·cases e
     ·exact xuO.2 (.inr e)))
    have CG := qH (show ∀ V, Off (fun k => (Value.slice none 0 0).ownBlock = some k ∨ (Value.slice none 0 0).ownBlock = some k ∨ (Value.slice Ao m co).ownBlock = some k) w1 V → V.cell? ⟨g, 0, none⟩ = some (.slice Ao m co) from fun V hV => hV.cell O1.out.blk.lt (by
     rintro (e | e | e)
     ·cases e
     ·cases e
     ·exact O1.out.gne e) (O1.out.blk.cell 0))
    have HLU := qH (show ([] : List Value).length + (bvs u).length ≤ 2097152 by rw [bvs_length]; have := HU.out; show 0 + _ ≤ _; omega)
    have HLO := qH (show ∀ v : Value, os.length + [v].length ≤ 2097152 from fun v => by
     have h1 := HOL.out
     have h2 := HMO.out
     have h3 := OV.out.rows.1
     show os.length + 1 ≤ _
     omega)
    refine mc_start (fun _ => True) (fun V => Off (fun k => (Value.slice none 0 0).ownBlock = some k ∨ (Value.slice none 0 0).ownBlock = some k ∨ (Value.slice Ao m co).ownBlock = some k) w1 V) 10 (by kernel_rfl) (fun wc hwd => ?_)
    have KW := qH (O1.out.wk (show Below w1.heap.size w1 wc by rw [hwd]; exact (Below.refl _ _).drew))
    have hX : True := trivial
    have hY := KW.out.off
    clear hwd
    refine mc_take (i := 0) (oi := ⟨some 33, _, _, _, _, _⟩) (v := ?_) rfl (by kernel_rfl) (by kernel_rfl) (by kernel_rfl) (fun _ _ _ h => h) rfl hX ?_ ?_; rotate_left; (intro W hW; go_simp; try with_reducible rfl); simp only [Act.put, qA, qB, qC]
    refine mc_take (i := 1) (oi := ⟨some 34, _, _, _, _, _⟩) (v := ?_) rfl (by kernel_rfl) (by kernel_rfl) (by kernel_rfl) (fun _ _ _ h => h) rfl hX ?_ ?_; rotate_left; (intro W hW; go_simp; try with_reducible rfl); simp only [Act.put, qA, qB, qC]
    refine mc_take (i := 2) (oi := ⟨some 35, _, _, _, _, _⟩) (v := ?_) rfl (by kernel_rfl) (by kernel_rfl) (by kernel_rfl) (fun _ _ _ h => h) rfl hX ?_ ?_; rotate_left; (intro W hW; go_simp; try with_reducible rfl); simp only [Act.put, qA, qB, qC]
    refine mc_takeS (i := 3) (oi := ⟨some 36, _, _, _, _, _⟩) (v := .slice Ao m co) rfl (by kernel_rfl) (by kernel_rfl) (by kernel_rfl) (fun _ _ _ h => h) rfl hX hY (fun V _ hV => wm_ldO (.tmp 35) rfl rfl (CG.out V hV)) ?_; simp only [Act.put, qA, qB, qC]
    refine mc_take (i := 5) (oi := ⟨some 38, _, _, _, _, _⟩) (v := ?_) rfl (by kernel_rfl) (by kernel_rfl) (by kernel_rfl) (fun _ _ _ h => h) rfl hX ?_ ?_; rotate_left; (intro W hW; go_simp; try with_reducible rfl); simp only [Act.put, qA, qB, qC]
    refine mc_actB (i := 4) (o := ⟨some 37, _, _, _, _, _⟩) rfl (by kernel_rfl) rfl (fun K hK => ?_)
    refine wp_bld0L 22 5 rfl iu Try.underlying22 hiu _ hu0 hu1 ?_
    intro wn ho hb
    replace KW := qH (KW.out.fresh3 ho hb)
    obtain ⟨v3, hv3⟩ : ∃ v, v = Value.slice (some ⟨wc.heap.size, 0, none⟩) 0 0 := ⟨_, rfl⟩
    rw [← hv3] at KW
    rw [← hv3]
    clear ho hb hv3
    refine hK _ _ trivial KW.out.off ?_
    clear hK K hX hY
    (try simp only [Act.put, qA, qB, qC])
    have hX : True := trivial
    have hY := KW.out.off
    obtain ⟨wc, hwc⟩ : ∃ v : World, v = wn := ⟨_, rfl⟩
    subst hwc
    refine mc_actB (i := 6) (o := ⟨some 39, _, _, _, _, _⟩) rfl (by kernel_rfl) rfl (fun K hK => ?_)
    refine wp_appW (base := H) (.tmp 37) (.tmp 38) 22 rfl 5 iu (.int .u8 0) 1 Try.underlying22 hiu hu0 hu1 hu2 rfl _ _ _ rfl KW.out.at3 _ (bvs u) rfl (HRW.out wc hY) (bvs_oneW u) HLU.out (by decide) KW.out.hs ?_
    intro vd wn ho hg hw
    replace KW := qH (KW.out.grow3 ho hg hw)
    clear ho hg hw
    refine hK _ _ trivial KW.out.off ?_
    clear hK K hX hY
    (try simp only [Act.put, qA, qB, qC])
    have hX : True := trivial
    have hY := KW.out.off
    obtain ⟨wc, hwc⟩ : ∃ v : World, v = wn := ⟨_, rfl⟩
    subst hwc
    refine mc_actB (i := 7) (o := ⟨some 40, _, _, _, _, _⟩) rfl (by kernel_rfl) rfl (fun K hK => ?_)
    refine wp_bldVk 35 22 (.tmp 39) rfl ir (.slice none 0 0) Try.underlying35 hir hr0 hr1 rfl vd rfl (own_cellsW KW.out.at3).1 ?_
    intro wn hk hb
    obtain ⟨gg, hgg⟩ : ∃ g, g = wc.heap.size := ⟨_, rfl⟩
    rw [← hgg] at hk
    rw [← hgg]
    have GG := qH hk
    replace KW := qH (KW.out.bel hb)
    clear hk hb hgg
    refine hK _ _ trivial KW.out.off ?_
    clear hK K hX hY
    (try simp only [Act.put, qA, qB, qC])
    have hX : True := trivial
    have hY := KW.out.off
    obtain ⟨wc, hwc⟩ : ∃ v : World, v = wn := ⟨_, rfl⟩
    subst hwc
    refine mc_actB (i := 8) (o := ⟨some 41, _, _, _, _, _⟩) rfl (by kernel_rfl) rfl (fun K hK => ?_)
    refine wp_appW (base := H) (.tmp 36) (.tmp 40) 35 rfl 22 ir (.slice none 0 0) 24 Try.underlying35 hir hr0 hr1 hr2 rfl _ _ _ rfl KW.out.at2 _ [vd] rfl (rowB GG.out rfl (by decide)) (fun u hu => by rw [List.mem_singleton.1 hu]; exact (own_cellsW KW.out.at3).2) (HLO.out vd) (by decide) KW.out.hs ?_
    intro vx wn ho hg hw
    obtain ⟨Ax, cx, hvx⟩ := ownC_slice ho
    subst hvx
    replace KW := qH (KW.out.grow2 ho hg hw)
    clear ho hg hw GG
    refine hK _ _ trivial KW.out.off ?_
    clear hK K hX hY
    (try simp only [Act.put, qA, qB, qC])
    have hX : True := trivial
    have hY := KW.out.off
    obtain ⟨wc, hwc⟩ : ∃ v : World, v = wn := ⟨_, rfl⟩
    subst hwc
    have BG := qH (wk_off O1.out KW.out).2.1
    refine mc_take (i := 9) (oi := ⟨some 42, _, _, _, _, _⟩) (v := ?_) rfl (by kernel_rfl) (by kernel_rfl) (by kernel_rfl) (fun _ _ _ h => h) rfl hX ?_ ?_; rotate_left; (intro W hW; go_simp; try with_reducible rfl); simp only [Act.put, qA, qB, qC]
    refine mc_last (i := 10) (o := ⟨none, _, _, _, _, _⟩) rfl (by kernel_rfl) rfl (fun K hK => ?_)
    refine wm_stO (.tmp 42) (.tmp 41) rfl rfl rfl (BG.out.cell 0) (BG.out.frozen 0) ?_
    refine hK _ _ trivial ?_
    clear hK K hX hY
    (try simp only [Act.put, qA, qB, qC])
    refine wpAnyC_done (by kernel_rfl) ?_ _
    have SP := qH (O1.out.push KW.out)
    have HWB := qH (show moreW most o (wrdB D i s u) = o ++ [u] from by
     have h1 := HCB.out
     rw [HI0.out] at h1 ⊢
     rw [wrdB_zero D s u h1, moreW_one (by rw [← HMO2.out]; exact HF.out)])
    go_wp2_with fail
    go_end0
    exact ⟨rfl, _, _, by rw [HWB.out]; exact SP.out.1, (OStp.of B1.out g _).trans SP.out.2⟩
   ·have hz : ((i : Int) == 0) = false := by rw [beq_eq_false_iff_ne]; exact fun e => hi0 (Int.ofNat_eq_zero.1 e)
    obtain ⟨i', hi'⟩ : ∃ j, i = j + 1 := ⟨i - 1, by omega⟩
    have HI' := qH hi'
    have g1 : IntKind.i64.wrap ((i : Int) - 1) = (i' : Int) := by
     rw [hi', show ((i' + 1 : Nat) : Int) - 1 = (i' : Int) by omega]
     exact IntWalk.i64_in _ (by have := HU.out; omega)
    have g2 : wrap64 ((i : Int) - 1) = (i' : Int) := by
     rw [hi', show ((i' + 1 : Nat) : Int) - 1 = (i' : Int) by omega]
     exact IntWalk.wrap64_in _ (by have := HU.out; omega)
    clear hi0 hi'
    go_enter Try.func33, Try.ntmps33
    go_wp2_with (first
     | ((with_reducible refine atDst 7 ?_); refine wpList_box rfl 28 _ rfl cs rfl (Below.refl w.heap.size w) (Nat.le_refl _) ?_; intro w1 hk hb hs _; have K1 := qH hk; have B1 := qH hb; have O1 := qH (OV.out.new hb); have cout := COUT.out w1 hb; have ccan := CCAN.out w1 hb; have cent := CENT.out w1 hb; clear hk hb hs; (try simp only [Act.put, qA, qB, qC]))
     )
    clear cout ccan cent g1 g2
    have HW1 := qH (HWV.out.step (Off.new _ B1.out) fun k hk => .inl hk)
    have HBX := qH (show ¬ XU (uO g (.slice Ao m co)) w.heap.size from fun h => by
     rcases xuO.1 h with e | e
     ·have := OV.out.blk.lt
      omega
     ·have := (own6_lt OV.out.own _ e).1
      omega)
    have BL1 := qH (show Below wE.heap.size wE w1 from BL.out.trans (B1.out.mono BL.out.size))
    have g1 : IntKind.i64.wrap ((i : Int) - 1) = (i' : Int) := by
     rw [HI'.out, show ((i' + 1 : Nat) : Int) - 1 = (i' : Int) by omega]
     exact IntWalk.i64_in _ (by have := HU.out; have := HI'.out; omega)
    have G1 := qH g1
    have g2 : wrap64 ((i : Int) - 1) = (i' : Int) := by
     rw [HI'.out, show ((i' + 1 : Nat) : Int) - 1 = (i' : Int) by omega]
     exact IntWalk.wrap64_in _ (by have := HU.out; have := HI'.out; omega)
    have G2 := qH g2
    clear g1 g2 hz
    go_loopw [14] (fun bv wl => ∃ (b : Nat) (ov' : Value) (os' : List Value), b ≤ 256 ∧ bv = .int .i64 (b : Int) ∧ OutV wl wE.heap.size H g ov' os' (moreW most o (wrdP D i' s u b)) ∧ OStp w1 wl g (.slice Ao m co) ov') (fun bv _ => 256 - (intOf bv).toNat)
    case atStart => exact ⟨0, _, os, Nat.zero_le _, rfl, by rw [wrdP_zero, moreW_nil]; exact O1.out, OStp.of (Below.refl _ _) g _⟩
    obtain ⟨b, ov', os', hb, rfl, ho, hst⟩ := hrel
    have HB := qH hb
    have OB := qH ho
    have SB := qH hst
    obtain ⟨wb, hwb⟩ : ∃ v : World, v = wr := ⟨_, rfl⟩
    subst hwb
    clear hb ho hst
    by_cases hb2 : b < 256
    ·have b1 : (b : Int) < 256 := Int.ofNat_lt.2 hb2
     have HB2 := qH hb2
     have HMB := qH (sub_next hb2)
     have KB := qH (show Blk wb w.heap.size 28 cs from Off.blk SB.out.off HBX.out K1.out)
     have BEB := qH (show Below wE.heap.size wE wb from BL1.out.trans (O1.out.below SB.out))
     have HWB := qH (HW1.out.step SB.out.off SB.out.new)
     have HBX2 := qH (show ¬ XU (uO g ov') w.heap.size from fun h => by
      rcases SB.out.new _ h with e | e
      ·exact HBX.out e
      ·have := K1.out.lt
       omega)
     have HXB := qH (show ∀ k, XU (uO g ov') k → wE.heap.size ≤ k from fun k hk => OB.out.above hk)
     obtain ⟨c, hc⟩ : ∃ c, c = clB D b := ⟨_, rfl⟩
     have HC := qH hc
     have HCK := qH (show c < kd by rw [hc, HKD.out]; exact clB_lt HL.out hb2)
     obtain ⟨q, hq⟩ : ∃ q, q = stC D s c := ⟨_, rfl⟩
     have HQ := qH hq
     have HQN := qH (show q < n by
      have h1 := stC_lt HM.out (show s < D.next.length by rw [← HN.out]; exact HS.out) c (by rw [← HKD.out]; exact HCK.out)
      rw [hq, HN.out]
      exact h1)
     obtain ⟨br, or, cr, hcr, hbr, hrr⟩ := HR.out.row s HS.out
     have EN := qH (show ∀ V, Off (XU (uO g ov')) wb V → ∀ b o v, b < wE.heap.size → wE.cell? ⟨b, o, none⟩ = some v → V.cell? ⟨b, o, none⟩ = some v from fun V hV b o v hb hc => hV.cell (Nat.lt_of_lt_of_le hb BEB.out.size) (fun h => absurd hb (Nat.not_lt.2 (HXB.out b h))) ((BEB.out.cell (p := ⟨b, o, none⟩) hb).trans hc))
     have C53 := qH (show ∀ V, Off (XU (uO g ov')) wb V → V.cell? ⟨bn, on + s, none⟩ = some (.slice (some ⟨br, or, none⟩) kd cr) from fun V hV => EN.out V hV _ _ _ HR.out.hbn hcr)
     have C59 := qH (show ∀ V, Off (XU (uO g ov')) wb V → V.cell? ⟨br, or + c, none⟩ = some (.int .i64 (q : Int)) from fun V hV => EN.out V hV _ _ _ hbr (by
      obtain ⟨b', o', he, _, hc'⟩ := hrr.at_ (by rw [ncs_len]; exact Nat.lt_of_le_of_lt (Nat.zero_le _) HCK.out)
      injection he with he
      injection he with h1 h2
      subst h1 h2
      have h3 := hc' c _ (ncs_get (fun c => stC D s c) HCK.out)
      rw [h3, hq]))
     have KV := qH (show ∀ V, Off (XU (uO g ov')) wb V → Blk V w.heap.size 28 cs from fun V hV => Off.blk hV HBX2.out KB.out)
     have C57 := qH (show ∀ V, Off (XU (uO g ov')) wb V → V.cell? ⟨w.heap.size, b, none⟩ = some (.int .u8 (c : Int)) from fun V hV => by rw [(KV.out V hV).cell b, HCS.out, dcl_cl HL.out hb2, clB_cell HL.out hb2, hc])
     have HRW := qH (show ∀ V, Off (XU (uO g ov')) wb V → Row V wv (bvs u) from fun V hV => HWB.out.1.off hV fun k hk => (HWB.out.2 k hk).2)
     have TOF := qH (show ∀ V {v3 v4 v5 : Value} {l3 l4 l5 : List Value}, Wk wb V H (.slice none 0 0) (.slice none 0 0) ov' v3 v4 v5 (.slice none 0 0) ov' [] [] os' l3 l4 l5 → Off (XU (uO g ov')) wb V from fun V {v3 v4 v5 l3 l4 l5} x => (wk_off OB.out x).1)
     have HLU := qH (show ([] : List Value).length + (bvs u).length ≤ 2097152 by rw [bvs_length]; have := HU.out; show 0 + _ ≤ _; omega)
     have HLB := qH (show ([] ++ bvs u).length + [Value.int .u8 (b : Int)].length ≤ 2097152 by rw [List.nil_append, bvs_length]; have := HU.out; show _ + 1 ≤ _; omega)
     have HE3 := qH (show ([] ++ bvs u) ++ [Value.int .u8 (b : Int)] = bvs (u ++ [UInt8.ofNat b]) by
      rw [List.nil_append, bvs_appendW, ← bv_ofNat HB2.out])
     have HML := qH (moreW_len most o (wrdP D i' s u b) HOL.out)
     have HUB := qH (show (u ++ [UInt8.ofNat b]).length + i' ≤ 200 by rw [List.length_append]; have h1 := HU.out; have h2 := HI'.out; show _ + 1 + _ ≤ _; omega)
     have HIL := qH (show i' < i by have := HI'.out; omega)
     have HIN := qH (Nat.lt_trans HIL.out HI.out)
     have g1 := G1.out
     have g2 := G2.out
     have g6 := wrap8N b hb2
     clear hb2 hc hq hcr hbr hrr
     go_wp2_with fail
     refine mc_start (fun V => Off (XU (uO g ov')) wb V) (fun _ => True) 25 (by kernel_rfl) (fun wc hwd => ?_)
     have KW := qH (OB.out.wk (show Below wb.heap.size wb wc by rw [hwd]; exact (Below.refl _ _).drew))
     have hX := TOF.out wc KW.out
     have hY : True := trivial
     clear hwd
     refine mc_take (i := 0) (oi := ⟨some 47, _, _, _, _, _⟩) (v := .agg cs.toArray) rfl (by kernel_rfl) (by kernel_rfl) (by kernel_rfl) (fun _ _ _ h => h) rfl hX (fun V hV => ld_blk 28 (.tmp 7) rfl w.heap.size rfl 28 cs _ (KV.out V hV) (KV.out V hV).lt Try.underlying28 rfl HDS.out V (Below.refl _ _)) ?_; simp only [Act.put, qA, qB, qC]
     refine mc_take (i := 1) (oi := ⟨some 48, _, _, _, _, _⟩) (v := ?_) rfl (by kernel_rfl) (by kernel_rfl) (by kernel_rfl) (fun _ _ _ h => h) rfl hX ?_ ?_; rotate_left; (intro W hW; go_simp; try with_reducible rfl); simp only [Act.put, qA, qB, qC]
     refine mc_take (i := 2) (oi := ⟨some 49, _, _, _, _, _⟩) (v := ?_) rfl (by kernel_rfl) (by kernel_rfl) (by kernel_rfl) (fun _ _ _ h => h) rfl hX ?_ ?_; rotate_left; (intro W hW; go_simp; try with_reducible rfl); simp only [Act.put, qA, qB, qC]
     refine mc_take (i := 3) (oi := ⟨some 50, _, _, _, _, _⟩) (v := .slice (some ⟨bn, on, none⟩) n cn) rfl (by kernel_rfl) (by kernel_rfl) (by kernel_rfl) (fun _ _ _ h => h) rfl hX (fun V hV => lk_ldIss (.tmp 49) rfl rfl (by rw [(KV.out V hV).cell 256, HCS.out]; exact dcl_n HL.out)) ?_; simp only [Act.put, qA, qB, qC]
     refine mc_take (i := 4) (oi := ⟨some 51, _, _, _, _, _⟩) (v := ?_) rfl (by kernel_rfl) (by kernel_rfl) (by kernel_rfl) (fun _ _ _ h => h) rfl hX ?_ ?_; rotate_left; (intro W hW; go_simp; try with_reducible rfl); simp only [Act.put, qA, qB, qC]
     refine mc_take (i := 5) (oi := ⟨some 52, _, _, _, _, _⟩) (v := .pointer (some ⟨bn, on + s, none⟩)) rfl (by kernel_rfl) (by kernel_rfl) (by kernel_rfl) (fun _ _ _ h => h) rfl hX (fun V _ => lk_ixIs (.tmp 50) (.tmp 51) rfl rfl rfl HS.out V) ?_; simp only [Act.put, qA, qB, qC]
     refine mc_take (i := 6) (oi := ⟨some 53, _, _, _, _, _⟩) (v := .slice (some ⟨br, or, none⟩) kd cr) rfl (by kernel_rfl) (by kernel_rfl) (by kernel_rfl) (fun _ _ _ h => h) rfl hX (fun V hV => lk_ldIs (.tmp 52) rfl rfl (C53.out V hV)) ?_; simp only [Act.put, qA, qB, qC]
     refine mc_take (i := 7) (oi := ⟨some 54, _, _, _, _, _⟩) (v := ?_) rfl (by kernel_rfl) (by kernel_rfl) (by kernel_rfl) (fun _ _ _ h => h) rfl hX ?_ ?_; rotate_left; (intro W hW; go_simp; try with_reducible rfl); simp only [Act.put, qA, qB, qC]
     refine mc_take (i := 8) (oi := ⟨some 55, _, _, _, _, _⟩) (v := ?_) rfl (by kernel_rfl) (by kernel_rfl) (by kernel_rfl) (fun _ _ _ h => h) rfl hX ?_ ?_; rotate_left; (intro W hW; go_simp; try with_reducible rfl); simp only [Act.put, qA, qB, qC]
     refine mc_take (i := 9) (oi := ⟨some 56, _, _, _, _, _⟩) (v := .pointer (some ⟨w.heap.size, b, none⟩)) rfl (by kernel_rfl) (by kernel_rfl) (by kernel_rfl) (fun _ _ _ h => h) rfl hX (fun V _ => wm_ixC (.tmp 55) (.tmp 54) rfl rfl rfl HB2.out V) ?_; simp only [Act.put, qA, qB, qC]
     refine mc_take (i := 10) (oi := ⟨some 57, _, _, _, _, _⟩) (v := .int .u8 (c : Int)) rfl (by kernel_rfl) (by kernel_rfl) (by kernel_rfl) (fun _ _ _ h => h) rfl hX (fun V hV => lk_ldU (.tmp 56) rfl rfl (C57.out V hV)) ?_; simp only [Act.put, qA, qB, qC]
     refine mc_take (i := 11) (oi := ⟨some 58, _, _, _, _, _⟩) (v := .pointer (some ⟨br, or + c, none⟩)) rfl (by kernel_rfl) (by kernel_rfl) (by kernel_rfl) (fun _ _ _ h => h) rfl hX (fun V _ => lk_ixIu (.tmp 53) (.tmp 57) rfl rfl rfl HCK.out V) ?_; simp only [Act.put, qA, qB, qC]
     refine mc_take (i := 12) (oi := ⟨some 59, _, _, _, _, _⟩) (v := .int .i64 (q : Int)) rfl (by kernel_rfl) (by kernel_rfl) (by kernel_rfl) (fun _ _ _ h => h) rfl hX (fun V hV => lk_ldI (.tmp 58) rfl rfl (C59.out V hV)) ?_; simp only [Act.put, qA, qB, qC]
     refine mc_take (i := 13) (oi := ⟨some 60, _, _, _, _, _⟩) (v := ?_) rfl (by kernel_rfl) (by kernel_rfl) (by kernel_rfl) (fun _ _ _ h => h) rfl hX ?_ ?_; rotate_left; (intro W hW; go_simp; try with_reducible rfl); simp only [Act.put, qA, qB, qC]
     refine mc_take (i := 14) (oi := ⟨some 61, _, _, _, _, _⟩) (v := ?_) rfl (by kernel_rfl) (by kernel_rfl) (by kernel_rfl) (fun _ _ _ h => h) rfl hX ?_ ?_; rotate_left; (intro W hW; go_simp; try with_reducible rfl); simp only [Act.put, qA, qB, qC]
     refine mc_take (i := 16) (oi := ⟨some 63, _, _, _, _, _⟩) (v := ?_) rfl (by kernel_rfl) (by kernel_rfl) (by kernel_rfl) (fun _ _ _ h => h) rfl hX ?_ ?_; rotate_left; (intro W hW; go_simp; try with_reducible rfl); simp only [Act.put, qA, qB, qC]
     refine mc_take (i := 18) (oi := ⟨some 65, _, _, _, _, _⟩) (v := ?_) rfl (by kernel_rfl) (by kernel_rfl) (by kernel_rfl) (fun _ _ _ h => h) rfl hX ?_ ?_; rotate_left; (intro W hW; go_simp; try with_reducible rfl); simp only [Act.put, qA, qB, qC]
     refine mc_take (i := 19) (oi := ⟨some 66, _, _, _, _, _⟩) (v := ?_) rfl (by kernel_rfl) (by kernel_rfl) (by kernel_rfl) (fun _ _ _ h => h) rfl hX ?_ ?_; rotate_left; (intro W hW; go_simp; try with_reducible rfl); simp only [Act.put, qA, qB, qC]
     refine mc_take (i := 22) (oi := ⟨some 69, _, _, _, _, _⟩) (v := ?_) rfl (by kernel_rfl) (by kernel_rfl) (by kernel_rfl) (fun _ _ _ h => h) rfl hX ?_ ?_; rotate_left; (intro W hW; go_simp; try with_reducible rfl); simp only [Act.put, qA, qB, qC]
     refine mc_take (i := 23) (oi := ⟨some 70, _, _, _, _, _⟩) (v := ?_) rfl (by kernel_rfl) (by kernel_rfl) (by kernel_rfl) (fun _ _ _ h => h) rfl hX ?_ ?_; rotate_left; (intro W hW; go_simp; try with_reducible rfl); simp only [Act.put, qA, qB, qC]
     refine mc_two (i := 15) (j := 20) (oi := ⟨some 62, _, _, _, _, _⟩) (oj := ⟨some 67, _, _, _, _, _⟩) rfl rfl (by kernel_rfl) rfl rfl (fun K hK => ?ga) (fun K hK => ?gb)
     case' ga =>
      refine wp_bld0L 22 5 rfl iu Try.underlying22 hiu _ hu0 hu1 ?_
      intro wn ho hb
      replace KW := qH (KW.out.fresh3 ho hb)
      obtain ⟨v3, hv3⟩ : ∃ v, v = Value.slice (some ⟨wc.heap.size, 0, none⟩) 0 0 := ⟨_, rfl⟩
      rw [← hv3] at KW
      rw [← hv3]
      clear ho hb hv3
      refine hK _ _ (TOF.out wn KW.out) trivial ?_
      clear hK K hX
      (try simp only [Act.put, qA, qB, qC])
      have hX := TOF.out wn KW.out
      obtain ⟨wc, hwc⟩ : ∃ v : World, v = wn := ⟨_, rfl⟩
      subst hwc
      refine mc_two (i := 17) (j := 20) (oi := ⟨some 64, _, _, _, _, _⟩) (oj := ⟨some 67, _, _, _, _, _⟩) rfl rfl (by kernel_rfl) rfl rfl (fun K hK => ?gc) (fun K hK => ?gd)
      case' gc =>
       refine wp_appW (base := H) (.tmp 62) (.tmp 63) 22 rfl 5 iu (.int .u8 0) 1 Try.underlying22 hiu hu0 hu1 hu2 rfl _ _ _ rfl KW.out.at3 _ (bvs u) rfl (HRW.out wc hX) (bvs_oneW u) HLU.out (by decide) KW.out.hs ?_
       intro vd wn ho hg hw
       replace KW := qH (KW.out.grow3 ho hg hw)
       clear ho hg hw
       refine hK _ _ (TOF.out wn KW.out) trivial ?_
       clear hK K hX
       (try simp only [Act.put, qA, qB, qC])
       have hX := TOF.out wn KW.out
       obtain ⟨wc, hwc⟩ : ∃ v : World, v = wn := ⟨_, rfl⟩
       subst hwc
       refine mc_actB (i := 20) (o := ⟨some 67, _, _, _, _, _⟩) rfl (by kernel_rfl) rfl (fun K hK => ?_)
       refine wp_bldVk 22 5 (.tmp 66) rfl iu (.int .u8 0) Try.underlying22 hiu hu0 hu1 rfl (.int .u8 (b : Int)) rfl rfl ?_
       intro wn hk hb
       replace KW := qH (KW.out.fresh5 (hk.own (Nat.le_refl _) one_maxW) hb)
       obtain ⟨v5, hv5⟩ : ∃ v, v = Value.slice (some ⟨wc.heap.size, 0, none⟩) 1 1 := ⟨_, rfl⟩
       rw [show Value.slice (some ⟨wc.heap.size, 0, none⟩) [Value.int .u8 (b : Int)].length [Value.int .u8 (b : Int)].length = v5 from hv5.symm] at KW
       rw [← hv5]
       clear hk hb hv5
       refine hK _ _ (TOF.out wn KW.out) trivial ?_
       clear hK K hX
       (try simp only [Act.put, qA, qB, qC])
       have hX := TOF.out wn KW.out
       obtain ⟨wc, hwc⟩ : ∃ v : World, v = wn := ⟨_, rfl⟩
       subst hwc
      case' gd =>
       refine wp_bldVk 22 5 (.tmp 66) rfl iu (.int .u8 0) Try.underlying22 hiu hu0 hu1 rfl (.int .u8 (b : Int)) rfl rfl ?_
       intro wn hk hb
       replace KW := qH (KW.out.fresh5 (hk.own (Nat.le_refl _) one_maxW) hb)
       obtain ⟨v5, hv5⟩ : ∃ v, v = Value.slice (some ⟨wc.heap.size, 0, none⟩) 1 1 := ⟨_, rfl⟩
       rw [show Value.slice (some ⟨wc.heap.size, 0, none⟩) [Value.int .u8 (b : Int)].length [Value.int .u8 (b : Int)].length = v5 from hv5.symm] at KW
       rw [← hv5]
       clear hk hb hv5
       refine hK _ _ (TOF.out wn KW.out) trivial ?_
       clear hK K hX
       (try simp only [Act.put, qA, qB, qC])
       have hX := TOF.out wn KW.out
       obtain ⟨wc, hwc⟩ : ∃ v : World, v = wn := ⟨_, rfl⟩
       subst hwc
       refine mc_actB (i := 17) (o := ⟨some 64, _, _, _, _, _⟩) rfl (by kernel_rfl) rfl (fun K hK => ?_)
       refine wp_appW (base := H) (.tmp 62) (.tmp 63) 22 rfl 5 iu (.int .u8 0) 1 Try.underlying22 hiu hu0 hu1 hu2 rfl _ _ _ rfl KW.out.at3 _ (bvs u) rfl (HRW.out wc hX) (bvs_oneW u) HLU.out (by decide) KW.out.hs ?_
       intro vd wn ho hg hw
       replace KW := qH (KW.out.grow3 ho hg hw)
       clear ho hg hw
       refine hK _ _ (TOF.out wn KW.out) trivial ?_
       clear hK K hX
       (try simp only [Act.put, qA, qB, qC])
       have hX := TOF.out wn KW.out
       obtain ⟨wc, hwc⟩ : ∃ v : World, v = wn := ⟨_, rfl⟩
       subst hwc
     case' gb =>
      refine wp_bldVk 22 5 (.tmp 66) rfl iu (.int .u8 0) Try.underlying22 hiu hu0 hu1 rfl (.int .u8 (b : Int)) rfl rfl ?_
      intro wn hk hb
      replace KW := qH (KW.out.fresh5 (hk.own (Nat.le_refl _) one_maxW) hb)
      obtain ⟨v5, hv5⟩ : ∃ v, v = Value.slice (some ⟨wc.heap.size, 0, none⟩) 1 1 := ⟨_, rfl⟩
      rw [show Value.slice (some ⟨wc.heap.size, 0, none⟩) [Value.int .u8 (b : Int)].length [Value.int .u8 (b : Int)].length = v5 from hv5.symm] at KW
      rw [← hv5]
      clear hk hb hv5
      refine hK _ _ (TOF.out wn KW.out) trivial ?_
      clear hK K hX
      (try simp only [Act.put, qA, qB, qC])
      have hX := TOF.out wn KW.out
      obtain ⟨wc, hwc⟩ : ∃ v : World, v = wn := ⟨_, rfl⟩
      subst hwc
      refine mc_actB (i := 15) (o := ⟨some 62, _, _, _, _, _⟩) rfl (by kernel_rfl) rfl (fun K hK => ?_)
      refine wp_bld0L 22 5 rfl iu Try.underlying22 hiu _ hu0 hu1 ?_
      intro wn ho hb
      replace KW := qH (KW.out.fresh3 ho hb)
      obtain ⟨v3, hv3⟩ : ∃ v, v = Value.slice (some ⟨wc.heap.size, 0, none⟩) 0 0 := ⟨_, rfl⟩
      rw [← hv3] at KW
      rw [← hv3]
      clear ho hb hv3
      refine hK _ _ (TOF.out wn KW.out) trivial ?_
      clear hK K hX
      (try simp only [Act.put, qA, qB, qC])
      have hX := TOF.out wn KW.out
      obtain ⟨wc, hwc⟩ : ∃ v : World, v = wn := ⟨_, rfl⟩
      subst hwc
      refine mc_actB (i := 17) (o := ⟨some 64, _, _, _, _, _⟩) rfl (by kernel_rfl) rfl (fun K hK => ?_)
      refine wp_appW (base := H) (.tmp 62) (.tmp 63) 22 rfl 5 iu (.int .u8 0) 1 Try.underlying22 hiu hu0 hu1 hu2 rfl _ _ _ rfl KW.out.at3 _ (bvs u) rfl (HRW.out wc hX) (bvs_oneW u) HLU.out (by decide) KW.out.hs ?_
      intro vd wn ho hg hw
      replace KW := qH (KW.out.grow3 ho hg hw)
      clear ho hg hw
      refine hK _ _ (TOF.out wn KW.out) trivial ?_
      clear hK K hX
      (try simp only [Act.put, qA, qB, qC])
      have hX := TOF.out wn KW.out
      obtain ⟨wc, hwc⟩ : ∃ v : World, v = wn := ⟨_, rfl⟩
      subst hwc
     all_goals
      refine mc_actB (i := 21) (o := ⟨some 68, _, _, _, _, _⟩) rfl (by kernel_rfl) rfl (fun K hK => ?_)
      refine wp_appW (base := H) (.tmp 64) (.tmp 67) 22 rfl 5 iu (.int .u8 0) 1 Try.underlying22 hiu hu0 hu1 hu2 rfl _ _ _ rfl KW.out.at3 _ [.int .u8 (b : Int)] rfl KW.out.at5 (one_uW b) HLB.out (by decide) KW.out.hs ?_
      intro ve wn ho hg hw
      replace KW := qH (KW.out.grow3 ho hg hw)
      clear ho hg hw
      refine hK _ _ (TOF.out wn KW.out) trivial ?_
      clear hK K hX
      (try simp only [Act.put, qA, qB, qC])
      have hX := TOF.out wn KW.out
      obtain ⟨wc, hwc⟩ : ∃ v : World, v = wn := ⟨_, rfl⟩
      subst hwc
      refine mc_actB (i := 24) (o := ⟨some 71, _, _, _, _, _⟩) rfl (by kernel_rfl) rfl (fun K hK => ?_)
      rw [HE3.out] at KW
      obtain ⟨hm1, hm2, hm3⟩ := OB.out.made KW.out
      have OM := qH hm1
      have SM := qH hm2
      have RM := qH hm3
      have BM := qH (show Below wE.heap.size wE wc from BEB.out.trans (OB.out.below hm2))
      clear hm1 hm2 hm3
      go_wp2_with fail
      refine (IH.out i' HIL.out q (u ++ [UInt8.ofNat b]) ve ov' os' (moreW most o (wrdP D i' s u b)) H g wc HIN.out HQN.out HUB.out BM.out OM.out HML.out RM.out).mono ?_
      rintro e w5 ⟨rfl, ov2, os2, ho2, hs2⟩
      have O5 := qH (show OutV w5 wE.heap.size H g ov2 os2 (moreW most o (wrdP D i' s u (b + 1))) from by
       rw [moreW_app] at ho2
       rw [wrdP_succ, stD_clB D s HB2.out, ← HC.out, ← HQ.out]
       exact ho2)
      have S5 := qH ((SB.out.trans SM.out).trans hs2)
      have T5 := qH (SM.out.trans hs2).off
      clear ho2 hs2
      go_wp2_with fail
      refine hK _ _ T5.out trivial ?_
      clear hK K hX
      (try simp only [Act.put, qA, qB, qC])
      refine wpAnyC_done (by kernel_rfl) ?_ _
      have e3 := wrap_one b (wj_256m HB2.out)
      have e4 := wrap_one' b (wj_256m HB2.out)
      clear g1 g2 g6
      go_wp2_with fail
      exact ⟨⟨b + 1, ov2, os2, HB2.out, by congr 1, O5.out, S5.out⟩, by simpa [intOf] using HMB.out⟩
    ·obtain rfl : 256 = b := Nat.le_antisymm (Nat.le_of_not_lt hb2) HB.out
     have b1 : ¬ ((256 : Int) < 256) := Int.lt_irrefl _
     have OF := qH (show OutV wb wE.heap.size H g ov' os' (moreW most o (wrdB D i s u)) from by
      have h1 := OB.out
      rw [wrdP_all, ← HI'.out] at h1
      exact h1)
     have SF := qH ((OStp.of B1.out g (.slice Ao m co)).trans SB.out)
     clear hb2
     go_wp2_with fail
     go_end0
     exact ⟨rfl, ov', os', OF.out, SF.out⟩
end Go.Proofs.Ytaakdebcagdfgaa
