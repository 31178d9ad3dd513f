/-
  Texts of this proof, put together: WoZ. No statement is proved here.
-/
import Derived.Test.YtaakdebcagdfgaaZW
namespace Go.Proofs.Ytaakdebcagdfgaa
open Go.RowKit
set_option linter.unusedSimpArgs false
set_option linter.unusedVariables false
def VisE (D : Dm) (B H g : Nat) (cs : List Value) (lv : Value) (most i s : Nat) (uv : Value) (u : List UInt8) (ov : Value) (o : List (List UInt8)) (w : World) (e : Ending) (w' : World) : Prop :=
 e = .returned (.tuple #[]) ∧ ∃ uv' ov' os', SeV w' B H g cs lv most uv' u ov' os' (moreW most o (wrdB D i s u)) ∧ SStp w w' g uv ov uv' ov'
theorem vis_i {i j : Nat} (h : i = j + 1) (hi : i ≤ 200) : IntKind.i64.wrap ((i : Int) - 1) = (j : Int) ∧ wrap64 ((i : Int) - 1) = (j : Int) := by
 subst h
 rw [show ((j + 1 : Nat) : Int) - 1 = (j : Int) by omega]
 exact ⟨IntWalk.i64_in _ (by omega), IntWalk.wrap64_in _ (by omega)⟩
structure FrE (w0 : World) (e g : Nat) (V : World) : Prop where
 size : e ≤ V.heap.size
 block : ∀ k, k < e → k ≠ g → V.heap[k]? = w0.heap[k]?
theorem FrE.new {w0 w V : World} {e g : Nat} (h : FrE w0 e g w) (hb : Below w.heap.size w V) : FrE w0 e g V :=
 ⟨Nat.le_trans h.size hb.size, fun k hk hg => (hb.block k (Nat.lt_of_lt_of_le hk h.size)).trans (h.block k hk hg)⟩
theorem FrE.step {w0 w V : World} {e B H g m : Nat} {cs : List Value} {lv uv uv' ov ov' : Value} {u : List UInt8} {os : List Value} {o : List (List UInt8)} (h : FrE w0 e g w) (hs : SeV w B H g cs lv m uv u ov os o) (he : e ≤ H) (st : SStp w V g uv ov uv' ov') : FrE w0 e g V :=
 ⟨Nat.le_trans h.size st.off.size, fun k hk hg => (st.off.block k (Nat.lt_of_lt_of_le hk h.size) fun hx => by
  rcases xuS.1 hx with e1 | e1 | e1
  ·exact hg e1
  ·have := (own6_lt hs.wrd k e1).2
   omega
  ·have := (own6_lt hs.lst k e1).2
   omega).trans (h.block k hk hg)⟩
set_option maxHeartbeats 16000000 in
set_option maxRecDepth 1000000 in
theorem wVisit_any {D : Dm} {cs : List Value} {n N kd bc cc bn on cn be oe ce most eE g B : Nat} {w0 : World} (hl : D.cl.length = 256) (hm : MayD D) (hn : n = D.next.length) (hkd : kd = clsA D.cl) (hcs : cs = dcl D.cl (.slice (some ⟨bn, on, none⟩) n cn) (.slice (some ⟨be, oe, none⟩) n ce)) (hmo : most ≤ 1000)
  (hst : ∀ V, FrE w0 eE g V → CanV V D n N bc 0 ∧ Dr V cs D n kd bn on cn be oe ce) :
  ∀ (i s : Nat) (u : List UInt8) (uv ov : Value) (os : List Value) (o : List (List UInt8)) (H : Nat) (w : World), i < N → s < n → u.length + i ≤ 200 → FrE w0 eE g w → eE ≤ H → SeV w B H g cs (.slice (some ⟨bc, 0, none⟩) N cc) most uv u ov os o → o.length < most → canC D i s = true →
   Calls Try.prog 32 #[.pointer (some ⟨g, 0, none⟩), .int .i64 (s : Int), .int .i64 (i : Int)] w fun e w' => VisE D B H g cs (.slice (some ⟨bc, 0, none⟩) N cc) most i s uv u ov o w e w' := by
 have HL := qH hl
 have HM := qH hm
 have HN := qH hn
 have HKD := qH hkd
 have HMO := qH hmo
 have HCS := qH hcs
 have HC8 := qH (show cs.length = 258 by rw [hcs]; exact dcl_len hl)
 have HST := qH hst
 obtain ⟨iu, hiu, hu0, hu1, hu2⟩ := infoP inf_u8
 obtain ⟨ir, hir, hr0, hr1, hr2⟩ := infoP inf_rowW
 obtain ⟨cb, hcb⟩ : ∃ cb, cb = bvs D.cl := ⟨_, rfl⟩
 have HCB := qH hcb
 have HSC := qH (show (Try.prog.info? 24).map (·.size) = some cb.length by rw [hcb]; exact size_ctab HL.out)
 clear hl hm hn hmo hkd hcs hst hcb
 intro i
 induction i using Nat.strongRecOn with
 | ind i IH0 =>
 intro s u uv ov os o H w hi hs hu hfr heh hse hol hcs
 have IH := qH IH0
 have HI := qH hi
 have HS := qH hs
 have HU := qH hu
 have FR := qH hfr
 have HEH := qH heh
 have SE := qH hse
 have HOL := qH hol
 have HCA := qH hcs
 obtain ⟨Ao, co, hvo⟩ := own2_slice hse.lst
 obtain ⟨Au, cu, hvu⟩ := own2_slice hse.wrd
 obtain ⟨m, hm⟩ : ∃ m, m = os.length := ⟨_, rfl⟩
 obtain ⟨p, hp⟩ : ∃ p, p = u.length := ⟨_, rfl⟩
 have HMM := qH hm
 have HPP := qH hp
 rw [← hm] at hvo
 rw [← hp] at hvu
 subst hvo hvu
 clear IH0 hi hs hu hfr heh hse hol hcs hm hp
 by_cases hi0 : i = 0
 ·have hz : ((i : Int) == 0) = true := by rw [hi0]; rfl
  have HI0 := qH hi0
  have HWB := qH (show moreW most o (wrdB D i s u) = o ++ [u] from by
   have h1 := HCA.out
   rw [hi0] at h1 ⊢
   rw [wrdB_zero D s u h1, moreW_one HOL.out])
  have HLU := qH (show (bvs u).length ≤ 1048576 by rw [bvs_length]; have := HU.out; omega)
  have HLO := qH (show os.length + 1 ≤ 2097152 by have h1 := HOL.out; have h2 := HMO.out; have h3 := SE.out.rows.1; omega)
  clear hi0
  go_enter Try.func32, Try.ntmps32
  go_wp2_with fail
  clear hz
  refine mc_start (fun _ => True) (fun V => Blk V g 65 (seC cs (.slice (some ⟨bc, 0, none⟩) N cc) most (.slice Au p cu) (.slice Ao m co))) 14 (by kernel_rfl) (fun wd hwd => ?_)
  have SD := qH (SE.out.new (show Below w.heap.size w wd by rw [hwd]; exact (Below.refl _ _).drew))
  have BD := qH (show Below w.heap.size w wd by rw [hwd]; exact (Below.refl _ _).drew)
  have hX : True := trivial
  have hY := SD.out.blk
  clear hwd
  refine mc_take (i := 0) (oi := ⟨some 11, _, _, _, _, _⟩) (v := ?_) rfl (by kernel_rfl) (by kernel_rfl) (by kernel_rfl) (fun _ _ _ h => h) rfl hX ?_ ?_; rotate_left; (intro W hW; go_simp; try with_reducible rfl); simp only [Act.put, qA, qB, qC]
  refine mc_take (i := 1) (oi := ⟨some 12, _, _, _, _, _⟩) (v := ?_) rfl (by kernel_rfl) (by kernel_rfl) (by kernel_rfl) (fun _ _ _ h => h) rfl hX ?_ ?_; rotate_left; (intro W hW; go_simp; try with_reducible rfl); simp only [Act.put, qA, qB, qC]
  refine mc_take (i := 2) (oi := ⟨some 13, _, _, _, _, _⟩) (v := ?_) rfl (by kernel_rfl) (by kernel_rfl) (by kernel_rfl) (fun _ _ _ h => h) rfl hX ?_ ?_; rotate_left; (intro W hW; go_simp; try with_reducible rfl); simp only [Act.put, qA, qB, qC]
  refine mc_take (i := 3) (oi := ⟨some 14, _, _, _, _, _⟩) (v := ?_) rfl (by kernel_rfl) (by kernel_rfl) (by kernel_rfl) (fun _ _ _ h => h) rfl hX ?_ ?_; rotate_left; (intro W hW; go_simp; try with_reducible rfl); simp only [Act.put, qA, qB, qC]
  refine mc_takeS (i := 4) (oi := ⟨some 15, _, _, _, _, _⟩) (v := .slice Ao m co) rfl (by kernel_rfl) (by kernel_rfl) (by kernel_rfl) (fun _ _ _ h => h) rfl hX hY (fun V _ hV => wo_ldO (.tmp 14) rfl rfl ((hV.cell 261).trans (seC_o HC8.out))) ?_; simp only [Act.put, qA, qB, qC]
  refine mc_take (i := 5) (oi := ⟨some 16, _, _, _, _, _⟩) (v := ?_) rfl (by kernel_rfl) (by kernel_rfl) (by kernel_rfl) (fun _ _ _ h => h) rfl hX ?_ ?_; rotate_left; (intro W hW; go_simp; try with_reducible rfl); simp only [Act.put, qA, qB, qC]
  refine mc_take (i := 6) (oi := ⟨some 17, _, _, _, _, _⟩) (v := ?_) rfl (by kernel_rfl) (by kernel_rfl) (by kernel_rfl) (fun _ _ _ h => h) rfl hX ?_ ?_; rotate_left; (intro W hW; go_simp; try with_reducible rfl); simp only [Act.put, qA, qB, qC]
  refine mc_take (i := 7) (oi := ⟨some 18, _, _, _, _, _⟩) (v := ?_) rfl (by kernel_rfl) (by kernel_rfl) (by kernel_rfl) (fun _ _ _ h => h) rfl hX ?_ ?_; rotate_left; (intro W hW; go_simp; try with_reducible rfl); simp only [Act.put, qA, qB, qC]
  refine mc_takeS (i := 8) (oi := ⟨some 19, _, _, _, _, _⟩) (v := .slice Au p cu) rfl (by kernel_rfl) (by kernel_rfl) (by kernel_rfl) (fun _ _ _ h => h) rfl hX hY (fun V _ hV => wo_ldW (.tmp 18) rfl rfl ((hV.cell 260).trans (seC_u HC8.out))) ?_; simp only [Act.put, qA, qB, qC]
  refine mc_actB (i := 9) (o := ⟨some 20, _, _, _, _, _⟩) rfl (by kernel_rfl) rfl (fun K hK => ?_)
  go_wp2_with fail
  refine (wCloneB_any _ (bvs u) wd (Row.of_own SD.out.wrd) (bvs_oneW u) HLU.out).mono ?_
  rintro e w2 ⟨r, rfl, ho, hb⟩
  have S2 := qH (SD.out.new hb)
  have B2 := qH (BD.out.trans (hb.mono BD.out.size))
  have R2 := qH ho
  have HRK := qH (show ∀ k, r.ownBlock = some k → k < w2.heap.size ∧ ¬ XU (uS g (.slice Au p cu) (.slice Ao m co)) k from fun k hk => ⟨(own6_lt ho k hk).1, fun h2 => absurd (SD.out.und h2) (Nat.not_lt.2 (own6_lt ho k hk).2)⟩)
  clear hb ho
  go_wp2_with fail
  refine hK _ _ trivial S2.out.blk ?_
  clear hK K hX hY
  have hX : True := trivial
  have hY := S2.out.blk
  (try simp only [Act.put, qA, qB, qC])
  refine mc_actB (i := 10) (o := ⟨some 21, _, _, _, _, _⟩) rfl (by kernel_rfl) rfl (fun K hK => ?_)
  refine wp_bldVk 35 22 (.tmp 20) rfl ir (.slice none 0 0) Try.underlying35 hir hr0 hr1 rfl r rfl (own_cellsW R2.out).1 ?_
  intro w3 hk hb
  have K3 := qH (Row.of_own (hk.own (Nat.zero_le _) one_maxW))
  have S3 := qH (S2.out.new hb)
  have B3 := qH (B2.out.trans (hb.mono B2.out.size))
  have RR := qH (show Row w3 r (bvs u) from (Row.of_own R2.out).below hb)
  have RK3 := qH (show ∀ k, r.ownBlock = some k → k < w3.heap.size ∧ ¬ XU (uS g (.slice Au p cu) (.slice Ao m co)) k from fun k hk => ⟨Nat.lt_of_lt_of_le (HRK.out k hk).1 hb.size, (HRK.out k hk).2⟩)
  clear hk hb
  refine hK _ _ trivial S3.out.blk ?_
  clear hK K hX hY
  have hX : True := trivial
  have hY := S3.out.blk
  (try simp only [Act.put, qA, qB, qC])
  refine mc_actB (i := 11) (o := ⟨some 22, _, _, _, _, _⟩) rfl (by kernel_rfl) rfl (fun K hK => ?_)
  refine wp_appW (base := H) (.tmp 15) (.tmp 21) 35 rfl 22 ir (.slice none 0 0) 24 Try.underlying35 hir hr0 hr1 hr2 rfl _ _ _ rfl S3.out.lst _ [r] rfl K3.out (fun u hu => by rw [List.mem_singleton.1 hu]; exact (own_cellsW R2.out).2) HLO.out (by decide) S3.out.hs ?_
  intro v4 w4 ho hg hw
  obtain ⟨A4, c4, hv4⟩ := ownC_slice ho
  subst hv4
  have K4 := qH (S3.out.blk.grown hg fun e => S3.out.gneO e.symm)
  have SP := qH (S3.out.putO HC8.out (by rw [List.length_append]; exact ho) hg hw RR.out RK3.out)
  clear ho hg hw
  refine hK _ _ trivial K4.out ?_
  clear hK K hX hY
  have hX : True := trivial
  have hY := K4.out
  (try simp only [Act.put, qA, qB, qC])
  refine mc_take (i := 12) (oi := ⟨some 23, _, _, _, _, _⟩) (v := ?_) rfl (by kernel_rfl) (by kernel_rfl) (by kernel_rfl) (fun _ _ _ h => h) rfl hX ?_ ?_; rotate_left; (intro W hW; go_simp; try with_reducible rfl); simp only [Act.put, qA, qB, qC]
  refine mc_take (i := 13) (oi := ⟨some 24, _, _, _, _, _⟩) (v := ?_) rfl (by kernel_rfl) (by kernel_rfl) (by kernel_rfl) (fun _ _ _ h => h) rfl hX ?_ ?_; rotate_left; (intro W hW; go_simp; try with_reducible rfl); simp only [Act.put, qA, qB, qC]
  refine mc_last (i := 14) (o := ⟨none, _, _, _, _, _⟩) rfl (by kernel_rfl) rfl (fun K hK => ?_)
  refine wo_stO (.tmp 24) (.tmp 22) rfl rfl rfl ((K4.out.cell 261).trans (seC_o HC8.out)) (K4.out.frozen 261) ?_
  refine hK _ _ trivial ?_
  clear hK K hX hY
  (try simp only [Act.put, qA, qB, qC])
  refine wpAnyC_done (by kernel_rfl) ?_ _
  go_wp2_with fail
  go_end0
  exact ⟨rfl, _, _, _, by rw [HWB.out]; exact SP.out.1, (SStp.of B3.out g _ _).trans SP.out.2⟩
 ·have hz : ((i : Int) == 0) = false := by rw [beq_eq_false_iff_ne]; exact fun e => hi0 (Int.ofNat_eq_zero.1 e)
  obtain ⟨j, hj⟩ : ∃ j, i = j + 1 := ⟨i - 1, by omega⟩
  have HJ := qH hj
  have G1 := qH (vis_i hj (by have := HU.out; omega))
  have HJI := qH (show j < i by omega)
  have HJN := qH (show j < N from Nat.lt_trans (show j < i by omega) HI.out)
  have R29 := qH (show w.rangeAt g 0 cb from fun k v hv => by
   rw [HCB.out] at hv
   have hk := (List.getElem?_eq_some_iff.1 hv).1
   rw [bvs_length, HL.out] at hk
   rw [Nat.zero_add, SE.out.blk.cell k, seC_low HC8.out (by omega), HCS.out, dcl_cl HL.out hk]
   exact hv)
  clear hi0 hj
  go_enter Try.func32, Try.ntmps32
  go_wp2_with ((with_reducible refine atDst 29 ?_); refine wpList_load_mid rfl 24 _ rfl g 0 rfl cb _ R29.out Try.underlying24 rfl HSC.out ?_; (try simp only [Act.put, qA, qB, qC]))
  clear hz R29
  go_loopw [30] (fun bv2 wl => ∃ (b : Nat) (uv' ov' : Value) (os' : List Value), b ≤ 256 ∧ bv2 = .int .i64 (b : Int) ∧ SeV wl B H g cs (.slice (some ⟨bc, 0, none⟩) N cc) most uv' u ov' os' (moreW most o (wrdP D j s u b)) ∧ SStp w wl g (.slice Au p cu) (.slice Ao m co) uv' ov') (fun bv2 _ => 256 - (intOf bv2).toNat)
  case atStart => exact ⟨0, _, _, os, Nat.zero_le _, rfl, by rw [wrdP_zero, moreW_nil]; exact SE.out, SStp.of (Below.refl _ _) g _ _⟩
  obtain ⟨b, uv', ov', os', hb, rfl, hse, hst⟩ := hrel
  obtain ⟨Ap, cp, hvp⟩ := own2_slice hse.lst
  obtain ⟨Aq, cq, hvq⟩ := own2_slice hse.wrd
  obtain ⟨k, hk⟩ : ∃ k, k = os'.length := ⟨_, rfl⟩
  rw [← hk] at hvp
  rw [← HPP.out] at hvq
  subst hvp hvq
  have HB := qH hb
  have SB := qH hse
  have TB := qH hst
  have HKO := qH (show k = (moreW most o (wrdP D j s u b)).length by rw [hk, hse.rows.1])
  have HML := qH (show k ≤ most by rw [HKO.out]; exact moreW_len most o _ (Nat.le_of_lt HOL.out))
  obtain ⟨wb, hwb⟩ : ∃ v : World, v = wr := ⟨_, rfl⟩
  subst hwb
  clear hb hse hst hk
  by_cases hb2 : b < 256
  ·have b1 : (b : Int) < 256 := Int.ofNat_lt.2 hb2
   have HB2 := qH hb2
   have HMB := qH (sub_next hb2)
   have e3 := wrap_one b (lt_256 hb2)
   have e4 := wrap_one' b (lt_256 hb2)
   have E3 := qH e3
   have E4 := qH e4
   obtain ⟨c, hc⟩ : ∃ c, c = clB D b := ⟨_, rfl⟩
   have HCK := qH (show c < kd by rw [hc, HKD.out]; exact clB_lt HL.out hb2)
   have hix : ∀ w, (Instr.index 24 (.agg cb.toArray) (.int .i64 (b : Int))).run Try.prog w = .ok (.int .u8 (c : Int)) w := fun w => ix_arr cb b _ hb2 (by rw [HCB.out, hc]; exact clB_cell HL.out hb2) w
   obtain ⟨q, hq⟩ : ∃ q, q = stC D s c := ⟨_, rfl⟩
   have HQN := qH (show q < n by
    rw [hq, HN.out]
    exact stC_lt HM.out (show s < D.next.length by rw [← HN.out]; exact HS.out) c (by rw [← HKD.out]; exact HCK.out))
   obtain ⟨z, hz⟩ : ∃ z, z = UInt8.ofNat b := ⟨_, rfl⟩
   have HZN := qH (show z.toNat = b by rw [hz]; exact toNat_ofNatQ hb2)
   have HQZ := qH (show q = stD D s z by rw [stD_stC, HZN.out, hq, hc]; rfl)
   obtain ⟨cq2, hcq⟩ : ∃ x, canC D j q = x := ⟨_, rfl⟩
   have HCQ := qH hcq
   have HNP := qH (show canC D j q = false → wrdP D j s u (b + 1) = wrdP D j s u b from fun h => wrdP_no HL.out u hb2 (by rw [← hc, ← hq]; exact h))
   have HNX := qH (show wrdP D j s u (b + 1) = wrdP D j s u b ++ wrdB D j q (u ++ [z]) by rw [wrdP_succ, HQZ.out, hz])
   obtain ⟨hcanb, hdrb⟩ := HST.out wb (FR.out.step SE.out HEH.out TB.out)
   obtain ⟨br, or, cr, hcr, hbr, hrr⟩ := hdrb.row s HS.out
   obtain ⟨bj, oj, cj, hcj, hbj, hce⟩ := hcanb.2 j HJN.out
   rw [Nat.zero_add] at hcj
   have c258 : wb.cell? ⟨g, 258, none⟩ = some (.slice (some ⟨bc, 0, none⟩) N cc) := (SB.out.blk.cell 258).trans (seC_l HC8.out)
   have c256 : wb.cell? ⟨g, 256, none⟩ = some (.slice (some ⟨bn, on, none⟩) n cn) := (SB.out.blk.cell 256).trans (by rw [seC_low HC8.out (by omega), HCS.out]; exact dcl_n HL.out)
   have crow : wb.cell? ⟨bn, on + s, none⟩ = some (.slice (some ⟨br, or, none⟩) kd cr) := hcr
   have C54 := qH (show wb.cell? ⟨br, or + c, none⟩ = some (.int .i64 (q : Int)) from (by
    obtain ⟨b', o', he, _, hc'⟩ := hrr.at_ (by rw [ncs_len]; exact Nat.lt_of_le_of_lt (Nat.zero_le _) HCK.out)
    injection he with he
    injection he with h1 h2
    subst h1 h2
    have h3 := hc' c _ (ncs_get (fun c => stC D s c) HCK.out)
    rw [h3, hq]))
   have ctab : wb.cell? ⟨bc, j, none⟩ = some (.slice (some ⟨bj, oj, none⟩) n cj) := hcj
   have ccan : wb.cell? ⟨bj, oj + q, none⟩ = some (.bool cq2) := by rw [hce q HQN.out, hcq]
   have s1 : (s : Int) < (n : Int) := Int.ofNat_lt.2 HS.out
   have q1 : (q : Int) < (n : Int) := Int.ofNat_lt.2 HQN.out
   have j1 : (j : Int) < (N : Int) := Int.ofNat_lt.2 HJN.out
   clear hb2 hc hq hz hcq hcr hbr hrr hcj hbj hce hcanb hdrb
   by_cases hfull : k = most
   ·have hz : ((k : Int) == (most : Int)) = true := by rw [hfull]; exact beq_self_eq_true _
    have HF := qH (show moreW most o (wrdB D i s u) = moreW most o (wrdP D j s u b) by
     obtain ⟨r, hr⟩ := wrdP_more D j s u HB.out
     rw [HJ.out, hr, ← moreW_app, moreW_full (by rw [← HKO.out, hfull]; exact Nat.le_refl _)])
    clear hfull e3 e4 c258 c256 crow ctab ccan s1 q1 j1
    go_wp2_with fail
    refine mc_start (fun V => Below wb.heap.size wb V) (fun _ => True) 10 (by kernel_rfl) (fun wd hwd => ?_)
    have hX : Below wb.heap.size wb wd := by rw [hwd]; exact (Below.refl _ _).drew
    have hY : True := trivial
    clear hwd
    refine mc_take (i := 0) (oi := ⟨some 34, _, _, _, _, _⟩) (v := ?_) rfl (by kernel_rfl) (by kernel_rfl) (by kernel_rfl) (fun _ _ _ h => h) rfl hX ?_ ?_; rotate_left; (intro W hW; go_simp; try with_reducible rfl); simp only [Act.put, qA, qB, qC]
    refine mc_take (i := 1) (oi := ⟨some 35, _, _, _, _, _⟩) (v := ?_) rfl (by kernel_rfl) (by kernel_rfl) (by kernel_rfl) (fun _ _ _ h => h) rfl hX ?_ ?_; rotate_left; (intro W hW; go_simp; try with_reducible rfl); simp only [Act.put, qA, qB, qC]
    refine mc_take (i := 2) (oi := ⟨some 36, _, _, _, _, _⟩) (v := ?_) rfl (by kernel_rfl) (by kernel_rfl) (by kernel_rfl) (fun _ _ _ h => h) rfl hX ?_ ?_; rotate_left; (intro W hW; go_simp; try with_reducible rfl); simp only [Act.put, qA, qB, qC]
    refine mc_take (i := 3) (oi := ⟨some 37, _, _, _, _, _⟩) (v := .slice Ap k cp) rfl (by kernel_rfl) (by kernel_rfl) (by kernel_rfl) (fun _ _ _ h => h) rfl hX (fun V hV => wo_ldO (.tmp 36) rfl rfl (bl_cell hV ((SB.out.blk.cell 261).trans (seC_o HC8.out)))) ?_; simp only [Act.put, qA, qB, qC]
    refine mc_take (i := 4) (oi := ⟨some 38, _, _, _, _, _⟩) (v := ?_) rfl (by kernel_rfl) (by kernel_rfl) (by kernel_rfl) (fun _ _ _ h => h) rfl hX ?_ ?_; rotate_left; (intro W hW; go_simp; try with_reducible rfl); simp only [Act.put, qA, qB, qC]
    refine mc_take (i := 5) (oi := ⟨some 39, _, _, _, _, _⟩) (v := ?_) rfl (by kernel_rfl) (by kernel_rfl) (by kernel_rfl) (fun _ _ _ h => h) rfl hX ?_ ?_; rotate_left; (intro W hW; go_simp; try with_reducible rfl); simp only [Act.put, qA, qB, qC]
    refine mc_take (i := 6) (oi := ⟨some 40, _, _, _, _, _⟩) (v := ?_) rfl (by kernel_rfl) (by kernel_rfl) (by kernel_rfl) (fun _ _ _ h => h) rfl hX ?_ ?_; rotate_left; (intro W hW; go_simp; try with_reducible rfl); simp only [Act.put, qA, qB, qC]
    refine mc_take (i := 7) (oi := ⟨some 41, _, _, _, _, _⟩) (v := ?_) rfl (by kernel_rfl) (by kernel_rfl) (by kernel_rfl) (fun _ _ _ h => h) rfl hX ?_ ?_; rotate_left; (intro W hW; go_simp; try with_reducible rfl); simp only [Act.put, qA, qB, qC]
    refine mc_take (i := 8) (oi := ⟨some 42, _, _, _, _, _⟩) (v := .int .i64 (most : Int)) rfl (by kernel_rfl) (by kernel_rfl) (by kernel_rfl) (fun _ _ _ h => h) rfl hX (fun V hV => lk_ldI (.tmp 41) rfl rfl (bl_cell hV ((SB.out.blk.cell 259).trans (seC_m HC8.out)))) ?_; simp only [Act.put, qA, qB, qC]
    refine mc_take (i := 9) (oi := ⟨some 43, _, _, _, _, _⟩) (v := ?_) rfl (by kernel_rfl) (by kernel_rfl) (by kernel_rfl) (fun _ _ _ h => h) rfl hX ?_ ?_; rotate_left; (intro W hW; go_simp; try with_reducible rfl); simp only [Act.put, qA, qB, qC]
    refine wpAnyC_done (by kernel_rfl) ?_ _
    have BX := qH hX
    clear hX hY
    go_wp2_with fail
    go_end0
    exact ⟨rfl, _, _, _, by rw [HF.out]; exact SB.out.new BX.out, TB.out.trans (SStp.of BX.out g _ _)⟩
   ·have hz : ((k : Int) == (most : Int)) = false := by rw [beq_eq_false_iff_ne]; exact fun e => hfull (Int.ofNat.inj e)
    have HLT := qH (show k < most from Nat.lt_of_le_of_ne HML.out hfull)
    have HLI := qH (And.intro c258 (And.intro c256 (And.intro crow (And.intro ctab ccan))))
    clear hfull e3 e4 c258 c256 crow ctab ccan
    go_wp2_with fail
    refine mc_start (fun V => Below wb.heap.size wb V) (fun _ => True) 10 (by kernel_rfl) (fun wd hwd => ?_)
    have hX : Below wb.heap.size wb wd := by rw [hwd]; exact (Below.refl _ _).drew
    have hY : True := trivial
    clear hwd
    refine mc_take (i := 0) (oi := ⟨some 34, _, _, _, _, _⟩) (v := ?_) rfl (by kernel_rfl) (by kernel_rfl) (by kernel_rfl) (fun _ _ _ h => h) rfl hX ?_ ?_; rotate_left; (intro W hW; go_simp; try with_reducible rfl); simp only [Act.put, qA, qB, qC]
    refine mc_take (i := 1) (oi := ⟨some 35, _, _, _, _, _⟩) (v := ?_) rfl (by kernel_rfl) (by kernel_rfl) (by kernel_rfl) (fun _ _ _ h => h) rfl hX ?_ ?_; rotate_left; (intro W hW; go_simp; try with_reducible rfl); simp only [Act.put, qA, qB, qC]
    refine mc_take (i := 2) (oi := ⟨some 36, _, _, _, _, _⟩) (v := ?_) rfl (by kernel_rfl) (by kernel_rfl) (by kernel_rfl) (fun _ _ _ h => h) rfl hX ?_ ?_; rotate_left; (intro W hW; go_simp; try with_reducible rfl); simp only [Act.put, qA, qB, qC]
    refine mc_take (i := 3) (oi := ⟨some 37, _, _, _, _, _⟩) (v := .slice Ap k cp) rfl (by kernel_rfl) (by kernel_rfl) (by kernel_rfl) (fun _ _ _ h => h) rfl hX (fun V hV => wo_ldO (.tmp 36) rfl rfl (bl_cell hV ((SB.out.blk.cell 261).trans (seC_o HC8.out)))) ?_; simp only [Act.put, qA, qB, qC]
    refine mc_take (i := 4) (oi := ⟨some 38, _, _, _, _, _⟩) (v := ?_) rfl (by kernel_rfl) (by kernel_rfl) (by kernel_rfl) (fun _ _ _ h => h) rfl hX ?_ ?_; rotate_left; (intro W hW; go_simp; try with_reducible rfl); simp only [Act.put, qA, qB, qC]
    refine mc_take (i := 5) (oi := ⟨some 39, _, _, _, _, _⟩) (v := ?_) rfl (by kernel_rfl) (by kernel_rfl) (by kernel_rfl) (fun _ _ _ h => h) rfl hX ?_ ?_; rotate_left; (intro W hW; go_simp; try with_reducible rfl); simp only [Act.put, qA, qB, qC]
    refine mc_take (i := 6) (oi := ⟨some 40, _, _, _, _, _⟩) (v := ?_) rfl (by kernel_rfl) (by kernel_rfl) (by kernel_rfl) (fun _ _ _ h => h) rfl hX ?_ ?_; rotate_left; (intro W hW; go_simp; try with_reducible rfl); simp only [Act.put, qA, qB, qC]
    refine mc_take (i := 7) (oi := ⟨some 41, _, _, _, _, _⟩) (v := ?_) rfl (by kernel_rfl) (by kernel_rfl) (by kernel_rfl) (fun _ _ _ h => h) rfl hX ?_ ?_; rotate_left; (intro W hW; go_simp; try with_reducible rfl); simp only [Act.put, qA, qB, qC]
    refine mc_take (i := 8) (oi := ⟨some 42, _, _, _, _, _⟩) (v := .int .i64 (most : Int)) rfl (by kernel_rfl) (by kernel_rfl) (by kernel_rfl) (fun _ _ _ h => h) rfl hX (fun V hV => lk_ldI (.tmp 41) rfl rfl (bl_cell hV ((SB.out.blk.cell 259).trans (seC_m HC8.out)))) ?_; simp only [Act.put, qA, qB, qC]
    refine mc_take (i := 9) (oi := ⟨some 43, _, _, _, _, _⟩) (v := ?_) rfl (by kernel_rfl) (by kernel_rfl) (by kernel_rfl) (fun _ _ _ h => h) rfl hX ?_ ?_; rotate_left; (intro W hW; go_simp; try with_reducible rfl); simp only [Act.put, qA, qB, qC]
    refine wpAnyC_done (by kernel_rfl) ?_ _
    have BX := qH hX
    have c258 := bl_cell hX HLI.out.1
    have c256 := bl_cell hX HLI.out.2.1
    have crow := bl_cell hX HLI.out.2.2.1
    have ctab := bl_cell hX HLI.out.2.2.2.1
    have ccan := bl_cell hX HLI.out.2.2.2.2
    have C54' := qH (bl_cell hX C54.out)
    have SX := qH (SB.out.new hX)
    have TX := qH (TB.out.trans (SStp.of hX g (.slice Aq p cq) (.slice Ap k cp)))
    have g1 := G1.out.1
    have g2 := G1.out.2
    clear hX hY hz
    cases cq2 with
    | false =>
     have HNO := qH (HNP.out HCQ.out)
     have e3 := E3.out
     have e4 := E4.out
     go_wp2_with (first
      | ((with_reducible refine atDst 53 ?_); refine wpList_plain rfl fun K hK => wp_rd (lk_ixIu (.tmp 51) (.tmp 52) rfl rfl rfl HCK.out _) ?_; refine hK _ _ ?_; clear hK K; (try simp only [Act.put, qA, qB, qC]))
      | ((with_reducible refine atDst 54 ?_); refine wpList_plain rfl fun K hK => wp_rd (lk_ldI (.tmp 53) rfl rfl C54'.out) ?_; refine hK _ _ ?_; clear hK K; (try simp only [Act.put, qA, qB, qC])))
     exact ⟨⟨b + 1, _, _, _, HB2.out, by congr 1, by rw [HNO.out]; exact SX.out, TX.out⟩, by simpa [intOf] using HMB.out⟩
    | true =>
     have e8 := wrap8N b HB2.out
     have HLP := qH (show u.length + 1 ≤ 2097152 by have := HU.out; omega)
     go_wp2_with (first
      | ((with_reducible refine atDst 53 ?_); refine wpList_plain rfl fun K hK => wp_rd (lk_ixIu (.tmp 51) (.tmp 52) rfl rfl rfl HCK.out _) ?_; refine hK _ _ ?_; clear hK K; (try simp only [Act.put, qA, qB, qC]))
      | ((with_reducible refine atDst 54 ?_); refine wpList_plain rfl fun K hK => wp_rd (lk_ldI (.tmp 53) rfl rfl C54'.out) ?_; refine hK _ _ ?_; clear hK K; (try simp only [Act.put, qA, qB, qC]))
      | ((with_reducible refine atDst 70 ?_); refine wpList_plain rfl fun K hK => wp_rd (wo_ldW (.tmp 69) rfl rfl ((SX.out.blk.cell 260).trans (seC_u HC8.out))) ?_; refine hK _ _ ?_; clear hK K; (try simp only [Act.put, qA, qB, qC]))
      | ((with_reducible refine atDst 73 ?_); refine wpList_plain rfl fun K hK => wp_bldVk 22 5 (.tmp 72) rfl iu (.int .u8 0) Try.underlying22 hiu hu0 hu1 rfl (bv z) (by first | rfl | (unfold bv; rw [HZN.out]; rfl)) rfl ?_; intro w3 hk hb; have K3 := qH (Row.of_own (hk.own (Nat.zero_le _) one_maxW)); have S3 := qH (SX.out.new hb); have T3 := qH (TX.out.trans (SStp.of hb g (.slice Aq p cq) (.slice Ap k cp))); clear hk hb c258 c256 crow ctab ccan; refine hK _ _ ?_; clear hK K; (try simp only [Act.put, qA, qB, qC]))
      | ((with_reducible refine atDst 74 ?_); refine wpList_plain rfl fun K hK => wp_appW (base := H) (.tmp 70) (.tmp 73) 22 rfl 5 iu (.int .u8 0) 1 Try.underlying22 hiu hu0 hu1 hu2 rfl _ _ _ rfl S3.out.wrd _ (bvs [z]) rfl K3.out (bvs_oneB z) HLP.out (by decide) S3.out.hs ?_; intro v4 w4 ho hg hw; obtain ⟨A4, c4, hv4⟩ := ownC_slice ho; subst hv4; have K4 := qH (S3.out.blk.grown hg fun e => S3.out.gneU e.symm); have SP := qH (S3.out.putU (v := u ++ [z]) HC8.out (by rw [List.length_append, bvs_append]; exact ho) hg hw); clear ho hg hw; refine hK _ _ ?_; clear hK K; (try simp only [Act.put, qA, qB, qC]))
      | ((with_reducible refine atStore 22 76 74 ?_); refine wpList_plain rfl fun K hK => wo_stW (.tmp 76) (.tmp 74) rfl rfl rfl ((K4.out.cell 260).trans (seC_u HC8.out)) (K4.out.frozen 260) ?_; refine hK _ _ ?_; clear hK K; (try simp only [Act.put, qA, qB, qC])))
     obtain ⟨w5, hw5⟩ : ∃ v, v = w4.setCell ⟨g, 260, none⟩ (.slice A4 (u.length + (bvs [z]).length) c4) := ⟨_, rfl⟩
     rw [← hw5] at SP
     rw [← hw5]
     have S5 := qH SP.out.1
     have T5 := qH (T3.out.trans SP.out.2)
     clear hw5 SP K4 K3 S3 T3
     have FR5 := qH (FR.out.step SE.out HEH.out T5.out)
     refine (IH.out j HJI.out q (u ++ [z]) _ _ os' _ H w5 HJN.out HQN.out (by rw [List.length_append]; have h1 := HU.out; have h2 := HJ.out; show _ + 1 + _ ≤ _; omega) FR5.out HEH.out S5.out (by rw [← HKO.out]; exact HLT.out) HCQ.out).mono ?_
     rintro e w6 ⟨rfl, uv6, ov6, os6, hs6, ht6⟩
     rw [moreW_app, ← HNX.out] at hs6
     obtain ⟨A6, c6, hv6⟩ := own2_slice hs6.wrd
     subst hv6
     have T6 := qH (T5.out.trans ht6)
     have S6 := qH hs6
     obtain ⟨g6, hg6, hc6⟩ : ∃ g6, A6 = some ⟨g6, 0, none⟩ ∧ (u ++ [z]).length ≤ c6 := by
      rcases hs6.wrd.2 with ⟨e, h0⟩ | ⟨g6, cap, cur, e, _, _, hnc, _⟩
      ·rw [List.length_append] at h0
       exact absurd h0 (Nat.succ_ne_zero _)
      ·injection e with e1 e2 e3
       subst e3
       exact ⟨g6, e1, hnc⟩
     subst hg6
     have HC6 := qH hc6
     have HP1 := qH (show (u ++ [z]).length = p + 1 by rw [List.length_append, HPP.out]; rfl)
     have HCUT := qH (show w6.ownsRow H 5 1 (.slice (some ⟨g6, 0, none⟩) u.length c6) u.length (bvs u) by
      have h1 := own_fewer (m := u.length) hs6.wrd (by rw [List.length_append]; exact Nat.le_add_right _ _) (by intro h; cases h)
      rw [Nat.mul_one, bvs_append, List.take_left' (by rw [bvs_length])] at h1
      exact h1)
     obtain ⟨l6, hl6⟩ : ∃ l, l = (u ++ [z]).length := ⟨_, rfl⟩
     rw [← hl6] at S6 HC6 HP1 T6
     have HL6 := qH hl6
     clear hs6 ht6 hc6 hl6 IH g1 g2
     go_wp2_with fail
     have G3 := qH (vis_i HP1.out (by rw [HP1.out]; have h1 := HU.out; have h2 := HJ.out; have h3 := HPP.out; omega))
     have g1 := G3.out.1
     have g2 := G3.out.2
     refine mc_start (fun _ => True) (fun V => Blk V g 65 (seC cs (.slice (some ⟨bc, 0, none⟩) N cc) most (.slice (some ⟨g6, 0, none⟩) l6 c6) ov6)) 14 (by kernel_rfl) (fun wd hwd => ?_)
     have BD := qH (show Below w6.heap.size w6 wd by rw [hwd]; exact (Below.refl _ _).drew)
     have SD := qH (S6.out.new BD.out)
     have hX : True := trivial
     have hY := SD.out.blk
     clear hwd
     refine mc_take (i := 0) (oi := ⟨some 82, _, _, _, _, _⟩) (v := ?_) rfl (by kernel_rfl) (by kernel_rfl) (by kernel_rfl) (fun _ _ _ h => h) rfl hX ?_ ?_; rotate_left; (intro W hW; go_simp; try with_reducible rfl); simp only [Act.put, qA, qB, qC]
     refine mc_take (i := 1) (oi := ⟨some 83, _, _, _, _, _⟩) (v := ?_) rfl (by kernel_rfl) (by kernel_rfl) (by kernel_rfl) (fun _ _ _ h => h) rfl hX ?_ ?_; rotate_left; (intro W hW; go_simp; try with_reducible rfl); simp only [Act.put, qA, qB, qC]
     refine mc_take (i := 2) (oi := ⟨some 84, _, _, _, _, _⟩) (v := ?_) rfl (by kernel_rfl) (by kernel_rfl) (by kernel_rfl) (fun _ _ _ h => h) rfl hX ?_ ?_; rotate_left; (intro W hW; go_simp; try with_reducible rfl); simp only [Act.put, qA, qB, qC]
     refine mc_take (i := 3) (oi := ⟨some 85, _, _, _, _, _⟩) (v := ?_) rfl (by kernel_rfl) (by kernel_rfl) (by kernel_rfl) (fun _ _ _ h => h) rfl hX ?_ ?_; rotate_left; (intro W hW; go_simp; try with_reducible rfl); simp only [Act.put, qA, qB, qC]
     refine mc_takeS (i := 4) (oi := ⟨some 86, _, _, _, _, _⟩) (v := .slice (some ⟨g6, 0, none⟩) l6 c6) rfl (by kernel_rfl) (by kernel_rfl) (by kernel_rfl) (fun _ _ _ h => h) rfl hX hY (fun V _ hV => wo_ldW (.tmp 85) rfl rfl ((hV.cell 260).trans (seC_u HC8.out))) ?_; simp only [Act.put, qA, qB, qC]
     refine mc_take (i := 5) (oi := ⟨some 87, _, _, _, _, _⟩) (v := ?_) rfl (by kernel_rfl) (by kernel_rfl) (by kernel_rfl) (fun _ _ _ h => h) rfl hX ?_ ?_; rotate_left; (intro W hW; go_simp; try with_reducible rfl); simp only [Act.put, qA, qB, qC]
     refine mc_take (i := 6) (oi := ⟨some 88, _, _, _, _, _⟩) (v := ?_) rfl (by kernel_rfl) (by kernel_rfl) (by kernel_rfl) (fun _ _ _ h => h) rfl hX ?_ ?_; rotate_left; (intro W hW; go_simp; try with_reducible rfl); simp only [Act.put, qA, qB, qC]
     refine mc_take (i := 7) (oi := ⟨some 89, _, _, _, _, _⟩) (v := ?_) rfl (by kernel_rfl) (by kernel_rfl) (by kernel_rfl) (fun _ _ _ h => h) rfl hX ?_ ?_; rotate_left; (intro W hW; go_simp; try with_reducible rfl); simp only [Act.put, qA, qB, qC]
     refine mc_takeS (i := 8) (oi := ⟨some 90, _, _, _, _, _⟩) (v := .slice (some ⟨g6, 0, none⟩) l6 c6) rfl (by kernel_rfl) (by kernel_rfl) (by kernel_rfl) (fun _ _ _ h => h) rfl hX hY (fun V _ hV => wo_ldW (.tmp 89) rfl rfl ((hV.cell 260).trans (seC_u HC8.out))) ?_; simp only [Act.put, qA, qB, qC]
     refine mc_take (i := 9) (oi := ⟨some 91, _, _, _, _, _⟩) (v := ?_) rfl (by kernel_rfl) (by kernel_rfl) (by kernel_rfl) (fun _ _ _ h => h) rfl hX ?_ ?_; rotate_left; (intro W hW; go_simp; try with_reducible rfl); simp only [Act.put, qA, qB, qC]
     refine mc_take (i := 10) (oi := ⟨some 92, _, _, _, _, _⟩) (v := ?_) rfl (by kernel_rfl) (by kernel_rfl) (by kernel_rfl) (fun _ _ _ h => h) rfl hX ?_ ?_; rotate_left; (intro W hW; go_simp; try with_reducible rfl); simp only [Act.put, qA, qB, qC]
     refine mc_take (i := 11) (oi := ⟨some 93, _, _, _, _, _⟩) (v := .slice (some ⟨g6, 0, none⟩) p c6) rfl (by kernel_rfl) (by kernel_rfl) (by kernel_rfl) (fun _ _ _ h => h) rfl hX (fun V _ => wo_cut (.tmp 86) (.tmp 92) rfl rfl rfl (by rw [HP1.out]; exact Nat.le_succ p) HC6.out V) ?_; simp only [Act.put, qA, qB, qC]
     refine mc_take (i := 12) (oi := ⟨some 94, _, _, _, _, _⟩) (v := ?_) rfl (by kernel_rfl) (by kernel_rfl) (by kernel_rfl) (fun _ _ _ h => h) rfl hX ?_ ?_; rotate_left; (intro W hW; go_simp; try with_reducible rfl); simp only [Act.put, qA, qB, qC]
     refine mc_take (i := 13) (oi := ⟨some 95, _, _, _, _, _⟩) (v := ?_) rfl (by kernel_rfl) (by kernel_rfl) (by kernel_rfl) (fun _ _ _ h => h) rfl hX ?_ ?_; rotate_left; (intro W hW; go_simp; try with_reducible rfl); simp only [Act.put, qA, qB, qC]
     refine mc_last (i := 14) (o := ⟨none, _, _, _, _, _⟩) rfl (by kernel_rfl) rfl (fun K hK => ?_)
     refine wo_stW (.tmp 95) (.tmp 93) rfl rfl rfl ((SD.out.blk.cell 260).trans (seC_u HC8.out)) (SD.out.blk.frozen 260) ?_
     refine hK _ _ trivial ?_
     clear hK K hX hY g1 g2
     (try simp only [Act.put, qA, qB, qC])
     refine wpAnyC_done (by kernel_rfl) ?_ _
     have SC := qH (SD.out.putU (v := u) (uv' := .slice (some ⟨g6, 0, none⟩) p c6) HC8.out (by rw [HPP.out]; exact own6_stay HCUT.out fun j hj => BD.out.block j (own6_lt HCUT.out j hj).1) ⟨rfl, rfl, rfl, Nat.le_refl _, fun _ _ _ => rfl⟩ (fun k hk => .inl hk))
     have e3 := E3.out
     have e4 := E4.out
     go_wp2_with fail
     exact ⟨⟨b + 1, _, _, _, HB2.out, by congr 1, SC.out.1, (T6.out.trans (SStp.of BD.out g _ _)).trans SC.out.2⟩, by simpa [intOf] using HMB.out⟩
  ·obtain rfl : 256 = b := Nat.le_antisymm (Nat.le_of_not_lt hb2) HB.out
   have b1 : ¬ ((256 : Int) < 256) := Int.lt_irrefl _
   have HA := qH (show wrdP D j s u 256 = wrdB D i s u by rw [wrdP_all, HJ.out])
   clear hb2
   go_wp2_with fail
   go_end0
   exact ⟨rfl, _, _, _, by rw [← HA.out]; exact SB.out, TB.out⟩
end Go.Proofs.Ytaakdebcagdfgaa
