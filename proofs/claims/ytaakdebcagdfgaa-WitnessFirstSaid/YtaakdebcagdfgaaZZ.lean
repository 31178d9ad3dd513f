/-
  Texts of this proof, put together: WoU, WoV, WoC, PqA. No statement is proved here.
-/
import Derived.Test.YtaakdebcagdfgaaZT
import Derived.Test.YtaakdebcagdfgaaZS
import Derived.Test.YtaakdebcagdfgaaZU
import Derived.Test.YtaakdebcagdfgaaZJ
import Derived.Test.YtaakdebcagdfgaaZG
import Derived.Test.YtaakdebcagdfgaaZP
import Derived.Test.YtaakdebcagdfgaaZY
import Derived.Test.YtaakdebcagdfgaaZF
namespace Go.Proofs.Ytaakdebcagdfgaa
open Go.RowKit
set_option linter.unusedSimpArgs false
set_option linter.unusedVariables false
theorem wo_ixN8 {ev : Operand → Value} {o : Oper} {n c : Nat} (x i : Operand) (ho : o.op = .indexAddr 58 x i) {b q : Nat} (hx : ev x = .slice (some ⟨b, 0, none⟩) n c) (hi : ev i = .int .u8 (q : Int)) (hq : q < n) (W : World) : (execOp ev o).run Try.prog W = .ok (.value (.pointer (some ⟨b, q, none⟩))) W := by
 have h1 : (q : Int) < (n : Int) := Int.ofNat_lt.2 hq
 simp only [execOp, ho, hx, hi]
 go_simp
theorem clsG_may {D : Dm} (h : MayD D) : clsG D = clsA D.cl := by
 unfold clsG
 rw [if_pos (mayDB_yes h)]
set_option maxHeartbeats 8000000 in
set_option maxRecDepth 1000000 in
theorem wSizes_any (D : Dm) (cs : List Value) (kd : Nat) (w : World) (hv : DfaV w cs D) (hm : MayD D) (hk : kd = clsA D.cl) :
  Calls Try.prog 29 #[.agg cs.toArray] w fun e w' => ∃ g, e = .returned (.slice (some ⟨g, 0, none⟩) kd kd) ∧ Blk w' g 32 (ucs kd (szK D)) ∧ w.heap.size ≤ g ∧ Below w.heap.size w w' := by
 have V0 := qH hv
 have HDS := qH hv.size
 obtain ⟨bn, on, cn, be, oe, ce, hdr⟩ := dr_of hv hm rfl hk
 have HL := qH hdr.hl
 have HCS := qH hdr.cs
 have HKD := qH hk
 have HKC := qH (show clsG D = kd by rw [clsG_may hm, hk])
 have HK2 := qH (show kd ≤ 256 by rw [hk]; exact clsA_le _)
 obtain ⟨iu, hiu, hu0, hu1, hu2⟩ := infoP inf_u64W
 have HYU := qH (show iu.bytes * kd ≤ 281474976710656 by rw [hu2]; have := HK2.out; omega)
 have HN3 := qH (show kd ≤ 9223372036854775807 by have := HK2.out; omega)
 obtain ⟨cb, hcb⟩ : ∃ cb, cb = bvs D.cl := ⟨_, rfl⟩
 have HCB := qH hcb
 have HSC := qH (show (Try.prog.info? 24).map (·.size) = some cb.length by rw [hcb]; exact size_ctab HL.out)
 clear hv hm hk hdr hcb
 go_enter Try.func29, Try.ntmps29
 go_wp2_with (first
  | ((with_reducible refine atDst 1 ?_); refine wpList_box rfl 28 _ rfl cs rfl (Below.refl w.heap.size w) (Nat.le_refl _) ?_; intro w1 hk1 hb1 hs1 _; have K1 := qH hk1; have B1 := qH hb1; clear hk1 hb1 hs1; (try simp only [Act.put, qA, qB, qC]))
  | ((with_reducible refine atDst 6 ?_); refine wpList_ldArr rfl 28 _ rfl w.heap.size rfl 28 _ _ K1.out Try.underlying28 rfl HDS.out ?_; (try simp only [Act.put, qA, qB, qC])))
 refine (mClasses_any D cs w1 (V0.out.below B1.out)).mono ?_
 rintro e w2 ⟨rfl, hb⟩
 rw [HKC.out]
 have K2 := qH (K1.out.below hb K1.out.lt)
 have B2 := qH (B1.out.trans (hb.mono B1.out.size))
 clear hb
 go_wp2_with (first
  | ((with_reducible refine atDst 8 ?_); refine wpList_mk _ rfl _ _ 58 rfl 32 iu (.int .u64 0) Try.underlying58 hiu hu0 hu1 rfl kd _ _ _ _ rfl rfl rfl rfl HYU.out HN3.out ?_; intro w3 hk hb hs; obtain ⟨gs, hgs⟩ : ∃ g, g = w2.heap.size := ⟨_, rfl⟩; rw [← hgs] at hk; rw [← hgs]; rw [ucs_no] at hk; have Z3 := qH hk; have B3 := qH (show Below gs w2 w3 from (by rw [hgs]; exact hb)); have HGS := qH hgs; have r1 := qH (show w3.rangeAt w.heap.size 0 cb from fun j v hv => by { rw [HCB.out] at hv; have hj := (List.getElem?_eq_some_iff.1 hv).1; rw [bvs_length, HL.out] at hj; rw [Nat.zero_add, (K2.out.below hb K2.out.lt).cell j, HCS.out, dcl_cl HL.out hj]; exact hv }); clear hk hb hs hgs; (try simp only [Act.put, qA, qB, qC]))
  | ((with_reducible refine atDst 10 ?_); refine wpList_load_mid rfl 24 _ rfl w.heap.size 0 rfl cb _ r1.out Try.underlying24 rfl HSC.out ?_; (try simp only [Act.put, qA, qB, qC])))
 have HWG := qH (show w.heap.size ≤ gs by rw [HGS.out]; exact B2.out.size)
 go_loopw [11] (fun bv wl => ∃ b : Nat, b ≤ 256 ∧ bv = .int .i64 (b : Int) ∧ Blk wl gs 32 (ucs kd (szQ D b)) ∧ Below gs w2 wl) (fun bv _ => 256 - (intOf bv).toNat)
 case atStart => exact ⟨0, Nat.zero_le _, rfl, Z3.out, B3.out⟩
 clear Z3 B3 r1
 obtain ⟨b, hb, rfl, hk, hbl⟩ := hrel
 have HB := qH hb
 have ZB := qH hk
 have BB := qH hbl
 obtain ⟨wb, hwb⟩ : ∃ v : World, v = wr := ⟨_, rfl⟩
 subst hwb
 clear hb hk hbl
 by_cases hb2 : b < 256
 ·have b1 : (b : Int) < 256 := Int.ofNat_lt.2 hb2
  have HB2 := qH hb2
  have HMB := qH (sub_next hb2)
  obtain ⟨c, hc⟩ : ∃ c, c = clB D b := ⟨_, rfl⟩
  have HCK := qH (show c < kd by rw [hc, HKD.out]; exact clB_lt HL.out hb2)
  have hix : ∀ w, (Instr.index 24 (.agg cb.toArray) (.int .i64 (b : Int))).run Try.prog w = .ok (.int .u8 (c : Int)) w := fun w => ix_arr cb b _ hb2 (by rw [HCB.out, hc]; exact clB_cell HL.out hb2) w
  obtain ⟨x, hx⟩ : ∃ x, x = szQ D b c := ⟨_, rfl⟩
  have cz : wb.cell? ⟨gs, c, none⟩ = some (.int .u64 (x : Int)) := by rw [ZB.out.cell c, ucs_get _ HCK.out, hx]
  have fz := ZB.out.frozen c
  have hx1 : IntKind.u64.wrap ((x : Int) + 1) = ((x + 1 : Nat) : Int) := by
   have h1 := wrapU (x + 1)
   rw [Nat.mod_eq_of_lt (by have := szQ_le D c b; rw [← hx] at this; unfold N64; omega)] at h1
   exact h1
  have e3 := wrap_one b (wl_k hb2 (Nat.le_refl _))
  have e4 := wrap_one' b (wl_k hb2 (Nat.le_refl _))
  have Z9 := qH (show Blk (wb.setCell ⟨gs, c, none⟩ (.int .u64 ((x + 1 : Nat) : Int))) gs 32 (ucs kd (szQ D (b + 1))) from by
   have h1 := ZB.out.set c (.int .u64 ((x + 1 : Nat) : Int))
   rw [ucs_set, hx, hc, ucs_congr (n := kd) (fun q _ => szQ_next D b q)] at h1
   rw [hx, hc]
   exact h1)
  have B9 := qH (BB.out.setCell (p := ⟨gs, c, none⟩) (Nat.le_refl _) (Value.int .u64 ((x + 1 : Nat) : Int)))
  clear hb2 hc hx
  go_wp2_with (first
   | ((with_reducible refine atDst 16 ?_); refine wpList_plain rfl fun K hK => wp_rd (wo_ixN8 (.tmp 14) (.tmp 15) rfl rfl rfl HCK.out _) ?_; refine hK _ _ ?_; clear hK K; (try simp only [Act.put, qA, qB, qC]))
   | ((with_reducible refine atDst 19 ?_); refine wpList_plain rfl fun K hK => wp_rd (wo_ixN8 (.tmp 14) (.tmp 15) rfl rfl rfl HCK.out _) ?_; refine hK _ _ ?_; clear hK K; (try simp only [Act.put, qA, qB, qC])))
  exact ⟨⟨b + 1, HB2.out, by congr 1, Z9.out, B9.out⟩, by simpa [intOf] using HMB.out⟩
 ·obtain rfl : 256 = b := Nat.le_antisymm (Nat.le_of_not_lt hb2) HB.out
  have b1 : ¬ ((256 : Int) < 256) := Int.lt_irrefl _
  clear hb2
  go_wp2_with fail
  go_ret
  exact ⟨gs, rfl, ZB.out, HWG.out, B2.out.trans (BB.out.mono HWG.out)⟩
set_option maxHeartbeats 16000000 in
set_option maxRecDepth 1000000 in
theorem wLonger_any (D : Dm) (cs : List Value) (n kd i gb gc : Nat) (w : World) (hv : DfaV w cs D) (hm : MayD D) (hn : n = D.next.length) (hkd : kd = clsA D.cl) (hgb : Blk w gb 32 (ucs kd (szK D))) (hgc : Blk w gc 32 (ucs n (cntR D i))) :
  Calls Try.prog 30 #[.agg cs.toArray, .slice (some ⟨gb, 0, none⟩) kd kd, .slice (some ⟨gc, 0, none⟩) n n] w fun e w' => ∃ g, e = .returned (.slice (some ⟨g, 0, none⟩) n n) ∧ Blk w' g 32 (ucs n (cntR D (i + 1))) ∧ w.heap.size ≤ g ∧ Below w.heap.size w w' := by
 have V0 := qH hv
 have HM := qH hm
 have HDS := qH hv.size
 obtain ⟨bn, on, cn, be, oe, ce, hdr⟩ := dr_of hv hm hn hkd
 have HR := qH hdr
 have HN := qH hn
 have HKD := qH hkd
 have HL := qH hdr.hl
 have HCS := qH hdr.cs
 have GB := qH hgb
 have GC := qH hgc
 have HNF := qH (show n ≤ 2000 by rw [hn]; exact hm.few)
 have HK2 := qH (show kd ≤ 256 by rw [hkd]; exact clsA_le _)
 obtain ⟨iu, hiu, hu0, hu1, hu2⟩ := infoP inf_u64W
 have HYU := qH (show iu.bytes * n ≤ 281474976710656 by rw [hu2]; have := HNF.out; omega)
 have HN3 := qH (show n ≤ 9223372036854775807 by have := HNF.out; omega)
 obtain ⟨f, hf⟩ : ∃ f, f = cntR D (i + 1) := ⟨_, rfl⟩
 have HF := qH hf
 rw [← hf]
 clear hv hm hn hkd hdr hgb hgc hf
 go_enter Try.func30, Try.ntmps30
 go_wp2_with (first
  | ((with_reducible refine atDst 3 ?_); refine wpList_box rfl 28 _ rfl cs rfl (Below.refl w.heap.size w) (Nat.le_refl _) ?_; intro w1 hk1 hb1 hs1 _; have K1 := qH hk1; have B1 := qH hb1; clear hk1 hb1 hs1; (try simp only [Act.put, qA, qB, qC]))
  | ((with_reducible refine atDst 14 ?_); refine wpList_mk _ rfl _ _ 58 rfl 32 iu (.int .u64 0) Try.underlying58 hiu hu0 hu1 rfl n _ _ _ _ rfl rfl rfl rfl HYU.out HN3.out ?_; intro w3 hk hb hs; obtain ⟨gx, hgx⟩ : ∃ g, g = w1.heap.size := ⟨_, rfl⟩; rw [← hgx] at hk; rw [← hgx]; rw [ucs_no] at hk; have X0 := qH hk; have B3 := qH (show Below gx w1 w3 from (by rw [hgx]; exact hb)); have HGX := qH hgx; have c256 : w3.cell? ⟨w.heap.size, 256, none⟩ = some (.slice (some ⟨bn, on, none⟩) n cn) := (by rw [(K1.out.below hb K1.out.lt).cell 256, HCS.out]; exact dcl_n HL.out); clear hk hb hs hgx; (try simp only [Act.put, qA, qB, qC])))
 have HWG := qH (show w.heap.size < gx by rw [HGX.out]; exact K1.out.lt)
 have X1 := qH (show Blk w3 gx 32 (ucs n (wayF f 0 0)) from by
  rw [ucs_congr (n := n) (f := wayF f 0 0) (g := fun _ => 0) fun q _ => wayF_zero f q]
  exact X0.out)
 have EN := qH (show ∀ V, Below gx w1 V → ∀ b o v, b < w.heap.size → w.cell? ⟨b, o, none⟩ = some v → V.cell? ⟨b, o, none⟩ = some v from fun V hV b o v hb hc => (hV.cell (p := ⟨b, o, none⟩) (Nat.lt_trans hb HWG.out)).trans ((B1.out.cell (p := ⟨b, o, none⟩) hb).trans hc))
 clear X0 c256
 go_loopw [18] (fun sv wl => ∃ s : Nat, s ≤ n ∧ sv = .int .i64 (s : Int) ∧ Blk wl gx 32 (ucs n (wayF f s 0)) ∧ Below gx w1 wl) (fun sv _ => n - (intOf sv).toNat)
 case atStart => exact ⟨0, Nat.zero_le _, rfl, X1.out, B3.out⟩
 clear X1 B3
 obtain ⟨s, hs, rfl, hk, hb⟩ := hrel
 have HS := qH hs
 have XS := qH hk
 have BS := qH hb
 obtain ⟨ws, hws⟩ : ∃ v : World, v = wr := ⟨_, rfl⟩
 subst hws
 clear hs hk hb
 by_cases hsn : s < n
 ·have s1 : (s : Int) < (n : Int) := Int.ofNat_lt.2 hsn
  have HSN := qH hsn
  have HMS := qH (sub_next hsn)
  obtain ⟨br, or, cr, hcr, hbr, hrr⟩ := HR.out.row s hsn
  have crow : ws.cell? ⟨bn, on + s, none⟩ = some (.slice (some ⟨br, or, none⟩) kd cr) := EN.out ws BS.out _ _ _ HR.out.hbn hcr
  have CTO := qH (show ∀ V, Below gx w1 V → ∀ k, k < kd → V.cell? ⟨br, or + k, none⟩ = some (.int .i64 (stC D s k : Int)) from fun V hV k hk => EN.out V hV _ _ _ hbr (by
   obtain ⟨b', o', he, _, hc'⟩ := hrr.at_ (by rw [ncs_len]; omega)
   injection he with he
   injection he with h1 h2
   subst h1 h2
   exact hc' k _ (ncs_get (fun c => stC D s c) hk)))
  clear hsn hcr hbr hrr
  go_wp2_with fail
  clear crow
  go_loopw [25] (fun kv wl => ∃ k : Nat, k ≤ kd ∧ kv = .int .i64 (k : Int) ∧ Blk wl gx 32 (ucs n (wayF f s (cntK2 D i s k % N64))) ∧ Below gx w1 wl) (fun kv _ => kd - (intOf kv).toNat)
  case atStart => exact ⟨0, Nat.zero_le _, rfl, XS.out, BS.out⟩
  clear XS BS
  obtain ⟨k, hk, rfl, hx, hb⟩ := hrel
  have HK := qH hk
  have XK := qH hx
  have BK := qH hb
  obtain ⟨wk, hwk⟩ : ∃ v : World, v = wr := ⟨_, rfl⟩
  subst hwk
  clear hk hx hb
  by_cases hkk : k < kd
  ·have k1 : (k : Int) < (kd : Int) := Int.ofNat_lt.2 hkk
   have HKK := qH hkk
   have HMK := qH (sub_next hkk)
   obtain ⟨q, hq⟩ : ∃ q, q = stC D s k := ⟨_, rfl⟩
   have cto : wk.cell? ⟨br, or + k, none⟩ = some (.int .i64 (q : Int)) := by rw [hq]; exact CTO.out wk BK.out k hkk
   have HQN := qH (show q < n by
    rw [hq, HN.out]
    exact stC_lt HM.out (show s < D.next.length by rw [← HN.out]; exact HSN.out) k (by rw [← HKD.out]; exact hkk))
   obtain ⟨x, hx⟩ : ∃ x, x = cntK2 D i s k % N64 := ⟨_, rfl⟩
   obtain ⟨z, hz⟩ : ∃ z, z = szK D k := ⟨_, rfl⟩
   obtain ⟨y, hy⟩ : ∃ y, y = cntR D i q := ⟨_, rfl⟩
   obtain ⟨m1, hm1⟩ : ∃ m, m = z * y % N64 := ⟨_, rfl⟩
   obtain ⟨r1, hr1⟩ : ∃ r, r = (x + m1) % N64 := ⟨_, rfl⟩
   have g1 : IntKind.u64.wrap ((z : Int) * (y : Int)) = (m1 : Int) := by rw [wrapU_mul, hm1]
   have g2 : IntKind.u64.wrap ((x : Int) + (m1 : Int)) = (r1 : Int) := by rw [wrapU_add, hr1]
   have HR1 := qH (show r1 = cntK2 D i s (k + 1) % N64 by rw [hr1, hm1, hx, hz, hy, hq]; exact cntK2_step D i s k)
   have HGW := qH XK.out.lt
   have BKX := qH (show ∀ V, Below wk.heap.size wk V → Below gx w1 V from fun V hV => BK.out.trans (hV.mono (Nat.le_of_lt HGW.out)))
   have CX := qH (show ∀ V, Below wk.heap.size wk V → V.cell? ⟨gx, s, none⟩ = some (.int .u64 (x : Int)) from fun V hV => by rw [(XK.out.below hV XK.out.lt).cell s, ucs_get _ HSN.out, wayF_at, hx])
   have CZ := qH (show ∀ V, Below wk.heap.size wk V → V.cell? ⟨gb, k, none⟩ = some (.int .u64 (z : Int)) from fun V hV => EN.out V (BKX.out V hV) _ _ _ GB.out.lt (by rw [GB.out.cell k, ucs_get _ HKK.out, hz]))
   have CY := qH (show ∀ V, Below wk.heap.size wk V → V.cell? ⟨gc, q, none⟩ = some (.int .u64 (y : Int)) from fun V hV => EN.out V (BKX.out V hV) _ _ _ GC.out.lt (by rw [GC.out.cell q, ucs_get _ HQN.out, hy]))
   clear hkk hq hx hz hy hm1 hr1
   go_wp2_with fail
   clear cto
   refine mc_start (fun _ => True) (fun V => Below wk.heap.size wk V) 15 (by kernel_rfl) (fun wd hwd => ?_)
   have hBD : Below wk.heap.size wk wd := by rw [hwd]; exact (Below.refl _ _).drew
   have XD := qH (XK.out.below hBD XK.out.lt)
   have BD := qH (BKX.out wd hBD)
   have hX : True := trivial
   have hY := hBD
   clear hwd hBD
   refine mc_take (i := 0) (oi := ⟨some 30, _, _, _, _, _⟩) (v := ?_) rfl (by kernel_rfl) (by kernel_rfl) (by kernel_rfl) (fun _ _ _ h => h) rfl hX ?_ ?_; rotate_left; (intro W hW; go_simp; try with_reducible rfl); simp only [Act.put, qA, qB, qC]
   refine mc_take (i := 1) (oi := ⟨some 31, _, _, _, _, _⟩) (v := ?_) rfl (by kernel_rfl) (by kernel_rfl) (by kernel_rfl) (fun _ _ _ h => h) rfl hX ?_ ?_; rotate_left; (intro W hW; go_simp; try with_reducible rfl); simp only [Act.put, qA, qB, qC]
   refine mc_takeS (i := 2) (oi := ⟨some 32, _, _, _, _, _⟩) (v := .pointer (some ⟨gx, s, none⟩)) rfl (by kernel_rfl) (by kernel_rfl) (by kernel_rfl) (fun _ _ _ h => h) rfl hX hY (fun V _ _ => wl_ixN (.tmp 30) (.tmp 31) rfl rfl rfl HSN.out V) ?_; simp only [Act.put, qA, qB, qC]
   refine mc_takeS (i := 3) (oi := ⟨some 33, _, _, _, _, _⟩) (v := .int .u64 (x : Int)) rfl (by kernel_rfl) (by kernel_rfl) (by kernel_rfl) (fun _ _ _ h => h) rfl hX hY (fun V _ hV => ld_u64 (.tmp 32) rfl rfl (CX.out V hV)) ?_; simp only [Act.put, qA, qB, qC]
   refine mc_take (i := 4) (oi := ⟨some 34, _, _, _, _, _⟩) (v := ?_) rfl (by kernel_rfl) (by kernel_rfl) (by kernel_rfl) (fun _ _ _ h => h) rfl hX ?_ ?_; rotate_left; (intro W hW; go_simp; try with_reducible rfl); simp only [Act.put, qA, qB, qC]
   refine mc_take (i := 5) (oi := ⟨some 35, _, _, _, _, _⟩) (v := ?_) rfl (by kernel_rfl) (by kernel_rfl) (by kernel_rfl) (fun _ _ _ h => h) rfl hX ?_ ?_; rotate_left; (intro W hW; go_simp; try with_reducible rfl); simp only [Act.put, qA, qB, qC]
   refine mc_takeS (i := 6) (oi := ⟨some 36, _, _, _, _, _⟩) (v := .pointer (some ⟨gb, k, none⟩)) rfl (by kernel_rfl) (by kernel_rfl) (by kernel_rfl) (fun _ _ _ h => h) rfl hX hY (fun V _ _ => wl_ixN (.tmp 34) (.tmp 35) rfl rfl rfl HKK.out V) ?_; simp only [Act.put, qA, qB, qC]
   refine mc_takeS (i := 7) (oi := ⟨some 37, _, _, _, _, _⟩) (v := .int .u64 (z : Int)) rfl (by kernel_rfl) (by kernel_rfl) (by kernel_rfl) (fun _ _ _ h => h) rfl hX hY (fun V _ hV => ld_u64 (.tmp 36) rfl rfl (CZ.out V hV)) ?_; simp only [Act.put, qA, qB, qC]
   refine mc_take (i := 8) (oi := ⟨some 38, _, _, _, _, _⟩) (v := ?_) rfl (by kernel_rfl) (by kernel_rfl) (by kernel_rfl) (fun _ _ _ h => h) rfl hX ?_ ?_; rotate_left; (intro W hW; go_simp; try with_reducible rfl); simp only [Act.put, qA, qB, qC]
   refine mc_take (i := 9) (oi := ⟨some 39, _, _, _, _, _⟩) (v := ?_) rfl (by kernel_rfl) (by kernel_rfl) (by kernel_rfl) (fun _ _ _ h => h) rfl hX ?_ ?_; rotate_left; (intro W hW; go_simp; try with_reducible rfl); simp only [Act.put, qA, qB, qC]
   refine mc_takeS (i := 10) (oi := ⟨some 40, _, _, _, _, _⟩) (v := .pointer (some ⟨gc, q, none⟩)) rfl (by kernel_rfl) (by kernel_rfl) (by kernel_rfl) (fun _ _ _ h => h) rfl hX hY (fun V _ _ => wl_ixN (.tmp 38) (.tmp 39) rfl rfl rfl HQN.out V) ?_; simp only [Act.put, qA, qB, qC]
   refine mc_takeS (i := 11) (oi := ⟨some 41, _, _, _, _, _⟩) (v := .int .u64 (y : Int)) rfl (by kernel_rfl) (by kernel_rfl) (by kernel_rfl) (fun _ _ _ h => h) rfl hX hY (fun V _ hV => ld_u64 (.tmp 40) rfl rfl (CY.out V hV)) ?_; simp only [Act.put, qA, qB, qC]
   refine mc_take (i := 12) (oi := ⟨some 42, _, _, _, _, _⟩) (v := ?_) rfl (by kernel_rfl) (by kernel_rfl) (by kernel_rfl) (fun _ _ _ h => h) rfl hX ?_ ?_; rotate_left; (intro W hW; go_simp; try with_reducible rfl); simp only [Act.put, qA, qB, qC]
   refine mc_take (i := 13) (oi := ⟨some 43, _, _, _, _, _⟩) (v := ?_) rfl (by kernel_rfl) (by kernel_rfl) (by kernel_rfl) (fun _ _ _ h => h) rfl hX ?_ ?_; rotate_left; (intro W hW; go_simp; try with_reducible rfl); simp only [Act.put, qA, qB, qC]
   refine mc_takeS (i := 14) (oi := ⟨some 44, _, _, _, _, _⟩) (v := .pointer (some ⟨gx, s, none⟩)) rfl (by kernel_rfl) (by kernel_rfl) (by kernel_rfl) (fun _ _ _ h => h) rfl hX hY (fun V _ _ => wl_ixN (.tmp 30) (.tmp 31) rfl rfl rfl HSN.out V) ?_; simp only [Act.put, qA, qB, qC]
   refine mc_last (i := 15) (o := ⟨none, _, _, _, _, _⟩) rfl (by kernel_rfl) rfl (fun K hK => ?_)
   refine wp_stU (.tmp 44) (.tmp 43) rfl rfl rfl ((XD.out.cell s).trans (ucs_get _ HSN.out)) (XD.out.frozen s) ?_
   refine hK _ _ trivial ?_
   clear hK K hX
   (try simp only [Act.put, qA, qB, qC])
   refine wpAnyC_done (by kernel_rfl) ?_ _
   have XN := qH (show Blk (wd.setCell ⟨gx, s, none⟩ (.int .u64 (r1 : Int))) gx 32 (ucs n (wayF f s (cntK2 D i s (k + 1) % N64))) from by
    have h1 := XD.out.set s (.int .u64 (r1 : Int))
    rw [ucs_set, ucs_congr (n := n) (fun t _ => wayF_upd f s _ r1 t), HR1.out] at h1
    rw [HR1.out]
    exact h1)
   have BN := qH (BD.out.setCell (p := ⟨gx, s, none⟩) (Nat.le_refl _) (Value.int .u64 (r1 : Int)))
   have e3 := wrap_one k (wl_k HKK.out HK2.out)
   have e4 := wrap_one' k (wl_k HKK.out HK2.out)
   clear g1 g2
   go_wp2_with fail
   exact ⟨⟨k + 1, HKK.out, by congr 1, XN.out, BN.out⟩, by simpa [intOf] using HMK.out⟩
  ·obtain rfl : k = kd := Nat.le_antisymm HK.out (Nat.not_lt.1 hkk)
   have k1 : ¬ ((k : Int) < (k : Int)) := Int.lt_irrefl _
   have XE := qH (show Blk wk gx 32 (ucs n (wayF f (s + 1) 0)) from by
    rw [ucs_congr (n := n) (f := wayF f (s + 1) 0) (g := wayF f s (cntK2 D i s k % N64)) fun t _ => by rw [← wayF_next, HF.out, ← cntR_next HL.out, ← HKD.out]]
    exact XK.out)
   have e3 := wrap_one s (wl_n HSN.out HNF.out)
   have e4 := wrap_one' s (wl_n HSN.out HNF.out)
   clear hkk
   go_wp2_with fail
   exact ⟨⟨s + 1, HSN.out, by congr 1, XE.out, BK.out⟩, by simpa [intOf] using HMS.out⟩
 ·obtain rfl : s = n := Nat.le_antisymm HS.out (Nat.not_lt.1 hsn)
  have s1 : ¬ ((s : Int) < (s : Int)) := Int.lt_irrefl _
  have XA := qH (show Blk ws gx 32 (ucs s f) from by
   rw [ucs_congr (n := s) (f := f) (g := wayF f s 0) fun t ht => (wayF_all f ht).symm]
   exact XS.out)
  clear hsn
  go_wp2_with fail
  go_ret
  exact ⟨gx, rfl, XA.out, Nat.le_of_lt HWG.out, B1.out.trans (BS.out.mono (Nat.le_of_lt HWG.out))⟩
theorem cntW_natV (D : Dm) {n : Nat} (h : n ≤ 1000) : cntW D (n : Int) = cntR D n 0 := by
 unfold cntW cntR
 rw [if_neg (by omega), Int.toNat_natCast, Nat.min_eq_left h]
theorem cntW_negV (D : Dm) {n : Int} (h : n < 0) : cntW D n = 0 := by
 unfold cntW
 rw [if_pos h]
set_option maxHeartbeats 16000000 in
set_option maxRecDepth 1000000 in
theorem wCount_any (D : Dm) (cs : List Value) (n1 : Int) (w : World) (h0 : -1 ≤ n1) (h1 : n1 ≤ 1000) (hv : DfaV w cs D) (hm : MayD D) :
  Calls Try.prog 13 #[.agg cs.toArray, .int .i64 n1] w fun e w' => e = .returned (.int .u64 (cntW D n1 : Int)) ∧ Below w.heap.size w w' := by
 by_cases hneg : n1 < 0
 ·rw [cntW_negV D hneg]
  clear h0 h1 hv hm
  go_enter Try.func13, Try.ntmps13
  go_wp2_with ((with_reducible refine atDst 2 ?_); refine wpList_box rfl 28 _ rfl cs rfl (Below.refl w.heap.size w) (Nat.le_refl _) ?_; intro w1 hk1 hb1 hs1 _; have B1 := qH hb1; clear hk1 hb1 hs1; (try simp only [Act.put, qA, qB, qC]))
  go_ret
  exact ⟨rfl, B1.out⟩
 ·obtain ⟨n0, hn0⟩ : ∃ n0 : Nat, n1 = (n0 : Int) := ⟨n1.toNat, by omega⟩
  subst hn0
  rw [cntW_natV D (by omega)]
  have V0 := qH hv
  have HM := qH hm
  have HDS := qH hv.size
  obtain ⟨n, hn⟩ : ∃ n, n = D.next.length := ⟨_, rfl⟩
  obtain ⟨kd, hkd⟩ : ∃ k, k = clsA D.cl := ⟨_, rfl⟩
  obtain ⟨bn, on, cn, be, oe, ce, hdr⟩ := dr_of hv hm hn hkd
  have HR := qH hdr
  have HN := qH hn
  have HKD := qH hkd
  have HL := qH hdr.hl
  have HCS := qH hdr.cs
  have HNP := qH (show 0 < n by rw [hn]; exact hm.pos)
  have HNF := qH (show n ≤ 2000 by rw [hn]; exact hm.few)
  have HMY := qH (mayDB_yes hm)
  have HN0 := qH (show n0 ≤ 1000 by omega)
  have hmin : min (n0 : Int) 1000 = (n0 : Int) := by omega
  obtain ⟨iu, hiu, hu0, hu1, hu2⟩ := infoP inf_u64W
  have HYU := qH (show iu.bytes * n ≤ 281474976710656 by rw [hu2]; have := HNF.out; omega)
  have HN3 := qH (show n ≤ 9223372036854775807 by have := HNF.out; omega)
  obtain ⟨ans, hans⟩ : ∃ a, a = cntR D n0 0 := ⟨_, rfl⟩
  have HANS := qH hans
  rw [← hans]
  clear h0 h1 hv hm hn hkd hdr hans
  go_enter Try.func13, Try.ntmps13
  go_wp2_with (first
   | ((with_reducible refine atDst 2 ?_); refine wpList_box rfl 28 _ rfl cs rfl (Below.refl w.heap.size w) (Nat.le_refl _) ?_; intro w1 hk1 hb1 hs1 _; have K1 := qH hk1; have B1 := qH hb1; clear hk1 hb1 hs1; (try simp only [Act.put, qA, qB, qC]))
   | ((with_reducible refine atDst 12 ?_); refine wpList_ldArr rfl 28 _ rfl w.heap.size rfl 28 _ _ K1.out Try.underlying28 rfl HDS.out ?_; (try simp only [Act.put, qA, qB, qC])))
  refine (mMay_any D cs w1 (V0.out.below B1.out)).mono ?_
  rintro e w2 ⟨rfl, hb⟩
  rw [HMY.out]
  have K2 := qH (K1.out.below hb K1.out.lt)
  have B2 := qH (B1.out.trans (hb.mono B1.out.size))
  clear hb hneg
  go_wp2_with ((with_reducible refine atDst 16 ?_); refine wpList_ldArr rfl 28 _ rfl w.heap.size rfl 28 _ _ K2.out Try.underlying28 rfl HDS.out ?_; (try simp only [Act.put, qA, qB, qC]))
  refine (wSizes_any D cs kd w2 (V0.out.below B2.out) HM.out HKD.out).mono ?_
  rintro e w3 ⟨gs, rfl, hgs, hgl, hb⟩
  have GS := qH hgs
  have K3 := qH (K2.out.below hb K2.out.lt)
  have B3 := qH (B2.out.trans (hb.mono B2.out.size))
  have c256 : w3.cell? ⟨w.heap.size, 256, none⟩ = some (.slice (some ⟨bn, on, none⟩) n cn) := by rw [K3.out.cell 256, HCS.out]; exact dcl_n HL.out
  clear hb hgs hgl
  go_wp2_with ((with_reducible refine atDst 21 ?_); refine wpList_mk _ rfl _ _ 58 rfl 32 iu (.int .u64 0) Try.underlying58 hiu hu0 hu1 rfl n _ _ _ _ rfl rfl rfl rfl HYU.out HN3.out ?_; intro w4 hk hb hs; clear c256; obtain ⟨gc, hgc⟩ : ∃ g, g = w3.heap.size := ⟨_, rfl⟩; rw [← hgc] at hk; rw [← hgc]; rw [ucs_no] at hk; have X0 := qH hk; have B4 := qH (show Below gc w3 w4 from (by rw [hgc]; exact hb)); have HGC := qH hgc; have c257 : w4.cell? ⟨w.heap.size, 257, none⟩ = some (.slice (some ⟨be, oe, none⟩) n ce) := (by rw [(K3.out.below hb K3.out.lt).cell 257, HCS.out]; exact dcl_e HL.out); clear hk hb hs hgc; (try simp only [Act.put, qA, qB, qC]))
  have HWG := qH (show w.heap.size < gc by rw [HGC.out]; exact K3.out.lt)
  have HSG := qH (show gs < gc by rw [HGC.out]; exact GS.out.lt)
  have X1 := qH (show Blk w4 gc 32 (ucs n (wayF (cntR D 0) 0 0)) from by
   rw [ucs_congr (n := n) (f := wayF (cntR D 0) 0 0) (g := fun _ => 0) fun q _ => wayF_zero _ q]
   exact X0.out)
  have EN := qH (show ∀ V, Below gc w3 V → ∀ b o v, b < w.heap.size → w.cell? ⟨b, o, none⟩ = some v → V.cell? ⟨b, o, none⟩ = some v from fun V hV b o v hb hc => (hV.cell (p := ⟨b, o, none⟩) (Nat.lt_trans hb HWG.out)).trans ((B3.out.cell (p := ⟨b, o, none⟩) hb).trans hc))
  clear X0 c257
  go_loopw [25] (fun sv wl => ∃ s : Nat, s ≤ n ∧ sv = .int .i64 (s : Int) ∧ Blk wl gc 32 (ucs n (wayF (cntR D 0) s 0)) ∧ Below gc w3 wl) (fun sv _ => n - (intOf sv).toNat)
  case atStart => exact ⟨0, Nat.zero_le _, rfl, X1.out, B4.out⟩
  clear X1 B4
  obtain ⟨s, hs, rfl, hk, hb⟩ := hrel
  have HS := qH hs
  have XS := qH hk
  have BS := qH hb
  obtain ⟨ws, hws⟩ : ∃ v : World, v = wr := ⟨_, rfl⟩
  subst hws
  clear hs hk hb
  by_cases hsn : s < n
  ·have s1 : (s : Int) < (n : Int) := Int.ofNat_lt.2 hsn
   have HSN := qH hsn
   have HMS := qH (sub_next hsn)
   obtain ⟨en, hen⟩ : ∃ b, D.ends.getD s false = b := ⟨_, rfl⟩
   have cend : ws.cell? ⟨be, oe + s, none⟩ = some (.bool en) := EN.out ws BS.out _ _ _ HR.out.hbe (by rw [HR.out.ends s hsn, hen])
   have HEN := qH (show cntR D 0 s = if en = true then 1 else 0 by rw [cntR_zero, hen])
   have e3 := wrap_one s (wl_n hsn HNF.out)
   have e4 := wrap_one' s (wl_n hsn HNF.out)
   clear hsn hen
   cases en with
   | true =>
    have cz : ws.cell? ⟨gc, s, none⟩ = some (.int .u64 0) := by rw [XS.out.cell s, ucs_get _ HSN.out, wayF_at]; rfl
    have fz := XS.out.frozen s
    have X9 := qH (show Blk (ws.setCell ⟨gc, s, none⟩ (.int .u64 1)) gc 32 (ucs n (wayF (cntR D 0) (s + 1) 0)) from by
     have h1 := XS.out.set s (.int .u64 ((1 : Nat) : Int))
     rw [ucs_set, ucs_congr (n := n) (g := wayF (cntR D 0) (s + 1) 0) (fun t _ => by rw [wayF_upd, ← wayF_next, HEN.out, if_pos rfl])] at h1
     exact h1)
    have B9 := qH (BS.out.setCell (p := ⟨gc, s, none⟩) (Nat.le_refl _) (Value.int .u64 1))
    go_wp2_with fail
    exact ⟨⟨s + 1, HSN.out, by congr 1, X9.out, B9.out⟩, by simpa [intOf] using HMS.out⟩
   | false =>
    have X9 := qH (show Blk ws gc 32 (ucs n (wayF (cntR D 0) (s + 1) 0)) from by
     rw [ucs_congr (n := n) (f := wayF (cntR D 0) (s + 1) 0) (g := wayF (cntR D 0) s 0) fun t _ => by rw [← wayF_next, HEN.out, if_neg (by decide)]]
     exact XS.out)
    go_wp2_with fail
    exact ⟨⟨s + 1, HSN.out, by congr 1, X9.out, BS.out⟩, by simpa [intOf] using HMS.out⟩
  ·obtain rfl : s = n := Nat.le_antisymm HS.out (Nat.not_lt.1 hsn)
   have s1 : ¬ ((s : Int) < (s : Int)) := Int.lt_irrefl _
   have XA := qH (show Blk ws gc 32 (ucs s (cntR D 0)) from by
    rw [ucs_congr (n := s) (f := cntR D 0) (g := wayF (cntR D 0) s 0) fun t ht => (wayF_all _ ht).symm]
    exact XS.out)
   clear hsn
   go_wp2_with fail
   go_loopw [6, 37] (fun gv iv wl => ∃ (i g : Nat), i ≤ n0 ∧ gv = .slice (some ⟨g, 0, none⟩) s s ∧ iv = .int .i64 (i : Int) ∧ Blk wl g 32 (ucs s (cntR D i)) ∧ Below gc w3 wl) (fun _ iv _ => n0 - (intOf iv).toNat)
   case atStart => exact ⟨0, gc, Nat.zero_le _, rfl, rfl, XA.out, BS.out⟩
   clear XA BS
   obtain ⟨i, g, hi, rfl, rfl, hk, hb⟩ := hrel
   have HI := qH hi
   have XI := qH hk
   have BI := qH hb
   obtain ⟨wi, hwi⟩ : ∃ v : World, v = wr := ⟨_, rfl⟩
   subst hwi
   clear hi hk hb
   by_cases hin : i < n0
   ·have i1 : (i : Int) < (n0 : Int) := Int.ofNat_lt.2 hin
    have HIN := qH hin
    have HMI := qH (sub_next hin)
    have KI := qH (K3.out.below BI.out HWG.out)
    have GSI := qH (GS.out.below BI.out HSG.out)
    have e3 := wrap_one i (wl_m hin HN0.out)
    have e4 := wrap_one' i (wl_m hin HN0.out)
    clear hin
    go_wp2_with ((with_reducible refine atDst 39 ?_); refine wpList_ldArr rfl 28 _ rfl w.heap.size rfl 28 _ _ KI.out Try.underlying28 rfl HDS.out ?_; (try simp only [Act.put, qA, qB, qC]))
    refine (wLonger_any D cs s kd i gs g wi (V0.out.below (B3.out.trans (BI.out.mono (Nat.le_of_lt HWG.out)))) HM.out HN.out HKD.out GSI.out XI.out).mono ?_
    rintro e w7 ⟨g7, rfl, hg7, hgl, hb⟩
    have X7 := qH hg7
    have B7 := qH (BI.out.trans (hb.mono (show gc ≤ wi.heap.size by rw [HGC.out]; exact BI.out.size)))
    clear hb hg7 hgl
    go_wp2_with fail
    exact ⟨⟨i + 1, g7, HIN.out, rfl, by congr 1, X7.out, B7.out⟩, by simpa [intOf] using HMI.out⟩
   ·obtain rfl : i = n0 := Nat.le_antisymm HI.out (Nat.not_lt.1 hin)
    have i1 : ¬ ((i : Int) < (i : Int)) := Int.lt_irrefl _
    have p0 : (0 : Int) < (s : Int) := Int.ofNat_lt.2 HNP.out
    have c0 : wi.cell? ⟨g, 0, none⟩ = some (.int .u64 (ans : Int)) := by rw [XI.out.cell 0, ucs_get _ HNP.out, HANS.out]
    clear hin
    go_wp2_with fail
    go_ret
    exact ⟨rfl, B3.out.trans (BI.out.mono (Nat.le_of_lt HWG.out))⟩
theorem witC : WitC where
 shortest D cs w hv hm _ := wShortest_any D cs w hv hm
 count D cs n w h0 h1 hv hm _ := wCount_any D cs n w h0 h1 hv hm
 words D cs n m w _ _ _ h3 hv hm ha := wWords_any D cs n m w h3 hv hm ha
section
variable {α : Type} [DecidableEq α]
def fG (ps : List (Nat → Bool)) (g : α → Nat → α) (x : α) : List α := (firstJ ps 256).map fun b => g x b
omit [DecidableEq α] in
theorem fG_len (ps : List (Nat → Bool)) (g : α → Nat → α) (x : α) : (fG ps g x).length = (firstJ ps 256).length := by simp [fG]
def genN (ps : List (Nat → Bool)) (g : α → Nat → α) (x0 : α) (p : α → Bool) (n : Nat) : Dm := ⟨ctab ps 256, rowsI (fG ps g) (Lq (fG ps g) x0 n) n, endsI p (Lq (fG ps g) x0 n) n⟩
def OneG (ps : List (Nat → Bool)) (g : α → Nat → α) : Prop := ∀ x b c, b < 256 → c < 256 → alikeS ps b c = true → g x b = g x c
variable {ps : List (Nat → Bool)} {g : α → Nat → α} {x0 : α} {p : α → Bool} {n : Nat}
omit [DecidableEq α] in
theorem fG_cls (hg : OneG ps g) (x : α) {b : Nat} (hb : b < 256) : (fG ps g x)[clsOf ps b]? = some (g x b) := by
 have h := clsOf_lt ps hb
 have h1 := (clsOf_is ps 256 b hb (clsOf ps b) h).1 rfl
 have hc := firstJ_lt ps 256 _ (List.getElem_mem h)
 unfold fG
 rw [List.getElem?_map, List.getElem?_eq_getElem h, Option.map_some, hg x _ b hc hb h1]
theorem genN_clE (ps : List (Nat → Bool)) (g : α → Nat → α) (x0 : α) (p : α → Bool) (n : Nat) : (genN ps g x0 p n).cl = ctab ps 256 := rfl
theorem genN_cls (ps : List (Nat → Bool)) (g : α → Nat → α) (x0 : α) (p : α → Bool) (n : Nat) : clsA (genN ps g x0 p n).cl = (firstJ ps 256).length := by
 rw [genN_clE]
 exact clsA_ctabN ps 256 rfl
theorem genN_len (h : Fit (fG ps g) x0 n) : (genN ps g x0 p n).next.length = n := rowsI_len (Nat.le_of_eq (show (Lq (fG ps g) x0 n).length = n from h).symm)
theorem genN_ends (h : Fit (fG ps g) x0 n) : (genN ps g x0 p n).ends.length = n := endsI_len (Nat.le_of_eq (show (Lq (fG ps g) x0 n).length = n from h).symm)
theorem genN_at {i : Nat} {x : α} (hx : (Lq (fG ps g) x0 n)[i]? = some x) (hi : i < n) : (genN ps g x0 p n).next[i]? = some (rowI (Lq (fG ps g) x0 n) (fG ps g x)) := by
 show (((Lq (fG ps g) x0 n).take n).map fun y => rowI (Lq (fG ps g) x0 n) (fG ps g y))[i]? = _
 rw [List.getElem?_map, List.getElem?_take_of_lt hi, hx]
 rfl
theorem genN_end {i : Nat} {x : α} (hx : (Lq (fG ps g) x0 n)[i]? = some x) (hi : i < n) : (genN ps g x0 p n).ends[i]? = some (p x) := by
 show (((Lq (fG ps g) x0 n).take n).map p)[i]? = _
 rw [List.getElem?_map, List.getElem?_take_of_lt hi, hx]
 rfl
theorem genN_key {r : List Int} (hr : r ∈ (genN ps g x0 p n).next) : ∃ x ∈ Lq (fG ps g) x0 n, r = rowI (Lq (fG ps g) x0 n) (fG ps g x) := by
 obtain ⟨x, hx, he⟩ := List.mem_map.1 (show r ∈ ((Lq (fG ps g) x0 n).take n).map (fun y => rowI (Lq (fG ps g) x0 n) (fG ps g y)) from hr)
 exact ⟨x, List.mem_of_mem_take hx, he.symm⟩
theorem fitG_pos (h : Fit (fG ps g) x0 n) : 1 ≤ n := by
 have h1 := Lq_pos (f := fG ps g) (x0 := x0) n
 unfold Fit at h
 omega
theorem genN_may (h : Fit (fG ps g) x0 n) (hn : n ≤ 2000) : MayD (genN ps g x0 p n) := by
 have hl := genN_len (p := p) h
 refine ⟨by rw [hl]; exact fitG_pos h, by rw [hl]; exact hn, by rw [hl]; exact genN_ends h, fun r hr => ?_, fun r hr x hx => ?_⟩
 ·obtain ⟨y, _, he⟩ := genN_key hr
  rw [he, rowI_len, fG_len, genN_cls]
 ·obtain ⟨y, hm, he⟩ := genN_key hr
  rw [he] at hx
  obtain ⟨q, hq, he2⟩ := List.mem_map.1 (show x ∈ (fG ps g y).map (fun q => (ixOf (Lq (fG ps g) x0 n) q : Int)) from hx)
  have h1 := idx_lt (fit_closed h hm q hq)
  rw [hl, ← he2]
  unfold Fit at h
  omega
theorem stD_genN (hg : OneG ps g) (h : Fit (fG ps g) x0 n) {i : Nat} {x : α} (hx : (Lq (fG ps g) x0 n)[i]? = some x) (b : UInt8) :
  (Lq (fG ps g) x0 n)[stD (genN ps g x0 p n) i b]? = some (g x b.toNat) := by
 have hi : i < n := by have h1 := (List.getElem?_eq_some_iff.1 hx).1; unfold Fit at h; omega
 have hb := b.toNat_lt
 have hs := fG_cls hg x hb
 have hm : g x b.toNat ∈ Lq (fG ps g) x0 n := fit_closed h (List.mem_of_getElem? hx) _ (List.mem_of_getElem? hs)
 have hc : (ctab ps 256).getD b.toNat 0 = UInt8.ofNat (clsOf ps b.toNat) := by
  rw [List.getD_eq_getElem?_getD, ctab_at ps hb]
  rfl
 have e : stD (genN ps g x0 p n) i b = ixOf (Lq (fG ps g) x0 n) (g x b.toNat) := by
  unfold stD
  rw [genN_at hx hi, genN_clE, Option.getD_some, hc, ofNat_toNat (clsOf_256 _ hb), List.getD_eq_getElem?_getD]
  have h2 : (rowI (Lq (fG ps g) x0 n) (fG ps g x))[clsOf ps b.toNat]? = some ((ixOf (Lq (fG ps g) x0 n) (g x b.toNat) : Nat) : Int) := by
   unfold rowI
   rw [List.getElem?_map, hs, Option.map_some]
  rw [h2]
  rfl
 rw [e]
 exact idx_get hm
theorem toD_genN (hg : OneG ps g) (h : Fit (fG ps g) x0 n) : ∀ (w : List UInt8) (i : Nat) (x : α), (Lq (fG ps g) x0 n)[i]? = some x → (Lq (fG ps g) x0 n)[toD (genN ps g x0 p n) i w]? = some (w.foldl (fun x b => g x b.toNat) x)
 | [], i, x, hx => hx
 | b :: w, i, x, hx => toD_genN hg h w _ _ (stD_genN hg h hx b)
theorem accD_genN (hg : OneG ps g) (h : Fit (fG ps g) x0 n) (w : List UInt8) : accD (genN ps g x0 p n) 0 w = p (w.foldl (fun x b => g x b.toNat) x0) := by
 have h1 := toD_genN (p := p) hg h w 0 x0 (Lq_zero n)
 have hi : toD (genN ps g x0 p n) 0 w < n := by have h2 := (List.getElem?_eq_some_iff.1 h1).1; unfold Fit at h; omega
 unfold accD
 rw [List.getD_eq_getElem?_getD, genN_end h1 hi]
 rfl
end
/-! ### two machines at once -/
def psP (A B : Dm) : List (Nat → Bool) := (List.range 256).map fun c b => decide (A.cl.getD b 0 = A.cl.getD c 0 ∧ B.cl.getD b 0 = B.cl.getD c 0)
theorem psP_alike (A B : Dm) {b c : Nat} (hb : b < 256) (hc : c < 256) : alikeS (psP A B) b c = true ↔ A.cl.getD b 0 = A.cl.getD c 0 ∧ B.cl.getD b 0 = B.cl.getD c 0 := by
 rw [alikeS_iff]
 constructor
 ·intro h
  have h1 := h _ (List.mem_map.2 ⟨c, List.mem_range.2 hc, rfl⟩)
  have h2 : decide (A.cl.getD b 0 = A.cl.getD c 0 ∧ B.cl.getD b 0 = B.cl.getD c 0) = decide (A.cl.getD c 0 = A.cl.getD c 0 ∧ B.cl.getD c 0 = B.cl.getD c 0) := h1
  rw [decide_eq_true (⟨rfl, rfl⟩ : A.cl.getD c 0 = A.cl.getD c 0 ∧ B.cl.getD c 0 = B.cl.getD c 0)] at h2
  exact of_decide_eq_true h2
 ·rintro ⟨h1, h2⟩ p hp
  obtain ⟨d, _, rfl⟩ := List.mem_map.1 hp
  show decide (A.cl.getD b 0 = A.cl.getD d 0 ∧ B.cl.getD b 0 = B.cl.getD d 0) = decide (A.cl.getD c 0 = A.cl.getD d 0 ∧ B.cl.getD c 0 = B.cl.getD d 0)
  rw [h1, h2]
def gP (A B : Dm) (x : Nat × Nat) (b : Nat) : Nat × Nat := (stD A x.1 (UInt8.ofNat b), stD B x.2 (UInt8.ofNat b))
theorem gP_one (A B : Dm) : OneG (psP A B) (gP A B) := fun x b c hb hc h => by
 obtain ⟨h1, h2⟩ := (psP_alike A B hb hc).1 h
 unfold gP stD
 rw [ofNat_toNat hb, ofNat_toNat hc, h1, h2]
def opP (how : Int) (x y : Bool) : Bool := if how = 1 then x && y else if how = 2 then x || y else if how = 3 then x && !y else x != y
def endP (A B : Dm) (how : Int) (x : Nat × Nat) : Bool := opP how (A.ends.getD x.1 false) (B.ends.getD x.2 false)
def QPr (A B : Dm) (r : Nat) : List (Nat × Nat) := Lq (fG (psP A B) (gP A B)) (0, 0) r
def FitPr (A B : Dm) (n : Nat) : Prop := Fit (fG (psP A B) (gP A B)) (0, 0) n
def prdN (A B : Dm) (how : Int) (n : Nat) : Dm := genN (psP A B) (gP A B) (0, 0) (endP A B how) n
theorem fold_gP (A B : Dm) : ∀ (w : List UInt8) (x : Nat × Nat), w.foldl (fun x b => gP A B x b.toNat) x = (toD A x.1 w, toD B x.2 w)
 | [], _ => rfl
 | b :: w, x => by
  rw [List.foldl_cons, fold_gP A B w]
  unfold gP
  rw [UInt8.ofNat_toNat]
  rfl
theorem acc_prd {A B : Dm} {how : Int} {n : Nat} (h : FitPr A B n) (w : List UInt8) : accD (prdN A B how n) 0 w = opP how (accD A 0 w) (accD B 0 w) := by
 unfold prdN
 rw [accD_genN (gP_one A B) h w, fold_gP]
 rfl
theorem nodup_pairs {m n : Nat} {L : List (Nat × Nat)} (hn : L.Nodup) (h : ∀ x ∈ L, x.1 < m ∧ x.2 < n) : L.length ≤ m * n := by
 have h1 := nodup_sub (L.map fun x => x.1 * n + x.2) (List.range (m * n)) ?_ ?_
 ·rw [List.length_map, List.length_range] at h1
  exact h1
 ·rw [List.Nodup, List.pairwise_map]
  refine (List.Pairwise.and_mem.1 hn).imp fun {a b} hab he => hab.2.2 ?_
  obtain ⟨a1, a2⟩ := h a hab.1
  obtain ⟨b1, b2⟩ := h b hab.2.1
  have hn0 : 0 < n := by omega
  have e1 : a.1 = b.1 := by
   have h2 := congrArg (· / n) he
   simp only [Nat.mul_comm _ n, Nat.mul_add_div hn0, Nat.div_eq_of_lt a2, Nat.div_eq_of_lt b2] at h2
   omega
  have e2 : a.2 = b.2 := by
   rw [e1] at he
   omega
  exact Prod.ext e1 e2
 ·intro y hy
  obtain ⟨x, hx, rfl⟩ := List.mem_map.1 hy
  obtain ⟨x1, x2⟩ := h x hx
  rw [List.mem_range]
  have h3 : (x.1 + 1) * n ≤ m * n := Nat.mul_le_mul_right n x1
  rw [Nat.add_mul, Nat.one_mul] at h3
  omega
theorem prd_rng {A B : Dm} (ha : MayD A) (hla : A.cl.length = 256) (hb : MayD B) (hlb : B.cl.length = 256) (r : Nat) : ∀ x ∈ QPr A B r, x.1 < A.next.length ∧ x.2 < B.next.length :=
 Lq_all (p := fun x : Nat × Nat => x.1 < A.next.length ∧ x.2 < B.next.length) ⟨by have := ha.pos; omega, by have := hb.pos; omega⟩ (fun x hx y hy => by
  obtain ⟨b, _, rfl⟩ := List.mem_map.1 hy
  exact ⟨toD_ltA ha hla [UInt8.ofNat b] x.1 hx.1, toD_ltA hb hlb [UInt8.ofNat b] x.2 hx.2⟩) r
theorem prd_fit {A B : Dm} (ha : MayD A) (hla : A.cl.length = 256) (hb : MayD B) (hlb : B.cl.length = 256) : ∃ n, n ≤ A.next.length * B.next.length ∧ FitPr A B n :=
 fit_ex fun r => nodup_pairs (Lq_nodup r) (prd_rng ha hla hb hlb r)
end Go.Proofs.Ytaakdebcagdfgaa
