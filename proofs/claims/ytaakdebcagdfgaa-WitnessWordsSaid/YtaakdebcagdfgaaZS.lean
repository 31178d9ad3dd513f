/-
  Texts of this proof, put together: WlA. No statement is proved here.
-/
import Derived.Test.YtaakdebcagdfgaaZO
import Derived.Test.YtaakdebcagdfgaaZJ
import Derived.Test.YtaakdebcagdfgaaZD
import Derived.Test.YtaakdebcagdfgaaZC
namespace Go.Proofs.Ytaakdebcagdfgaa
open Go.RowKit
set_option linter.unusedSimpArgs false
set_option linter.unusedVariables false
theorem inf_u256 : (Try.prog.info? 61).map (fun i => i.zero) = some (some (.agg (ucs 256 fun _ => 0).toArray)) := by kernel_rfl
theorem inf_u64W : (Try.prog.info? 32).map (fun i => (i.zero, i.size, i.bytes)) = some (some (.int .u64 0), 1, 8) := by kernel_rfl
section
variable {ev : Operand → Value} {o : Oper} {n c : Nat}
theorem wl_ixN (x i : Operand) (ho : o.op = .indexAddr 58 x i) {b q : Nat} (hx : ev x = .slice (some ⟨b, 0, none⟩) n c) (hi : ev i = .int .i64 (q : Int)) (hq : q < n) (W : World) : (execOp ev o).run Try.prog W = .ok (.value (.pointer (some ⟨b, q, none⟩))) W := by
 have h1 : (q : Int) < (n : Int) := Int.ofNat_lt.2 hq
 simp only [execOp, ho, hx, hi]
 go_simp
theorem wl_ixA (x i : Operand) (ho : o.op = .indexAddr 61 x i) {b q : Nat} (hx : ev x = .pointer (some ⟨b, 0, none⟩)) (hi : ev i = .int .i64 (q : Int)) (hq : q < 256) (W : World) : (execOp ev o).run Try.prog W = .ok (.value (.pointer (some ⟨b, q, none⟩))) W := by
 have h0 : (0 : Int) ≤ (q : Int) := by omega
 have h1 : (q : Int) < 256 := by omega
 simp only [execOp, ho, hx, hi]
 go_simp
end
theorem wl_n {i n : Nat} (h : i < n) (hn : n ≤ 2000) : i ≤ 4611686018427387904 := by omega
theorem wl_m {i m : Nat} (h : i < m) (hn : m ≤ 1000) : i ≤ 4611686018427387904 := by omega
theorem wl_k {i m : Nat} (h : i < m) (hn : m ≤ 256) : i ≤ 4611686018427387904 := by omega
set_option maxHeartbeats 16000000 in
set_option maxRecDepth 1000000 in
theorem refCount11_any (D : Dm) (cs : List Value) (n0 : Nat) (w : World) (hv : DfaV w cs D) (hm : MayD D) :
  Calls Try.prog 14 #[.agg cs.toArray, .int .i64 (n0 : Int)] w fun e w' => e = .returned (.int .u64 ((cntL (accD D 0) (min n0 1000) % N64 : Nat) : Int)) ∧ Below w.heap.size w w' := by
 have V0 := qH hv
 have HM := qH hm
 have HDS := qH hv.size
 obtain ⟨n, hn⟩ : ∃ n, n = D.next.length := ⟨_, rfl⟩
 obtain ⟨kd, hkd⟩ : ∃ k, k = clsA D.cl := ⟨_, rfl⟩
 obtain ⟨bn, on, cn, be, oe, ce, hdr⟩ := dr_of hv hm hn hkd
 have HR := qH hdr
 have HN := qH hn
 have HKD := qH hkd
 have HL := qH hdr.hl
 have HCS := qH hdr.cs
 have HNP := qH (show 1 ≤ n by rw [hn]; exact hm.pos)
 have HNF := qH (show n ≤ 2000 by rw [hn]; exact hm.few)
 have HK2 := qH (show kd ≤ 256 by rw [hkd]; exact clsA_le _)
 obtain ⟨mm, hmm⟩ : ∃ m, m = min n0 1000 := ⟨_, rfl⟩
 have HMM := qH hmm
 have HMF := qH (show mm ≤ 1000 by rw [hmm]; exact Nat.min_le_right _ _)
 have hmin : min (n0 : Int) 1000 = (mm : Int) := by rw [hmm]; omega
 have HMIN := qH hmin
 obtain ⟨iu, hiu, hu0, hu1, hu2⟩ := infoP inf_u64W
 obtain ⟨ia, hia, hza⟩ := Option.map_eq_some_iff.1 inf_u256
 obtain ⟨za, hzz⟩ : ∃ l, l = ucs 256 (fun _ => 0) := ⟨_, rfl⟩
 have HZZ := qH hzz
 rw [← hzz] at hza
 have HZA := qH hza
 have HYU := qH (show iu.bytes * n ≤ 281474976710656 by rw [hu2]; have := HNF.out; omega)
 have HN3 := qH (show n ≤ 9223372036854775807 by have := HNF.out; omega)
 have hng : ¬ ((n0 : Int) < 0) := by omega
 rw [← hmm]
 obtain ⟨ans, hans⟩ : ∃ a, a = cntL (accD D 0) mm % N64 := ⟨_, rfl⟩
 have HANS := qH hans
 rw [← hans]
 clear hv hm hn hkd hdr hmm hzz hza hmin hans
 go_enter Try.func14, Try.ntmps14
 go_wp2_with (first
  | ((with_reducible refine atDst 2 ?_); refine wpList_box rfl 28 _ rfl cs rfl (Below.refl w.heap.size w) (Nat.le_refl _) ?_; intro w1 hk1 hb1 hs1 _; have K1 := qH hk1; have B1 := qH hb1; clear hk1 hb1 hs1; (try simp only [Act.put, qA, qB, qC]))
  | ((with_reducible refine atDst 14 ?_); refine wpList_ldArr rfl 28 _ rfl w.heap.size rfl 28 _ _ K1.out Try.underlying28 rfl HDS.out ?_; (try simp only [Act.put, qA, qB, qC])))
 refine (refMay11_any D cs w1 (V0.out.below B1.out) HM.out).mono ?_
 rintro e w2 ⟨rfl, hb⟩
 have K2 := qH (K1.out.below hb K1.out.lt)
 have B2 := qH (B1.out.trans (hb.mono B1.out.size))
 clear hb
 go_wp2_with ((with_reducible refine atDst 5 ?_); refine wpList_new rfl 61 rfl ia _ za hia HZA.out rfl (Below.refl w2.heap.size w2) (Nat.le_refl _) ?_; intro w3 hk hb hs _; have Z3 := qH hk; have B23 := qH hb; clear hk hb hs; (try simp only [Act.put, qA, qB, qC]))
 obtain ⟨gs, hgs⟩ : ∃ g, g = w2.heap.size := ⟨_, rfl⟩
 have HGS := qH hgs
 rw [← hgs] at Z3 B23
 rw [← hgs]
 have HWG := qH (show w.heap.size < gs by rw [hgs]; exact K2.out.lt)
 have BW3 := qH (show Below w.heap.size w w3 from B2.out.trans (B23.out.mono (Nat.le_of_lt HWG.out)))
 have K3 := qH (K2.out.below (show Below w2.heap.size w2 w3 by rw [← hgs]; exact B23.out) K2.out.lt)
 have R3 := qH (HR.out.below BW3.out)
 have HBN := qH (show bn < gs from Nat.lt_trans HR.out.hbn HWG.out)
 rw [HZZ.out] at Z3
 clear hgs hng
 go_wp2_with fail
 go_loopw [6] (fun bv wl => ∃ b : Nat, b ≤ 256 ∧ bv = .int .i64 (b : Int) ∧ Blk wl gs 61 (ucs 256 (szQ D b)) ∧ Below gs w3 wl) (fun bv _ => 256 - (intOf bv).toNat)
 case atStart => exact ⟨0, Nat.zero_le _, rfl, Z3.out, Below.refl _ _⟩
 clear Z3
 obtain ⟨b, hb, rfl, hk, hbl⟩ := hrel
 have HB := qH hb
 have ZB := qH hk
 have BB := qH hbl
 obtain ⟨wb, hwb⟩ : ∃ v : World, v = wr := ⟨_, rfl⟩
 subst hwb
 clear hb hk hbl
 by_cases hb2 : b < 256
 ·have b1 : (b : Int) < 256 := Int.ofNat_lt.2 hb2
  have HB2 := qH hb2
  have HMB := qH (sub_next hb2)
  obtain ⟨c, hc⟩ : ∃ c, c = clB D b := ⟨_, rfl⟩
  have HC := qH hc
  have HC2 := qH (show c < 256 by rw [hc]; exact (D.cl.getD b 0).toNat_lt)
  have c1 : (c : Int) < 256 := Int.ofNat_lt.2 HC2.out
  have ccl : wb.cell? ⟨w.heap.size, b, none⟩ = some (.int .u8 (c : Int)) := by rw [(BB.out.cell (p := ⟨w.heap.size, b, none⟩) HWG.out), K3.out.cell b, HCS.out, dcl_cl HL.out hb2, clB_cell HL.out hb2, hc]
  obtain ⟨x, hx⟩ : ∃ x, x = szQ D b c := ⟨_, rfl⟩
  have HX := qH hx
  have cz : wb.cell? ⟨gs, c, none⟩ = some (.int .u64 (x : Int)) := by rw [ZB.out.cell c, ucs_get _ HC2.out, hx]
  have fz := ZB.out.frozen c
  have hx1 : IntKind.u64.wrap ((x : Int) + 1) = ((x + 1 : Nat) : Int) := by
   have h1 := wrapU (x + 1)
   rw [Nat.mod_eq_of_lt (by have := szQ_le D c b; rw [← hx] at this; unfold N64; omega)] at h1
   exact h1
  have e3 := wrap_one b (wl_k hb2 (Nat.le_refl _))
  have e4 := wrap_one' b (wl_k hb2 (Nat.le_refl _))
  have Z9 := qH (show Blk (wb.setCell ⟨gs, c, none⟩ (.int .u64 ((x + 1 : Nat) : Int))) gs 61 (ucs 256 (szQ D (b + 1))) from by
   have h1 := ZB.out.set c (.int .u64 ((x + 1 : Nat) : Int))
   rw [ucs_set, hx, hc, ucs_congr (n := 256) (fun q _ => szQ_next D b q)] at h1
   rw [hx, hc]
   exact h1)
  have B9 := qH (BB.out.setCell (p := ⟨gs, c, none⟩) (Nat.le_refl _) (Value.int .u64 ((x + 1 : Nat) : Int)))
  clear hb2 hc hx
  go_wp2_with fail
  exact ⟨⟨b + 1, HB2.out, by congr 1, Z9.out, B9.out⟩, by simpa [intOf] using HMB.out⟩
 ·obtain rfl : 256 = b := Nat.le_antisymm (Nat.le_of_not_lt hb2) HB.out
  have b1 : ¬ ((256 : Int) < 256) := Int.lt_irrefl _
  have c256 : wb.cell? ⟨w.heap.size, 256, none⟩ = some (.slice (some ⟨bn, on, none⟩) n cn) := by rw [(BB.out.cell (p := ⟨w.heap.size, 256, none⟩) HWG.out), K3.out.cell 256, HCS.out]; exact dcl_n HL.out
  have p0 : (0 : Int) < (n : Int) := Int.ofNat_lt.2 HNP.out
  clear hb2
  go_wp2_with ((with_reducible refine atDst 36 ?_); refine wpList_mk _ rfl _ _ 58 rfl 32 iu (.int .u64 0) Try.underlying58 hiu hu0 hu1 rfl n _ _ _ _ rfl rfl rfl rfl HYU.out HN3.out ?_; intro w5 hk hb hs; clear c256; obtain ⟨gn, hgn⟩ : ∃ g, g = wb.heap.size := ⟨_, rfl⟩; rw [← hgn] at hk; rw [← hgn]; rw [ucs_no] at hk; have N5 := qH hk; have B5 := qH (BB.out.trans (hb.mono (Nat.le_of_lt ZB.out.lt))); have S5 := qH (ZB.out.below hb ZB.out.lt); have HGN := qH (show gs < gn from (by rw [hgn]; exact ZB.out.lt)); have c0 : w5.cell? ⟨gn, 0, none⟩ = some (.int .u64 0) := (hk.cell 0).trans (ucs_get (fun _ => 0) HNP.out); have f0 := hk.frozen 0; clear hk hb hs hgn; (try simp only [Act.put, qA, qB, qC]))
  have N6 := qH (show Blk (w5.setCell ⟨gn, 0, none⟩ (.int .u64 1)) gn 32 (ucs n fun t => cnS D 0 t % N64) from by
   have h1 := N5.out.set 0 (.int .u64 ((1 : Nat) : Int))
   rw [ucs_set, ucs_congr (n := n) (g := fun t => cnS D 0 t % N64) (fun q _ => by
    show (if q = 0 then 1 else 0) = (if q = 0 then 1 else 0) % N64
    by_cases h : q = 0
    ·rw [if_pos h]
     rfl
    ·rw [if_neg h]
     rfl)] at h1
   exact h1)
  have S6 := qH (show Blk (w5.setCell ⟨gn, 0, none⟩ (.int .u64 1)) gs 61 (ucs 256 (szK D)) from (Below.heap_setCell w5 ⟨gn, 0, none⟩ _ gs (Nat.ne_of_lt HGN.out)).trans S5.out)
  have B6 := qH (B5.out.setCell (p := ⟨gn, 0, none⟩) (Nat.le_of_lt HGN.out) (Value.int .u64 1))
  clear N5 S5 B5 c0 f0
  obtain ⟨w6, hw6⟩ : ∃ v, v = w5.setCell ⟨gn, 0, none⟩ (.int .u64 1) := ⟨_, rfl⟩
  rw [← hw6] at N6 S6 B6
  rw [← hw6]
  clear hw6
  go_wp2_with fail
  go_loopw [7, 8] (fun av iv wl => ∃ (i g : Nat), i ≤ mm ∧ av = .slice (some ⟨g, 0, none⟩) n n ∧ iv = .int .i64 (i : Int) ∧ Blk wl g 32 (ucs n fun t => cnS D i t % N64) ∧ Blk wl gs 61 (ucs 256 (szK D)) ∧ gs < g ∧ Below gs w3 wl) (fun _ iv _ => mm - (intOf iv).toNat)
  case atStart => exact ⟨0, gn, Nat.zero_le _, rfl, rfl, N6.out, S6.out, HGN.out, B6.out⟩
  clear N6 S6 HGN B6
  obtain ⟨i, gn, hi, rfl, rfl, hk, hs, hg, hb⟩ := hrel
  have HI := qH hi
  have NI := qH hk
  have SI := qH hs
  have HGN := qH hg
  have BI := qH hb
  obtain ⟨wi, hwi⟩ : ∃ v : World, v = wr := ⟨_, rfl⟩
  subst hwi
  clear hi hk hs hg hb
  have hmin := HMIN.out
  by_cases him : i < mm
  ·have i1 : (i : Int) < (mm : Int) := Int.ofNat_lt.2 him
   have HIM := qH him
   have HMI := qH (sub_next him)
   clear him
   go_wp2_with ((with_reducible refine atDst 47 ?_); refine wpList_mk _ rfl _ _ 58 rfl 32 iu (.int .u64 0) Try.underlying58 hiu hu0 hu1 rfl n _ _ _ _ rfl rfl rfl rfl HYU.out HN3.out ?_; intro wm hk hb hs; obtain ⟨gx, hgx⟩ : ∃ g, g = wi.heap.size := ⟨_, rfl⟩; rw [← hgx] at hk; rw [← hgx]; rw [ucs_no] at hk; have X0 := qH hk; have BM := qH hb; have NM := qH (NI.out.below hb NI.out.lt); have SM := qH (SI.out.below hb SI.out.lt); have HGX := qH (show gn < gx from (by rw [hgx]; exact NI.out.lt)); have HXW := qH (show Below gx wi wm from (by rw [hgx]; exact hb)); clear hk hb hs hgx; (try simp only [Act.put, qA, qB, qC]))
   have KM := qH (show ∀ V, Below gx wm V → Blk V w.heap.size 28 cs from fun V hV => (K3.out.below BI.out HWG.out).below (HXW.out.trans hV) (Nat.lt_trans HWG.out (Nat.lt_trans HGN.out HGX.out)))
   have RM := qH (show ∀ V, Below gx wm V → ∀ b o v, b < gs → w3.cell? ⟨b, o, none⟩ = some v → V.cell? ⟨b, o, none⟩ = some v from fun V hV b o v hb hc => ((HXW.out.trans hV).cell (p := ⟨b, o, none⟩) (Nat.lt_trans hb (Nat.lt_trans HGN.out HGX.out))).trans ((BI.out.cell (p := ⟨b, o, none⟩) hb).trans hc))
   obtain ⟨f, hf⟩ : ∃ f, f = cnS D i := ⟨_, rfl⟩
   have HF := qH hf
   have X1 := qH (show Blk wm gx 32 (ucs n fun t => cnP D f 0 0 t % N64) from by
    rw [ucs_congr (n := n) (f := fun t => cnP D f 0 0 t % N64) (g := fun _ => 0) fun q _ => rfl]
    exact X0.out)
   clear hf X0
   go_wp2_with fail
   go_loopw [10] (fun sv wl => ∃ s : Nat, s ≤ n ∧ sv = .int .i64 (s : Int) ∧ Blk wl gx 32 (ucs n fun t => cnP D f s 0 t % N64) ∧ Below gx wm wl) (fun sv _ => n - (intOf sv).toNat)
   case atStart => exact ⟨0, Nat.zero_le _, rfl, X1.out, Below.refl _ _⟩
   clear X1
   obtain ⟨s, hs, rfl, hk, hb⟩ := hrel
   have HS := qH hs
   have XS := qH hk
   have BS := qH hb
   obtain ⟨ws, hws⟩ : ∃ v : World, v = wr := ⟨_, rfl⟩
   subst hws
   clear hs hk hb
   by_cases hsn : s < n
   ·have s1 : (s : Int) < (n : Int) := Int.ofNat_lt.2 hsn
    have HSN := qH hsn
    have HMS := qH (sub_next hsn)
    obtain ⟨br, or, cr, hcr, hbr, hrr⟩ := HR.out.row s hsn
    have CROW := qH hcr
    have HBR := qH hbr
    have CTO := qH (show ∀ k, k < kd → w.cell? ⟨br, or + k, none⟩ = some (.int .i64 (stC D s k : Int)) from fun k hk => by
     obtain ⟨b', o', he, _, hc'⟩ := hrr.at_ (by rw [ncs_len]; omega)
     injection he with he
     injection he with h1 h2
     subst h1 h2
     exact hc' k _ (ncs_get (fun c => stC D s c) hk))
    obtain ⟨a, ha⟩ : ∃ a, a = f s % N64 := ⟨_, rfl⟩
    have HA := qH ha
    clear hsn hcr hbr hrr ha
    go_wp2_with fail
    go_loopw [11] (fun kv wl => ∃ k : Nat, k ≤ kd ∧ kv = .int .i64 (k : Int) ∧ Blk wl gx 32 (ucs n fun t => cnP D f s k t % N64) ∧ Below gx wm wl) (fun kv _ => kd - (intOf kv).toNat)
    case atStart => exact ⟨0, Nat.zero_le _, rfl, XS.out, BS.out⟩
    clear XS BS
    obtain ⟨k, hk, rfl, hx, hb⟩ := hrel
    have HK := qH hk
    have XK := qH hx
    have BK := qH hb
    obtain ⟨wk, hwk⟩ : ∃ v : World, v = wr := ⟨_, rfl⟩
    subst hwk
    clear hk hx hb
    have C256 := qH (show ∀ V, Below gx wm V → V.cell? ⟨w.heap.size, 256, none⟩ = some (.slice (some ⟨bn, on, none⟩) n cn) from fun V hV => by rw [(KM.out V hV).cell 256, HCS.out]; exact dcl_n HL.out)
    have CR := qH (show ∀ V, Below gx wm V → V.cell? ⟨bn, on + s, none⟩ = some (.slice (some ⟨br, or, none⟩) kd cr) from fun V hV => RM.out V hV bn (on + s) _ HBN.out ((BW3.out.cell (p := ⟨bn, on + s, none⟩) HR.out.hbn).trans CROW.out))
    have CN := qH (show ∀ V, Below gx wm V → V.cell? ⟨gn, s, none⟩ = some (.int .u64 (a : Int)) from fun V hV => by rw [(NM.out.below hV HGX.out).cell s, ucs_get _ HSN.out, HA.out, HF.out])
    have c256 := C256.out wk BK.out
    have crow := CR.out wk BK.out
    have cnow := CN.out wk BK.out
    by_cases hkk : k < kd
    ·have k1 : (k : Int) < (kd : Int) := Int.ofNat_lt.2 hkk
     have HKK := qH hkk
     have HMK := qH (sub_next hkk)
     clear hkk
     by_cases ha0 : a = 0
     ·subst ha0
      have XE := qH (show Blk wk gx 32 (ucs n fun t => cnP D f (s + 1) 0 t % N64) from by
       rw [ucs_congr (n := n) (f := fun t => cnP D f (s + 1) 0 t % N64) (g := fun t => cnP D f s k t % N64) fun t _ => by rw [← cnP_state, cnP_skip N64 t HA.out.symm (clsA D.cl), cnP_skip N64 t HA.out.symm k]]
       exact XK.out)
      have e3 := wrap_one s (wl_n HSN.out HNF.out)
      have e4 := wrap_one' s (wl_n HSN.out HNF.out)
      go_wp2_with fail
      exact ⟨⟨s + 1, HSN.out, by congr 1, XE.out, BK.out⟩, by simpa [intOf] using HMS.out⟩
     ·have hz : ((a : Int) == 0) = false := by rw [beq_eq_false_iff_ne]; exact fun e => ha0 (Int.ofNat_eq_zero.1 e)
      have hz2 : ¬ ((a : Int) = 0) := fun e => ha0 (Int.ofNat_eq_zero.1 e)
      clear ha0
      go_wp2_with fail
      clear c256 crow cnow
      obtain ⟨q, hq⟩ : ∃ q, q = stC D s k := ⟨_, rfl⟩
      have HQ := qH hq
      have HQN := qH (show q < n by
       have h1 := stC_lt HM.out (show s < D.next.length by rw [← HN.out]; exact HSN.out) k (by rw [← HKD.out]; exact HKK.out)
       rw [hq, HN.out]
       exact h1)
      have HK256 := qH (Nat.lt_of_lt_of_le HKK.out HK2.out)
      have CT := qH (show ∀ V, Below gx wm V → V.cell? ⟨br, or + k, none⟩ = some (.int .i64 (q : Int)) from fun V hV => RM.out V hV br (or + k) _ (Nat.lt_trans HBR.out HWG.out) (by rw [hq]; exact (BW3.out.cell (p := ⟨br, or + k, none⟩) HBR.out).trans (CTO.out k HKK.out)))
      obtain ⟨z, hz3⟩ : ∃ z, z = szK D k := ⟨_, rfl⟩
      have CZ := qH (show ∀ V, Below gx wm V → V.cell? ⟨gs, k, none⟩ = some (.int .u64 (z : Int)) from fun V hV => by rw [(SM.out.below hV (Nat.lt_trans HGN.out HGX.out)).cell k, ucs_get _ HK256.out, hz3])
      obtain ⟨y, hy⟩ : ∃ y, y = cnP D f s k q % N64 := ⟨_, rfl⟩
      obtain ⟨m1, hm1⟩ : ∃ m, m = a * z % N64 := ⟨_, rfl⟩
      obtain ⟨r1, hr1⟩ : ∃ r, r = (y + m1) % N64 := ⟨_, rfl⟩
      have g1 : IntKind.u64.wrap ((a : Int) * (z : Int)) = (m1 : Int) := by rw [wrapU_mul, hm1]
      have g2 : IntKind.u64.wrap ((y : Int) + (m1 : Int)) = (r1 : Int) := by rw [wrapU_add, hr1]
      have HSTEP := qH (show ∀ t, updN (fun t => cnP D f s k t % N64) q r1 t = cnP D f s (k + 1) t % N64 from fun t => by
       rw [hr1, hm1, hy, hz3, HA.out, hq]
       exact cn_step D f s k t)
      have HY := qH hy
      clear hq hz3 hy hm1 hr1 hz hz2
      refine mc_start (fun _ => True) (fun V => Below wk.heap.size wk V) 21 (by kernel_rfl) (fun wd hwd => ?_)
      have hBD : Below wk.heap.size wk wd := by rw [hwd]; exact (Below.refl _ _).drew
      have HGW := qH XK.out.lt
      have XD := qH (XK.out.below hBD XK.out.lt)
      have BKX := qH (show ∀ V, Below wk.heap.size wk V → Below gx wm V from fun V hV => BK.out.trans (hV.mono (Nat.le_of_lt HGW.out)))
      have BD := qH (BKX.out wd hBD)
      have hX : True := trivial
      have hY := hBD
      clear hwd hBD
      refine mc_take (i := 0) (oi := ⟨some 71, _, _, _, _, _⟩) (v := ?_) rfl (by kernel_rfl) (by kernel_rfl) (by kernel_rfl) (fun _ _ _ h => h) rfl hX ?_ ?_; rotate_left; (intro W hW; go_simp; try with_reducible rfl); simp only [Act.put, qA, qB, qC]
      refine mc_take (i := 1) (oi := ⟨some 72, _, _, _, _, _⟩) (v := ?_) rfl (by kernel_rfl) (by kernel_rfl) (by kernel_rfl) (fun _ _ _ h => h) rfl hX ?_ ?_; rotate_left; (intro W hW; go_simp; try with_reducible rfl); simp only [Act.put, qA, qB, qC]
      refine mc_takeS (i := 2) (oi := ⟨some 73, _, _, _, _, _⟩) (v := .slice (some ⟨bn, on, none⟩) n cn) rfl (by kernel_rfl) (by kernel_rfl) (by kernel_rfl) (fun _ _ _ h => h) rfl hX hY (fun V _ hV => lk_ldIss (.tmp 72) rfl rfl (C256.out V (BKX.out V hV))) ?_; simp only [Act.put, qA, qB, qC]
      refine mc_take (i := 3) (oi := ⟨some 74, _, _, _, _, _⟩) (v := ?_) rfl (by kernel_rfl) (by kernel_rfl) (by kernel_rfl) (fun _ _ _ h => h) rfl hX ?_ ?_; rotate_left; (intro W hW; go_simp; try with_reducible rfl); simp only [Act.put, qA, qB, qC]
      refine mc_takeS (i := 4) (oi := ⟨some 75, _, _, _, _, _⟩) (v := .pointer (some ⟨bn, on + s, none⟩)) rfl (by kernel_rfl) (by kernel_rfl) (by kernel_rfl) (fun _ _ _ h => h) rfl hX hY (fun V _ _ => lk_ixIs (.tmp 73) (.tmp 74) rfl rfl rfl HSN.out V) ?_; simp only [Act.put, qA, qB, qC]
      refine mc_takeS (i := 5) (oi := ⟨some 76, _, _, _, _, _⟩) (v := .slice (some ⟨br, or, none⟩) kd cr) rfl (by kernel_rfl) (by kernel_rfl) (by kernel_rfl) (fun _ _ _ h => h) rfl hX hY (fun V _ hV => lk_ldIs (.tmp 75) rfl rfl (CR.out V (BKX.out V hV))) ?_; simp only [Act.put, qA, qB, qC]
      refine mc_take (i := 6) (oi := ⟨some 77, _, _, _, _, _⟩) (v := ?_) rfl (by kernel_rfl) (by kernel_rfl) (by kernel_rfl) (fun _ _ _ h => h) rfl hX ?_ ?_; rotate_left; (intro W hW; go_simp; try with_reducible rfl); simp only [Act.put, qA, qB, qC]
      refine mc_takeS (i := 7) (oi := ⟨some 78, _, _, _, _, _⟩) (v := .pointer (some ⟨br, or + k, none⟩)) rfl (by kernel_rfl) (by kernel_rfl) (by kernel_rfl) (fun _ _ _ h => h) rfl hX hY (fun V _ _ => lk_ixI (.tmp 76) (.tmp 77) rfl rfl rfl HKK.out V) ?_; simp only [Act.put, qA, qB, qC]
      refine mc_takeS (i := 8) (oi := ⟨some 79, _, _, _, _, _⟩) (v := .int .i64 (q : Int)) rfl (by kernel_rfl) (by kernel_rfl) (by kernel_rfl) (fun _ _ _ h => h) rfl hX hY (fun V _ hV => lk_ldI (.tmp 78) rfl rfl (CT.out V (BKX.out V hV))) ?_; simp only [Act.put, qA, qB, qC]
      refine mc_takeS (i := 9) (oi := ⟨some 80, _, _, _, _, _⟩) (v := .pointer (some ⟨gx, q, none⟩)) rfl (by kernel_rfl) (by kernel_rfl) (by kernel_rfl) (fun _ _ _ h => h) rfl hX hY (fun V _ _ => wl_ixN (.tmp 71) (.tmp 79) rfl rfl rfl HQN.out V) ?_; simp only [Act.put, qA, qB, qC]
      refine mc_takeS (i := 10) (oi := ⟨some 81, _, _, _, _, _⟩) (v := .int .u64 (y : Int)) rfl (by kernel_rfl) (by kernel_rfl) (by kernel_rfl) (fun _ _ _ h => h) rfl hX hY (fun V _ hV => ld_u64 (.tmp 80) rfl rfl (by rw [(XK.out.below hV XK.out.lt).cell q, ucs_get _ HQN.out, HY.out])) ?_; simp only [Act.put, qA, qB, qC]
      refine mc_take (i := 11) (oi := ⟨some 82, _, _, _, _, _⟩) (v := ?_) rfl (by kernel_rfl) (by kernel_rfl) (by kernel_rfl) (fun _ _ _ h => h) rfl hX ?_ ?_; rotate_left; (intro W hW; go_simp; try with_reducible rfl); simp only [Act.put, qA, qB, qC]
      refine mc_take (i := 12) (oi := ⟨some 83, _, _, _, _, _⟩) (v := ?_) rfl (by kernel_rfl) (by kernel_rfl) (by kernel_rfl) (fun _ _ _ h => h) rfl hX ?_ ?_; rotate_left; (intro W hW; go_simp; try with_reducible rfl); simp only [Act.put, qA, qB, qC]
      refine mc_takeS (i := 13) (oi := ⟨some 84, _, _, _, _, _⟩) (v := .pointer (some ⟨gn, s, none⟩)) rfl (by kernel_rfl) (by kernel_rfl) (by kernel_rfl) (fun _ _ _ h => h) rfl hX hY (fun V _ _ => wl_ixN (.tmp 82) (.tmp 83) rfl rfl rfl HSN.out V) ?_; simp only [Act.put, qA, qB, qC]
      refine mc_takeS (i := 14) (oi := ⟨some 85, _, _, _, _, _⟩) (v := .int .u64 (a : Int)) rfl (by kernel_rfl) (by kernel_rfl) (by kernel_rfl) (fun _ _ _ h => h) rfl hX hY (fun V _ hV => ld_u64 (.tmp 84) rfl rfl (CN.out V (BKX.out V hV))) ?_; simp only [Act.put, qA, qB, qC]
      refine mc_take (i := 15) (oi := ⟨some 86, _, _, _, _, _⟩) (v := ?_) rfl (by kernel_rfl) (by kernel_rfl) (by kernel_rfl) (fun _ _ _ h => h) rfl hX ?_ ?_; rotate_left; (intro W hW; go_simp; try with_reducible rfl); simp only [Act.put, qA, qB, qC]
      refine mc_takeS (i := 16) (oi := ⟨some 87, _, _, _, _, _⟩) (v := .pointer (some ⟨gs, k, none⟩)) rfl (by kernel_rfl) (by kernel_rfl) (by kernel_rfl) (fun _ _ _ h => h) rfl hX hY (fun V _ _ => wl_ixA (.tmp 5) (.tmp 86) rfl rfl rfl HK256.out V) ?_; simp only [Act.put, qA, qB, qC]
      refine mc_takeS (i := 17) (oi := ⟨some 88, _, _, _, _, _⟩) (v := .int .u64 (z : Int)) rfl (by kernel_rfl) (by kernel_rfl) (by kernel_rfl) (fun _ _ _ h => h) rfl hX hY (fun V _ hV => ld_u64 (.tmp 87) rfl rfl (CZ.out V (BKX.out V hV))) ?_; simp only [Act.put, qA, qB, qC]
      refine mc_take (i := 18) (oi := ⟨some 89, _, _, _, _, _⟩) (v := ?_) rfl (by kernel_rfl) (by kernel_rfl) (by kernel_rfl) (fun _ _ _ h => h) rfl hX ?_ ?_; rotate_left; (intro W hW; go_simp; try with_reducible rfl); simp only [Act.put, qA, qB, qC]
      refine mc_take (i := 19) (oi := ⟨some 90, _, _, _, _, _⟩) (v := ?_) rfl (by kernel_rfl) (by kernel_rfl) (by kernel_rfl) (fun _ _ _ h => h) rfl hX ?_ ?_; rotate_left; (intro W hW; go_simp; try with_reducible rfl); simp only [Act.put, qA, qB, qC]
      refine mc_takeS (i := 20) (oi := ⟨some 91, _, _, _, _, _⟩) (v := .pointer (some ⟨gx, q, none⟩)) rfl (by kernel_rfl) (by kernel_rfl) (by kernel_rfl) (fun _ _ _ h => h) rfl hX hY (fun V _ _ => wl_ixN (.tmp 71) (.tmp 79) rfl rfl rfl HQN.out V) ?_; simp only [Act.put, qA, qB, qC]
      refine mc_last (i := 21) (o := ⟨none, _, _, _, _, _⟩) rfl (by kernel_rfl) rfl (fun K hK => ?_)
      refine wp_stU (.tmp 91) (.tmp 90) rfl rfl rfl ((XD.out.cell q).trans (ucs_get _ HQN.out)) (XD.out.frozen q) ?_
      refine hK _ _ trivial ?_
      clear hK K hX
      (try simp only [Act.put, qA, qB, qC])
      refine wpAnyC_done (by kernel_rfl) ?_ _
      have XN := qH (show Blk (wd.setCell ⟨gx, q, none⟩ (.int .u64 (r1 : Int))) gx 32 (ucs n fun t => cnP D f s (k + 1) t % N64) from by
       have h1 := XD.out.set q (.int .u64 (r1 : Int))
       rw [ucs_set, ucs_congr (n := n) (fun t _ => HSTEP.out t)] at h1
       exact h1)
      have BN := qH (BD.out.setCell (p := ⟨gx, q, none⟩) (Nat.le_refl _) (Value.int .u64 (r1 : Int)))
      have e3 := wrap_one k (wl_k HKK.out HK2.out)
      have e4 := wrap_one' k (wl_k HKK.out HK2.out)
      clear g1 g2
      go_wp2_with fail
      exact ⟨⟨k + 1, HKK.out, by congr 1, XN.out, BN.out⟩, by simpa [intOf] using HMK.out⟩
    ·obtain rfl : k = kd := Nat.le_antisymm HK.out (Nat.not_lt.1 hkk)
     have k1 : ¬ ((k : Int) < (k : Int)) := Int.lt_irrefl _
     have XE := qH (show Blk wk gx 32 (ucs n fun t => cnP D f (s + 1) 0 t % N64) from by
      rw [ucs_congr (n := n) (f := fun t => cnP D f (s + 1) 0 t % N64) (g := fun t => cnP D f s k t % N64) fun t _ => by rw [← cnP_state, HKD.out]]
      exact XK.out)
     have e3 := wrap_one s (wl_n HSN.out HNF.out)
     have e4 := wrap_one' s (wl_n HSN.out HNF.out)
     clear hkk
     go_wp2_with fail
     exact ⟨⟨s + 1, HSN.out, by congr 1, XE.out, BK.out⟩, by simpa [intOf] using HMS.out⟩
   ·obtain rfl : s = n := Nat.le_antisymm HS.out (Nat.not_lt.1 hsn)
    have s1 : ¬ ((s : Int) < (s : Int)) := Int.lt_irrefl _
    have XA := qH (show Blk ws gx 32 (ucs s fun t => cnS D (i + 1) t % N64) from by
     rw [ucs_congr (n := s) (f := fun t => cnS D (i + 1) t % N64) (g := fun t => cnP D f s 0 t % N64) fun t _ => by rw [← cnP_all, HF.out, ← HN.out]]
     exact XS.out)
    have SA := qH (SM.out.below BS.out (Nat.lt_trans HGN.out HGX.out))
    have BA := qH (BI.out.trans ((HXW.out.trans BS.out).mono (Nat.le_of_lt (Nat.lt_trans HGN.out HGX.out))))
    have HGA := qH (Nat.lt_trans HGN.out HGX.out)
    have e3 := wrap_one i (wl_m HIM.out HMF.out)
    have e4 := wrap_one' i (wl_m HIM.out HMF.out)
    clear hsn
    go_wp2_with fail
    exact ⟨⟨i + 1, gx, HIM.out, rfl, by congr 1, XA.out, SA.out, HGA.out, BA.out⟩, by simpa [intOf] using HMI.out⟩
  ·obtain rfl : i = mm := Nat.le_antisymm HI.out (Nat.not_lt.1 him)
   have i1 : ¬ ((i : Int) < (i : Int)) := Int.lt_irrefl _
   clear him
   go_wp2_with fail
   go_loopw [12, 13] (fun av sv wl => ∃ s : Nat, s ≤ n ∧ av = .int .u64 ((cnE D i s % N64 : Nat) : Int) ∧ sv = .int .i64 (s : Int) ∧ Below wi.heap.size wi wl) (fun _ sv _ => n - (intOf sv).toNat)
   case atStart => exact ⟨0, Nat.zero_le _, rfl, rfl, Below.refl _ _⟩
   obtain ⟨s, hs, rfl, rfl, hb⟩ := hrel
   have HS := qH hs
   have BS := qH hb
   obtain ⟨ws, hws⟩ : ∃ v : World, v = wr := ⟨_, rfl⟩
   subst hws
   clear hs hb
   obtain ⟨x, hx⟩ : ∃ x, x = cnE D i s % N64 := ⟨_, rfl⟩
   have HX := qH hx
   rw [← hx]
   clear hx
   by_cases hsn : s < n
   ·have s1 : (s : Int) < (n : Int) := Int.ofNat_lt.2 hsn
    have HSN := qH hsn
    have HMS := qH (sub_next hsn)
    have BGW := qH (show Below gs w3 ws from BI.out.trans (BS.out.mono (Nat.le_of_lt SI.out.lt)))
    have c257 : ws.cell? ⟨w.heap.size, 257, none⟩ = some (.slice (some ⟨be, oe, none⟩) n ce) := by rw [(K3.out.below BGW.out HWG.out).cell 257, HCS.out]; exact dcl_e HL.out
    obtain ⟨en, hen⟩ : ∃ b, D.ends.getD s false = b := ⟨_, rfl⟩
    have HEN := qH hen
    have cend : ws.cell? ⟨be, oe + s, none⟩ = some (.bool en) := by rw [BGW.out.cell (p := ⟨be, oe + s, none⟩) (Nat.lt_trans HR.out.hbe HWG.out), R3.out.ends s hsn, hen]
    obtain ⟨a, ha⟩ : ∃ a, a = cnS D i s % N64 := ⟨_, rfl⟩
    have cnow : ws.cell? ⟨gn, s, none⟩ = some (.int .u64 (a : Int)) := by rw [(NI.out.below BS.out NI.out.lt).cell s, ucs_get _ hsn, ha]
    obtain ⟨r1, hr1⟩ : ∃ r, r = (x + a) % N64 := ⟨_, rfl⟩
    have g2 : IntKind.u64.wrap ((x : Int) + (a : Int)) = (r1 : Int) := by rw [wrapU_add, hr1]
    have HR1 := qH (show en = true → r1 = cnE D i (s + 1) % N64 from fun h => by rw [hr1, HX.out, ha]; exact cnE_yes (hen.trans h))
    have HR0 := qH (show en = false → x = cnE D i (s + 1) % N64 from fun h => by rw [HX.out, cnE_no (hen.trans h)])
    have e3 := wrap_one s (wl_n hsn HNF.out)
    have e4 := wrap_one' s (wl_n hsn HNF.out)
    clear hsn hen ha hr1
    cases en with
    | true =>
     go_wp2_with fail
     exact ⟨⟨s + 1, HSN.out, by rw [← HR1.out rfl], by congr 1, BS.out⟩, by simpa [intOf] using HMS.out⟩
    | false =>
     clear g2
     go_wp2_with fail
     exact ⟨⟨s + 1, HSN.out, by rw [← HR0.out rfl], by congr 1, BS.out⟩, by simpa [intOf] using HMS.out⟩
   ·obtain rfl : s = n := Nat.le_antisymm HS.out (Nat.not_lt.1 hsn)
    have s1 : ¬ ((s : Int) < (s : Int)) := Int.lt_irrefl _
    have HE := qH (show cntL (accD D 0) i = cnE D i s from by
     rw [← cnS_ends HM.out HL.out i, HN.out]
     rfl)
    have BF := qH (BW3.out.trans ((BI.out.trans (BS.out.mono (Nat.le_of_lt SI.out.lt))).mono (Nat.le_of_lt HWG.out)))
    clear hsn
    go_wp2_with fail
    go_ret
    rw [show ans = x by rw [HANS.out, HX.out, HE.out]]
    exact ⟨rfl, BF.out⟩
end Go.Proofs.Ytaakdebcagdfgaa
