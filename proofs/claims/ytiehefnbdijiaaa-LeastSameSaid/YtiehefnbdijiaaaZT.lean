/-
  Texts of this proof, put together: LkU. No statement is proved here.
-/
import Derived.Test.YtiehefnbdijiaaaZS
import Derived.Test.YtiehefnbdijiaaaZQ
namespace Go.Proofs.Ytiehefnbdijiaaa
open Go.RowKit
set_option linter.unusedSimpArgs false
set_option linter.unusedVariables false
theorem cv_ix {k : Nat} (h : k < 256) : IntKind.u8.wrap (k : Int) = (k : Int) := wrap8N k h
theorem cv_m1 {k : Nat} : ((k : Int) == -1) = false := by rw [beq_eq_false_iff_ne]; omega
theorem k_max {K : Nat} (h : K ≤ 256) : K ≤ maxLen := by unfold maxLen; omega
theorem lt_k {j K : Nat} (h : j < K) (hK : K ≤ 256) : j ≤ 4611686018427387904 := by omega
theorem off_setN {D : Nat → Prop} {w w1 : World} {g : Nat} (h : Off D w w1) (hg : w.heap.size ≤ g) (j : Nat) (v : Value) : Off D w (w1.setCell ⟨g, j, none⟩ v) :=
 ⟨h.os, h.tape, h.output, by simpa using h.size, fun k hk hn => (Below.heap_setCell w1 ⟨g, j, none⟩ v k (fun e => by have e : k = g := e; omega)).trans (h.block k hk hn)⟩
theorem apt_cell {w : World} {H m : Nat} {U : Nat → Value} {X : Nat → List Value} (h : Apt w H m U X) {s g n c q : Nat} (hs : s < m) (hU : U s = .slice (some ⟨g, 0, none⟩) n c) {v : Value} (hx : (X s)[q]? = some v) : w.cell? ⟨g, q, none⟩ = some v ∧ w.frozen? ⟨g, q, none⟩ = false := by
 have h1 := h.own s hs
 rw [hU] at h1
 have h2 : n = (X s).length := by
  rcases h1.2 with ⟨e, _⟩ | ⟨g', cap', cur, e, _⟩
  ·cases e
  ·injection e
 rw [← h2] at h1
 exact own_cell h1 hx
theorem n4i (i : Nat) : 3 < 4 + i + 1 ∧ 2 < 4 + i + 1 ∧ 4 + i < 4 + i + 1 ∧ 0 < 4 + i + 1 ∧ 1 < 4 + i + 1 ∧ (3 : Nat) ≠ 4 + i ∧ (2 : Nat) ≠ 4 + i ∧ (0 : Nat) ≠ 4 + i ∧ (1 : Nat) ≠ 4 + i := by omega
theorem oneEndN {H X : Nat → Nat → Option Addr → Nat → Option Addr → Nat → World → Prop} {G : Prop} (main : (∀ g1 g2 A c A' c' w', H g1 g2 A c A' c' w' → X g1 g2 A c A' c' w') → G) (fin : ∀ g1 g2 A c A' c' w', H g1 g2 A c A' c' w' → X g1 g2 A c A' c' w') : G := main fin
def NumE (D : Dm) (w' : World) (cs' : List Value) : Prop := ∃ i, (QP D i).length = i ∧ DfaV w' cs' (numD D i)
set_option maxHeartbeats 16000000 in
set_option maxRecDepth 1000000 in
theorem lNumbered_any (D : Dm) (cs : List Value) (pv : Value) (w : World) (hv : DfaV w cs D) (hm : MayD D) (hp : Row w pv (ncs D.next.length (parD D))) :
  Calls Try.prog 19 #[.agg cs.toArray, pv] w fun e w' => ∃ cs', e = .returned (.agg cs'.toArray) ∧ NumE D w' cs' ∧ Below w.heap.size w w' := by
 have V0 := qH hv
 have HM := qH hm
 have HDS := qH hv.size
 obtain ⟨n, hnn⟩ : ∃ n, n = D.next.length := ⟨_, rfl⟩
 obtain ⟨kd, hkd⟩ : ∃ k, k = clsA D.cl := ⟨_, rfl⟩
 obtain ⟨bn, on, cn, be, oe, ce, hdr⟩ := dr_of hv hm hnn hkd
 have HNF := qH (show n ≤ 2000 by rw [hnn]; exact hm.few)
 have HNP := qH (show 1 ≤ n by rw [hnn]; exact hm.pos)
 have HN := qH hnn
 have HKD := qH hkd
 have HR := qH hdr
 have HCS := qH hdr.cs
 have HL := qH hdr.hl
 rw [← hnn] at hp
 obtain ⟨Ap, cp, rfl, _⟩ := id hp
 rw [ncs_len] at hp ⊢
 obtain ⟨bp, op, rfl, hbp, hcp⟩ := hp.at_ (by rw [ncs_len]; exact HNP.out)
 have HBP := qH hbp
 have CPP := qH (show ∀ s, s < n → w.cell? ⟨bp, op + s, none⟩ = some (.int .i64 (parD D s : Int)) from fun s hs => hcp s _ (ncs_get _ hs))
 obtain ⟨us, hus⟩ : ∃ us, us = usU D.cl 256 := ⟨_, rfl⟩
 have HUS := qH hus
 obtain ⟨K, hK⟩ : ∃ K, K = us.length := ⟨_, rfl⟩
 have HK := qH hK
 have HK256 := qH (show K ≤ 256 by rw [hK, hus]; exact usU_len _ _)
 obtain ⟨i1, hi1, hy0, hy1, hy2⟩ := infoP inf_int
 obtain ⟨i2, hi2, hb0, hb1, hb2⟩ := infoP inf_bool
 obtain ⟨il, hil, hl0, hl1, hl2⟩ := infoP inf_sl
 obtain ⟨d0, hd0⟩ : ∃ d0, d0 = dcl (ctab [] 0) (.slice none 0 0) (.slice none 0 0) := ⟨_, rfl⟩
 have HD0 := qH hd0
 have HDL := qH (show d0.length = 258 by rw [hd0]; exact dcl_len (ctab_length _ _))
 obtain ⟨id, hid, hdz⟩ := Option.map_eq_some_iff.1 inf_dfa
 rw [← hd0] at hdz
 have HDZ := qH hdz
 obtain ⟨cb, hcb⟩ : ∃ cb, cb = bvs D.cl := ⟨_, rfl⟩
 have HCB := qH hcb
 have HSC := qH (show (Try.prog.info? 24).map (·.size) = some cb.length by rw [hcb]; exact size_ctab HL.out)
 have HYK := qH (show i1.bytes * K ≤ 281474976710656 by have := HK256.out; rw [hy2]; omega)
 have HK3 := qH (show K ≤ 9223372036854775807 by have := HK256.out; omega)
 clear hv hm hdr hnn hkd hus hK hp hbp hcp hd0 hdz hcb
 go_enter Try.func19, Try.ntmps19
 go_wp2_with (first
  | ((with_reducible refine atDst 2 ?_); refine wpList_box rfl 28 _ rfl cs rfl (Below.refl w.heap.size w) (Nat.le_refl _) ?_; intro w1 hk1 hb1 hs1 _; have K1 := qH hk1; have B1 := qH hb1; clear hk1 hb1 hs1; (try simp only [Act.put, qA, qB, qC]))
  | ((with_reducible refine atDst 4 ?_); refine wpList_new rfl 28 rfl id _ d0 hid HDZ.out rfl (Below.refl w1.heap.size w1) (Nat.le_refl _) ?_; intro w2 hk hb hs _; have R2 := qH hk; have K2 := qH (K1.out.below hb K1.out.lt); have B2 := qH (B1.out.trans (hb.mono B1.out.size)); clear hk hb hs; (try simp only [Act.put, qA, qB, qC]))
  | ((with_reducible refine atDst 15 ?_); refine wpList_ldArr rfl 28 _ rfl w.heap.size rfl 28 _ _ K2.out Try.underlying28 rfl HDS.out ?_; (try simp only [Act.put, qA, qB, qC])))
 refine (lUsed_any D cs w2 (V0.out.below B2.out)).mono ?_
 rintro e w3 ⟨uv, rfl, hu, hb⟩
 rw [← HUS.out, ← HK.out] at hu
 obtain ⟨Au, cu, rfl⟩ := ownC_slice hu
 obtain ⟨gd, hgd⟩ : ∃ g, g = w1.heap.size := ⟨_, rfl⟩
 rw [← hgd] at R2
 rw [← hgd]
 have HGW := qH (show w.heap.size < gd by rw [hgd]; exact K1.out.lt)
 have HG2 := qH R2.out.lt
 have RU := qH (Row.of_own hu)
 have NU := qH (show ∀ k, (Value.slice Au K cu).ownBlock = some k → ¬ (k = gd) from fun k hk e => by
  have h1 := (own6_lt hu k hk).2
  have h2 := HG2.out
  omega)
 have B3 := qH (B2.out.trans (hb.mono B2.out.size))
 have K3 := qH (K2.out.below hb K2.out.lt)
 have R3 := qH (show Blk w3 gd 28 (dcl (tabF (iU D) 0) (.slice none 0 0) (.slice none 0 0)) by
  rw [tabF_zero, ← HD0.out]
  exact R2.out.below hb R2.out.lt)
 have HG3 := qH R3.out.lt
 have r1 := qH (show w3.rangeAt w.heap.size 0 cb from fun i v hv => by { rw [HCB.out] at hv; rw [Nat.zero_add, K3.out.cell i, HCS.out, dcl_cl HL.out (by have := (List.getElem?_eq_some_iff.1 hv).1; rw [bvs_length, HL.out] at this; exact this)]; exact hv })
 clear hu hb hgd R2
 go_wp2_with ((with_reducible refine atDst 18 ?_); refine wpList_load_mid rfl 24 _ rfl w.heap.size 0 rfl cb _ r1.out Try.underlying24 rfl HSC.out ?_; (try simp only [Act.put, qA, qB, qC]))
 go_loopw [19] (fun bv wl => ∃ b : Nat, b ≤ 256 ∧ bv = .int .i64 (b : Int) ∧ Blk wl gd 28 (dcl (tabF (iU D) b) (.slice none 0 0) (.slice none 0 0)) ∧ Off (fun k => k = gd) w3 wl) (fun bv _ => 256 - (intOf bv).toNat)
 case atStart => exact ⟨0, Nat.zero_le _, rfl, R3.out, Off.refl _ _⟩
 clear R3
 obtain ⟨b, hb, rfl, hk, ho⟩ := hrel
 obtain ⟨wb, hwb⟩ : ∃ v : World, v = wr := ⟨_, rfl⟩
 subst hwb
 have HB := qH hb
 have KB := qH hk
 have OB := qH ho
 clear hb hk ho
 by_cases hbl : b < 256
 ·have x1 : (b : Int) < 256 := Int.ofNat_lt.2 hbl
  have HBL := qH hbl
  have HMB := qH (sub_next hbl)
  have e3 := wrap_one b (lt_256 hbl)
  have e4 := wrap_one' b (lt_256 hbl)
  obtain ⟨x, hx⟩ : ∃ x, D.cl[b]? = some x := ⟨_, List.getElem?_eq_getElem (by rw [HL.out]; exact hbl)⟩
  have hix : ∀ w, (Instr.index 24 (.agg cb.toArray) (.int .i64 (b : Int))).run Try.prog w = .ok (.int .u8 (x.toNat : Int)) w := fun w => ix_arr cb b _ hbl (by rw [HCB.out]; exact bvs_get _ _ _ hx) w
  have hxd : D.cl.getD b 0 = x := by rw [List.getD_eq_getElem?_getD, hx]; rfl
  have HIU := qH (show ixU us x = (iU D b : Int) by
   unfold iU
   rw [hxd, HUS.out]
   exact ixU_in (by rw [← hxd]; exact iU_in HL.out hbl))
  have HI256 := qH (iU_256 HL.out hbl)
  clear hbl hx hxd
  go_wp2_with fail
  refine (ixU_any us x _ wb (RU.out.off OB.out NU.out) (by rw [← HK.out]; exact HK256.out)).mono ?_
  rintro e w4 ⟨rfl, hb4⟩
  rw [HIU.out]
  have KB4 := qH (KB.out.below hb4 KB.out.lt)
  have OB4 := qH (OB.out.then hb4)
  have cv := cv_ix HI256.out
  have hcc := KB4.out.cell b
  obtain ⟨u, hu⟩ : ∃ u, (tabF (iU D) b)[b]? = some u := ⟨_, List.getElem?_eq_getElem (by rw [tabF_len]; exact HBL.out)⟩
  rw [dcl_cl (tabF_len _ _) HBL.out, bvs_get _ _ _ hu] at hcc
  have hff := KB4.out.frozen b
  have KZ := qH (dcl_putF KB4.out HBL.out HI256.out)
  have OZ := qH (OB4.out.trans (Off.set (D := fun k => k = gd) w4 b (.int .u8 (iU D b : Int)) rfl))
  clear hb4 hu
  go_wp2_with fail
  exact ⟨⟨b + 1, HBL.out, rfl, KZ.out, OZ.out⟩, by simpa [intOf] using HMB.out⟩
 ·obtain rfl : 256 = b := Nat.le_antisymm (Nat.le_of_not_lt hbl) HB.out
  have x1 : ¬ ((256 : Int) < 256) := Int.lt_irrefl _
  clear hbl
  obtain ⟨w5, hw5⟩ : ∃ v : World, v = wb := ⟨_, rfl⟩
  subst hw5
  obtain ⟨H, hH⟩ : ∃ H, H = w5.heap.size := ⟨_, rfl⟩
  have HH := qH hH
  obtain ⟨cl, hcl⟩ : ∃ cl, cl = tabF (iU D) 256 := ⟨_, rfl⟩
  have HCL := qH hcl
  have HCLL := qH (show cl.length = 256 by rw [hcl]; exact tabF_len _ _)
  rw [← hcl] at KB
  have HGH := qH (show gd < H by rw [hH]; exact KB.out.lt)
  have OW5 := qH (show Off (fun k => k = gd) w w5 from (Off.new _ B3.out).trans OB.out)
  have RU5 := qH (RU.out.off OB.out NU.out)
  have LU5 := qH (show ∀ k, (Value.slice Au K cu).ownBlock = some k → ¬ (k = gd) from NU.out)
  have KD5 := qH (show Blk w5 w.heap.size 28 cs from OB.out.blk (fun e => by have := HGW.out; omega) K3.out)
  clear hH hcl K1 K2 B1 B2
  go_wp2_with ((with_reducible refine atDst 31 ?_); refine wpList_plain rfl fun K hK => wp_bldVk 38 3 (.const (.int .i64 (-1))) rfl i1 (.int .i64 0) Try.underlying38 hi1 hy0 hy1 rfl (.int .i64 (-1)) rfl rfl ?_; intro w6 hk6 hb6; have K6 := qH hk6; have B6 := qH hb6; clear hk6 hb6; refine hK _ _ ?_; clear hK K; (try simp only [Act.put, qA, qB, qC]))
  refine (repeat_any (-1) n _ w6 (rowB K6.out rfl (by decide)) HNP.out HNF.out).mono ?_
  rintro e w7 ⟨gn, rfl, hkn, hgn, hb⟩
  have B7 := qH (show Below H w5 w7 by rw [HH.out]; exact B6.out.trans (hb.mono B6.out.size))
  have HGN := qH (show H ≤ gn by rw [HH.out]; exact Nat.le_trans B6.out.size hgn)
  obtain ⟨x0, hx0⟩ : ∃ x, x = parD D 0 := ⟨_, rfl⟩
  have HX0 := qH hx0
  have HX0N := qH (show x0 < n by rw [hx0]; exact parD_lt HNP.out)
  have N7 := qH (show Blk w7 gn 3 (nmbV n []) by rw [nmbV_nil]; exact hkn)
  have N8 := qH (show Blk (w7.setCell ⟨gn, x0, none⟩ (.int .i64 0)) gn 3 (nmbV n [x0]) by
   have h1 := N7.out.set x0 (.int .i64 0)
   have h2 := nmbV_set (n := n) (y := x0) (M := []) (by simp)
   rw [show (([] : List Nat).length : Int) = 0 from rfl] at h2
   rw [h2] at h1
   exact h1)
  have OW7 := qH (OW5.out.trans (Off.of (D := fun k => k = gd) B7.out fun k hk _ => by rw [HH.out]; exact hk))
  have NPG := qH (show ¬ (bp = gd) from fun e => by have h1 := HBP.out; have h2 := HGW.out; omega)
  have NPN := qH (show bp ≠ gn from fun e => by have h1 := HBP.out; have h2 := HGN.out; have h3 := HGH.out; have h4 := HGW.out; omega)
  have cp7 : w7.cell? ⟨bp, op, none⟩ = some (.int .i64 (x0 : Int)) := by
   have h1 := OW7.out.cell HBP.out NPG.out (CPP.out 0 HNP.out)
   rw [← hx0] at h1
   exact h1
  have cp8 : (w7.setCell ⟨gn, x0, none⟩ (.int .i64 0)).cell? ⟨bp, op, none⟩ = some (.int .i64 (x0 : Int)) := (cell_of_block (Below.heap_setCell w7 ⟨gn, x0, none⟩ _ bp NPN.out)).trans cp7
  have hcn := (N7.out.cell x0).trans (nmbV_get _ HX0N.out)
  have hfn := N7.out.frozen x0
  have n0 : (0 : Int) < (n : Int) := by have := HNP.out; omega
  have n1 : (x0 : Int) < (n : Int) := Int.ofNat_lt.2 HX0N.out
  clear hkn hgn hb hx0
  go_wp2_with ((with_reducible refine atDst 43 ?_); refine wpList_plain rfl fun K hK => wp_bldVk 38 3 (.tmp 42) rfl i1 (.int .i64 0) Try.underlying38 hi1 hy0 hy1 rfl (.int .i64 (x0 : Int)) rfl rfl ?_; intro w8 hk8 hb8; have K8 := qH hk8; have B8 := qH hb8; clear hk8 hb8; refine hK _ _ ?_; clear hK K; (try simp only [Act.put, qA, qB, qC]))
  obtain ⟨gq, hgq⟩ : ∃ g, g = (w7.setCell ⟨gn, x0, none⟩ (.int .i64 0)).heap.size := ⟨_, rfl⟩
  rw [← hgq] at K8
  rw [← hgq]
  have HGQN := qH (show gn < gq by rw [hgq]; exact N8.out.lt)
  have A8 := qH (show Apt w8 H 4 (qn4 (.slice (some ⟨gq, 0, none⟩) 1 1) (.slice (some ⟨gn, 0, none⟩) n n)) (qn4X (nat64 [x0]) (nmbV n [x0])) by
   have h1 := apt_qn4 (H := H) (l := nat64 [x0]) (r := nmbV n [x0]) K8.out (N8.out.below B8.out N8.out.lt) (Nat.le_trans HGN.out (Nat.le_of_lt HGQN.out)) HGN.out (Nat.ne_of_gt HGQN.out) (by rw [nat64_len]; exact Nat.le_trans (Nat.le_refl 1) (by decide)) (by rw [nmbV_len]; exact HNF.out)
   rw [nmbV_len, nat64_len] at h1
   exact h1)
  have BH8 := qH (show Below H w5 w8 from (B7.out.setCell (p := ⟨gn, x0, none⟩) HGN.out _).trans (B8.out.mono (by rw [← hgq]; exact Nat.le_trans HGN.out (Nat.le_of_lt HGQN.out))))
  have O8 := qH (show Off (fun k => k = gd) w5 w8 from Off.of BH8.out fun k hk _ => by rw [HH.out]; exact hk)
  have KD8 := qH (show Blk w8 gd 28 (dcl cl (.slice none 0 0) (.slice none 0 0)) from KB.out.below BH8.out HGH.out)
  obtain ⟨qf, hqf⟩ : ∃ f : Nat → List Nat, f = fU D := ⟨_, rfl⟩
  have HQF := qH hqf
  obtain ⟨ef, hef⟩ : ∃ e : Nat → Bool, e = fun q => D.ends.getD q false := ⟨_, rfl⟩
  have HEF := qH hef
  have HLQ := qH (show ∀ r, Lq qf x0 r = QP D r from fun r => by rw [hqf, HX0.out]; exact Lq_fU HL.out r)
  have HLE := qH (show ∀ r, (Lq qf x0 r).length ≤ n from fun r => by rw [HLQ.out, HN.out]; exact QP_le HM.out HL.out r)
  have HLT := qH (show ∀ r, ∀ q ∈ Lq qf x0 r, q < n from fun r => by rw [HLQ.out, HN.out]; exact QP_lt HM.out HL.out r)
  have HFL := qH (show ∀ q, (qf q).length = K from fun q => by rw [hqf, fU_len, HK.out, HUS.out])
  have HFG := qH (show ∀ q k (x : UInt8), us[k]? = some x → (qf q)[k]? = some (parD D (stC D q x.toNat)) from fun q k x h => by
   rw [hqf]
   unfold fU csN
   rw [← HUS.out, List.getElem?_map, List.getElem?_map, h]
   rfl)
  have MC := qH (Md4.zero (f := qf) (x0 := x0) (e := ef) (n := n) (qv := .slice (some ⟨gq, 0, none⟩) 1 1) (nv := .slice (some ⟨gn, 0, none⟩) n n))
  have HW8 := qH (show H ≤ w8.heap.size by rw [HH.out]; exact BH8.out.size)
  have HUC := qH (show ∀ (j : Nat) (x : UInt8), us[j]? = some x → ∀ W, Off (fun k => k = gd) w5 W → ∃ b o, Au = some ⟨b, o, none⟩ ∧ W.cell? ⟨b, o + j, none⟩ = some (.int .u8 (x.toNat : Int)) from fun j x hx W hW => by
   have hj := (List.getElem?_eq_some_iff.1 hx).1
   obtain ⟨b, o, e, _, hc⟩ := (RU5.out.off hW LU5.out).at_ (by rw [bvs_length]; omega)
   exact ⟨b, o, e, hc j _ (bvs_get _ _ _ hx)⟩)
  clear hqf hef N7 N8 K8 cp7 cp8 hcn hfn n0 n1 hgq
  go_wp2_with fail
  go_loopw [9, 10] (fun ov iv wl => ∃ (i : Nat) (U : Nat → Value) (X : Nat → List Value), iv = .int .i64 (i : Int) ∧ i ≤ (Lq qf x0 i).length ∧ ov = U 2 ∧ U 3 = .slice (some ⟨gn, 0, none⟩) n n ∧ Apt wl H (4 + i) U X ∧ Blk wl gd 28 (dcl cl (U 0) (U 1)) ∧ Off (fun k => k = gd) w5 wl ∧ Md4 qf x0 ef i n U X (Lq qf x0 i)) (fun _ iv _ => n - (intOf iv).toNat)
  case atStart => exact ⟨0, _, _, rfl, Nat.zero_le _, rfl, rfl, A8.out, KD8.out, O8.out, MC.out⟩
  clear A8 KD8 O8 MC HW8 BH8 B7 B8 OW7 B6 K6
  obtain ⟨i, U, X, rfl, hi, rfl, hu3, ha, hk, ho, hm⟩ := hrel
  obtain ⟨wi, hwi⟩ : ∃ v : World, v = wr := ⟨_, rfl⟩
  subst hwi
  have HI := qH hi
  have HU3 := qH hu3
  have AI := qH ha
  have KI := qH hk
  have OI := qH ho
  have MI := qH hm
  obtain ⟨m, hm2⟩ : ∃ m, m = (Lq qf x0 i).length := ⟨_, rfl⟩
  have HML := qH hm2
  have O2 := qH (show wi.ownsRow H 3 1 (U 2) m (nat64 (Lq qf x0 i)) by
   have h1 := ha.own 2 (by omega)
   rw [hm.a2, nat64_len, ← hm2] at h1
   exact h1)
  obtain ⟨A2, c2, hu2⟩ := ownC_slice O2.out
  have HU2 := qH hu2
  rw [← hm2] at hi
  rw [hu2]
  have HMN := qH (show m ≤ n by rw [hm2]; exact HLE.out i)
  have HHI := qH (show H ≤ wi.heap.size by rw [HH.out]; exact ho.size)
  clear hi hu3 ha hk ho hm hm2 hu2
  by_cases him : i < m
  ·have y1 : (i : Int) < (m : Int) := Int.ofNat_lt.2 him
   have HIM := qH him
   have HIN := qH (Nat.lt_of_lt_of_le him HMN.out)
   have HMI := qH (sub_next HIN.out)
   obtain ⟨q, hq⟩ : ∃ q, (Lq qf x0 i)[i]? = some q := ⟨_, List.getElem?_eq_getElem (by rw [← HML.out]; exact him)⟩
   have HQ := qH hq
   have HQN := qH (show q < n from HLT.out i q (List.mem_of_getElem? hq))
   obtain ⟨Lj, Rw, hin⟩ := inG_is (kk := K) hq (HFL.out q)
   have IN := qH hin
   clear him hq hin
   go_wp2_with ((with_reducible refine atDst 52 ?_); refine wpList_mk _ rfl _ _ 38 rfl 3 i1 (.int .i64 0) Try.underlying38 hi1 hy0 hy1 rfl K _ _ _ _ rfl rfl rfl rfl HYK.out HK3.out ?_; intro wj hk hb hs; have TJ := qH hk; have BJ := qH hb; clear hk hb hs; (try simp only [Act.put, qA, qB, qC]))
   obtain ⟨gr, hgr⟩ : ∃ g, g = wi.heap.size := ⟨_, rfl⟩
   rw [← hgr] at TJ
   rw [← hgr]
   have HGR := qH (show H ≤ gr by rw [hgr]; exact HHI.out)
   have AJ0 := qH (show Apt wj H (4 + i + 1) (putV U (4 + i) (.slice (some ⟨gr, 0, none⟩) K K)) (putX X (4 + i) (nums .i64 (rwC Rw K 0))) from by
    refine (AI.out.below BJ.out).add ?_ fun p hp k hk e => ?_
    ·rw [show tyU (4 + i) = 3 by rw [Nat.add_comm]; rfl, rwC_zero, List.length_replicate]
     have h1 := TJ.out.own HGR.out (by rw [List.length_replicate]; exact k_max HK256.out)
     rw [List.length_replicate] at h1
     exact h1
    ·have h1 := (AI.out.lt hp k hk).1
     have h2 : gr = k := Option.some.inj (show some gr = some k from e)
     rw [← h2, hgr] at h1
     exact Nat.lt_irrefl _ h1)
   have MJ0 := qH (show Md4 qf x0 ef i n (putV U (4 + i) (.slice (some ⟨gr, 0, none⟩) K K)) (putX X (4 + i) (nums .i64 (rwC Rw K 0))) (Lj 0) by rw [IN.out.zero]; exact MI.out.rowU HI.out)
   have KJ0 := qH (show Blk wj gd 28 (dcl cl (putV U (4 + i) (.slice (some ⟨gr, 0, none⟩) K K) 0) (putV U (4 + i) (.slice (some ⟨gr, 0, none⟩) K K) 1)) by rw [putV_ne (by omega), putV_ne (by omega)]; exact KI.out.below BJ.out KI.out.lt)
   have U2J := qH (show Value.slice A2 m c2 = putV U (4 + i) (.slice (some ⟨gr, 0, none⟩) K K) 2 by rw [putV_ne (by omega)]; exact HU2.out.symm)
   have U3J := qH (show putV U (4 + i) (.slice (some ⟨gr, 0, none⟩) K K) 3 = .slice (some ⟨gn, 0, none⟩) n n by rw [putV_ne (by omega)]; exact HU3.out)
   have U4J := qH (putV_at U (4 + i) (.slice (some ⟨gr, 0, none⟩) K K))
   have X4J := qH (putX_at X (4 + i) (nums .i64 (rwC Rw K 0)))
   have OJ0 := qH (OI.out.then BJ.out)
   clear hgr TJ
   go_wp2_with fail
   go_loopw [9, 55] (fun ov kv wl => ∃ (j : Nat) (V : Nat → Value) (Y : Nat → List Value), j ≤ K ∧ kv = .int .i64 (j : Int) ∧ ov = V 2 ∧ V 3 = .slice (some ⟨gn, 0, none⟩) n n ∧ V (4 + i) = .slice (some ⟨gr, 0, none⟩) K K ∧ Apt wl H (4 + i + 1) V Y ∧ Blk wl gd 28 (dcl cl (V 0) (V 1)) ∧ Off (fun k => k = gd) w5 wl ∧ Md4 qf x0 ef i n V Y (Lj j) ∧ Y (4 + i) = nums .i64 (rwC Rw K j)) (fun _ kv _ => K - (intOf kv).toNat)
   case atStart => exact ⟨0, _, _, Nat.zero_le _, rfl, U2J.out, U3J.out, U4J.out, AJ0.out, KJ0.out, OJ0.out, MJ0.out, X4J.out⟩
   clear AJ0 MJ0 KJ0 U2J U3J U4J X4J OJ0 O2 HU2 HU3 AI KI OI MI BJ HHI
   obtain ⟨j, V, Y, hj, rfl, rfl, hv3, hv4, ha, hk, ho, hm, hy4⟩ := hrel
   obtain ⟨wp, hwp⟩ : ∃ v : World, v = wr := ⟨_, rfl⟩
   subst hwp
   have HJ := qH hj
   have HV3 := qH hv3
   have HV4 := qH hv4
   have AJ := qH ha
   have KJ := qH hk
   have OJ := qH ho
   have MJ := qH hm
   have Y4 := qH hy4
   obtain ⟨M, hM⟩ : ∃ M, M = Lj j := ⟨_, rfl⟩
   have HMM := qH hM
   rw [← hM] at MJ
   obtain ⟨mj, hmj⟩ : ∃ m, m = M.length := ⟨_, rfl⟩
   have HMJL := qH hmj
   have HMJN := qH (show mj ≤ n by rw [hmj, hM]; exact Nat.le_trans (IN.out.le j) (HLE.out (i + 1)))
   have HMI3 := qH (show M[i]? = some q by rw [hM]; exact IN.out.at_ j)
   have HND := qH (show M.Nodup by rw [hM]; exact IN.out.nd j)
   have HIMJ := qH (show i < mj by rw [hmj]; exact (List.getElem?_eq_some_iff.1 HMI3.out).1)
   have O2 := qH (show wp.ownsRow H 3 1 (V 2) mj (nat64 M) by
    have h1 := ha.own 2 (by omega)
    rw [MJ.out.a2, nat64_len, ← hmj] at h1
    exact h1)
   obtain ⟨g2, c2, hv2, _, _, hg2l, hg2H⟩ := own_in O2.out (Nat.lt_of_le_of_lt (Nat.zero_le _) HIMJ.out)
   have HV2 := qH hv2
   have HG2L := qH hg2l
   have HG2H := qH hg2H
   rw [hv2]
   rw [hv2] at O2
   have HHJ := qH (show H ≤ wp.heap.size by rw [HH.out]; exact ho.size)
   have C2I := qH (show wp.cell? ⟨g2, i, none⟩ = some (.int .i64 (q : Int)) from (own_cell O2.out (nat64_get HMI3.out)).1)
   clear hj hv3 hv4 ha hk ho hm hy4 hM hmj hv2 hg2l hg2H
   by_cases hjk : j < K
   ·have k1 : (j : Int) < (K : Int) := Int.ofNat_lt.2 hjk
    have HJK := qH hjk
    have HMJ := qH (sub_next hjk)
    obtain ⟨x, hx⟩ : ∃ x, us[j]? = some x := ⟨_, List.getElem?_eq_getElem (by rw [← HK.out]; exact hjk)⟩
    obtain ⟨bu, ou, rfl, hcu⟩ := HUC.out j x hx wp OJ.out
    have HXK := qH (show x.toNat < kd by rw [HKD.out]; exact us_lt HL.out (by rw [← HUS.out]; exact List.mem_of_getElem? hx))
    obtain ⟨y, hy⟩ : ∃ y, y = parD D (stC D q x.toNat) := ⟨_, rfl⟩
    have HFY := qH (show (qf q)[j]? = some y by rw [hy]; exact HFG.out q j x hx)
    have HSTN := qH (show stC D q x.toNat < n by rw [HN.out]; exact stC_lt HM.out (by rw [← HN.out]; exact HQN.out) _ (by rw [← HKD.out]; exact HXK.out))
    obtain ⟨z, hz⟩ : ∃ z, z = stC D q x.toNat := ⟨_, rfl⟩
    rw [← hz] at HSTN hy
    have HYN := qH (show y < n by rw [hy]; exact parD_lt HSTN.out)
    have OWP := qH (OW5.out.trans OJ.out)
    have NWG := qH (show ∀ b, b < w.heap.size → ¬ (b = gd) from fun b hb e => by have := HGW.out; omega)
    have CN := qH (show wp.cell? ⟨w.heap.size, 256, none⟩ = some (.slice (some ⟨bn, on, none⟩) n cn) by
     rw [(OJ.out.blk (fun e => by have := HGW.out; omega) KD5.out).cell 256, HCS.out]
     exact dcl_n HL.out)
    obtain ⟨br, or_, crr, hr1, hr2, hr3⟩ := HR.out.at_ HQN.out HXK.out
    rw [← hz] at hr3
    have CR1 := qH (OWP.out.cell HR.out.hbn (NWG.out bn HR.out.hbn) hr1)
    have CR3 := qH (OWP.out.cell hr2 (NWG.out br hr2) hr3)
    have CPZ := qH (show wp.cell? ⟨bp, op + z, none⟩ = some (.int .i64 (y : Int)) by
     have h1 := OWP.out.cell HBP.out (NWG.out bp HBP.out) (CPP.out z HSTN.out)
     rw [← hy] at h1
     exact h1)
    have q4 := qH (n4i i)
    have CNB := qH (apt_cell AJ.out q4.out.1 HV3.out (by rw [MJ.out.a3]; exact nmbV_get M HYN.out))
    obtain ⟨rv, hrv⟩ : ∃ v, (nums .i64 (rwC Rw K j))[j]? = some v := ⟨_, List.getElem?_eq_getElem (by rw [nums_length, rwC_len IN.out.len HJ.out]; exact hjk)⟩
    have HRV := qH (show (Y (4 + i))[j]? = some rv by rw [Y4.out]; exact hrv)
    have CRW := qH (apt_cell AJ.out q4.out.2.2.1 HV4.out (q := j) (v := rv) (by rw [Y4.out]; exact hrv))
    have ST := qH (IN.out.step j y HFY.out)
    rw [← HMM.out] at ST
    have HRWL := qH (show Rw.length = K from IN.out.len)
    have HGDR := qH (show gd ≠ gr from Nat.ne_of_lt (Nat.lt_of_lt_of_le HGH.out HGR.out))
    have HGDN := qH (show gd ≠ gn from Nat.ne_of_lt (Nat.lt_of_lt_of_le HGH.out HGN.out))
    clear hjk hx hy hz hr1 hr2 hr3 hrv
    go_wp2_with fail
    refine sg_start (S := IsW wp.drew) (by kernel_rfl) rfl (fun wd hwd => ?_)
    have hX : IsW wp.drew wd := hwd
    clear hwd
    refine sg_take (i := 0) (oi := ⟨some 60, _, _, _, _, _⟩) (v := ?_) rfl (by kernel_rfl) (by kernel_rfl) (by kernel_rfl) (fun _ _ _ h => h) rfl hX ?_ ?_; rotate_left; (intro W hW; go_simp; try with_reducible rfl); simp only [Act.put, qA, qB, qC]
    refine sg_take (i := 1) (oi := ⟨some 61, _, _, _, _, _⟩) (v := ?_) rfl (by kernel_rfl) (by kernel_rfl) (by kernel_rfl) (fun _ _ _ h => h) rfl hX ?_ ?_; rotate_left; (intro W hW; go_simp; try with_reducible rfl); simp only [Act.put, qA, qB, qC]
    refine sg_take (i := 2) (oi := ⟨some 62, _, _, _, _, _⟩) (v := .slice (some ⟨bn, on, none⟩) n cn) rfl (by kernel_rfl) (by kernel_rfl) (by kernel_rfl) (fun _ _ _ h => h) rfl hX (fun W hW => lk_ldIss (.tmp 61) rfl rfl (lk_isc hW CN.out)) ?_; simp only [Act.put, qA, qB, qC]
    refine sg_take (i := 3) (oi := ⟨some 63, _, _, _, _, _⟩) (v := ?_) rfl (by kernel_rfl) (by kernel_rfl) (by kernel_rfl) (fun _ _ _ h => h) rfl hX ?_ ?_; rotate_left; (intro W hW; go_simp; try with_reducible rfl); simp only [Act.put, qA, qB, qC]
    refine sg_take (i := 4) (oi := ⟨some 64, _, _, _, _, _⟩) (v := ?_) rfl (by kernel_rfl) (by kernel_rfl) (by kernel_rfl) (fun _ _ _ h => h) rfl hX ?_ ?_; rotate_left; (intro W hW; go_simp; try with_reducible rfl); simp only [Act.put, qA, qB, qC]
    refine sg_take (i := 5) (oi := ⟨some 65, _, _, _, _, _⟩) (v := .pointer (some ⟨g2, i, none⟩)) rfl (by kernel_rfl) (by kernel_rfl) (by kernel_rfl) (fun _ _ _ h => h) rfl hX (fun W hW => lk_ixI0 (.tmp 63) (.tmp 64) rfl rfl rfl HIMJ.out W) ?_; simp only [Act.put, qA, qB, qC]
    refine sg_take (i := 6) (oi := ⟨some 66, _, _, _, _, _⟩) (v := .int .i64 (q : Int)) rfl (by kernel_rfl) (by kernel_rfl) (by kernel_rfl) (fun _ _ _ h => h) rfl hX (fun W hW => lk_ldI (.tmp 65) rfl rfl (lk_isc hW C2I.out)) ?_; simp only [Act.put, qA, qB, qC]
    refine sg_take (i := 7) (oi := ⟨some 67, _, _, _, _, _⟩) (v := .pointer (some ⟨bn, on + q, none⟩)) rfl (by kernel_rfl) (by kernel_rfl) (by kernel_rfl) (fun _ _ _ h => h) rfl hX (fun W hW => lk_ixIs (.tmp 62) (.tmp 66) rfl rfl rfl HQN.out W) ?_; simp only [Act.put, qA, qB, qC]
    refine sg_take (i := 8) (oi := ⟨some 68, _, _, _, _, _⟩) (v := .slice (some ⟨br, or_, none⟩) kd crr) rfl (by kernel_rfl) (by kernel_rfl) (by kernel_rfl) (fun _ _ _ h => h) rfl hX (fun W hW => lk_ldIs (.tmp 67) rfl rfl (lk_isc hW CR1.out)) ?_; simp only [Act.put, qA, qB, qC]
    refine sg_take (i := 9) (oi := ⟨some 69, _, _, _, _, _⟩) (v := ?_) rfl (by kernel_rfl) (by kernel_rfl) (by kernel_rfl) (fun _ _ _ h => h) rfl hX ?_ ?_; rotate_left; (intro W hW; go_simp; try with_reducible rfl); simp only [Act.put, qA, qB, qC]
    refine sg_take (i := 10) (oi := ⟨some 70, _, _, _, _, _⟩) (v := .pointer (some ⟨br, or_ + x.toNat, none⟩)) rfl (by kernel_rfl) (by kernel_rfl) (by kernel_rfl) (fun _ _ _ h => h) rfl hX (fun W hW => lk_ixIu (.tmp 68) (.tmp 69) rfl rfl rfl HXK.out W) ?_; simp only [Act.put, qA, qB, qC]
    refine sg_take (i := 11) (oi := ⟨some 71, _, _, _, _, _⟩) (v := .int .i64 (z : Int)) rfl (by kernel_rfl) (by kernel_rfl) (by kernel_rfl) (fun _ _ _ h => h) rfl hX (fun W hW => lk_ldI (.tmp 70) rfl rfl (lk_isc hW CR3.out)) ?_; simp only [Act.put, qA, qB, qC]
    refine sg_take (i := 12) (oi := ⟨some 72, _, _, _, _, _⟩) (v := .pointer (some ⟨bp, op + z, none⟩)) rfl (by kernel_rfl) (by kernel_rfl) (by kernel_rfl) (fun _ _ _ h => h) rfl hX (fun W hW => lk_ixI (.tmp 60) (.tmp 71) rfl rfl rfl HSTN.out W) ?_; simp only [Act.put, qA, qB, qC]
    refine sg_take (i := 13) (oi := ⟨some 73, _, _, _, _, _⟩) (v := .int .i64 (y : Int)) rfl (by kernel_rfl) (by kernel_rfl) (by kernel_rfl) (fun _ _ _ h => h) rfl hX (fun W hW => lk_ldI (.tmp 72) rfl rfl (lk_isc hW CPZ.out)) ?_; simp only [Act.put, qA, qB, qC]
    refine sg_take (i := 14) (oi := ⟨some 14, _, _, _, _, _⟩) (v := ?_) rfl (by kernel_rfl) (by kernel_rfl) (by kernel_rfl) (fun _ _ _ h => h) rfl hX ?_ ?_; rotate_left; (intro W hW; go_simp; try with_reducible rfl); simp only [Act.put, qA, qB, qC]
    refine wpAnyH_done (by kernel_rfl) ?_ _
    have BD := qH (lk_isb hX)
    have CN2 := qH (lk_isc hX CNB.out.1)
    have FN2 := qH (lk_isf hX CNB.out.2)
    have CR2 := qH (lk_isc hX CRW.out.1)
    have FR2 := qH (lk_isf hX CRW.out.2)
    have AD := qH (AJ.out.below BD.out)
    have KD := qH (KJ.out.below BD.out KJ.out.lt)
    have OD := qH (OJ.out.then BD.out)
    clear hX hcu CNB CRW AJ KJ OJ
    have y1' : (y : Int) < (n : Int) := Int.ofNat_lt.2 HYN.out
    by_cases hym : y ∈ M
    ·obtain ⟨s1, s2, s3⟩ : y ∈ M ∧ Lj (j + 1) = M ∧ Rw.take (j + 1) = Rw.take j ++ [((ixOf M y : Nat) : Int)] := by
      rcases ST.out with h | h
      ·exact h
      ·exact absurd hym h.1
     obtain ⟨k, hk⟩ : ∃ k, k = ixOf M y := ⟨_, rfl⟩
     have cn2 := CN2.out
     rw [if_pos hym, ← hk] at cn2
     rw [← hk] at s3
     have cr2 := CR2.out
     have fr2 := FR2.out
     have cm := cv_m1 (k := k)
     have AZ := qH (AD.out.set q4.out.2.2.1 HV4.out (q := j) (by rw [Y4.out, nums_length, rwC_len HRWL.out HJ.out]; exact HJK.out) (.int .i64 (k : Int)))
     have Y4Z := qH (show putX Y (4 + i) ((Y (4 + i)).set j (.int .i64 (k : Int))) (4 + i) = nums .i64 (rwC Rw K (j + 1)) by
      rw [putX_at, Y4.out]
      exact rwC_set HRWL.out HJK.out s3)
     have MZ := qH (show Md4 qf x0 ef i n V (putX Y (4 + i) ((Y (4 + i)).set j (.int .i64 (k : Int)))) (Lj (j + 1)) by rw [s2]; exact MJ.out.rowX HI.out)
     have KZ := qH (KD.out.far (p := ⟨gr, j, none⟩) HGDR.out (.int .i64 (k : Int)))
     have OZ := qH (off_setN OD.out (by rw [← HH.out]; exact HGR.out) j (.int .i64 (k : Int)))
     have f3 := wrap_one j (lt_k HJK.out HK256.out)
     have f4 := wrap_one' j (lt_k HJK.out HK256.out)
     clear hym s1 s2 s3 hk
     go_wp2_with fail
     exact ⟨⟨j + 1, V, _, HJK.out, rfl, HV2.out.symm, HV3.out, HV4.out, AZ.out, KZ.out, OZ.out, MZ.out, Y4Z.out⟩, by simpa [intOf] using HMJ.out⟩
    ·obtain ⟨s1, s2, s3⟩ : y ∉ M ∧ Lj (j + 1) = M ++ [y] ∧ Rw.take (j + 1) = Rw.take j ++ [(M.length : Int)] := by
      rcases ST.out with h | h
      ·exact absurd h.1 hym
      ·exact h
     have S1 := qH s1
     have S2 := qH s2
     have S3 := qH s3
     have cn2 := CN2.out
     rw [if_neg hym] at cn2
     have fn2 := FN2.out
     have A1 := qH (AD.out.set q4.out.1 HV3.out (q := y) (by rw [MJ.out.a3, nmbV_len]; exact HYN.out) (.int .i64 (mj : Int)))
     have K1 := qH (KD.out.far (p := ⟨gn, y, none⟩) HGDN.out (.int .i64 (mj : Int)))
     have O1 := qH (off_setN OD.out (by rw [← HH.out]; exact HGN.out) y (.int .i64 (mj : Int)))
     have Q1 := qH (show (wd.setCell ⟨gn, y, none⟩ (.int .i64 (mj : Int))).ownsRow H 3 1 (.slice (some ⟨g2, 0, none⟩) mj c2) mj (nat64 M) by
      have h1 := A1.out.own 2 q4.out.2.1
      rw [putX_ne (by decide), MJ.out.a2, nat64_len, ← HMJL.out, HV2.out] at h1
      exact h1)
     have HS1 := qH (show H ≤ (wd.setCell ⟨gn, y, none⟩ (.int .i64 (mj : Int))).heap.size by rw [HH.out]; exact O1.out.size)
     have HLM := qH (show mj + (nums .i64 [(y : Int)]).length ≤ 2097152 by rw [nums_length, List.length_singleton]; exact bnd_2001 HMJN.out HNF.out)
     have N2G := qH (show some gd ≠ (Value.slice (some ⟨g2, 0, none⟩) mj c2).ownBlock from fun e => by
      have e1 : gd = g2 := Option.some.inj e
      exact absurd HGH.out (Nat.not_lt.2 (by rw [e1]; exact HG2H.out)))
     have f3 := wrap_one j (lt_k HJK.out HK256.out)
     have f4 := wrap_one' j (lt_k HJK.out HK256.out)
     clear hym s1 s2 s3
     go_wp2_with (first
      | ((with_reducible refine atDst 86 ?_); refine wpList_plain rfl fun K hK => wp_bldI 38 3 (.tmp 85) rfl i1 Try.underlying38 hi1 0 hy0 hy1 (y : Int) rfl ?_; intro wB hr hb; have RB := qH hr; have BB := qH hb; have QB := qH (own6_stay Q1.out fun j hj => hb.block j (own6_lt Q1.out j hj).1); have AB := qH (A1.out.below hb); clear hr hb; refine hK _ _ ?_; clear hK K; (try simp only [Act.put, qA, qB, qC]))
      | ((with_reducible refine atDst 87 ?_); refine wpList_appW (base := H) rfl (.tmp 84) (.tmp 86) 38 rfl 3 i1 (.int .i64 0) 8 Try.underlying38 hi1 hy0 hy1 hy2 rfl _ _ _ rfl QB.out _ (nums .i64 [(y : Int)]) rfl RB.out (nums_one _ _) HLM.out (by decide) (Nat.le_trans HS1.out BB.out.size) ?_; intro v2 wC ho hgr hwr; have HO2 := qH (nat64_snoc_own ho HMJL.out rfl); have HG2' := qH hgr; have AC := qH (AB.out.grow (s := 2) (v := v2) (l := nat64 (M ++ [y])) q4.out.2.1 HO2.out (by rw [HV2.out]; exact hgr) (by rw [HV2.out]; exact hwr)); have hc1 := apt_cell AC.out (s := 3) (q := y) (v := .int .i64 (mj : Int)) q4.out.1 (by rw [putV_ne (by decide)]; exact HV3.out) (by rw [putX_ne (by decide), putX_at, List.getElem?_set_self (by rw [MJ.out.a3, nmbV_len]; exact HYN.out)]); have hc2 := apt_cell AC.out (s := 4 + i) (q := j) (v := rv) q4.out.2.2.1 (by rw [putV_ne q4.out.2.2.2.2.2.2.1.symm]; exact HV4.out) (by rw [putX_ne q4.out.2.2.2.2.2.2.1.symm, putX_ne q4.out.2.2.2.2.2.1.symm]; exact HRV.out); have hc1a := hc1.1; have hc2a := hc2.1; have hc2b := hc2.2; clear hc1 hc2; obtain ⟨A9, c9, rfl⟩ := ownC_slice ho; clear ho hgr hwr; (try simp only [Act.put, qA, qB, qC])))
     obtain ⟨v3, hv3⟩ : ∃ v, v = Value.slice A9 (mj + (nums .i64 [(y : Int)]).length) c9 := ⟨_, rfl⟩
     rw [← hv3] at AC
     have AZ := qH (AC.out.set q4.out.2.2.1 (by rw [putV_ne q4.out.2.2.2.2.2.2.1.symm]; exact HV4.out) (q := j) (by rw [putX_ne q4.out.2.2.2.2.2.2.1.symm, putX_ne q4.out.2.2.2.2.2.1.symm, Y4.out, nums_length, rwC_len HRWL.out HJ.out]; exact HJK.out) (.int .i64 (mj : Int)))
     have Y4Z := qH (show putX (putX (putX Y 3 ((Y 3).set y (.int .i64 (mj : Int)))) 2 (nat64 (M ++ [y]))) (4 + i) (((putX (putX Y 3 ((Y 3).set y (.int .i64 (mj : Int)))) 2 (nat64 (M ++ [y]))) (4 + i)).set j (.int .i64 (mj : Int))) (4 + i) = nums .i64 (rwC Rw K (j + 1)) by
      rw [putX_at, putX_ne q4.out.2.2.2.2.2.2.1.symm, putX_ne q4.out.2.2.2.2.2.1.symm, Y4.out]
      exact rwC_set HRWL.out HJK.out (by rw [S3.out, HMJL.out]))
     have MZ := qH (show Md4 qf x0 ef i n (putV V 2 v3) (putX (putX (putX Y 3 ((Y 3).set y (.int .i64 (mj : Int)))) 2 (nat64 (M ++ [y]))) (4 + i) (((putX (putX Y 3 ((Y 3).set y (.int .i64 (mj : Int)))) 2 (nat64 (M ++ [y]))) (4 + i)).set j (.int .i64 (mj : Int)))) (Lj (j + 1)) by
      rw [S2.out]
      have h1 := MJ.out.push (v := v3) S1.out
      rw [← HMJL.out] at h1
      exact h1.rowX HI.out)
     have KZ := qH (((K1.out.below BB.out K1.out.lt).grown HG2'.out N2G.out).far (p := ⟨gr, j, none⟩) HGDR.out (.int .i64 (mj : Int)))
     have OZ := qH (off_setN (off_grow (O1.out.then BB.out) HG2'.out fun k hk => by
      have e1 : g2 = k := Option.some.inj (show some g2 = some k from hk)
      rw [← e1, ← HH.out]
      exact HG2H.out) (by rw [← HH.out]; exact HGR.out) j (.int .i64 (mj : Int)))
     have V2Z := qH (show v3 = putV V 2 v3 2 by rw [putV_at])
     have V3Z := qH (show putV V 2 v3 3 = .slice (some ⟨gn, 0, none⟩) n n by rw [putV_ne (by decide)]; exact HV3.out)
     have V4Z := qH (show putV V 2 v3 (4 + i) = .slice (some ⟨gr, 0, none⟩) K K by rw [putV_ne q4.out.2.2.2.2.2.2.1.symm]; exact HV4.out)
     rw [← hv3]
     refine ⟨⟨j + 1, putV V 2 v3, _, HJK.out, rfl, V2Z.out, V3Z.out, V4Z.out, AZ.out, ?_, OZ.out, MZ.out, Y4Z.out⟩, by simpa [intOf] using HMJ.out⟩
     rw [putV_ne (by decide), putV_ne (by decide)]
     exact KZ.out
   ·obtain rfl : j = K := Nat.le_antisymm HJ.out (Nat.le_of_not_lt hjk)
    have k1 : ¬ (j : Int) < (j : Int) := Int.lt_irrefl _
    have q4 := qH (n4i i)
    have HMA := qH (show M = Lq qf x0 (i + 1) by rw [HMM.out]; exact IN.out.all)
    have HRA := qH (show Rw = rowI (Lq qf x0 (i + 1)) (qf q) from IN.out.row)
    have Y4A := qH (show Y (4 + i) = nums .i64 Rw by rw [Y4.out, rwC_all IN.out.len])
    have ON := qH (show wp.ownsRow H 38 1 (V 0) i ((List.range i).map fun q => V (q + 4)) by
     have h1 := AJ.out.own 0 q4.out.2.2.2.1
     rw [MJ.out.a0, List.length_map, List.length_range] at h1
     exact h1)
    have OE := qH (show wp.ownsRow H 4 1 (V 1) i (bools (endsI ef (Lq qf x0 i) i)) by
     have h1 := AJ.out.own 1 q4.out.2.2.2.2.1
     rw [MJ.out.a1, bools_length, endsI_len HI.out] at h1
     exact h1)
    obtain ⟨An, cnn, hv0⟩ := ownC_slice ON.out
    obtain ⟨Ae, cen, hv1⟩ := ownC_slice OE.out
    have HV0 := qH hv0
    have HV1 := qH hv1
    have KJ2 := qH (show Blk wp gd 28 (dcl cl (.slice An i cnn) (.slice Ae i cen)) by rw [← hv0, ← hv1]; exact KJ.out)
    obtain ⟨bz, hbz⟩ : ∃ b, ef q = b := ⟨_, rfl⟩
    have HBZ := qH hbz
    have CEQ := qH (show w.cell? ⟨be, oe + q, none⟩ = some (.bool bz) by rw [HR.out.ends q HQN.out, ← hbz, HEF.out])
    have NWG := qH (show ∀ b, b < w.heap.size → ¬ (b = gd) from fun b hb e => by have := HGW.out; omega)
    have C257 := qH (show ∀ W, Off (fun k => k = gd) w5 W → W.cell? ⟨w.heap.size, 257, none⟩ = some (.slice (some ⟨be, oe, none⟩) n ce) from fun W hW => by
     rw [(hW.blk (fun e => by have := HGW.out; omega) KD5.out).cell 257, HCS.out]
     exact dcl_e HL.out)
    have z1 : (i : Int) < (mj : Int) := Int.ofNat_lt.2 HIMJ.out
    have z2 : (q : Int) < (n : Int) := Int.ofNat_lt.2 HQN.out
    have HB1 := qH (show i + [Value.slice (some ⟨gr, 0, none⟩) j j].length ≤ 2097152 from bnd_2000 HIN.out HNF.out)
    have HB4 := qH (show i + [Value.bool bz].length ≤ 2097152 from bnd_2000 HIN.out HNF.out)
    have AP02 := qH (show ∀ k, (Value.slice An i cnn).ownBlock = some k → k ≠ g2 from fun k hk e => by
     rw [← HV0.out] at hk
     exact AJ.out.inj 0 2 q4.out.2.2.2.1 q4.out.2.1 (by decide) k hk (by rw [HV2.out, e]; rfl))
    have AP12 := qH (show ∀ k, (Value.slice Ae i cen).ownBlock = some k → k ≠ g2 from fun k hk e => by
     rw [← HV1.out] at hk
     exact AJ.out.inj 1 2 q4.out.2.2.2.2.1 q4.out.2.1 (by decide) k hk (by rw [HV2.out, e]; rfl))
    have NG0 := qH (show ∀ k, (Value.slice An i cnn).ownBlock = some k → k ≠ gd from fun k hk e => by
     have h1 := (own6_lt ON.out k (by rw [HV0.out]; exact hk)).2
     have h2 := HGH.out
     omega)
    have NG1 := qH (show ∀ k, (Value.slice Ae i cen).ownBlock = some k → k ≠ gd from fun k hk e => by
     have h1 := (own6_lt OE.out k (by rw [HV1.out]; exact hk)).2
     have h2 := HGH.out
     omega)
    have NG2 := qH (show g2 ≠ gd from Nat.ne_of_gt (Nat.lt_of_lt_of_le HGH.out HG2H.out))
    clear hjk hv0 hv1 hbz
    go_wp2_with fail
    apply oneEndN (H := fun g1 g5 A c A' c' wf => Apt wf H (4 + i + 1) (putV (putV V 0 (.slice A (i + 1) c)) 1 (.slice A' (i + 1) c')) (putX (putX Y 0 ((List.range i).map (fun q => V (q + 4)) ++ [.slice (some ⟨gr, 0, none⟩) j j])) 1 (bools (endsI ef (Lq qf x0 i) i) ++ [.bool bz])) ∧ Blk wf gd 28 (dcl cl (.slice An i cnn) (.slice Ae i cen)) ∧ Off (fun k => k = gd) w5 wf)
    case main =>
     intro fin
     have FIN := qH fin
     clear fin
     refine mc_start (TQ w5 gd g2 i q) (fun W => Blk W gd 28 (dcl cl (.slice An i cnn) (.slice Ae i cen))) 18 (by kernel_rfl) (fun wd hwd => ?_)
     have hBD : Below wp.heap.size wp wd := by rw [hwd]; exact (Below.refl _ _).drew
     have hX : TQ w5 gd g2 i q wd := TQ.below ⟨OJ.out, C2I.out⟩ hBD HG2L.out
     have KQ0 := qH (KJ2.out.below hBD KJ2.out.lt)
     have hY := KQ0.out
     have AQ0 := qH (AJ.out.below hBD)
     have HH0 := qH (Nat.le_trans HHJ.out hBD.size)
     have LB0 := qH (Nat.lt_of_lt_of_le HG2L.out hBD.size)
     clear hwd hBD
     obtain ⟨v0, hv0⟩ : ∃ v : World, v = wd := ⟨_, rfl⟩
     subst hv0
     refine mc_take (i := 0) (oi := ⟨some 96, _, _, _, _, _⟩) (v := ?_) rfl (by kernel_rfl) (by kernel_rfl) (by kernel_rfl) (fun _ _ _ h => h) rfl hX ?_ ?_; rotate_left; (intro W hW; go_simp; try with_reducible rfl); simp only [Act.put, qA, qB, qC]
     refine mc_takeS (i := 1) (oi := ⟨some 97, _, _, _, _, _⟩) (v := .slice An i cnn) rfl (by kernel_rfl) (by kernel_rfl) (by kernel_rfl) (fun _ _ _ h => h) rfl hX hY (fun W _ hS => lk_ldIss (.tmp 96) rfl rfl (by have := Blk.cell hS 256; rw [dcl_n HCLL.out] at this; exact this)) ?_; simp only [Act.put, qA, qB, qC]
     refine mc_take (i := 2) (oi := ⟨some 98, _, _, _, _, _⟩) (v := ?_) rfl (by kernel_rfl) (by kernel_rfl) (by kernel_rfl) (fun _ _ _ h => h) rfl hX ?_ ?_; rotate_left; (intro W hW; go_simp; try with_reducible rfl); simp only [Act.put, qA, qB, qC]
     refine mc_take (i := 5) (oi := ⟨some 101, _, _, _, _, _⟩) (v := ?_) rfl (by kernel_rfl) (by kernel_rfl) (by kernel_rfl) (fun _ _ _ h => h) rfl hX ?_ ?_; rotate_left; (intro W hW; go_simp; try with_reducible rfl); simp only [Act.put, qA, qB, qC]
     refine mc_takeS (i := 6) (oi := ⟨some 102, _, _, _, _, _⟩) (v := .slice Ae i cen) rfl (by kernel_rfl) (by kernel_rfl) (by kernel_rfl) (fun _ _ _ h => h) rfl hX hY (fun W _ hS => lk_ldBs (.tmp 101) rfl rfl (by have := Blk.cell hS 257; rw [dcl_e HCLL.out] at this; exact this)) ?_; simp only [Act.put, qA, qB, qC]
     refine mc_take (i := 7) (oi := ⟨some 103, _, _, _, _, _⟩) (v := ?_) rfl (by kernel_rfl) (by kernel_rfl) (by kernel_rfl) (fun _ _ _ h => h) rfl hX ?_ ?_; rotate_left; (intro W hW; go_simp; try with_reducible rfl); simp only [Act.put, qA, qB, qC]
     refine mc_take (i := 8) (oi := ⟨some 104, _, _, _, _, _⟩) (v := .slice (some ⟨be, oe, none⟩) n ce) rfl (by kernel_rfl) (by kernel_rfl) (by kernel_rfl) (fun _ _ _ h => h) rfl hX (fun W hT => lk_ldBs (.tmp 103) rfl rfl (C257.out W hT.1)) ?_; simp only [Act.put, qA, qB, qC]
     refine mc_take (i := 9) (oi := ⟨some 105, _, _, _, _, _⟩) (v := ?_) rfl (by kernel_rfl) (by kernel_rfl) (by kernel_rfl) (fun _ _ _ h => h) rfl hX ?_ ?_; rotate_left; (intro W hW; go_simp; try with_reducible rfl); simp only [Act.put, qA, qB, qC]
     refine mc_take (i := 10) (oi := ⟨some 106, _, _, _, _, _⟩) (v := ?_) rfl (by kernel_rfl) (by kernel_rfl) (by kernel_rfl) (fun _ _ _ h => h) rfl hX ?_ ?_; rotate_left; (intro W hW; go_simp; try with_reducible rfl); simp only [Act.put, qA, qB, qC]
     refine mc_take (i := 11) (oi := ⟨some 107, _, _, _, _, _⟩) (v := ?_) rfl (by kernel_rfl) (by kernel_rfl) (by kernel_rfl) (fun _ _ _ h => h) rfl hX ?_ ?_; rotate_left; (intro W hW; go_simp; try with_reducible rfl); simp only [Act.put, qA, qB, qC]
     refine mc_take (i := 12) (oi := ⟨some 108, _, _, _, _, _⟩) (v := .int .i64 (q : Int)) rfl (by kernel_rfl) (by kernel_rfl) (by kernel_rfl) (fun _ _ _ h => h) rfl hX (fun W hT => lk_ldI (.tmp 107) rfl rfl hT.2) ?_; simp only [Act.put, qA, qB, qC]
     refine mc_take (i := 13) (oi := ⟨some 109, _, _, _, _, _⟩) (v := ?_) rfl (by kernel_rfl) (by kernel_rfl) (by kernel_rfl) (fun _ _ _ h => h) rfl hX ?_ ?_; rotate_left; (intro W hW; go_simp; try with_reducible rfl); simp only [Act.put, qA, qB, qC]
     refine mc_take (i := 14) (oi := ⟨some 110, _, _, _, _, _⟩) (v := .bool bz) rfl (by kernel_rfl) (by kernel_rfl) (by kernel_rfl) (fun _ _ _ h => h) rfl hX (fun W hT => lk_ldB (.tmp 109) rfl rfl ((OW5.out.trans hT.1).cell HR.out.hbe (NWG.out be HR.out.hbe) CEQ.out)) ?_; simp only [Act.put, qA, qB, qC]
     refine mc_two (i := 3) (j := 15) (oi := ⟨some 99, _, _, _, _, _⟩) (oj := ⟨some 111, _, _, _, _, _⟩) rfl rfl (by kernel_rfl) rfl rfl (fun K hK => ?_) (fun K hK => ?_)
     ·refine wp_bldVk 25 38 (.tmp 98) rfl il (.slice none 0 0) Try.underlying25 hil hl0 hl1 rfl (.slice (some ⟨gr, 0, none⟩) j j) rfl rfl ?_
      intro v1 hk hb
      obtain ⟨g1, hg⟩ : ∃ g, g = v0.heap.size := ⟨_, rfl⟩
      rw [← hg] at hk
      rw [← hg]
      have B3_1 := qH hk
      have AQ1 := qH (AQ0.out.below hb)
      have KQ1 := qH (KQ0.out.below hb KQ0.out.lt)
      have HH1 := qH (Nat.le_trans HH0.out hb.size)
      have LB1 := qH (Nat.lt_of_lt_of_le LB0.out hb.size)
      have hX2 := hX.below hb LB0.out
      refine hK _ _ hX2 KQ1.out ?_
      clear hK K hX hY
      (try simp only [Act.put, qA, qB, qC])
      clear hk hb hg
      have hX := hX2
      clear hX2
      have hY := KQ1.out
      refine mc_two (i := 4) (j := 15) (oi := ⟨some 100, _, _, _, _, _⟩) (oj := ⟨some 111, _, _, _, _, _⟩) rfl rfl (by kernel_rfl) rfl rfl (fun K hK => ?_) (fun K hK => ?_)
      ·have ON2 := qH (show v1.ownsRow H 38 1 (.slice An i cnn) i ((List.range i).map fun q => V (q + 4)) by
        have h1 := AQ1.out.own 0 q4.out.2.2.2.1
        rw [MJ.out.a0, List.length_map, List.length_range, HV0.out] at h1
        exact h1)
       refine wp_appW (base := H) (.tmp 97) (.tmp 99) 25 rfl 38 il (.slice none 0 0) 24 Try.underlying25 hil hl0 hl1 hl2 rfl _ i ((List.range i).map fun q => V (q + 4)) rfl ON2.out _ [.slice (some ⟨gr, 0, none⟩) j j] rfl (rowB B3_1.out rfl (by decide)) (fun u hu => by obtain rfl := List.mem_singleton.1 hu; rfl) HB1.out (by decide) HH1.out ?_
       intro vn2 v2 ho hg hw
       have AQ2 := qH (AQ1.out.grow (s := 0) (v := vn2) (l := (List.range i).map (fun q => V (q + 4)) ++ [.slice (some ⟨gr, 0, none⟩) j j]) q4.out.2.2.2.1 (by rw [List.length_append, List.length_map, List.length_range]; exact ho) (by rw [HV0.out]; exact hg) (by rw [HV0.out]; exact hw))
       have KQ2 := qH (KQ1.out.grown hg fun e => NG0.out _ e.symm rfl)
       have HH2 := qH (Nat.le_trans HH1.out hg.size)
       have LB2 := qH (Nat.lt_of_lt_of_le LB1.out hg.size)
       have hX2 := hX.grow hg LB1.out fun k hk => ⟨by rw [← HH.out]; exact (own6_lt ON2.out k hk).2, AP02.out k hk⟩
       obtain ⟨A22, c22, rfl⟩ : ∃ A c, vn2 = .slice A (i + 1) c := ownC_slice ho
       refine hK _ _ hX2 KQ2.out ?_
       clear hK K hX hY
       (try simp only [Act.put, qA, qB, qC])
       clear ho hg hw
       have hX := hX2
       clear hX2
       have hY := KQ2.out
       refine mc_take (i := 17) (oi := ⟨some 113, _, _, _, _, _⟩) (v := ?_) rfl (by kernel_rfl) (by kernel_rfl) (by kernel_rfl) (fun _ _ _ h => h) rfl hX ?_ ?_; rotate_left; (intro W hW; go_simp; try with_reducible rfl); simp only [Act.put, qA, qB, qC]
       refine mc_actB (i := 15) (o := ⟨some 111, _, _, _, _, _⟩) rfl (by kernel_rfl) rfl (fun K hK => ?_)
       refine wp_bldVk 26 4 (.tmp 110) rfl i2 (.bool false) Try.underlying26 hi2 hb0 hb1 rfl (.bool bz) rfl rfl ?_
       intro v3 hk hb
       obtain ⟨g5, hg⟩ : ∃ g, g = v2.heap.size := ⟨_, rfl⟩
       rw [← hg] at hk
       rw [← hg]
       have B15_3 := qH hk
       have AQ3 := qH (AQ2.out.below hb)
       have KQ3 := qH (KQ2.out.below hb KQ2.out.lt)
       have HH3 := qH (Nat.le_trans HH2.out hb.size)
       have LB3 := qH (Nat.lt_of_lt_of_le LB2.out hb.size)
       have hX2 := hX.below hb LB2.out
       refine hK _ _ hX2 KQ3.out ?_
       clear hK K hX hY
       (try simp only [Act.put, qA, qB, qC])
       clear hk hb hg
       have hX := hX2
       clear hX2
       have hY := KQ3.out
       refine mc_actB (i := 16) (o := ⟨some 112, _, _, _, _, _⟩) rfl (by kernel_rfl) rfl (fun K hK => ?_)
       have OE4 := qH (show v3.ownsRow H 4 1 (.slice Ae i cen) i (bools (endsI ef (Lq qf x0 i) i)) by
        have h1 := AQ3.out.own 1 q4.out.2.2.2.2.1
        rw [putV_ne (by decide), putX_ne (by decide), MJ.out.a1, bools_length, endsI_len HI.out, HV1.out] at h1
        exact h1)
       refine wp_appW (base := H) (.tmp 102) (.tmp 111) 26 rfl 4 i2 (.bool false) 1 Try.underlying26 hi2 hb0 hb1 hb2 rfl _ i (bools (endsI ef (Lq qf x0 i) i)) rfl OE4.out _ [.bool bz] rfl (rowB B15_3.out rfl (by decide)) (fun u hu => by obtain rfl := List.mem_singleton.1 hu; rfl) HB4.out (by decide) HH3.out ?_
       intro ve2 wf ho hg hw
       have AF := qH (AQ3.out.grow (s := 1) (v := ve2) (l := bools (endsI ef (Lq qf x0 i) i) ++ [.bool bz]) q4.out.2.2.2.2.1 (by rw [List.length_append, bools_length, endsI_len HI.out]; exact ho) (by rw [putV_ne (by decide), HV1.out]; exact hg) (by rw [putV_ne (by decide), HV1.out]; exact hw))
       have KF := qH (KQ3.out.grown hg fun e => NG1.out _ e.symm rfl)
       have hX2 := hX.grow hg LB3.out fun k hk => ⟨by rw [← HH.out]; exact (own6_lt OE4.out k hk).2, AP12.out k hk⟩
       have HOF := qH hX2.1
       obtain ⟨A33, c33, rfl⟩ : ∃ A c, ve2 = .slice A (i + 1) c := ownC_slice ho
       have KG := qH (show Blk (wf.setCell ⟨gd, 256, none⟩ (.slice A22 (i + 1) c22)) gd 28 (dcl cl (.slice A22 (i + 1) c22) (.slice Ae i cen)) by
        have h1 := KF.out.set 256 (.slice A22 (i + 1) c22)
        rw [dcl_setn HCLL.out] at h1
        exact h1)
       have HC6 := qH (show wf.cell? ⟨gd, 256, none⟩ = some (.slice An i cnn) from (KF.out.cell 256).trans (dcl_n HCLL.out))
       have HF6 := qH (KF.out.frozen 256)
       have HC7 := qH (show (wf.setCell ⟨gd, 256, none⟩ (.slice A22 (i + 1) c22)).cell? ⟨gd, 257, none⟩ = some (.slice Ae i cen) from (KG.out.cell 257).trans (dcl_e HCLL.out))
       have HF7 := qH (KG.out.frozen 257)
       have hX3 := hX2.set NG2.out 256 (.slice A22 (i + 1) c22)
       have hX4 := hX3.set NG2.out 257 (.slice A33 (i + 1) c33)
       refine hK _ _ hX2 KF.out ?_
       clear hK K hX hY
       (try simp only [Act.put, qA, qB, qC])
       clear ho hg hw
       have hX := hX2
       clear hX2
       have hY := KF.out
       refine mc_last (i := 18) (o := ⟨none, _, _, _, _, _⟩) rfl (by kernel_rfl) rfl (fun K hK => ?_)
       refine wp_stIns (.tmp 113) (.tmp 100) rfl rfl rfl HC6.out HF6.out ?_
       refine hK _ _ hX3 ?_
       clear hK K hX hY
       (try simp only [Act.put, qA, qB, qC])
       have hX := hX3
       clear hX3
       refine mc_take (i := 19) (oi := ⟨some 114, _, _, _, _, _⟩) (v := ?_) rfl (by kernel_rfl) (by kernel_rfl) (by kernel_rfl) (fun _ _ _ h => h) rfl hX ?_ ?_; rotate_left; (intro W hW; go_simp; try with_reducible rfl); simp only [Act.put, qA, qB, qC]
       refine mc_last (i := 20) (o := ⟨none, _, _, _, _, _⟩) rfl (by kernel_rfl) rfl (fun K hK => ?_)
       refine wp_stBls (.tmp 114) (.tmp 112) rfl rfl rfl HC7.out HF7.out ?_
       refine hK _ _ hX4 ?_
       clear hK K hX
       (try simp only [Act.put, qA, qB, qC])
       refine wpAnyC_done (by kernel_rfl) ?_ _
       clear hX4
       exact FIN.out g1 g5 A22 c22 A33 c33 wf ⟨AF.out, KF.out, HOF.out⟩
      ·refine wp_bldVk 26 4 (.tmp 110) rfl i2 (.bool false) Try.underlying26 hi2 hb0 hb1 rfl (.bool bz) rfl rfl ?_
       intro v2 hk hb
       obtain ⟨g5, hg⟩ : ∃ g, g = v1.heap.size := ⟨_, rfl⟩
       rw [← hg] at hk
       rw [← hg]
       have B15_2 := qH hk
       have L15 := qH (show ∀ k, (Value.slice An i cnn).ownBlock = some k → g5 ≠ k from fun k hk => by rw [hg]; exact Nat.ne_of_gt (AQ1.out.lt q4.out.2.2.2.1 k (by rw [HV0.out]; exact hk)).1)
       have B3_2 := qH (B3_1.out.below hb B3_1.out.lt)
       have AQ2 := qH (AQ1.out.below hb)
       have KQ2 := qH (KQ1.out.below hb KQ1.out.lt)
       have HH2 := qH (Nat.le_trans HH1.out hb.size)
       have LB2 := qH (Nat.lt_of_lt_of_le LB1.out hb.size)
       have hX2 := hX.below hb LB1.out
       refine hK _ _ hX2 KQ2.out ?_
       clear hK K hX hY
       (try simp only [Act.put, qA, qB, qC])
       clear hk hb hg
       have hX := hX2
       clear hX2
       have hY := KQ2.out
       refine mc_actB (i := 4) (o := ⟨some 100, _, _, _, _, _⟩) rfl (by kernel_rfl) rfl (fun K hK => ?_)
       have ON3 := qH (show v2.ownsRow H 38 1 (.slice An i cnn) i ((List.range i).map fun q => V (q + 4)) by
        have h1 := AQ2.out.own 0 q4.out.2.2.2.1
        rw [MJ.out.a0, List.length_map, List.length_range, HV0.out] at h1
        exact h1)
       refine wp_appW (base := H) (.tmp 97) (.tmp 99) 25 rfl 38 il (.slice none 0 0) 24 Try.underlying25 hil hl0 hl1 hl2 rfl _ i ((List.range i).map fun q => V (q + 4)) rfl ON3.out _ [.slice (some ⟨gr, 0, none⟩) j j] rfl (rowB B3_2.out rfl (by decide)) (fun u hu => by obtain rfl := List.mem_singleton.1 hu; rfl) HB1.out (by decide) HH2.out ?_
       intro vn2 v3 ho hg hw
       have AQ3 := qH (AQ2.out.grow (s := 0) (v := vn2) (l := (List.range i).map (fun q => V (q + 4)) ++ [.slice (some ⟨gr, 0, none⟩) j j]) q4.out.2.2.2.1 (by rw [List.length_append, List.length_map, List.length_range]; exact ho) (by rw [HV0.out]; exact hg) (by rw [HV0.out]; exact hw))
       have KQ3 := qH (KQ2.out.grown hg fun e => NG0.out _ e.symm rfl)
       have HH3 := qH (Nat.le_trans HH2.out hg.size)
       have LB3 := qH (Nat.lt_of_lt_of_le LB2.out hg.size)
       have B15_3 := qH (B15_2.out.grown hg fun e => L15.out _ e.symm rfl)
       have hX2 := hX.grow hg LB2.out fun k hk => ⟨by rw [← HH.out]; exact (own6_lt ON3.out k hk).2, AP02.out k hk⟩
       obtain ⟨A22, c22, rfl⟩ : ∃ A c, vn2 = .slice A (i + 1) c := ownC_slice ho
       refine hK _ _ hX2 KQ3.out ?_
       clear hK K hX hY
       (try simp only [Act.put, qA, qB, qC])
       clear ho hg hw
       have hX := hX2
       clear hX2
       have hY := KQ3.out
       refine mc_take (i := 17) (oi := ⟨some 113, _, _, _, _, _⟩) (v := ?_) rfl (by kernel_rfl) (by kernel_rfl) (by kernel_rfl) (fun _ _ _ h => h) rfl hX ?_ ?_; rotate_left; (intro W hW; go_simp; try with_reducible rfl); simp only [Act.put, qA, qB, qC]
       refine mc_actB (i := 16) (o := ⟨some 112, _, _, _, _, _⟩) rfl (by kernel_rfl) rfl (fun K hK => ?_)
       have OE4 := qH (show v3.ownsRow H 4 1 (.slice Ae i cen) i (bools (endsI ef (Lq qf x0 i) i)) by
        have h1 := AQ3.out.own 1 q4.out.2.2.2.2.1
        rw [putV_ne (by decide), putX_ne (by decide), MJ.out.a1, bools_length, endsI_len HI.out, HV1.out] at h1
        exact h1)
       refine wp_appW (base := H) (.tmp 102) (.tmp 111) 26 rfl 4 i2 (.bool false) 1 Try.underlying26 hi2 hb0 hb1 hb2 rfl _ i (bools (endsI ef (Lq qf x0 i) i)) rfl OE4.out _ [.bool bz] rfl (rowB B15_3.out rfl (by decide)) (fun u hu => by obtain rfl := List.mem_singleton.1 hu; rfl) HB4.out (by decide) HH3.out ?_
       intro ve2 wf ho hg hw
       have AF := qH (AQ3.out.grow (s := 1) (v := ve2) (l := bools (endsI ef (Lq qf x0 i) i) ++ [.bool bz]) q4.out.2.2.2.2.1 (by rw [List.length_append, bools_length, endsI_len HI.out]; exact ho) (by rw [putV_ne (by decide), HV1.out]; exact hg) (by rw [putV_ne (by decide), HV1.out]; exact hw))
       have KF := qH (KQ3.out.grown hg fun e => NG1.out _ e.symm rfl)
       have hX2 := hX.grow hg LB3.out fun k hk => ⟨by rw [← HH.out]; exact (own6_lt OE4.out k hk).2, AP12.out k hk⟩
       have HOF := qH hX2.1
       obtain ⟨A33, c33, rfl⟩ : ∃ A c, ve2 = .slice A (i + 1) c := ownC_slice ho
       have KG := qH (show Blk (wf.setCell ⟨gd, 256, none⟩ (.slice A22 (i + 1) c22)) gd 28 (dcl cl (.slice A22 (i + 1) c22) (.slice Ae i cen)) by
        have h1 := KF.out.set 256 (.slice A22 (i + 1) c22)
        rw [dcl_setn HCLL.out] at h1
        exact h1)
       have HC6 := qH (show wf.cell? ⟨gd, 256, none⟩ = some (.slice An i cnn) from (KF.out.cell 256).trans (dcl_n HCLL.out))
       have HF6 := qH (KF.out.frozen 256)
       have HC7 := qH (show (wf.setCell ⟨gd, 256, none⟩ (.slice A22 (i + 1) c22)).cell? ⟨gd, 257, none⟩ = some (.slice Ae i cen) from (KG.out.cell 257).trans (dcl_e HCLL.out))
       have HF7 := qH (KG.out.frozen 257)
       have hX3 := hX2.set NG2.out 256 (.slice A22 (i + 1) c22)
       have hX4 := hX3.set NG2.out 257 (.slice A33 (i + 1) c33)
       refine hK _ _ hX2 KF.out ?_
       clear hK K hX hY
       (try simp only [Act.put, qA, qB, qC])
       clear ho hg hw
       have hX := hX2
       clear hX2
       have hY := KF.out
       refine mc_last (i := 18) (o := ⟨none, _, _, _, _, _⟩) rfl (by kernel_rfl) rfl (fun K hK => ?_)
       refine wp_stIns (.tmp 113) (.tmp 100) rfl rfl rfl HC6.out HF6.out ?_
       refine hK _ _ hX3 ?_
       clear hK K hX hY
       (try simp only [Act.put, qA, qB, qC])
       have hX := hX3
       clear hX3
       refine mc_take (i := 19) (oi := ⟨some 114, _, _, _, _, _⟩) (v := ?_) rfl (by kernel_rfl) (by kernel_rfl) (by kernel_rfl) (fun _ _ _ h => h) rfl hX ?_ ?_; rotate_left; (intro W hW; go_simp; try with_reducible rfl); simp only [Act.put, qA, qB, qC]
       refine mc_last (i := 20) (o := ⟨none, _, _, _, _, _⟩) rfl (by kernel_rfl) rfl (fun K hK => ?_)
       refine wp_stBls (.tmp 114) (.tmp 112) rfl rfl rfl HC7.out HF7.out ?_
       refine hK _ _ hX4 ?_
       clear hK K hX
       (try simp only [Act.put, qA, qB, qC])
       refine wpAnyC_done (by kernel_rfl) ?_ _
       clear hX4
       exact FIN.out g1 g5 A22 c22 A33 c33 wf ⟨AF.out, KF.out, HOF.out⟩
     ·refine wp_bldVk 26 4 (.tmp 110) rfl i2 (.bool false) Try.underlying26 hi2 hb0 hb1 rfl (.bool bz) rfl rfl ?_
      intro v1 hk hb
      obtain ⟨g5, hg⟩ : ∃ g, g = v0.heap.size := ⟨_, rfl⟩
      rw [← hg] at hk
      rw [← hg]
      have B15_1 := qH hk
      have L15 := qH (show ∀ k, (Value.slice An i cnn).ownBlock = some k → g5 ≠ k from fun k hk => by rw [hg]; exact Nat.ne_of_gt (AQ0.out.lt q4.out.2.2.2.1 k (by rw [HV0.out]; exact hk)).1)
      have AQ1 := qH (AQ0.out.below hb)
      have KQ1 := qH (KQ0.out.below hb KQ0.out.lt)
      have HH1 := qH (Nat.le_trans HH0.out hb.size)
      have LB1 := qH (Nat.lt_of_lt_of_le LB0.out hb.size)
      have hX2 := hX.below hb LB0.out
      refine hK _ _ hX2 KQ1.out ?_
      clear hK K hX hY
      (try simp only [Act.put, qA, qB, qC])
      clear hk hb hg
      have hX := hX2
      clear hX2
      have hY := KQ1.out
      refine mc_actB (i := 3) (o := ⟨some 99, _, _, _, _, _⟩) rfl (by kernel_rfl) rfl (fun K hK => ?_)
      refine wp_bldVk 25 38 (.tmp 98) rfl il (.slice none 0 0) Try.underlying25 hil hl0 hl1 rfl (.slice (some ⟨gr, 0, none⟩) j j) rfl rfl ?_
      intro v2 hk hb
      obtain ⟨g1, hg⟩ : ∃ g, g = v1.heap.size := ⟨_, rfl⟩
      rw [← hg] at hk
      rw [← hg]
      have B3_2 := qH hk
      have B15_2 := qH (B15_1.out.below hb B15_1.out.lt)
      have AQ2 := qH (AQ1.out.below hb)
      have KQ2 := qH (KQ1.out.below hb KQ1.out.lt)
      have HH2 := qH (Nat.le_trans HH1.out hb.size)
      have LB2 := qH (Nat.lt_of_lt_of_le LB1.out hb.size)
      have hX2 := hX.below hb LB1.out
      refine hK _ _ hX2 KQ2.out ?_
      clear hK K hX hY
      (try simp only [Act.put, qA, qB, qC])
      clear hk hb hg
      have hX := hX2
      clear hX2
      have hY := KQ2.out
      refine mc_actB (i := 4) (o := ⟨some 100, _, _, _, _, _⟩) rfl (by kernel_rfl) rfl (fun K hK => ?_)
      have ON3 := qH (show v2.ownsRow H 38 1 (.slice An i cnn) i ((List.range i).map fun q => V (q + 4)) by
       have h1 := AQ2.out.own 0 q4.out.2.2.2.1
       rw [MJ.out.a0, List.length_map, List.length_range, HV0.out] at h1
       exact h1)
      refine wp_appW (base := H) (.tmp 97) (.tmp 99) 25 rfl 38 il (.slice none 0 0) 24 Try.underlying25 hil hl0 hl1 hl2 rfl _ i ((List.range i).map fun q => V (q + 4)) rfl ON3.out _ [.slice (some ⟨gr, 0, none⟩) j j] rfl (rowB B3_2.out rfl (by decide)) (fun u hu => by obtain rfl := List.mem_singleton.1 hu; rfl) HB1.out (by decide) HH2.out ?_
      intro vn2 v3 ho hg hw
      have AQ3 := qH (AQ2.out.grow (s := 0) (v := vn2) (l := (List.range i).map (fun q => V (q + 4)) ++ [.slice (some ⟨gr, 0, none⟩) j j]) q4.out.2.2.2.1 (by rw [List.length_append, List.length_map, List.length_range]; exact ho) (by rw [HV0.out]; exact hg) (by rw [HV0.out]; exact hw))
      have KQ3 := qH (KQ2.out.grown hg fun e => NG0.out _ e.symm rfl)
      have HH3 := qH (Nat.le_trans HH2.out hg.size)
      have LB3 := qH (Nat.lt_of_lt_of_le LB2.out hg.size)
      have B15_3 := qH (B15_2.out.grown hg fun e => L15.out _ e.symm rfl)
      have hX2 := hX.grow hg LB2.out fun k hk => ⟨by rw [← HH.out]; exact (own6_lt ON3.out k hk).2, AP02.out k hk⟩
      obtain ⟨A22, c22, rfl⟩ : ∃ A c, vn2 = .slice A (i + 1) c := ownC_slice ho
      refine hK _ _ hX2 KQ3.out ?_
      clear hK K hX hY
      (try simp only [Act.put, qA, qB, qC])
      clear ho hg hw
      have hX := hX2
      clear hX2
      have hY := KQ3.out
      refine mc_take (i := 17) (oi := ⟨some 113, _, _, _, _, _⟩) (v := ?_) rfl (by kernel_rfl) (by kernel_rfl) (by kernel_rfl) (fun _ _ _ h => h) rfl hX ?_ ?_; rotate_left; (intro W hW; go_simp; try with_reducible rfl); simp only [Act.put, qA, qB, qC]
      refine mc_actB (i := 16) (o := ⟨some 112, _, _, _, _, _⟩) rfl (by kernel_rfl) rfl (fun K hK => ?_)
      have OE4 := qH (show v3.ownsRow H 4 1 (.slice Ae i cen) i (bools (endsI ef (Lq qf x0 i) i)) by
       have h1 := AQ3.out.own 1 q4.out.2.2.2.2.1
       rw [putV_ne (by decide), putX_ne (by decide), MJ.out.a1, bools_length, endsI_len HI.out, HV1.out] at h1
       exact h1)
      refine wp_appW (base := H) (.tmp 102) (.tmp 111) 26 rfl 4 i2 (.bool false) 1 Try.underlying26 hi2 hb0 hb1 hb2 rfl _ i (bools (endsI ef (Lq qf x0 i) i)) rfl OE4.out _ [.bool bz] rfl (rowB B15_3.out rfl (by decide)) (fun u hu => by obtain rfl := List.mem_singleton.1 hu; rfl) HB4.out (by decide) HH3.out ?_
      intro ve2 wf ho hg hw
      have AF := qH (AQ3.out.grow (s := 1) (v := ve2) (l := bools (endsI ef (Lq qf x0 i) i) ++ [.bool bz]) q4.out.2.2.2.2.1 (by rw [List.length_append, bools_length, endsI_len HI.out]; exact ho) (by rw [putV_ne (by decide), HV1.out]; exact hg) (by rw [putV_ne (by decide), HV1.out]; exact hw))
      have KF := qH (KQ3.out.grown hg fun e => NG1.out _ e.symm rfl)
      have hX2 := hX.grow hg LB3.out fun k hk => ⟨by rw [← HH.out]; exact (own6_lt OE4.out k hk).2, AP12.out k hk⟩
      have HOF := qH hX2.1
      obtain ⟨A33, c33, rfl⟩ : ∃ A c, ve2 = .slice A (i + 1) c := ownC_slice ho
      have KG := qH (show Blk (wf.setCell ⟨gd, 256, none⟩ (.slice A22 (i + 1) c22)) gd 28 (dcl cl (.slice A22 (i + 1) c22) (.slice Ae i cen)) by
       have h1 := KF.out.set 256 (.slice A22 (i + 1) c22)
       rw [dcl_setn HCLL.out] at h1
       exact h1)
      have HC6 := qH (show wf.cell? ⟨gd, 256, none⟩ = some (.slice An i cnn) from (KF.out.cell 256).trans (dcl_n HCLL.out))
      have HF6 := qH (KF.out.frozen 256)
      have HC7 := qH (show (wf.setCell ⟨gd, 256, none⟩ (.slice A22 (i + 1) c22)).cell? ⟨gd, 257, none⟩ = some (.slice Ae i cen) from (KG.out.cell 257).trans (dcl_e HCLL.out))
      have HF7 := qH (KG.out.frozen 257)
      have hX3 := hX2.set NG2.out 256 (.slice A22 (i + 1) c22)
      have hX4 := hX3.set NG2.out 257 (.slice A33 (i + 1) c33)
      refine hK _ _ hX2 KF.out ?_
      clear hK K hX hY
      (try simp only [Act.put, qA, qB, qC])
      clear ho hg hw
      have hX := hX2
      clear hX2
      have hY := KF.out
      refine mc_last (i := 18) (o := ⟨none, _, _, _, _, _⟩) rfl (by kernel_rfl) rfl (fun K hK => ?_)
      refine wp_stIns (.tmp 113) (.tmp 100) rfl rfl rfl HC6.out HF6.out ?_
      refine hK _ _ hX3 ?_
      clear hK K hX hY
      (try simp only [Act.put, qA, qB, qC])
      have hX := hX3
      clear hX3
      refine mc_take (i := 19) (oi := ⟨some 114, _, _, _, _, _⟩) (v := ?_) rfl (by kernel_rfl) (by kernel_rfl) (by kernel_rfl) (fun _ _ _ h => h) rfl hX ?_ ?_; rotate_left; (intro W hW; go_simp; try with_reducible rfl); simp only [Act.put, qA, qB, qC]
      refine mc_last (i := 20) (o := ⟨none, _, _, _, _, _⟩) rfl (by kernel_rfl) rfl (fun K hK => ?_)
      refine wp_stBls (.tmp 114) (.tmp 112) rfl rfl rfl HC7.out HF7.out ?_
      refine hK _ _ hX4 ?_
      clear hK K hX
      (try simp only [Act.put, qA, qB, qC])
      refine wpAnyC_done (by kernel_rfl) ?_ _
      clear hX4
      exact FIN.out g1 g5 A22 c22 A33 c33 wf ⟨AF.out, KF.out, HOF.out⟩
    case fin =>
     rintro g1 g5 A22 c22 A33 c33 wf ⟨hAF, hKF, hOF⟩
     have AF := qH hAF
     have KF := qH hKF
     have OF := qH hOF
     clear hAF hKF hOF
     obtain ⟨vn, hvn⟩ : ∃ v, v = Value.slice A22 (i + 1) c22 := ⟨_, rfl⟩
     obtain ⟨ve, hve⟩ : ∃ v, v = Value.slice A33 (i + 1) c33 := ⟨_, rfl⟩
     rw [← hvn, ← hve] at AF
     rw [← hvn, ← hve]
     obtain ⟨wz, hwz⟩ : ∃ v, v = (wf.setCell ⟨gd, 256, none⟩ vn).setCell ⟨gd, 257, none⟩ ve := ⟨_, rfl⟩
     rw [← hwz]
     have AZ := qH (show Apt wz H (4 + i + 1) _ _ from AF.out.stay (w' := wz) fun k hk _ => by
      have hne : k ≠ gd := Nat.ne_of_gt (Nat.lt_of_lt_of_le HGH.out hk)
      rw [hwz]
      exact (Below.heap_setCell _ ⟨gd, 257, none⟩ _ k hne).trans (Below.heap_setCell _ ⟨gd, 256, none⟩ _ k hne))
     have KZ := qH (show Blk wz gd 28 (dcl cl vn ve) by
      have h1 := (KF.out.set 256 vn).set 257 ve
      rw [dcl_setn HCLL.out, dcl_sete HCLL.out, ← hwz] at h1
      exact h1)
     have OZ := qH (show Off (fun k => k = gd) w5 wz by
      rw [hwz]
      exact (OF.out.trans (Off.set wf 256 vn rfl)).trans (Off.set (wf.setCell ⟨gd, 256, none⟩ vn) 257 ve rfl))
     have MZ := qH (show Md4 qf x0 ef (i + 1) n (putV (putV V 0 vn) 1 ve) (putX (putX Y 0 ((List.range i).map (fun q => V (q + 4)) ++ [.slice (some ⟨gr, 0, none⟩) j j])) 1 (bools (endsI ef (Lq qf x0 i) i) ++ [.bool bz])) (Lq qf x0 (i + 1)) by
      rw [← HMA.out]
      exact MJ.out.next HQ.out HBZ.out HRA.out HV4.out Y4A.out)
     have HI2 := qH (show i + 1 ≤ (Lq qf x0 (i + 1)).length by rw [← HMA.out, ← HMJL.out]; exact HIMJ.out)
     have V2Z := qH (show Value.slice (some ⟨g2, 0, none⟩) mj c2 = putV (putV V 0 vn) 1 ve 2 by rw [putV_ne (by decide), putV_ne (by decide)]; exact HV2.out.symm)
     have V3Z := qH (show putV (putV V 0 vn) 1 ve 3 = .slice (some ⟨gn, 0, none⟩) n n by rw [putV_ne (by decide), putV_ne (by decide)]; exact HV3.out)
     have e3 := wrap_one i (lt_bigN HIN.out HNF.out)
     have e4 := wrap_one' i (lt_bigN HIN.out HNF.out)
     clear hwz hvn hve z1 z2 k1
     go_wp2_with fail
     refine ⟨⟨i + 1, _, _, by congr 1, HI2.out, V2Z.out, V3Z.out, AZ.out, ?_, OZ.out, MZ.out⟩, by simpa [intOf] using HMI.out⟩
     rw [putV_ne (by decide), putV_at, putV_at]
     exact KZ.out
  ·obtain rfl : m = i := Nat.le_antisymm (Nat.le_of_not_lt him) (by rw [HML.out]; exact HI.out)
   have y1 : ¬ (m : Int) < (m : Int) := Int.lt_irrefl _
   have ON := qH (show wi.ownsRow H 38 1 (U 0) m ((List.range m).map fun q => U (q + 4)) by
    have h1 := AI.out.own 0 (by omega)
    rw [MI.out.a0, List.length_map, List.length_range] at h1
    exact h1)
   have OE := qH (show wi.ownsRow H 4 1 (U 1) m (bools (endsI ef (Lq qf x0 m) m)) by
    have h1 := AI.out.own 1 (by omega)
    rw [MI.out.a1, bools_length, endsI_len HI.out] at h1
    exact h1)
   obtain ⟨An, cnn, hu0⟩ := ownC_slice ON.out
   obtain ⟨Ae, cen, hu1⟩ := ownC_slice OE.out
   obtain ⟨da, hda⟩ : ∃ da, da = dcl cl (U 0) (U 1) := ⟨_, rfl⟩
   have HDLa := qH (show da.length = 258 by rw [hda]; exact dcl_len HCLL.out)
   have HDOa := qH (show da.all (·.oneCell') = true by rw [hda, hu0, hu1]; exact dcl_one)
   have HDSa := qH (show (Try.prog.info? 28).map (·.size) = some da.length by rw [hda]; exact size_dfa HCLL.out)
   have KDa := qH (show Blk wi gd 28 da by rw [hda]; exact KI.out)
   have HDA := qH hda
   clear him hu0 hu1 hda
   go_wp2_with (first
    | ((with_reducible refine atDst 115 ?_); refine wpList_ldArr rfl 28 _ rfl gd rfl 28 _ _ KDa.out Try.underlying28 rfl HDSa.out ?_; (try simp only [Act.put, qA, qB, qC]))
    | ((with_reducible refine atStore 28 4 115 ?_); refine wpList_stBlk rfl 28 _ _ rfl gd da rfl rfl 28 _ KDa.out HDSa.out (by rw [HDLa.out]) HDOa.out (Below.refl gd wi) (Nat.le_refl _) ?_; intro we hk hb hs ho; have KE := qH hk; have HO9 := qH ho; have BE := qH hb; clear hk hb hs ho; (try simp only [Act.put, qA, qB, qC])))
   refine bodyPost_ret (results_blk rfl _ _ gd 28 _ _ rfl KE.out Try.underlying28 rfl HDSa.out) rfl ?_
   have hqm : QP D m = Lq qf x0 m := (HLQ.out m).symm
   refine ⟨da, rfl, ⟨m, by rw [hqm]; exact HML.out.symm, ?_⟩, ?_⟩
   ·have h1 : numD D m = ⟨cl, rowsI qf (Lq qf x0 m) m, endsI ef (Lq qf x0 m) m⟩ := by
     unfold numD
     rw [hqm, HCL.out, HQF.out, HEF.out]
    rw [h1, HDA.out]
    exact MI.out.dfa (AI.out.stay fun q hq _ => HO9.out q (Nat.ne_of_gt (Nat.lt_of_lt_of_le HGH.out hq))) HCLL.out HI.out
   ·refine ⟨BE.out.os.trans (OW5.out.trans OI.out).os, BE.out.tape.trans (OW5.out.trans OI.out).tape, BE.out.output.trans (OW5.out.trans OI.out).output, Nat.le_trans (OW5.out.trans OI.out).size BE.out.size, fun k hk => ?_⟩
    have hne : ¬ (k = gd) := fun e => by have := HGW.out; omega
    exact (HO9.out k hne).trans ((OW5.out.trans OI.out).block k hk hne)
end Go.Proofs.Ytiehefnbdijiaaa
