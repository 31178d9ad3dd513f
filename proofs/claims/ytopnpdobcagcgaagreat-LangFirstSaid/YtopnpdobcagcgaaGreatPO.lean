/-
  Texts of this proof, put together: (PyG) What makes expressions out of numbers: Made and Rx. No statement is proved here. (RxG) What package rx (Compare) answers and leaves, with the library's functions that it calls: draws and blocks of its own alone. No statement is proved here. (RxE) What package rx (None, Empty, Bytes, Equal) answers and leaves. No statement is proved here. (RxI) What package rx (flat, without) answers and leaves. No statement is proved here.
-/
import Derived.Test.YtopnpdobcagcgaaGreatPN
import Derived.Test.YtopnpdobcagcgaaGreatPD
import Derived.Test.YtopnpdobcagcgaaGreatPE
import Derived.Test.YtopnpdobcagcgaaGreatPC
namespace Go.Proofs.YtopnpdobcagcgaaGreat
open Go.RowKit
set_option linter.unusedSimpArgs false
set_option linter.unusedVariables false
def madeT (ps : List UInt8) : T := (rxP ps 10 0 0).1
theorem madeT_good (ps : List UInt8) : good (madeT ps) := rxP_good ps 10 0 0
theorem built_picks (A : Option Addr) (n c : Nat) : Tryz.prog.built 49 [(0, .slice A n c)] = some #[.slice A n c, .int .i64 0] := by kernel_rfl
set_option maxHeartbeats 4000000 in
set_option maxRecDepth 1000000 in
theorem made_any (V : Value) (ps : List UInt8) (w : World) (hr : Row w V (bvs ps)) (hl : ps.length ≤ 1048576) :
  Calls Tryz.prog 7 #[V] w fun e w' => e = .returned (.pointer (some ⟨w.heap.size, 0, none⟩)) ∧ Below w.heap.size w w' ∧ Pk w' w.heap.size V ps 0 := by
 have R := Lib.hid hr
 obtain ⟨A, cap, rfl, _⟩ := hr
 obtain ⟨n, hn⟩ : ∃ n, n = (bvs ps).length := ⟨_, rfl⟩
 rw [← hn] at R ⊢
 obtain ⟨cs, hcs⟩ : ∃ cs, cs = [Value.slice A n cap, .int .i64 0] := ⟨_, rfl⟩
 have HB := Lib.hid (show Tryz.prog.built 49 [(0, .slice A n cap)] = some cs.toArray by rw [hcs]; exact built_picks A n cap)
 have HC := Lib.hid hcs
 clear hn hcs
 go_enter Tryz.func7, Tryz.ntmps7
 go_wp2_with (first
  | ((with_reducible refine atDst 4 ?_); refine wpList_bld rfl 49 _ rfl cs HB.out ?_; (try simp only [Act.put, qA, qB, qC]))
  | ((with_reducible refine atDst 5 ?_); refine wpList_box rfl 49 _ rfl cs rfl (Below.refl w.heap.size w) (Nat.le_refl _) ?_; intro w1 hk1 hb1 hs1 _; have K1 := Lib.hid hk1; have B1 := Lib.hid hb1; clear hk1 hb1 hs1; (try simp only [Act.put, qA, qB, qC])))
 go_ret
 have hk := K1.out
 rw [HC.out] at hk
 exact ⟨rfl, B1.out, ⟨hk, R.out.toB.below B1.out, Nat.zero_le _, hl⟩⟩
set_option maxHeartbeats 4000000 in
set_option maxRecDepth 1000000 in
theorem pickRx_any (g : Nat) (V : Value) (ps : List UInt8) (w : World) (h : Pk w g V ps 0) :
  Calls Tryz.prog 8 #[.pointer (some ⟨g, 0, none⟩)] w fun e w' => ∃ ds, e = .returned (.agg ds.toArray) ∧ RxD (fun k => w.heap.size ≤ k ∧ k < w'.heap.size) w' ds (madeT ps) ∧ w.grownBy w' (some g) := by
 have HPK := Lib.hid h
 have HNE := Lib.hid (show some w.heap.size ≠ some g from fun he => by have h1 := Option.some.inj he; have h2 := h.blk.lt; omega)
 obtain ⟨i0, hi0, hz0, hz1, hz2⟩ := inf_rx'
 obtain ⟨z, hz⟩ : ∃ z, z = rxc 0 zeroS (.slice none 0 0) := ⟨_, rfl⟩
 have HZL := Lib.hid (show z.length = 6 by rw [hz]; rfl)
 have HZ0 := Lib.hid (show i0.zero = some (.agg z.toArray) by rw [hz]; exact hz0)
 clear hz hz0 h
 go_enter Tryz.func8, Tryz.ntmps8
 go_wp2_with ((with_reducible refine atDst 2 ?_); refine wpList_new rfl 29 rfl i0 _ z hi0 HZ0.out rfl (Below.refl w.heap.size w) (Nat.le_refl _) ?_; intro w1 hk1 hb1 hs1 _; have K1 := Lib.hid hk1; have G1 := Lib.hid (below_grownG g hb1); have P1 := Lib.hid (HPK.out.below hb1); clear hk1 hb1 hs1; (try simp only [Act.put, qA, qB, qC]))
 refine (rx_any g V ps 10 0 0 w1 (by omega) (by omega) P1.out).mono ?_
 rintro e w2 ⟨es, rfl, hes, hg, hp⟩
 have E10 := Lib.hid hes
 have E6 := Lib.hid hes.length
 have E1 := Lib.hid (show es.all (·.oneCell') = true from List.all_eq_true.2 (RxD.one hes))
 have GX := Lib.hid (grownG_trans G1.out hg)
 have KX := Lib.hid (K1.out.grown hg HNE.out)
 have SX := Lib.hid (show w.heap.size < w1.heap.size from K1.out.lt)
 clear hes hg hp
 go_wp2_with ((with_reducible refine atStore 29 2 4 ?_); refine wpList_stBlk rfl 29 _ _ rfl w.heap.size es rfl rfl 29 _ KX.out (size_rx E6.out) (by rw [HZL.out, E6.out]) E1.out (Below.refl w.heap.size w2) (Nat.le_refl _) ?_; intro w11 hk hb hs ho; have K11 := Lib.hid hk; have G11 := Lib.hid (grownG_below GX.out hb); have E11 := Lib.hid (RxD.mono (E10.out.stay (w' := w11) fun k hk => ho k (by have h1 := hk.1; have h2 := SX.out; omega)) (D' := fun k => w.heap.size ≤ k ∧ k < w11.heap.size) fun k hk => ⟨by have h1 := hk.1; have h2 := SX.out; omega, by have h1 := hk.2; omega⟩); clear hk hb hs ho; (try simp only [Act.put, qA, qB, qC]))
 refine bodyPost_ret (results_blk rfl _ _ w.heap.size 29 _ _ rfl K11.out Tryz.underlying29 rfl (size_rx E6.out)) rfl ?_
 exact ⟨es, rfl, E11.out, G11.out⟩
end Go.Proofs.YtopnpdobcagcgaaGreat
namespace Go.Proofs.YtopnpdobcagcgaaGreat
open Go.RowKit
set_option linter.unusedSimpArgs false
set_option linter.unusedVariables false
set_option maxHeartbeats 2000000 in
set_option maxRecDepth 100000 in
theorem isNaN_any (x : Int) (w : World) : Calls Tryz.prog 109 #[.int .i64 x] w fun e w' => e = .returned (.bool false) ∧ w' = w := by
 go_enter Tryz.func109, Tryz.ntmps109
 have h : (x != x) = false := by simp
 go_wp2_with fail
 go_ret
 first | exact ⟨rfl, rfl⟩ | simp
set_option maxHeartbeats 2000000 in
set_option maxRecDepth 100000 in
theorem cmpInt_any (x y : Int) (w : World) : Calls Tryz.prog 96 #[.int .i64 x, .int .i64 y] w fun e w' => e = .returned (.int .i64 (kindD x y)) ∧ w' = w := by
 go_enter Tryz.func96, Tryz.ntmps96
 go_wp2_with fail
 refine (isNaN_any x w).mono ?_
 rintro e w1 ⟨rfl, rfl⟩
 go_wp2_with fail
 refine (isNaN_any y w1).mono ?_
 rintro e w2 ⟨rfl, rfl⟩
 by_cases h1 : x < y
 ·have hk : kindD x y = -1 := by unfold kindD; rw [if_neg (by omega), if_pos h1]
  go_wp2_with fail
  go_ret
  rw [hk]
  exact ⟨rfl, rfl⟩
 ·by_cases h2 : y < x
  ·have hk : kindD x y = 1 := by unfold kindD; rw [if_neg (by omega), if_neg h1]
   go_wp2_with fail
   go_ret
   rw [hk]
   exact ⟨rfl, rfl⟩
  ·have hk : kindD x y = 0 := by unfold kindD; rw [if_pos (by omega)]
   go_wp2_with fail
   go_ret
   rw [hk]
   exact ⟨rfl, rfl⟩
abbrev cmpV : Value := .func (.func 90) #[] #[]
set_option maxHeartbeats 4000000 in
set_option maxRecDepth 100000 in
theorem cmpFunc_gr (l m : List T) (v v' : Value) (w : World) (hl : RowT w.heap.size w v l) (hm : RowT w.heap.size w v' m) (hn : l.length ≤ 1099511627776)
  (hcmp : ∀ a ∈ l, ∀ (b : T) (cs ds : List Value) (w1 : World), RxV w1.heap.size w1 cs a → RxV w1.heap.size w1 ds b → Calls Tryz.prog 90 #[.agg cs.toArray, .agg ds.toArray] w1 fun e w' => e = .returned (.int .i64 (cmpT a b)) ∧ Gr w1 w') :
  Calls Tryz.prog 98 #[v, v', cmpV] w fun e w' => e = .returned (.int .i64 (cmpL l m)) ∧ Gr w w' := by
 have IH := Lib.hid hcmp
 clear hcmp
 obtain ⟨A, cap, f, rfl, h1, h2, h0, h3, h4⟩ := hl
 obtain ⟨A', cap', f', rfl, h1', h2', h0', h3', h4'⟩ := hm
 have H3 := Lib.hid h3
 have H4 := Lib.hid h4
 have H3' := Lib.hid h3'
 have H4' := Lib.hid h4'
 have HN := Lib.hid hn
 obtain ⟨i0, hi0, hz0, hz1, hz2⟩ := infoP inf_rx
 obtain ⟨z, hz⟩ : ∃ z, z = Value.int .i64 0 :: (wds (fun _ => false) ++ [Value.slice none 0 0]) := ⟨_, rfl⟩
 have HZL := Lib.hid (show z.length = 6 by rw [hz]; rfl)
 have HZ0 := Lib.hid (show i0.zero = some (.agg z.toArray) by rw [hz]; exact hz0)
 clear h1 h2 h0 h3 h4 h1' h2' h0' h3' h4' hn hz hz0 hz1 hz2
 go_enter Tryz.func98, Tryz.ntmps98
 go_wp2_with fail
 go_loopw [13] (fun i wl => ∃ j : Nat, j ≤ l.length ∧ j ≤ m.length ∧ i = .int .i64 (j : Int) ∧ (∀ (i : Nat) (a b : T), i < j → l[i]? = some a → m[i]? = some b → cmpT a b = 0) ∧ Gr w wl) (fun i _ => l.length - (intOf i).toNat)
 case atStart => exact ⟨0, by omega, by omega, by simp, fun i a b h => by omega, Gr.refl _⟩
 case round =>
  obtain ⟨j, hj, hjm0, rfl, hsm, hb⟩ := hrel
  have HSM := Lib.hid hsm
  have HB := Lib.hid hb
  have HBB := Lib.hid hb.below
  clear hsm hb
  by_cases hjl : j < l.length
  ·have j1 : (j : Int) < (l.length : Int) := Int.ofNat_lt.2 hjl
   obtain ⟨b, off, rfl, hb, hrng⟩ := H3.out (by rintro rfl; simp at hjl)
   obtain ⟨a, ha⟩ : ∃ a, l[j]? = some a := ⟨_, List.getElem?_eq_getElem hjl⟩
   have HV := Lib.hid (RxV.part H4.out HBB.out HBB.out.size ha)
   have HRG := Lib.hid (range_below (hrng j hjl) HBB.out hb)
   have HAL := Lib.hid (List.mem_of_getElem? ha)
   have HAJ := Lib.hid ha
   have hj62 : j ≤ 4611686018427387904 := by have := HN.out; omega
   have e3 := wrap_one j hj62
   have e4 := wrap_one' j hj62
   have HG0 := Lib.hid HBB.out.size
   clear hrng ha hj62 hb
   by_cases hjm : j < m.length
   ·have j2 : ¬ ((j : Int) ≥ (m.length : Int)) := by omega
    obtain ⟨b', off', rfl, hb', hrng'⟩ := H3'.out (by rintro rfl; simp at hjm)
    obtain ⟨c, hc⟩ : ∃ c, m[j]? = some c := ⟨_, List.getElem?_eq_getElem hjm⟩
    have HV' := Lib.hid (RxV.part H4'.out HBB.out HBB.out.size hc)
    have HRG' := Lib.hid (range_below (hrng' j hjm) HBB.out hb')
    have HB2 := Lib.hid (Nat.lt_of_lt_of_le hb' HBB.out.size)
    have HCJ := Lib.hid hc
    clear hrng' hc hb'
    go_wp2_with (first
     | ((with_reducible refine atDst 17 ?_); refine wpList_load_mid rfl 29 _ rfl b (off + j * 6) rfl (f j) _ HRG.out Tryz.underlying29 rfl (size_rx HV.out.length) ?_)
     | ((with_reducible refine atDst 8 ?_); refine wpList_newE rfl 29 rfl i0 _ z hi0 HZ0.out rfl (Gr.refl wr) ?_; intro w2 hk2 hg2 hs2 _; have K2 := Lib.hid hk2; have G2 := Lib.hid hg2; clear hk2 hg2 hs2)
     | ((with_reducible refine atStore 29 8 17 ?_); refine wpList_stE rfl 29 _ _ rfl wr.heap.size (f j) rfl rfl 29 _ K2.out (size_rx HV.out.length) (by rw [HZL.out, HV.out.length]) (List.all_eq_true.2 HV.out.one) G2.out (Nat.le_refl _) ?_; intro w3 hk3 hg3 hs3 _; have K3 := Lib.hid hk3; have G3 := Lib.hid hg3; have HRG3 := Lib.hid (range_below HRG'.out hg3.below HB2.out); clear hk3 hg3 hs3)
     | ((with_reducible refine atDst 25 ?_); refine wpList_load_mid rfl 29 _ rfl b' (off' + j * 6) rfl (f' j) _ HRG3.out Tryz.underlying29 rfl (size_rx HV'.out.length) ?_)
     | ((with_reducible refine atDst 9 ?_); refine wpList_newE rfl 29 rfl i0 _ z hi0 HZ0.out rfl G3.out ?_; intro w4 hk4 hg4 hs4 ho4; have L4 := Lib.hid hk4; have G4 := Lib.hid hg4; have K4 := Lib.hid (show Blk w4 wr.heap.size 29 (f j) from (ho4 _ K3.out.lt).trans K3.out); have HS3 := Lib.hid K3.out.lt; clear hk4 hg4 hs4 ho4)
     | ((with_reducible refine atStore 29 9 25 ?_); refine wpList_stE rfl 29 _ _ rfl w3.heap.size (f' j) rfl rfl 29 _ L4.out (size_rx HV'.out.length) (by rw [HZL.out, HV'.out.length]) (List.all_eq_true.2 HV'.out.one) G4.out (Nat.le_of_lt HS3.out) ?_; intro w5 hk5 hg5 hs5 ho5; have L5 := Lib.hid hk5; have G5 := Lib.hid hg5; have K5 := Lib.hid (show Blk w5 wr.heap.size 29 (f j) from (ho5 _ (Nat.ne_of_lt HS3.out)).trans K4.out); clear hk5 hg5 hs5 ho5)
     | ((with_reducible refine atDst 27 ?_); refine wpList_ldArr rfl 29 _ rfl wr.heap.size rfl 29 _ _ K5.out Tryz.underlying29 rfl (size_rx HV.out.length) ?_)
     | ((with_reducible refine atDst 28 ?_); refine wpList_ldArr rfl 29 _ rfl w3.heap.size rfl 29 _ _ L5.out Tryz.underlying29 rfl (size_rx HV'.out.length) ?_))
    have V5 := Lib.hid ((HV.out.stay G5.out.below).mono G5.out.size)
    have V5' := Lib.hid ((HV'.out.stay G5.out.below).mono G5.out.size)
    refine (IH.out a HAL.out c (f j) (f' j) w5 V5.out V5'.out).mono ?_
    rintro e w6 ⟨rfl, hg6⟩
    have G6 := Lib.hid (HB.out.trans (G5.out.trans hg6))
    clear hg6
    obtain ⟨x, hx⟩ : ∃ x, cmpT a c = x := ⟨_, rfl⟩
    rw [hx]
    have HX := Lib.hid hx
    clear hx
    by_cases hx0 : x = 0
    ·have hxb : (x != 0) = false := by simpa using hx0
     have HX0 := Lib.hid (HX.out.trans hx0)
     clear hx0
     go_wp2_with fail
     refine ⟨⟨j + 1, by omega, by omega, by congr 1, fun i a2 b2 hi ha2 hb2 => ?_, G6.out⟩, by simp [intOf] <;> omega⟩
     by_cases hij : i < j
     ·exact HSM.out i a2 b2 hij ha2 hb2
     ·obtain rfl : i = j := by omega
      rw [HAJ.out] at ha2
      rw [HCJ.out] at hb2
      obtain rfl := Option.some.inj ha2
      obtain rfl := Option.some.inj hb2
      exact HX0.out
    ·have hxb : (x != 0) = true := by simpa using hx0
     have HF := Lib.hid (show cmpL l m = x by rw [← HX.out]; exact cmpL_at l m j a c HSM.out HAJ.out HCJ.out (by rw [HX.out]; exact hx0))
     clear hx0
     go_wp2_with fail
     go_ret
     rw [HF.out]
     exact ⟨rfl, G6.out⟩
   ·have j2 : ((j : Int) ≥ (m.length : Int)) := by omega
    have hjm' : j = m.length := by omega
    have HF := Lib.hid (show cmpL l m = 1 by
     rw [cmpL_end l m fun i x y hx hy => HSM.out i x y (by have := (List.getElem?_eq_some_iff.1 hy).1; omega) hx hy, if_neg (by omega), if_pos (by omega)])
    clear hjm'
    go_wp2_with (first
     | ((with_reducible refine atDst 17 ?_); refine wpList_load_mid rfl 29 _ rfl b (off + j * 6) rfl (f j) _ HRG.out Tryz.underlying29 rfl (size_rx HV.out.length) ?_)
     | ((with_reducible refine atDst 8 ?_); refine wpList_newE rfl 29 rfl i0 _ z hi0 HZ0.out rfl (Gr.refl wr) ?_; intro w2 hk2 hg2 hs2 _; have K2 := Lib.hid hk2; have G2 := Lib.hid hg2; clear hk2 hg2 hs2)
     | ((with_reducible refine atStore 29 8 17 ?_); refine wpList_stE rfl 29 _ _ rfl wr.heap.size (f j) rfl rfl 29 _ K2.out (size_rx HV.out.length) (by rw [HZL.out, HV.out.length]) (List.all_eq_true.2 HV.out.one) G2.out (Nat.le_refl _) ?_; intro w3 hk3 hg3 hs3 _; have K3 := Lib.hid hk3; have G3 := Lib.hid hg3; clear hk3 hg3 hs3))
    go_ret
    rw [HF.out]
    exact ⟨rfl, HB.out.trans G3.out⟩
  ·obtain rfl : j = l.length := by omega
   have j1 : ¬ ((l.length : Int) < (l.length : Int)) := by omega
   have hend := cmpL_end l m fun i x y hx hy => HSM.out i x y (List.getElem?_eq_some_iff.1 hx).1 hx hy
   by_cases hlm : l.length < m.length
   ·have j2 : (l.length : Int) < (m.length : Int) := by omega
    rw [if_pos hlm] at hend
    have HF := Lib.hid hend
    clear hend hlm
    go_wp2_with fail
    go_ret
    rw [HF.out]
    exact ⟨rfl, HB.out⟩
   ·have j2 : ¬ (l.length : Int) < (m.length : Int) := by omega
    rw [if_neg hlm, if_neg (by omega)] at hend
    have HF := Lib.hid hend
    clear hend hlm
    go_wp2_with fail
    go_ret
    rw [HF.out]
    exact ⟨rfl, HB.out⟩
theorem RowT.monoB {B B' : Nat} {w : World} {v : Value} {l : List T} (h : RowT B w v l) (hB : B ≤ B') : RowT B' w v l := by
 obtain ⟨A, cap, f, hv, h1, h2, h0, h3, h4⟩ := h
 refine ⟨A, cap, f, hv, h1, h2, h0, fun hne => ?_, fun i t ht => (h4 i t ht).mono hB⟩
 obtain ⟨b, off, hA, hlt, hc⟩ := h3 hne
 exact ⟨b, off, hA, Nat.lt_of_lt_of_le hlt hB, hc⟩
set_option maxHeartbeats 8000000 in
set_option maxRecDepth 100000 in
theorem rxCompare_gr : ∀ (N : Nat) (t u : T), t.nodes ≤ N → t.nodes ≤ 1099511627776 → ∀ (cs ds : List Value) (w : World), RxV w.heap.size w cs t → RxV w.heap.size w ds u →
  Calls Tryz.prog 90 #[.agg cs.toArray, .agg ds.toArray] w fun e w' => e = .returned (.int .i64 (cmpT t u)) ∧ Gr w w' := by
 intro N
 induction N with
 | zero => intro t u h; have := nodes_pos t; omega
 | succ N ih =>
  rintro ⟨k, s, l⟩ ⟨k', s', m⟩ hN hM cs ds w hv hv'
  have IH := Lib.hid ih
  clear ih
  obtain ⟨v, rfl, hrt⟩ := hv.row
  obtain ⟨v', rfl, hrt'⟩ := hv'.row
  have RT := Lib.hid hrt
  have RT' := Lib.hid hrt'
  have HNN := Lib.hid (show T.nodes (.node k s l) = 1 + nodesL l by simp only [T.nodes])
  have HSS := Lib.hid (cmpT_lex k k' s s' l m)
  rw [HNN.out] at hN hM
  rw [HSS.out]
  have HLN := Lib.hid (show l.length ≤ 1099511627776 by have := len_nodes l; omega)
  have HMB := Lib.hid (fun a (ha : a ∈ l) => show a.nodes ≤ N by have := nodes_mem ha; omega)
  have HMC := Lib.hid (fun a (ha : a ∈ l) => show a.nodes ≤ 1099511627776 by have := nodes_mem ha; omega)
  obtain ⟨A, cap, _, rfl, _⟩ := hrt
  obtain ⟨A', cap', _, rfl, _⟩ := hrt'
  obtain ⟨cs, hcs⟩ : ∃ cs, cs = Value.int .i64 k :: (wds s ++ [.slice A l.length cap]) := ⟨_, rfl⟩
  have HC0 := Lib.hid (show cs[0]? = some (.int .i64 k) by rw [hcs]; rfl)
  have HC5 := Lib.hid (show cs[5]? = some (.slice A l.length cap) by rw [hcs]; rfl)
  have HCS := Lib.hid hcs
  obtain ⟨ds, hds⟩ : ∃ ds, ds = Value.int .i64 k' :: (wds s' ++ [.slice A' m.length cap']) := ⟨_, rfl⟩
  have HD0 := Lib.hid (show ds[0]? = some (.int .i64 k') by rw [hds]; rfl)
  have HD5 := Lib.hid (show ds[5]? = some (.slice A' m.length cap') by rw [hds]; rfl)
  have HDS := Lib.hid hds
  rw [← hcs, ← hds]
  clear hv hv' hN hM hcs hds
  by_cases hk : k = k'
  ·have hkd : kindD k k' = 0 := if_pos hk
   rw [hkd, lex_zero]
   have HK := Lib.hid hk
   clear hk
   by_cases h3k : k = 3
   ·have h3b : (k == 3) = true := by simpa using h3k
    have HNE0 := Lib.hid h3k
    cases hs : eqS s s' with
    | false =>
     have HNE := Lib.hid (show (!eqS s s') = true by rw [hs]; rfl)
     cases hl : lessS s s' with
     | true =>
      have HF := Lib.hid (show lex (setD k s s') (cmpL l m) = -1 by unfold setD; rw [if_pos h3k, hs, hl]; rfl)
      rw [HF.out]
      have HL := Lib.hid hl
      clear hl hs h3k
      go_enter Tryz.func90, Tryz.ntmps90
      go_wp2_with (first
       | ((with_reducible refine atDst 2 ?_); refine wpList_boxE rfl 29 _ rfl cs rfl ?_; intro w1 hk1 hb1 hs1 _; have K1 := Lib.hid hk1; have B1 := Lib.hid hb1; clear hk1 hb1 hs1)
       | ((with_reducible refine atDst 3 ?_); refine wpList_boxE rfl 29 _ rfl ds rfl ?_; intro w2 hk2 hb2 hs2 ho2; have L2 := Lib.hid hk2; have B2 := Lib.hid (B1.out.trans hb2); have K2 := Lib.hid (show Blk w2 w.heap.size 29 cs from (ho2 _ K1.out.lt).trans K1.out); have a0 := K2.out.cell 0; rw [HC0.out] at a0; have b0 := L2.out.cell 0; rw [HD0.out] at b0; have a5 := K2.out.cell 5; rw [HC5.out] at a5; have b5 := L2.out.cell 5; rw [HD5.out] at b5; have RS := Lib.hid (set_range' HCS.out K2.out); have RS' := Lib.hid (set_range' HDS.out L2.out); clear hk2 hb2 hs2 ho2 K1 B1))
      refine (cmpInt_any k k' w2).mono ?_
      rintro e w3 ⟨rfl, rfl⟩
      rw [hkd]
      go_wp2_with (first
       | ((with_reducible refine atDst 19 ?_); refine wpList_ldMidG rfl 26 _ rfl w.heap.size 1 rfl (wds s) _ RS.out Tryz.underlying26 rfl (size_set s) ?_)
       | ((with_reducible refine atDst 21 ?_); refine wpList_ldMidG rfl 26 _ rfl w1.heap.size 1 rfl (wds s') _ RS'.out Tryz.underlying26 rfl (size_set s') ?_)
       | ((with_reducible refine atDst 22 ?_); refine wpList_neSetG rfl HNE.out 26 24 (.tmp 19) (.tmp 21) 26 rfl guardSet Tryz.underlying26 Tryz.underlying24 sizeU64 rfl rfl ?_)
       | ((with_reducible refine atDst 25 ?_); refine wpList_ldMidG rfl 26 _ rfl w.heap.size 1 rfl (wds s) _ RS.out Tryz.underlying26 rfl (size_set s) ?_)
       | ((with_reducible refine atDst 27 ?_); refine wpList_ldMidG rfl 26 _ rfl w1.heap.size 1 rfl (wds s') _ RS'.out Tryz.underlying26 rfl (size_set s') ?_))
      refine (bsLess_gr s s' w3).mono ?_
      rintro e w4 ⟨rfl, hg4⟩
      have G4 := Lib.hid (B2.out.trans hg4)
      clear hg4
      rw [HL.out]
      go_wp2_with fail
      go_ret
      exact ⟨rfl, G4.out⟩
     | false =>
      have HF := Lib.hid (show lex (setD k s s') (cmpL l m) = 1 by unfold setD; rw [if_pos h3k, hs, hl]; rfl)
      rw [HF.out]
      have HL := Lib.hid hl
      clear hl hs h3k
      go_enter Tryz.func90, Tryz.ntmps90
      go_wp2_with (first
       | ((with_reducible refine atDst 2 ?_); refine wpList_boxE rfl 29 _ rfl cs rfl ?_; intro w1 hk1 hb1 hs1 _; have K1 := Lib.hid hk1; have B1 := Lib.hid hb1; clear hk1 hb1 hs1)
       | ((with_reducible refine atDst 3 ?_); refine wpList_boxE rfl 29 _ rfl ds rfl ?_; intro w2 hk2 hb2 hs2 ho2; have L2 := Lib.hid hk2; have B2 := Lib.hid (B1.out.trans hb2); have K2 := Lib.hid (show Blk w2 w.heap.size 29 cs from (ho2 _ K1.out.lt).trans K1.out); have a0 := K2.out.cell 0; rw [HC0.out] at a0; have b0 := L2.out.cell 0; rw [HD0.out] at b0; have a5 := K2.out.cell 5; rw [HC5.out] at a5; have b5 := L2.out.cell 5; rw [HD5.out] at b5; have RS := Lib.hid (set_range' HCS.out K2.out); have RS' := Lib.hid (set_range' HDS.out L2.out); clear hk2 hb2 hs2 ho2 K1 B1))
      refine (cmpInt_any k k' w2).mono ?_
      rintro e w3 ⟨rfl, rfl⟩
      rw [hkd]
      go_wp2_with (first
       | ((with_reducible refine atDst 19 ?_); refine wpList_ldMidG rfl 26 _ rfl w.heap.size 1 rfl (wds s) _ RS.out Tryz.underlying26 rfl (size_set s) ?_)
       | ((with_reducible refine atDst 21 ?_); refine wpList_ldMidG rfl 26 _ rfl w1.heap.size 1 rfl (wds s') _ RS'.out Tryz.underlying26 rfl (size_set s') ?_)
       | ((with_reducible refine atDst 22 ?_); refine wpList_neSetG rfl HNE.out 26 24 (.tmp 19) (.tmp 21) 26 rfl guardSet Tryz.underlying26 Tryz.underlying24 sizeU64 rfl rfl ?_)
       | ((with_reducible refine atDst 25 ?_); refine wpList_ldMidG rfl 26 _ rfl w.heap.size 1 rfl (wds s) _ RS.out Tryz.underlying26 rfl (size_set s) ?_)
       | ((with_reducible refine atDst 27 ?_); refine wpList_ldMidG rfl 26 _ rfl w1.heap.size 1 rfl (wds s') _ RS'.out Tryz.underlying26 rfl (size_set s') ?_))
      refine (bsLess_gr s s' w3).mono ?_
      rintro e w4 ⟨rfl, hg4⟩
      have G4 := Lib.hid (B2.out.trans hg4)
      clear hg4
      rw [HL.out]
      go_wp2_with fail
      go_ret
      exact ⟨rfl, G4.out⟩
    | true =>
     have HNE := Lib.hid (show (!eqS s s') = false by rw [hs]; rfl)
     have HF := Lib.hid (show lex (setD k s s') (cmpL l m) = cmpL l m by unfold setD; rw [if_pos h3k, hs]; rfl)
     rw [HF.out]
     clear hs h3k
     go_enter Tryz.func90, Tryz.ntmps90
     go_wp2_with (first
      | ((with_reducible refine atDst 2 ?_); refine wpList_boxE rfl 29 _ rfl cs rfl ?_; intro w1 hk1 hb1 hs1 _; have K1 := Lib.hid hk1; have B1 := Lib.hid hb1; clear hk1 hb1 hs1)
      | ((with_reducible refine atDst 3 ?_); refine wpList_boxE rfl 29 _ rfl ds rfl ?_; intro w2 hk2 hb2 hs2 ho2; have L2 := Lib.hid hk2; have B2 := Lib.hid (B1.out.trans hb2); have K2 := Lib.hid (show Blk w2 w.heap.size 29 cs from (ho2 _ K1.out.lt).trans K1.out); have a0 := K2.out.cell 0; rw [HC0.out] at a0; have b0 := L2.out.cell 0; rw [HD0.out] at b0; have a5 := K2.out.cell 5; rw [HC5.out] at a5; have b5 := L2.out.cell 5; rw [HD5.out] at b5; have RS := Lib.hid (set_range' HCS.out K2.out); have RS' := Lib.hid (set_range' HDS.out L2.out); clear hk2 hb2 hs2 ho2 K1 B1))
     refine (cmpInt_any k k' w2).mono ?_
     rintro e w3 ⟨rfl, rfl⟩
     rw [hkd]
     go_wp2_with (first
      | ((with_reducible refine atDst 19 ?_); refine wpList_ldMidG rfl 26 _ rfl w.heap.size 1 rfl (wds s) _ RS.out Tryz.underlying26 rfl (size_set s) ?_)
      | ((with_reducible refine atDst 21 ?_); refine wpList_ldMidG rfl 26 _ rfl w1.heap.size 1 rfl (wds s') _ RS'.out Tryz.underlying26 rfl (size_set s') ?_)
      | ((with_reducible refine atDst 22 ?_); refine wpList_neSetG rfl HNE.out 26 24 (.tmp 19) (.tmp 21) 26 rfl guardSet Tryz.underlying26 Tryz.underlying24 sizeU64 rfl rfl ?_)
      | ((with_reducible refine atDst 25 ?_); refine wpList_ldMidG rfl 26 _ rfl w.heap.size 1 rfl (wds s) _ RS.out Tryz.underlying26 rfl (size_set s) ?_)
      | ((with_reducible refine atDst 27 ?_); refine wpList_ldMidG rfl 26 _ rfl w1.heap.size 1 rfl (wds s') _ RS'.out Tryz.underlying26 rfl (size_set s') ?_))
     refine (cmpFunc_gr l m _ _ w3 (RT.out.below B2.out.below |>.monoB B2.out.size) (RT'.out.below B2.out.below |>.monoB B2.out.size) HLN.out (fun a ha b cs ds w1 h1 h2 => IH.out a b (HMB.out a ha) (HMC.out a ha) cs ds w1 h1 h2)).mono ?_
     rintro e w4 ⟨rfl, hg4⟩
     have G4 := Lib.hid (B2.out.trans hg4)
     clear hg4
     go_wp2_with fail
     go_ret
     exact ⟨rfl, G4.out⟩
   ·have h3b : (k == 3) = false := by simpa using h3k
    have HF := Lib.hid (show lex (setD k s s') (cmpL l m) = cmpL l m by unfold setD; rw [if_neg h3k]; rfl)
    rw [HF.out]
    have HNE := Lib.hid (rfl : (0 : Nat) = 0)
    clear h3k
    go_enter Tryz.func90, Tryz.ntmps90
    go_wp2_with (first
     | ((with_reducible refine atDst 2 ?_); refine wpList_boxE rfl 29 _ rfl cs rfl ?_; intro w1 hk1 hb1 hs1 _; have K1 := Lib.hid hk1; have B1 := Lib.hid hb1; clear hk1 hb1 hs1)
     | ((with_reducible refine atDst 3 ?_); refine wpList_boxE rfl 29 _ rfl ds rfl ?_; intro w2 hk2 hb2 hs2 ho2; have L2 := Lib.hid hk2; have B2 := Lib.hid (B1.out.trans hb2); have K2 := Lib.hid (show Blk w2 w.heap.size 29 cs from (ho2 _ K1.out.lt).trans K1.out); have a0 := K2.out.cell 0; rw [HC0.out] at a0; have b0 := L2.out.cell 0; rw [HD0.out] at b0; have a5 := K2.out.cell 5; rw [HC5.out] at a5; have b5 := L2.out.cell 5; rw [HD5.out] at b5; have RS := Lib.hid (set_range' HCS.out K2.out); have RS' := Lib.hid (set_range' HDS.out L2.out); clear hk2 hb2 hs2 ho2 K1 B1))
    refine (cmpInt_any k k' w2).mono ?_
    rintro e w3 ⟨rfl, rfl⟩
    rw [hkd]
    go_wp2_with (first
     | ((with_reducible refine atDst 19 ?_); refine wpList_ldMidG rfl 26 _ rfl w.heap.size 1 rfl (wds s) _ RS.out Tryz.underlying26 rfl (size_set s) ?_)
     | ((with_reducible refine atDst 21 ?_); refine wpList_ldMidG rfl 26 _ rfl w1.heap.size 1 rfl (wds s') _ RS'.out Tryz.underlying26 rfl (size_set s') ?_)
     | ((with_reducible refine atDst 22 ?_); refine wpList_neSetG rfl HNE.out 26 24 (.tmp 19) (.tmp 21) 26 rfl guardSet Tryz.underlying26 Tryz.underlying24 sizeU64 rfl rfl ?_)
     | ((with_reducible refine atDst 25 ?_); refine wpList_ldMidG rfl 26 _ rfl w.heap.size 1 rfl (wds s) _ RS.out Tryz.underlying26 rfl (size_set s) ?_)
     | ((with_reducible refine atDst 27 ?_); refine wpList_ldMidG rfl 26 _ rfl w1.heap.size 1 rfl (wds s') _ RS'.out Tryz.underlying26 rfl (size_set s') ?_))
    refine (cmpFunc_gr l m _ _ w3 (RT.out.below B2.out.below |>.monoB B2.out.size) (RT'.out.below B2.out.below |>.monoB B2.out.size) HLN.out (fun a ha b cs ds w1 h1 h2 => IH.out a b (HMB.out a ha) (HMC.out a ha) cs ds w1 h1 h2)).mono ?_
    rintro e w4 ⟨rfl, hg4⟩
    have G4 := Lib.hid (B2.out.trans hg4)
    clear hg4
    go_wp2_with fail
    go_ret
    exact ⟨rfl, G4.out⟩
  ·have hkd : kindD k k' ≠ 0 := by
    unfold kindD
    rw [if_neg hk]
    split <;> decide
   rw [lex_ne _ hkd]
   obtain ⟨x, hx⟩ : ∃ x, kindD k k' = x := ⟨_, rfl⟩
   rw [hx] at hkd ⊢
   have HX := Lib.hid hx
   have hxb : (x != 0) = true := by simpa using hkd
   clear hx hkd hk
   go_enter Tryz.func90, Tryz.ntmps90
   go_wp2_with (first
    | ((with_reducible refine atDst 2 ?_); refine wpList_boxE rfl 29 _ rfl cs rfl ?_; intro w1 hk1 hb1 hs1 _; have K1 := Lib.hid hk1; have B1 := Lib.hid hb1; clear hk1 hb1 hs1)
    | ((with_reducible refine atDst 3 ?_); refine wpList_boxE rfl 29 _ rfl ds rfl ?_; intro w2 hk2 hb2 hs2 ho2; have L2 := Lib.hid hk2; have B2 := Lib.hid (B1.out.trans hb2); have K2 := Lib.hid (show Blk w2 w.heap.size 29 cs from (ho2 _ K1.out.lt).trans K1.out); have a0 := K2.out.cell 0; rw [HC0.out] at a0; have b0 := L2.out.cell 0; rw [HD0.out] at b0; have a5 := K2.out.cell 5; rw [HC5.out] at a5; have b5 := L2.out.cell 5; rw [HD5.out] at b5; have RS := Lib.hid (set_range' HCS.out K2.out); have RS' := Lib.hid (set_range' HDS.out L2.out); clear hk2 hb2 hs2 ho2 K1 B1))
   refine (cmpInt_any k k' w2).mono ?_
   rintro e w3 ⟨rfl, rfl⟩
   rw [HX.out]
   go_wp2_with fail
   go_ret
   exact ⟨rfl, B2.out⟩
end Go.Proofs.YtopnpdobcagcgaaGreat
namespace Go.Proofs.YtopnpdobcagcgaaGreat
open Go.RowKit
set_option linter.unusedSimpArgs false
set_option linter.unusedVariables false
set_option maxHeartbeats 2000000 in
set_option maxRecDepth 100000 in
theorem rxNone_any (w : World) : Calls Tryz.prog 65 #[] w fun e w' => ∃ ds, e = .returned (.agg ds.toArray) ∧ (∀ D, RxD D w' ds noneT) ∧ Below w.heap.size w w' := by
 obtain ⟨i0, hi0, hz0, hz1, hz2⟩ := inf_rx'
 obtain ⟨z, hz⟩ : ∃ z, z = rxc 0 zeroS (.slice none 0 0) := ⟨_, rfl⟩
 have HZL := Lib.hid (show z.length = 6 by rw [hz]; rfl)
 have HZ0 := Lib.hid (show i0.zero = some (.agg z.toArray) by rw [hz]; exact hz0)
 obtain ⟨c, hc⟩ : ∃ c, c = rxc 1 zeroS (.slice none 0 0) := ⟨_, rfl⟩
 have HCB := Lib.hid (show Tryz.prog.built 29 [(0, .int .i64 1)] = some c.toArray by rw [hc]; exact built0 1)
 have HC6 := Lib.hid (show c.length = 6 by rw [hc]; rfl)
 have HC1 := Lib.hid (show c.all (·.oneCell') = true by rw [hc]; rfl)
 have HC := Lib.hid hc
 clear hz hz0 hz1 hz2 hc
 go_enter Tryz.func65, Tryz.ntmps65
 go_wp2_with (first
  | ((with_reducible refine atDst 0 ?_); refine wpList_new rfl 29 rfl i0 _ z hi0 HZ0.out rfl (Below.refl w.heap.size w) (Nat.le_refl _) ?_; intro w1 hk1 hb1 hs1 _; have K1 := Lib.hid hk1; have B1 := Lib.hid hb1; clear hk1 hb1 hs1)
  | ((with_reducible refine atDst 1 ?_); refine wpList_bld rfl 29 _ rfl c HCB.out ?_)
  | ((with_reducible refine atStore 29 0 1 ?_); refine wpList_stBlk rfl 29 _ _ rfl w.heap.size c rfl rfl 29 _ K1.out (size_rx HC6.out) (by rw [HZL.out, HC6.out]) HC1.out B1.out (Nat.le_refl _) ?_; intro w2 hk2 hb2 hs2 _; have K2 := Lib.hid hk2; have B2 := Lib.hid hb2; clear hk2 hb2 hs2))
 refine bodyPost_ret (results_blk rfl _ _ w.heap.size 29 _ _ rfl K2.out Tryz.underlying29 rfl (size_rx HC6.out)) rfl ?_
 exact ⟨c, rfl, fun D => by rw [HC.out]; exact rx_leaf D _ _ _, B2.out⟩
set_option maxHeartbeats 2000000 in
set_option maxRecDepth 100000 in
theorem rxEmpty_any (w : World) : Calls Tryz.prog 61 #[] w fun e w' => ∃ ds, e = .returned (.agg ds.toArray) ∧ (∀ D, RxD D w' ds emptyT) ∧ Below w.heap.size w w' := by
 obtain ⟨i0, hi0, hz0, hz1, hz2⟩ := inf_rx'
 obtain ⟨z, hz⟩ : ∃ z, z = rxc 0 zeroS (.slice none 0 0) := ⟨_, rfl⟩
 have HZL := Lib.hid (show z.length = 6 by rw [hz]; rfl)
 have HZ0 := Lib.hid (show i0.zero = some (.agg z.toArray) by rw [hz]; exact hz0)
 obtain ⟨c, hc⟩ : ∃ c, c = rxc 2 zeroS (.slice none 0 0) := ⟨_, rfl⟩
 have HCB := Lib.hid (show Tryz.prog.built 29 [(0, .int .i64 2)] = some c.toArray by rw [hc]; exact built0 2)
 have HC6 := Lib.hid (show c.length = 6 by rw [hc]; rfl)
 have HC1 := Lib.hid (show c.all (·.oneCell') = true by rw [hc]; rfl)
 have HC := Lib.hid hc
 clear hz hz0 hz1 hz2 hc
 go_enter Tryz.func61, Tryz.ntmps61
 go_wp2_with (first
  | ((with_reducible refine atDst 0 ?_); refine wpList_new rfl 29 rfl i0 _ z hi0 HZ0.out rfl (Below.refl w.heap.size w) (Nat.le_refl _) ?_; intro w1 hk1 hb1 hs1 _; have K1 := Lib.hid hk1; have B1 := Lib.hid hb1; clear hk1 hb1 hs1)
  | ((with_reducible refine atDst 1 ?_); refine wpList_bld rfl 29 _ rfl c HCB.out ?_)
  | ((with_reducible refine atStore 29 0 1 ?_); refine wpList_stBlk rfl 29 _ _ rfl w.heap.size c rfl rfl 29 _ K1.out (size_rx HC6.out) (by rw [HZL.out, HC6.out]) HC1.out B1.out (Nat.le_refl _) ?_; intro w2 hk2 hb2 hs2 _; have K2 := Lib.hid hk2; have B2 := Lib.hid hb2; clear hk2 hb2 hs2))
 refine bodyPost_ret (results_blk rfl _ _ w.heap.size 29 _ _ rfl K2.out Tryz.underlying29 rfl (size_rx HC6.out)) rfl ?_
 exact ⟨c, rfl, fun D => by rw [HC.out]; exact rx_leaf D _ _ _, B2.out⟩
set_option maxHeartbeats 2000000 in
set_option maxRecDepth 100000 in
theorem rxBytes_any (s : Nat → Bool) (w : World) : Calls Tryz.prog 88 #[.agg (wds s).toArray] w fun e w' => ∃ ds, e = .returned (.agg ds.toArray) ∧ (∀ D, RxD D w' ds (bytesT s)) ∧ Below w.heap.size w w' := by
 obtain ⟨i0, hi0, hz0, hz1, hz2⟩ := inf_rx'
 obtain ⟨z, hz⟩ : ∃ z, z = rxc 0 zeroS (.slice none 0 0) := ⟨_, rfl⟩
 have HZL := Lib.hid (show z.length = 6 by rw [hz]; rfl)
 have HZ0 := Lib.hid (show i0.zero = some (.agg z.toArray) by rw [hz]; exact hz0)
 obtain ⟨c, hc⟩ : ∃ c, c = rxc 3 s (.slice none 0 0) := ⟨_, rfl⟩
 have HCB := Lib.hid (show Tryz.prog.built 29 [(0, .int .i64 3), (1, .agg (wds s).toArray)] = some c.toArray by rw [hc]; exact built01 3 s)
 have HC6 := Lib.hid (show c.length = 6 by rw [hc]; rfl)
 have HC1 := Lib.hid (show c.all (·.oneCell') = true by rw [hc]; rfl)
 have HC := Lib.hid hc
 have HBS := Lib.hid builtS
 obtain ⟨zs, hzs⟩ : ∃ zs, zs = zeroS := ⟨_, rfl⟩
 have HZS := Lib.hid hzs
 rw [← hzs] at HBS
 clear hz hz0 hz1 hz2 hc hzs
 cases hs : eqS s zs with
 | true =>
  have HEQ := Lib.hid hs
  have HF := Lib.hid (show bytesT s = noneT by unfold bytesT; rw [← HZS.out, hs]; rfl)
  clear hs
  go_enter Tryz.func88, Tryz.ntmps88
  go_wp2_with (first
   | ((with_reducible refine atDst 1 ?_); refine wpList_box rfl 26 _ rfl (wds s) rfl (Below.refl w.heap.size w) (Nat.le_refl _) ?_; intro w1 hk1 hb1 hs1 _; have K1 := Lib.hid hk1; have B1 := Lib.hid hb1; clear hk1 hb1 hs1)
   | ((with_reducible refine atDst 2 ?_); refine wpList_new rfl 29 rfl i0 _ z hi0 HZ0.out rfl B1.out B1.out.size ?_; intro w2 hk2 hb2 hs2 ho2; have L2 := Lib.hid hk2; have B2 := Lib.hid hb2; have K2 := Lib.hid (show Blk w2 w.heap.size 26 (wds s) from (ho2 _ K1.out.lt).trans K1.out); have G12 := Lib.hid K1.out.lt; clear hk2 hb2 hs2 ho2)
   | ((with_reducible refine atDst 3 ?_); refine wpList_ldArr rfl 26 _ rfl w.heap.size rfl 26 _ _ K2.out Tryz.underlying26 rfl (size_set s) ?_; (try simp only [Act.put, qA, qB, qC]))
   | ((with_reducible refine atDst 4 ?_); refine wpList_bld rfl 26 _ rfl (wds zs) HBS.out ?_; (try simp only [Act.put, qA, qB, qC]))
   | ((with_reducible refine atDst 5 ?_); refine wpList_eqSet_is rfl HEQ.out 26 24 (.tmp 3) (.tmp 4) 26 rfl guardSet Tryz.underlying26 Tryz.underlying24 sizeU64 rfl rfl ?_; (try simp only [Act.put, qA, qB, qC])))
  refine (rxNone_any w2).mono ?_
  rintro e w3 ⟨ds, rfl, hds, hb3⟩
  have D6 := Lib.hid (hds (fun _ => False)).length
  have DA := Lib.hid hds
  have D1 := Lib.hid (show ds.all (·.oneCell') = true from List.all_eq_true.2 (hds (fun _ => False)).one)
  have L3 := Lib.hid (L2.out.below hb3 L2.out.lt)
  have B3 := Lib.hid (B2.out.trans (hb3.mono B2.out.size))
  clear hds hb3
  go_wp2_with ((with_reducible refine atStore 29 2 6 ?_); refine wpList_stBlk rfl 29 _ _ rfl w1.heap.size ds rfl rfl 29 _ L3.out (size_rx D6.out) (by rw [HZL.out, D6.out]) D1.out B3.out (Nat.le_of_lt G12.out) ?_; intro w4 hk4 hb4 hs4 ho4; have K4 := Lib.hid hk4; have B4 := Lib.hid hb4; have D4 := Lib.hid (fun D => ((DA.out (fun _ => False)).stay (w' := w4) fun k hk => absurd hk id).mono (D' := D) fun k hk => absurd hk id); clear hk4 hb4 hs4 ho4)
  refine bodyPost_ret (results_blk rfl _ _ w1.heap.size 29 _ _ rfl K4.out Tryz.underlying29 rfl (size_rx D6.out)) rfl ?_
  exact ⟨ds, rfl, by rw [HF.out]; exact D4.out, B4.out⟩
 | false =>
  have HEQ := Lib.hid hs
  have HF := Lib.hid (show bytesT s = .node 3 s [] by unfold bytesT; rw [← HZS.out, hs]; rfl)
  clear hs
  go_enter Tryz.func88, Tryz.ntmps88
  go_wp2_with (first
   | ((with_reducible refine atDst 1 ?_); refine wpList_box rfl 26 _ rfl (wds s) rfl (Below.refl w.heap.size w) (Nat.le_refl _) ?_; intro w1 hk1 hb1 hs1 _; have K1 := Lib.hid hk1; have B1 := Lib.hid hb1; clear hk1 hb1 hs1)
   | ((with_reducible refine atDst 2 ?_); refine wpList_new rfl 29 rfl i0 _ z hi0 HZ0.out rfl B1.out B1.out.size ?_; intro w2 hk2 hb2 hs2 ho2; have L2 := Lib.hid hk2; have B2 := Lib.hid hb2; have K2 := Lib.hid (show Blk w2 w.heap.size 26 (wds s) from (ho2 _ K1.out.lt).trans K1.out); have G12 := Lib.hid K1.out.lt; clear hk2 hb2 hs2 ho2)
   | ((with_reducible refine atDst 3 ?_); refine wpList_ldArr rfl 26 _ rfl w.heap.size rfl 26 _ _ K2.out Tryz.underlying26 rfl (size_set s) ?_; (try simp only [Act.put, qA, qB, qC]))
   | ((with_reducible refine atDst 4 ?_); refine wpList_bld rfl 26 _ rfl (wds zs) HBS.out ?_; (try simp only [Act.put, qA, qB, qC]))
   | ((with_reducible refine atDst 5 ?_); refine wpList_eqSet_is rfl HEQ.out 26 24 (.tmp 3) (.tmp 4) 26 rfl guardSet Tryz.underlying26 Tryz.underlying24 sizeU64 rfl rfl ?_; (try simp only [Act.put, qA, qB, qC]))
   | ((with_reducible refine atDst 7 ?_); refine wpList_ldArr rfl 26 _ rfl w.heap.size rfl 26 _ _ K2.out Tryz.underlying26 rfl (size_set s) ?_; (try simp only [Act.put, qA, qB, qC]))
   | ((with_reducible refine atDst 8 ?_); refine wpList_bld rfl 29 _ rfl c HCB.out ?_; (try simp only [Act.put, qA, qB, qC]))
   | ((with_reducible refine atStore 29 2 8 ?_); refine wpList_stBlk rfl 29 _ _ rfl w1.heap.size c rfl rfl 29 _ L2.out (size_rx HC6.out) (by rw [HZL.out, HC6.out]) HC1.out B2.out (Nat.le_of_lt G12.out) ?_; intro w4 hk4 hb4 hs4 ho4; have K4 := Lib.hid hk4; have B4 := Lib.hid hb4; clear hk4 hb4 hs4 ho4))
  refine bodyPost_ret (results_blk rfl _ _ w1.heap.size 29 _ _ rfl K4.out Tryz.underlying29 rfl (size_rx HC6.out)) rfl ?_
  exact ⟨c, rfl, fun D => by rw [HF.out, HC.out]; exact rx_leaf D _ _ _, B4.out⟩
set_option maxHeartbeats 2000000 in
set_option maxRecDepth 100000 in
theorem rxEqual_gr (t u : T) (hM : t.nodes ≤ 1099511627776) (cs ds : List Value) (w : World) (hv : RxV w.heap.size w cs t) (hv' : RxV w.heap.size w ds u) :
  Calls Tryz.prog 92 #[.agg cs.toArray, .agg ds.toArray] w fun e w' => e = .returned (.bool (cmpT t u == 0)) ∧ Gr w w' := by
 have V := Lib.hid hv
 have V' := Lib.hid hv'
 have HC6 := Lib.hid hv.length
 have HD6 := Lib.hid hv'.length
 have HM := Lib.hid hM
 clear hv hv' hM
 go_enter Tryz.func92, Tryz.ntmps92
 go_wp2_with (first
  | ((with_reducible refine atDst 2 ?_); refine wpList_boxE rfl 29 _ rfl cs rfl ?_; intro w1 hk1 hb1 hs1 _; have K1 := Lib.hid hk1; have B1 := Lib.hid hb1; clear hk1 hb1 hs1)
  | ((with_reducible refine atDst 3 ?_); refine wpList_boxE rfl 29 _ rfl ds rfl ?_; intro w2 hk2 hb2 hs2 ho2; have L2 := Lib.hid hk2; have B2 := Lib.hid (B1.out.trans hb2); have K2 := Lib.hid (show Blk w2 w.heap.size 29 cs from (ho2 _ K1.out.lt).trans K1.out); clear hk2 hb2 hs2 ho2)
  | ((with_reducible refine atDst 5 ?_); refine wpList_ldArr rfl 29 _ rfl w.heap.size rfl 29 _ _ K2.out Tryz.underlying29 rfl (size_rx HC6.out) ?_)
  | ((with_reducible refine atDst 6 ?_); refine wpList_ldArr rfl 29 _ rfl w1.heap.size rfl 29 _ _ L2.out Tryz.underlying29 rfl (size_rx HD6.out) ?_))
 refine (rxCompare_gr _ t u (Nat.le_refl _) HM.out cs ds w2 ((V.out.stay B2.out.below).mono B2.out.size) ((V'.out.stay B2.out.below).mono B2.out.size)).mono ?_
 rintro e w3 ⟨rfl, hg3⟩
 have G3 := Lib.hid (B2.out.trans hg3)
 clear hg3
 go_wp2_with fail
 go_ret
 exact ⟨rfl, G3.out⟩
end Go.Proofs.YtopnpdobcagcgaaGreat
namespace Go.Proofs.YtopnpdobcagcgaaGreat
open Go.RowKit
set_option linter.unusedSimpArgs false
set_option linter.unusedVariables false
set_option maxHeartbeats 4000000 in
set_option maxRecDepth 100000 in
theorem rxFlat_any (k : Int) (l : List T) (v : Value) (w : World) {D : Nat → Prop} (hD : ∀ k, D k → k < w.heap.size) (hr : RowD D w v l) (hn : nodesL l ≤ 549755813888) :
  Calls Tryz.prog 82 #[v, .int .i64 k] w fun e w' => ∃ v', e = .returned v' ∧ OwnT D w.heap.size w' v' (flatT k l) ∧ Below w.heap.size w w' := by
 obtain ⟨A, cap, f, rfl, h1, h2, h0, h3, h4⟩ := hr
 have H3 := Lib.hid h3
 have HD := Lib.hid hD
 have H4 := Lib.hid h4
 have HN := Lib.hid hn
 have HLL := Lib.hid (len_nodes l)
 obtain ⟨i0, hi0, hz0, hz1, hz2⟩ := inf_rx'
 obtain ⟨z, hz⟩ : ∃ z, z = rxc 0 zeroS (.slice none 0 0) := ⟨_, rfl⟩
 have HZL := Lib.hid (show z.length = 6 by rw [hz]; rfl)
 have HZ0 := Lib.hid (show i0.zero = some (.agg z.toArray) by rw [hz]; exact hz0)
 have HZ1 := Lib.hid hz0
 clear h1 h2 h0 h3 h4 hn hz hz0
 go_enter Tryz.func82, Tryz.ntmps82
 go_wp2_with fail
 go_loopw [4, 9] (fun v i wl => ∃ (v1 : Value) (j : Nat), v1 = v ∧ j ≤ l.length ∧ i = .int .i64 (j : Int) ∧ OwnT D w.heap.size wl v (flatT k (l.take j)) ∧ Below w.heap.size w wl) (fun _ i _ => l.length - (intOf i).toNat)
 case atStart => exact ⟨_, 0, rfl, by omega, by simp, OwnT.nil _ _ _, Below.refl _ _⟩
 case round =>
  obtain ⟨v1, j, rfl, hj, rfl, ho, hb⟩ := hrel
  have HO := Lib.hid ho
  have HB := Lib.hid hb
  clear ho hb
  by_cases hjl : j < l.length
  ·have j1 : (j : Int) < (l.length : Int) := Int.ofNat_lt.2 hjl
   obtain ⟨b, off, rfl, hb, hrng⟩ := H3.out (by rintro rfl; simp at hjl)
   obtain ⟨u, hu⟩ : ∃ u, l[j]? = some u := ⟨_, List.getElem?_eq_getElem hjl⟩
   have HV := Lib.hid ((H4.out j u hu).keep HB.out hD)
   have HRG := Lib.hid (range_below (hrng j hjl) HB.out (hD b hb))
   obtain ⟨Au, cu, hsp, hru⟩ := HV.out.split
   have HV6 := Lib.hid HV.out.length
   have HV1 := Lib.hid (show (f j).all (·.oneCell') = true from List.all_eq_true.2 HV.out.one)
   have HG0 := Lib.hid (show (f j)[0]? = some (.int .i64 u.kind) by rw [hsp]; rfl)
   have HG5 := Lib.hid (show (f j)[5]? = some (.slice Au u.args.length cu) by rw [hsp]; rfl)
   have HRU := Lib.hid hru
   have HU := Lib.hid hu
   have hj62 : j ≤ 4611686018427387904 := by have := HN.out; have := HLL.out; omega
   have e3 := wrap_one j hj62
   have e4 := wrap_one' j hj62
   have HSW := Lib.hid HB.out.size
   clear hrng hu hj62 hb hsp hru
   have HNX := Lib.hid (flatT_next k l j u HU.out)
   have HNL := Lib.hid (flatT_take k l (j + 1))
   obtain ⟨cur, hcur⟩ : ∃ cur, cur = flatT k (l.take j) := ⟨_, rfl⟩
   rw [← hcur] at HO HNX
   clear hcur
   by_cases hk : u.kind = k
   ·have hkb : (u.kind == k) = true := by simpa using hk
    have HE := Lib.hid (show flatT k (l.take (j + 1)) = cur ++ u.args by rw [HNX.out, if_pos hk])
    have HLE := Lib.hid (show cur.length + u.args.length ≤ 1099511627776 by have h1 := HNL.out; rw [HE.out, List.length_append] at h1; have := HN.out; omega)
    clear hk
    go_wp2_with (first
     | ((with_reducible refine atDst 12 ?_); refine wpList_load_mid rfl 29 _ rfl b (off + j * 6) rfl (f j) _ HRG.out Tryz.underlying29 rfl (size_rx HV6.out) ?_; (try simp only [Act.put, qA, qB, qC]))
     | ((with_reducible refine atDst 6 ?_); refine wpList_new rfl 29 rfl i0 _ z hi0 HZ0.out rfl (Below.refl wr.heap.size wr) (Nat.le_refl _) ?_; intro w1 hk1 hb1 hs1 _; have K1 := Lib.hid hk1; have B1 := Lib.hid hb1; clear hk1 hb1 hs1; (try simp only [Act.put, qA, qB, qC]))
     | ((with_reducible refine atStore 29 6 12 ?_); refine wpList_stBlk rfl 29 _ _ rfl wr.heap.size (f j) rfl rfl 29 _ K1.out (size_rx HV6.out) (by rw [HZL.out, HV6.out]) HV1.out B1.out (Nat.le_refl _) ?_; intro w2 hk2 hb2 hs2 _; have K2 := Lib.hid hk2; have B2 := Lib.hid hb2; have a0 := K2.out.cell 0; rw [HG0.out] at a0; have a5 := K2.out.cell 5; rw [HG5.out] at a5; have O2 := Lib.hid (HO.out.stay hb2); have BW := Lib.hid (HB.out.trans (hb2.mono HB.out.size)); clear hk2 hb2 hs2; (try simp only [Act.put, qA, qB, qC]))
     | ((with_reducible refine atDst 20 ?_); refine wpList_appTs (D := D) (D' := D) (base := w.heap.size) rfl (.tmp 17) (.tmp 19) rfl i0 hi0 HZ1.out hz1 hz2 v1 _ rfl O2.out _ u.args rfl (HRU.out.keep (B2.out.mono HSW.out) HD.out) (fun q hq => ⟨hq, Nat.lt_of_lt_of_le (HD.out q hq) BW.out.size, fun he => by have := HO.out.ge q he.symm; have := HD.out q hq; omega⟩) HLE.out BW.out.size ?_; intro v5 w5 ho5 hg5; have O5 := Lib.hid ho5; have B5 := Lib.hid (BW.out.grown hg5 BW.out.size (fun q hq => HO.out.ge q hq)); clear ho5 hg5; (try simp only [Act.put, qA, qB, qC])))
    refine ⟨⟨_, j + 1, rfl, by omega, by congr 1, by rw [HE.out]; exact O5.out, B5.out⟩, by simp [intOf] <;> omega⟩
   ·have hkb : (u.kind == k) = false := by simpa using hk
    have HE := Lib.hid (show flatT k (l.take (j + 1)) = cur ++ [u] by rw [HNX.out, if_neg hk])
    have HLE := Lib.hid (show cur.length + 1 ≤ 1099511627776 by have h1 := HNL.out; rw [HE.out, List.length_append] at h1; have := HN.out; simp only [List.length_cons, List.length_nil] at h1; omega)
    clear hk
    go_wp2_with (first
     | ((with_reducible refine atDst 12 ?_); refine wpList_load_mid rfl 29 _ rfl b (off + j * 6) rfl (f j) _ HRG.out Tryz.underlying29 rfl (size_rx HV6.out) ?_; (try simp only [Act.put, qA, qB, qC]))
     | ((with_reducible refine atDst 6 ?_); refine wpList_new rfl 29 rfl i0 _ z hi0 HZ0.out rfl (Below.refl wr.heap.size wr) (Nat.le_refl _) ?_; intro w1 hk1 hb1 hs1 _; have K1 := Lib.hid hk1; have B1 := Lib.hid hb1; clear hk1 hb1 hs1; (try simp only [Act.put, qA, qB, qC]))
     | ((with_reducible refine atStore 29 6 12 ?_); refine wpList_stBlk rfl 29 _ _ rfl wr.heap.size (f j) rfl rfl 29 _ K1.out (size_rx HV6.out) (by rw [HZL.out, HV6.out]) HV1.out B1.out (Nat.le_refl _) ?_; intro w2 hk2 hb2 hs2 _; have K2 := Lib.hid hk2; have B2 := Lib.hid hb2; have a0 := K2.out.cell 0; rw [HG0.out] at a0; have a5 := K2.out.cell 5; rw [HG5.out] at a5; have O2 := Lib.hid (HO.out.stay hb2); have BW := Lib.hid (HB.out.trans (hb2.mono HB.out.size)); clear hk2 hb2 hs2; (try simp only [Act.put, qA, qB, qC]))
     | ((with_reducible refine atDst 22 ?_); refine wpList_ldArr rfl 29 _ rfl wr.heap.size rfl 29 _ _ K2.out Tryz.underlying29 rfl (size_rx HV6.out) ?_; (try simp only [Act.put, qA, qB, qC]))
     | ((with_reducible refine atDst 23 ?_); refine wpList_bldT1 rfl 27 29 (.tmp 22) rfl i0 Tryz.underlying27 hi0 HZ1.out hz1 (f j) HV6.out rfl ?_; intro w4 hk4 hb4 hs4; have K4 := Lib.hid hk4; have O4 := Lib.hid (O2.out.stay hb4); have B4 := Lib.hid (BW.out.trans (hb4.mono BW.out.size)); have V4 := Lib.hid (RxD.mono (((H4.out j u HU.out).keep BW.out HD.out).keep (hb4.mono BW.out.size) HD.out) (D' := fun k => D k ∧ k < w4.heap.size ∧ some k ≠ v1.ownBlock) fun k hk => ⟨hk, by have h1 := BW.out.size; have h2 := hb4.size; have h3 := HD.out k hk; omega, fun he => by have h1 := HO.out.ge k he.symm; have h3 := HD.out k hk; omega⟩); clear hk4 hb4 hs4; (try simp only [Act.put, qA, qB, qC]))
     | ((with_reducible refine atDst 24 ?_); refine wpList_appT (D := D) (base := w.heap.size) rfl (.tmp 21) (.tmp 23) rfl i0 hi0 HZ1.out hz1 hz2 v1 _ rfl O4.out w2.heap.size 1 29 (f j) u rfl K4.out V4.out HLE.out B4.out.size ?_; intro v5 w5 ho5 hg5; have O5 := Lib.hid ho5; have B5 := Lib.hid (B4.out.grown hg5 B4.out.size (fun q hq => O4.out.ge q hq)); clear ho5 hg5; (try simp only [Act.put, qA, qB, qC]))
     )
    refine ⟨⟨_, j + 1, rfl, by omega, by congr 1, by rw [HE.out]; exact O5.out, B5.out⟩, by simp [intOf] <;> omega⟩
  ·obtain rfl : j = l.length := by omega
   have j1 : ¬ ((l.length : Int) < (l.length : Int)) := by omega
   have ho := HO.out
   rw [List.take_length] at ho
   have O9 := Lib.hid ho
   clear ho
   go_wp2_with fail
   go_ret
   exact ⟨_, rfl, O9.out, HB.out⟩
set_option maxHeartbeats 4000000 in
set_option maxRecDepth 100000 in
theorem rxWithout_any (k : Int) (l : List T) (v : Value) (w : World) {D : Nat → Prop} (hD : ∀ k, D k → k < w.heap.size) (hr : RowD D w v l) (hn : nodesL l ≤ 549755813888) :
  Calls Tryz.prog 86 #[v, .int .i64 k] w fun e w' => ∃ v', e = .returned v' ∧ OwnT D w.heap.size w' v' (withoutT k l) ∧ Below w.heap.size w w' := by
 obtain ⟨A, cap, f, rfl, h1, h2, h0, h3, h4⟩ := hr
 have H3 := Lib.hid h3
 have HD := Lib.hid hD
 have H4 := Lib.hid h4
 have HN := Lib.hid hn
 have HLL := Lib.hid (len_nodes l)
 obtain ⟨i0, hi0, hz0, hz1, hz2⟩ := inf_rx'
 obtain ⟨z, hz⟩ : ∃ z, z = rxc 0 zeroS (.slice none 0 0) := ⟨_, rfl⟩
 have HZL := Lib.hid (show z.length = 6 by rw [hz]; rfl)
 have HZ0 := Lib.hid (show i0.zero = some (.agg z.toArray) by rw [hz]; exact hz0)
 have HZ1 := Lib.hid hz0
 clear h1 h2 h0 h3 h4 hn hz hz0
 go_enter Tryz.func86, Tryz.ntmps86
 go_wp2_with fail
 go_loopw [4, 9] (fun v i wl => ∃ (v1 : Value) (j : Nat), v1 = v ∧ j ≤ l.length ∧ i = .int .i64 (j : Int) ∧ OwnT D w.heap.size wl v (withoutT k (l.take j)) ∧ Below w.heap.size w wl) (fun _ i _ => l.length - (intOf i).toNat)
 case atStart => exact ⟨_, 0, rfl, by omega, by simp, OwnT.nil _ _ _, Below.refl _ _⟩
 case round =>
  obtain ⟨v1, j, rfl, hj, rfl, ho, hb⟩ := hrel
  have HO := Lib.hid ho
  have HB := Lib.hid hb
  clear ho hb
  by_cases hjl : j < l.length
  ·have j1 : (j : Int) < (l.length : Int) := Int.ofNat_lt.2 hjl
   obtain ⟨b, off, rfl, hb, hrng⟩ := H3.out (by rintro rfl; simp at hjl)
   obtain ⟨u, hu⟩ : ∃ u, l[j]? = some u := ⟨_, List.getElem?_eq_getElem hjl⟩
   have HV := Lib.hid ((H4.out j u hu).keep HB.out hD)
   have HRG := Lib.hid (range_below (hrng j hjl) HB.out (hD b hb))
   obtain ⟨Au, cu, hsp, hru⟩ := HV.out.split
   have HV6 := Lib.hid HV.out.length
   have HV1 := Lib.hid (show (f j).all (·.oneCell') = true from List.all_eq_true.2 HV.out.one)
   have HG0 := Lib.hid (show (f j)[0]? = some (.int .i64 u.kind) by rw [hsp]; rfl)
   have HG5 := Lib.hid (show (f j)[5]? = some (.slice Au u.args.length cu) by rw [hsp]; rfl)
   have HRU := Lib.hid hru
   have HU := Lib.hid hu
   have hj62 : j ≤ 4611686018427387904 := by have := HN.out; have := HLL.out; omega
   have e3 := wrap_one j hj62
   have e4 := wrap_one' j hj62
   have HSW := Lib.hid HB.out.size
   clear hrng hu hj62 hb hsp hru
   have HNX := Lib.hid (withoutT_next k l j u HU.out)
   have HNL := Lib.hid (Nat.le_trans (withoutT_len k (l.take j)) (List.length_take_le j l))
   obtain ⟨cur, hcur⟩ : ∃ cur, cur = withoutT k (l.take j) := ⟨_, rfl⟩
   rw [← hcur] at HO HNX HNL
   clear hcur
   by_cases hk : u.kind = k
   ·have hkb : (u.kind != k) = false := by simpa using hk
    have HE := Lib.hid (show withoutT k (l.take (j + 1)) = cur by rw [HNX.out, if_pos hk, List.append_nil])
    clear hk
    go_wp2_with (first
     | ((with_reducible refine atDst 12 ?_); refine wpList_load_mid rfl 29 _ rfl b (off + j * 6) rfl (f j) _ HRG.out Tryz.underlying29 rfl (size_rx HV6.out) ?_; (try simp only [Act.put, qA, qB, qC]))
     | ((with_reducible refine atDst 6 ?_); refine wpList_new rfl 29 rfl i0 _ z hi0 HZ0.out rfl (Below.refl wr.heap.size wr) (Nat.le_refl _) ?_; intro w1 hk1 hb1 hs1 _; have K1 := Lib.hid hk1; have B1 := Lib.hid hb1; clear hk1 hb1 hs1; (try simp only [Act.put, qA, qB, qC]))
     | ((with_reducible refine atStore 29 6 12 ?_); refine wpList_stBlk rfl 29 _ _ rfl wr.heap.size (f j) rfl rfl 29 _ K1.out (size_rx HV6.out) (by rw [HZL.out, HV6.out]) HV1.out B1.out (Nat.le_refl _) ?_; intro w2 hk2 hb2 hs2 _; have K2 := Lib.hid hk2; have B2 := Lib.hid hb2; have a0 := K2.out.cell 0; rw [HG0.out] at a0; have a5 := K2.out.cell 5; rw [HG5.out] at a5; have O2 := Lib.hid (HO.out.stay hb2); have BW := Lib.hid (HB.out.trans (hb2.mono HB.out.size)); clear hk2 hb2 hs2; (try simp only [Act.put, qA, qB, qC]))
     )
    refine ⟨⟨_, j + 1, rfl, by omega, by congr 1, by rw [HE.out]; exact O2.out, BW.out⟩, by simp [intOf] <;> omega⟩
   ·have hkb : (u.kind != k) = true := by simpa using hk
    have HE := Lib.hid (show withoutT k (l.take (j + 1)) = cur ++ [u] by rw [HNX.out, if_neg hk])
    have HLE := Lib.hid (show cur.length + 1 ≤ 1099511627776 by have h1 := HNL.out; have := HN.out; have := HLL.out; omega)
    clear hk
    go_wp2_with (first
     | ((with_reducible refine atDst 12 ?_); refine wpList_load_mid rfl 29 _ rfl b (off + j * 6) rfl (f j) _ HRG.out Tryz.underlying29 rfl (size_rx HV6.out) ?_; (try simp only [Act.put, qA, qB, qC]))
     | ((with_reducible refine atDst 6 ?_); refine wpList_new rfl 29 rfl i0 _ z hi0 HZ0.out rfl (Below.refl wr.heap.size wr) (Nat.le_refl _) ?_; intro w1 hk1 hb1 hs1 _; have K1 := Lib.hid hk1; have B1 := Lib.hid hb1; clear hk1 hb1 hs1; (try simp only [Act.put, qA, qB, qC]))
     | ((with_reducible refine atStore 29 6 12 ?_); refine wpList_stBlk rfl 29 _ _ rfl wr.heap.size (f j) rfl rfl 29 _ K1.out (size_rx HV6.out) (by rw [HZL.out, HV6.out]) HV1.out B1.out (Nat.le_refl _) ?_; intro w2 hk2 hb2 hs2 _; have K2 := Lib.hid hk2; have B2 := Lib.hid hb2; have a0 := K2.out.cell 0; rw [HG0.out] at a0; have a5 := K2.out.cell 5; rw [HG5.out] at a5; have O2 := Lib.hid (HO.out.stay hb2); have BW := Lib.hid (HB.out.trans (hb2.mono HB.out.size)); clear hk2 hb2 hs2; (try simp only [Act.put, qA, qB, qC]))
     | ((with_reducible refine atDst 18 ?_); refine wpList_ldArr rfl 29 _ rfl wr.heap.size rfl 29 _ _ K2.out Tryz.underlying29 rfl (size_rx HV6.out) ?_; (try simp only [Act.put, qA, qB, qC]))
     | ((with_reducible refine atDst 19 ?_); refine wpList_bldT1 rfl 27 29 (.tmp 18) rfl i0 Tryz.underlying27 hi0 HZ1.out hz1 (f j) HV6.out rfl ?_; intro w4 hk4 hb4 hs4; have K4 := Lib.hid hk4; have O4 := Lib.hid (O2.out.stay hb4); have B4 := Lib.hid (BW.out.trans (hb4.mono BW.out.size)); have V4 := Lib.hid (RxD.mono (((H4.out j u HU.out).keep BW.out HD.out).keep (hb4.mono BW.out.size) HD.out) (D' := fun k => D k ∧ k < w4.heap.size ∧ some k ≠ v1.ownBlock) fun k hk => ⟨hk, by have h1 := BW.out.size; have h2 := hb4.size; have h3 := HD.out k hk; omega, fun he => by have h1 := HO.out.ge k he.symm; have h3 := HD.out k hk; omega⟩); clear hk4 hb4 hs4; (try simp only [Act.put, qA, qB, qC]))
     | ((with_reducible refine atDst 20 ?_); refine wpList_appT (D := D) (base := w.heap.size) rfl (.tmp 17) (.tmp 19) rfl i0 hi0 HZ1.out hz1 hz2 v1 _ rfl O4.out w2.heap.size 1 29 (f j) u rfl K4.out V4.out HLE.out B4.out.size ?_; intro v5 w5 ho5 hg5; have O5 := Lib.hid ho5; have B5 := Lib.hid (B4.out.grown hg5 B4.out.size (fun q hq => O4.out.ge q hq)); clear ho5 hg5; (try simp only [Act.put, qA, qB, qC]))
     )
    refine ⟨⟨_, j + 1, rfl, by omega, by congr 1, by rw [HE.out]; exact O5.out, B5.out⟩, by simp [intOf] <;> omega⟩
  ·obtain rfl : j = l.length := by omega
   have j1 : ¬ ((l.length : Int) < (l.length : Int)) := by omega
   have ho := HO.out
   rw [List.take_length] at ho
   have O9 := Lib.hid ho
   clear ho
   go_wp2_with fail
   go_ret
   exact ⟨_, rfl, O9.out, HB.out⟩
end Go.Proofs.YtopnpdobcagcgaaGreat
