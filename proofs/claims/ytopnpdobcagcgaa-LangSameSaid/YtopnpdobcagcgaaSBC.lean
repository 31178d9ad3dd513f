/-
  Package lang's match, of a star of none or many. No statement is proved here.
-/
import Derived.Test.YtopnpdobcagcgaaSBA
namespace Go.Proofs.Ytopnpdobcagcgaa
open Go.RowKit
set_option linter.unusedSimpArgs false
set_option linter.unusedVariables false
-- the loop: $1 the world ahead of it, $2 the matcher's Blk there, $3 Below there, $4 the box's Blk, $5 the set, $6 the table
set_option maxHeartbeats 8000000 in
set_option maxRecDepth 1000000 in
theorem lMatch60 (N : Nat) (ih : MatchC N) (k : Int) (s : Nat → Bool) (l : List T) (hN : (T.node k s l).nodes ≤ N + 1) (hM : (T.node k s l).nodes ≤ 2000) (W : List UInt8) (hW : W.length ≤ 200) (V : Value) (cs : List Value) (w : World) (hr : Row w V (bvs W)) (hv : RxV w.heap.size w cs (.node k s l)) (k6 : k = 6) (hl : l.length ≠ 1) :
  Calls Try.prog 29 #[.agg cs.toArray, V] w fun e w' => ∃ g, e = .returned (.pointer (some ⟨g, 0, none⟩)) ∧ Mat W w' (fun k => w.heap.size ≤ k ∧ k < w'.heap.size) g (.node k s l) ∧ Below w.heap.size w w' := by
 have IH := Lib.hid ih
 clear ih
 obtain ⟨A, cap, f, hcs, h1, h2, h0, h3, h4⟩ := hv.opened
 have H3 := Lib.hid h3
 have H4 := Lib.hid h4
 have HNN := Lib.hid (show T.nodes (.node k s l) = 1 + nodesL l by simp only [T.nodes])
 rw [HNN.out] at hN hM
 have HN := Lib.hid hN
 have HM := Lib.hid hM
 have HLL := Lib.hid (len_nodes l)
 have HCM := Lib.hid h2
 have HCL := Lib.hid h1
 have HW := Lib.hid hW
 have RV := Lib.hid hr
 have hr0 := hr
 have HC0 := Lib.hid (show cs[0]? = some (.int .i64 k) by rw [hcs]; rfl)
 have HC5 := Lib.hid (show cs[5]? = some (.slice A l.length cap) by rw [hcs]; rfl)
 have HCS := Lib.hid hcs
 obtain ⟨ix, hix, hx0, hx1, hx2⟩ := inf_rx'
 obtain ⟨ip, hip, hp0, hp1, hp2⟩ := infoP inf_ptr
 obtain ⟨z, hz⟩ : ∃ z, z = rxc 0 zeroS (.slice none 0 0) := ⟨_, rfl⟩
 have HZL := Lib.hid (show z.length = 6 by rw [hz]; rfl)
 have HZ0 := Lib.hid (show ix.zero = some (.agg z.toArray) by rw [hz]; exact hx0)
 obtain ⟨AV, cV, hVs, _⟩ := hr
 rw [bvs_length] at hVs
 have HVV := Lib.hid hVs
 clear hv h1 h2 h0 h3 h4 hcs hN hM hW hz hx0
 subst hVs
 have k3 : k ≠ 3 := by omega
 have z3 : (k == 3) = false := by simpa using k3
 have z6 : (k == 6) = true := by simpa using k6
 have HK3 := Lib.hid k3
 have HK6 := Lib.hid k6
 have zl : ((l.length : Int) == 1) = false := by rw [beq_eq_false_iff_ne]; omega
 have HL1 := Lib.hid hl
 clear hl k3 k6 hr0
 go_enter Try.func29, Try.ntmps29
 go_wp2_with (first
  | ((with_reducible refine atDst 2 ?_); refine wpList_box rfl 27 _ rfl cs rfl (Below.refl w.heap.size w) (Nat.le_refl _) ?_; intro w1 hk1 hb1 hs1 _; have K1 := Lib.hid hk1; have B1 := Lib.hid hb1; have c0 := K1.out.cell 0; rw [HC0.out] at c0; clear hk1 hb1 hs1; (try simp only [Act.put, qA, qB, qC]))
  | ((with_reducible refine atDst 10 ?_); refine wpList_bld rfl 69 _ rfl (mcl k zeroS (.slice none 0 0) zeroS (.slice none 0 0)) (builtM k) ?_; (try simp only [Act.put, qA, qB, qC]))
  | ((with_reducible refine atDst 11 ?_); refine wpList_box rfl 69 _ rfl (mcl k zeroS (.slice none 0 0) zeroS (.slice none 0 0)) rfl B1.out B1.out.size ?_; intro w2 hk2 hb2 hs2 ho2; have G2 := Lib.hid hk2; have B2 := Lib.hid hb2; have K2 := Lib.hid (show Blk w2 w.heap.size 27 cs from (ho2 _ K1.out.lt).trans K1.out); have c0 := K2.out.cell 0; rw [HC0.out] at c0; have c5 := K2.out.cell 5; rw [HC5.out] at c5; have HGL := Lib.hid K1.out.lt; have S2 := Lib.hid hs2; clear hk2 hb2 hs2 ho2; (try simp only [Act.put, qA, qB, qC]))
  )
 have HBG := Lib.hid (show w1.heap.size < w2.heap.size from G2.out.lt)
 have k5 := K2.out.cell 5
 rw [HC5.out] at k5
 go_loopw [43] (fun i wl => ∃ (j : Nat) (ms : List (Nat × Nat × Nat)) (v : Value), j ≤ l.length ∧ i = .int .i64 (j : Int) ∧ Mk W w2.heap.size w1.heap.size l j v ms wl ∧ Blk wl w1.heap.size 69 (mcl k zeroS v zeroS (.slice none 0 0)) ∧ Off (fun q => q = w1.heap.size) w2 wl) (fun i _ => l.length - (intOf i).toNat)
 case atStart => exact ⟨0, [], .slice none 0 0, by omega, by simp, ⟨rfl, ownN _ _ _, fun i m t h => (by simp at h), fun m h => (by cases h), List.Pairwise.nil⟩, G2.out, Off.refl _ _⟩
 case round =>
  obtain ⟨j, ms, v, hj, rfl, hm, hg, ho⟩ := hrel
  have MR := Lib.hid hm
  have GR := Lib.hid hg
  have OR := Lib.hid ho
  have BR := Lib.hid (B2.out.trans (ho.below (B := w.heap.size) (fun q hq => by rw [hq]; exact Nat.le_of_lt HGL.out) (Nat.le_trans (Nat.le_of_lt HGL.out) (Nat.le_of_lt HBG.out))))
  clear hm hg ho
  by_cases hjl : j < l.length
  ·have j1 : (j : Int) < (l.length : Int) := Int.ofNat_lt.2 hjl
   obtain ⟨b, off, rfl, hb, hrng⟩ := H3.out (by rintro rfl; simp at hjl)
   obtain ⟨u, hu⟩ : ∃ u, l[j]? = some u := ⟨_, List.getElem?_eq_getElem hjl⟩
   have HV := Lib.hid (RxV.part H4.out BR.out BR.out.size hu)
   have HV6 := Lib.hid HV.out.length
   have HV1 := Lib.hid (show (f j).all (·.oneCell') = true from List.all_eq_true.2 (RxD.one HV.out))
   have HRG := Lib.hid (range_below (hrng j hjl) BR.out hb)
   have HU := Lib.hid hu
   have HUN := Lib.hid (show u.nodes ≤ N by have h1 := nodes_mem (List.mem_of_getElem? hu); have := HN.out; omega)
   have HUM := Lib.hid (show u.nodes ≤ 2000 by have h1 := nodes_mem (List.mem_of_getElem? hu); have := HM.out; omega)
   have HJ1 := Lib.hid hjl
   have HJL := Lib.hid (show j + 1 ≤ 2097152 by have := HLL.out; have := HM.out; omega)
   have e3 := wrap_len hjl HCL.out HCM.out
   have e4 := wrap_len' hjl HCL.out HCM.out
   have RVR := Lib.hid (RV.out.below BR.out)
   have HBR := Lib.hid (show w2.heap.size ≤ wr.heap.size from OR.out.size)
   obtain ⟨Av, cv, hvs⟩ : ∃ Av cv, v = .slice Av j cv := by
    obtain ⟨Av, cv, hv, _⟩ := Row.of_own MR.out.own
    exact ⟨Av, cv, by rw [hv]; congr 1; simp [ptrs, MR.out.len]⟩
   have HVS := Lib.hid hvs
   clear hrng hu hb hj hjl hvs
   go_wp2_with (first
    | ((with_reducible refine atDst 46 ?_); refine wpList_load_mid rfl 27 _ rfl b (off + j * 6) rfl (f j) _ HRG.out Try.underlying27 rfl (size_rx HV6.out) ?_; (try simp only [Act.put, qA, qB, qC]))
    | ((with_reducible refine atDst 7 ?_); refine wpList_new rfl 27 rfl ix _ z hix HZ0.out rfl (Below.refl wr.heap.size wr) (Nat.le_refl _) ?_; intro w4 hk4 hb4 hs4 _; have K4 := Lib.hid hk4; have B4 := Lib.hid hb4; clear hk4 hb4 hs4; (try simp only [Act.put, qA, qB, qC]))
    | ((with_reducible refine atStore 27 7 46 ?_); refine wpList_stBlk rfl 27 _ _ rfl wr.heap.size (f j) rfl rfl 27 _ K4.out (size_rx HV6.out) (by rw [HZL.out, HV6.out]) HV1.out B4.out (Nat.le_refl _) ?_; intro w5 hk5 hb5 hs5 _; have K5 := Lib.hid hk5; have B5 := Lib.hid hb5; have G5 := Lib.hid (GR.out.below hb5 GR.out.lt); have M5 := Lib.hid (MR.out.stay hb5); clear hk5 hb5 hs5; (try simp only [Act.put, qA, qB, qC])))
   have HXG := Lib.hid (show ¬ (wr.heap.size = w1.heap.size ∨ v.ownBlock = some wr.heap.size) from by rintro (h | h); have := GR.out.lt; omega; have := (own6_lt MR.out.own _ h).1; omega)
   refine sg_start (S := fun V => Off (fun q => q = w1.heap.size ∨ v.ownBlock = some q) w5 V) (by kernel_rfl) (Off.start _ _) (fun wd hwd => ?_)
   have hX : Off (fun q => q = w1.heap.size ∨ v.ownBlock = some q) w5 wd := by rw [hwd]; exact Off.start _ _
   have BD := Lib.hid (show Below wr.heap.size wr wd by rw [hwd]; exact B5.out.drew)
   have GD := Lib.hid (show Blk wd w1.heap.size 69 (mcl k zeroS v zeroS (.slice none 0 0)) by rw [hwd]; exact G5.out)
   have MD := Lib.hid (show Mk W w2.heap.size w1.heap.size l j v ms wd from M5.out.stay (by rw [hwd]; exact (Below.refl _ _).drew))
   clear hwd
   refine sg_take (i := 0) (oi := ⟨some 47, _, _, _, _, _⟩) (v := ?_) rfl (by kernel_rfl) (by kernel_rfl) (by kernel_rfl) (fun _ _ _ h => h) rfl hX ?_ ?_; rotate_left; (intro W hW; go_simp; try with_reducible rfl); simp only [Act.put, qA, qB, qC]
   refine sg_take (i := 1) (oi := ⟨some 48, _, _, _, _, _⟩) (v := ?_) rfl (by kernel_rfl) (by kernel_rfl) (by kernel_rfl) (fun _ _ _ h => h) rfl hX ?_ ?_; rotate_left; (intro W hW; go_simp; try with_reducible rfl); simp only [Act.put, qA, qB, qC]
   refine sg_take (i := 2) (oi := ⟨some 49, _, _, _, _, _⟩) (v := ?_) rfl (by kernel_rfl) (by kernel_rfl) (by kernel_rfl) (fun _ _ _ h => h) rfl hX ?_ ?_; rotate_left; (intro W hW; go_simp; try with_reducible rfl); simp only [Act.put, qA, qB, qC]
   refine sg_take (i := 3) (oi := ⟨some 50, _, _, _, _, _⟩) (v := ?_) rfl (by kernel_rfl) (by kernel_rfl) (by kernel_rfl) (fun _ _ _ h => h) rfl hX ?_ ?_; rotate_left; (intro W hW; go_simp; try with_reducible rfl); simp only [Act.put, qA, qB, qC]
   refine sg_take (i := 5) (oi := ⟨some 52, _, _, _, _, _⟩) (v := .agg (f j).toArray) rfl (by kernel_rfl) (by kernel_rfl) (by kernel_rfl) (fun _ _ _ h => h) rfl hX (fun V hV => ld_keep 27 _ rfl wr.heap.size 0 rfl _ _ (fun i v hv => (K5.out.cell (0 + i)).trans (by rw [Nat.zero_add]; exact hv)) (hV.block _ K5.out.lt HXG.out) Try.underlying27 rfl (size_rx HV6.out)) ?_; simp only [Act.put, qA, qB, qC]
   refine sg_take (i := 6) (oi := ⟨some 53, _, _, _, _, _⟩) (v := ?_) rfl (by kernel_rfl) (by kernel_rfl) (by kernel_rfl) (fun _ _ _ h => h) rfl hX ?_ ?_; rotate_left; (intro W hW; go_simp; try with_reducible rfl); simp only [Act.put, qA, qB, qC]
   refine sg_two (i := 4) (j := 7) (oi := ⟨some 51, _, _, _, _, _⟩) (oj := ⟨some 54, _, _, _, _, _⟩) rfl rfl (by kernel_rfl) rfl rfl hX (fun K hK => ?_) (fun K hK => ?_)
   ·refine wp_of_run (ld_ms (.tmp 50) rfl rfl (by rw [(mcl_at GD.out).2.1, HVS.out])) ?_
    rw [← HVS.out]
    refine hK _ _ hX ?_
    clear hK K
    (try simp only [Act.put, qA, qB, qC])
    refine sg_actB (i := 7) (o := ⟨some 54, _, _, _, _, _⟩) rfl (by kernel_rfl) rfl hX (fun K hK => ?_)
    go_wp2_with fail
    refine (IH.out u HUN.out HUM.out W HW.out (.slice AV W.length cV) (f j) wd (RVR.out.below BD.out) (RxV.mono (HV.out.stay BD.out) BD.out.size)).mono ?_
    rintro e w7 ⟨g7, rfl, hm7, hb7⟩
    go_wp2_with fail
    refine hK _ _ (hX.then hb7) ?_
    clear hK K
    (try simp only [Act.put, qA, qB, qC])
    replace hX := hX.then hb7
    have G7 := Lib.hid (GD.out.below hb7 GD.out.lt)
    have M7 := Lib.hid hm7
    have C7 := Lib.hid hb7
    have D7 := Lib.hid (MD.out.stay hb7)
    clear hm7 hb7
    refine sg_actB (i := 8) (o := ⟨some 55, _, _, _, _, _⟩) rfl (by kernel_rfl) rfl hX (fun K hK => ?_)
    refine wp_bldP 66 50 _ rfl ip Try.underlying66 hip none hp0 hp1 (some ⟨g7, 0, none⟩) rfl ?_
    intro w8 hr8 hb8
    refine hK _ _ (hX.then hb8) ?_
    clear hK K
    (try simp only [Act.put, qA, qB, qC])
    replace hX := hX.then hb8
    have R8 := Lib.hid hr8
    have C8 := Lib.hid hb8
    have G8 := Lib.hid (G7.out.below hb8 G7.out.lt)
    have D8 := Lib.hid (D7.out.stay hb8)
    clear hr8 hb8
    refine sg_actB (i := 9) (o := ⟨some 56, _, _, _, _, _⟩) rfl (by kernel_rfl) rfl hX (fun K hK => ?_)
    refine wp_appW (base := w2.heap.size) (.tmp 51) (.tmp 55) 66 rfl 50 ip (.pointer none) 8 Try.underlying66 hip hp0 hp1 hp2 rfl v j (ptrs ms) rfl D8.out.own _ [.pointer (some ⟨g7, 0, none⟩)] rfl R8.out (by simp [Value.oneCell']) HJL.out (by omega) (Nat.le_trans HBR.out (Nat.le_trans BD.out.size (Nat.le_trans C7.out.size C8.out.size))) ?_
    intro v9 w9 ho9 hg9 hw9
    have hX9 := hX.trans (Off.grown (D := fun q => q = w1.heap.size ∨ v.ownBlock = some q) hg9 fun q hq => .inr (.inr hq))
    refine hK _ _ hX9 ?_
    clear hK K
    (try simp only [Act.put, qA, qB, qC])
    replace hX := hX9
    clear hX9
    have M9 := Lib.hid (MD.out.snoc (Nat.le_trans HBR.out BD.out.size) HU.out M7.out C7.out C8.out ho9 hg9 hw9)
    have G9 := Lib.hid (G8.out.grown hg9 (fun e => by have h1 := (own6_lt MR.out.own _ e.symm).2; have h2 := HBG.out; omega))
    obtain ⟨A9, c9, hv9⟩ : ∃ A9 c9, v9 = .slice A9 (j + 1) c9 := by
     obtain ⟨A9, c9, hv, _⟩ := Row.of_own ho9
     exact ⟨A9, c9, by rw [hv]; congr 1; simp [ptrs, MR.out.len]⟩
    subst hv9
    have HBE := Lib.hid (show Off (fun q => q = w1.heap.size) w2 w9 from by
     have h9 := hX
     exact ⟨h9.os.trans (B5.out.os.trans OR.out.os), h9.tape.trans (B5.out.tape.trans OR.out.tape), h9.output.trans (B5.out.output.trans OR.out.output), Nat.le_trans OR.out.size (Nat.le_trans B5.out.size h9.size), fun q hq hn => (h9.block q (Nat.lt_of_lt_of_le hq (Nat.le_trans OR.out.size B5.out.size)) (by rintro (h | h); exact hn h; have h1 := (own6_lt MR.out.own _ h).2; omega)).trans ((B5.out.block q (Nat.lt_of_lt_of_le hq OR.out.size)).trans (OR.out.block q hq hn))⟩)
    clear ho9 hg9 hw9
    refine sg_take (i := 10) (oi := ⟨some 57, _, _, _, _, _⟩) (v := ?_) rfl (by kernel_rfl) (by kernel_rfl) (by kernel_rfl) (fun _ _ _ h => h) rfl hX ?_ ?_; rotate_left; (intro W hW; go_simp; try with_reducible rfl); simp only [Act.put, qA, qB, qC]
    refine sg_take (i := 11) (oi := ⟨some 58, _, _, _, _, _⟩) (v := ?_) rfl (by kernel_rfl) (by kernel_rfl) (by kernel_rfl) (fun _ _ _ h => h) rfl hX ?_ ?_; rotate_left; (intro W hW; go_simp; try with_reducible rfl); simp only [Act.put, qA, qB, qC]
    refine sg_actB (i := 12) (o := ⟨none, _, _, _, _, _⟩) rfl (by kernel_rfl) rfl hX (fun K hK => ?_)
    refine wp_of_step (st_ms (.tmp 58) (.tmp 56) rfl rfl rfl ((mcl_at G9.out).2.1) (G9.out.frozen 5)) ?_
    have hX9 := hX.trans (Off.set (D := fun q => q = w1.heap.size ∨ v.ownBlock = some q) w9 5 (.slice A9 (j + 1) c9) (.inl rfl))
    refine hK _ _ hX9 ?_
    clear hK K
    refine wpAnyH_done (by kernel_rfl) ?_ _
    have GZ := Lib.hid (show Blk (w9.setCell ⟨w1.heap.size, 5, none⟩ (.slice A9 (j + 1) c9)) w1.heap.size 69 (mcl k zeroS (.slice A9 (j + 1) c9) zeroS (.slice none 0 0)) from G9.out.set 5 _)
    have MZ := Lib.hid (M9.out.far (w' := w9.setCell ⟨w1.heap.size, 5, none⟩ (.slice A9 (j + 1) c9)) (by simp) HBG.out fun q hq => Below.heap_setCell w9 ⟨w1.heap.size, 5, none⟩ _ q hq)
    have OZ := Lib.hid (HBE.out.trans (Off.set (D := fun q => q = w1.heap.size) w9 5 (.slice A9 (j + 1) c9) rfl))
    clear hX hX9
    go_wp2_with fail
    exact ⟨⟨j + 1, _, _, HJ1.out, by congr 1, MZ.out, GZ.out, OZ.out⟩, by simpa [intOf] using sub_next HJ1.out⟩
   ·go_wp2_with fail
    refine (IH.out u HUN.out HUM.out W HW.out (.slice AV W.length cV) (f j) wd (RVR.out.below BD.out) (RxV.mono (HV.out.stay BD.out) BD.out.size)).mono ?_
    rintro e w7 ⟨g7, rfl, hm7, hb7⟩
    go_wp2_with fail
    refine hK _ _ (hX.then hb7) ?_
    clear hK K
    (try simp only [Act.put, qA, qB, qC])
    replace hX := hX.then hb7
    have G7 := Lib.hid (GD.out.below hb7 GD.out.lt)
    have M7 := Lib.hid hm7
    have C7 := Lib.hid hb7
    have D7 := Lib.hid (MD.out.stay hb7)
    clear hm7 hb7
    refine sg_two (i := 4) (j := 8) (oi := ⟨some 51, _, _, _, _, _⟩) (oj := ⟨some 55, _, _, _, _, _⟩) rfl rfl (by kernel_rfl) rfl rfl hX (fun K hK => ?_) (fun K hK => ?_)
    ·refine wp_of_run (ld_ms (.tmp 50) rfl rfl (by rw [(mcl_at G7.out).2.1, HVS.out])) ?_
     rw [← HVS.out]
     refine hK _ _ hX ?_
     clear hK K
     (try simp only [Act.put, qA, qB, qC])
     refine sg_actB (i := 8) (o := ⟨some 55, _, _, _, _, _⟩) rfl (by kernel_rfl) rfl hX (fun K hK => ?_)
     refine wp_bldP 66 50 _ rfl ip Try.underlying66 hip none hp0 hp1 (some ⟨g7, 0, none⟩) rfl ?_
     intro w8 hr8 hb8
     refine hK _ _ (hX.then hb8) ?_
     clear hK K
     (try simp only [Act.put, qA, qB, qC])
     replace hX := hX.then hb8
     have R8 := Lib.hid hr8
     have C8 := Lib.hid hb8
     have G8 := Lib.hid (G7.out.below hb8 G7.out.lt)
     have D8 := Lib.hid (D7.out.stay hb8)
     clear hr8 hb8
     refine sg_actB (i := 9) (o := ⟨some 56, _, _, _, _, _⟩) rfl (by kernel_rfl) rfl hX (fun K hK => ?_)
     refine wp_appW (base := w2.heap.size) (.tmp 51) (.tmp 55) 66 rfl 50 ip (.pointer none) 8 Try.underlying66 hip hp0 hp1 hp2 rfl v j (ptrs ms) rfl D8.out.own _ [.pointer (some ⟨g7, 0, none⟩)] rfl R8.out (by simp [Value.oneCell']) HJL.out (by omega) (Nat.le_trans HBR.out (Nat.le_trans BD.out.size (Nat.le_trans C7.out.size C8.out.size))) ?_
     intro v9 w9 ho9 hg9 hw9
     have hX9 := hX.trans (Off.grown (D := fun q => q = w1.heap.size ∨ v.ownBlock = some q) hg9 fun q hq => .inr (.inr hq))
     refine hK _ _ hX9 ?_
     clear hK K
     (try simp only [Act.put, qA, qB, qC])
     replace hX := hX9
     clear hX9
     have M9 := Lib.hid (MD.out.snoc (Nat.le_trans HBR.out BD.out.size) HU.out M7.out C7.out C8.out ho9 hg9 hw9)
     have G9 := Lib.hid (G8.out.grown hg9 (fun e => by have h1 := (own6_lt MR.out.own _ e.symm).2; have h2 := HBG.out; omega))
     obtain ⟨A9, c9, hv9⟩ : ∃ A9 c9, v9 = .slice A9 (j + 1) c9 := by
      obtain ⟨A9, c9, hv, _⟩ := Row.of_own ho9
      exact ⟨A9, c9, by rw [hv]; congr 1; simp [ptrs, MR.out.len]⟩
     subst hv9
     have HBE := Lib.hid (show Off (fun q => q = w1.heap.size) w2 w9 from by
      have h9 := hX
      exact ⟨h9.os.trans (B5.out.os.trans OR.out.os), h9.tape.trans (B5.out.tape.trans OR.out.tape), h9.output.trans (B5.out.output.trans OR.out.output), Nat.le_trans OR.out.size (Nat.le_trans B5.out.size h9.size), fun q hq hn => (h9.block q (Nat.lt_of_lt_of_le hq (Nat.le_trans OR.out.size B5.out.size)) (by rintro (h | h); exact hn h; have h1 := (own6_lt MR.out.own _ h).2; omega)).trans ((B5.out.block q (Nat.lt_of_lt_of_le hq OR.out.size)).trans (OR.out.block q hq hn))⟩)
     clear ho9 hg9 hw9
     refine sg_take (i := 10) (oi := ⟨some 57, _, _, _, _, _⟩) (v := ?_) rfl (by kernel_rfl) (by kernel_rfl) (by kernel_rfl) (fun _ _ _ h => h) rfl hX ?_ ?_; rotate_left; (intro W hW; go_simp; try with_reducible rfl); simp only [Act.put, qA, qB, qC]
     refine sg_take (i := 11) (oi := ⟨some 58, _, _, _, _, _⟩) (v := ?_) rfl (by kernel_rfl) (by kernel_rfl) (by kernel_rfl) (fun _ _ _ h => h) rfl hX ?_ ?_; rotate_left; (intro W hW; go_simp; try with_reducible rfl); simp only [Act.put, qA, qB, qC]
     refine sg_actB (i := 12) (o := ⟨none, _, _, _, _, _⟩) rfl (by kernel_rfl) rfl hX (fun K hK => ?_)
     refine wp_of_step (st_ms (.tmp 58) (.tmp 56) rfl rfl rfl ((mcl_at G9.out).2.1) (G9.out.frozen 5)) ?_
     have hX9 := hX.trans (Off.set (D := fun q => q = w1.heap.size ∨ v.ownBlock = some q) w9 5 (.slice A9 (j + 1) c9) (.inl rfl))
     refine hK _ _ hX9 ?_
     clear hK K
     refine wpAnyH_done (by kernel_rfl) ?_ _
     have GZ := Lib.hid (show Blk (w9.setCell ⟨w1.heap.size, 5, none⟩ (.slice A9 (j + 1) c9)) w1.heap.size 69 (mcl k zeroS (.slice A9 (j + 1) c9) zeroS (.slice none 0 0)) from G9.out.set 5 _)
     have MZ := Lib.hid (M9.out.far (w' := w9.setCell ⟨w1.heap.size, 5, none⟩ (.slice A9 (j + 1) c9)) (by simp) HBG.out fun q hq => Below.heap_setCell w9 ⟨w1.heap.size, 5, none⟩ _ q hq)
     have OZ := Lib.hid (HBE.out.trans (Off.set (D := fun q => q = w1.heap.size) w9 5 (.slice A9 (j + 1) c9) rfl))
     clear hX hX9
     go_wp2_with fail
     exact ⟨⟨j + 1, _, _, HJ1.out, by congr 1, MZ.out, GZ.out, OZ.out⟩, by simpa [intOf] using sub_next HJ1.out⟩
    ·refine wp_bldP 66 50 _ rfl ip Try.underlying66 hip none hp0 hp1 (some ⟨g7, 0, none⟩) rfl ?_
     intro w8 hr8 hb8
     refine hK _ _ (hX.then hb8) ?_
     clear hK K
     (try simp only [Act.put, qA, qB, qC])
     replace hX := hX.then hb8
     have R8 := Lib.hid hr8
     have C8 := Lib.hid hb8
     have G8 := Lib.hid (G7.out.below hb8 G7.out.lt)
     have D8 := Lib.hid (D7.out.stay hb8)
     clear hr8 hb8
     refine sg_actB (i := 4) (o := ⟨some 51, _, _, _, _, _⟩) rfl (by kernel_rfl) rfl hX (fun K hK => ?_)
     refine wp_of_run (ld_ms (.tmp 50) rfl rfl (by rw [(mcl_at G8.out).2.1, HVS.out])) ?_
     rw [← HVS.out]
     refine hK _ _ hX ?_
     clear hK K
     (try simp only [Act.put, qA, qB, qC])
     refine sg_actB (i := 9) (o := ⟨some 56, _, _, _, _, _⟩) rfl (by kernel_rfl) rfl hX (fun K hK => ?_)
     refine wp_appW (base := w2.heap.size) (.tmp 51) (.tmp 55) 66 rfl 50 ip (.pointer none) 8 Try.underlying66 hip hp0 hp1 hp2 rfl v j (ptrs ms) rfl D8.out.own _ [.pointer (some ⟨g7, 0, none⟩)] rfl R8.out (by simp [Value.oneCell']) HJL.out (by omega) (Nat.le_trans HBR.out (Nat.le_trans BD.out.size (Nat.le_trans C7.out.size C8.out.size))) ?_
     intro v9 w9 ho9 hg9 hw9
     have hX9 := hX.trans (Off.grown (D := fun q => q = w1.heap.size ∨ v.ownBlock = some q) hg9 fun q hq => .inr (.inr hq))
     refine hK _ _ hX9 ?_
     clear hK K
     (try simp only [Act.put, qA, qB, qC])
     replace hX := hX9
     clear hX9
     have M9 := Lib.hid (MD.out.snoc (Nat.le_trans HBR.out BD.out.size) HU.out M7.out C7.out C8.out ho9 hg9 hw9)
     have G9 := Lib.hid (G8.out.grown hg9 (fun e => by have h1 := (own6_lt MR.out.own _ e.symm).2; have h2 := HBG.out; omega))
     obtain ⟨A9, c9, hv9⟩ : ∃ A9 c9, v9 = .slice A9 (j + 1) c9 := by
      obtain ⟨A9, c9, hv, _⟩ := Row.of_own ho9
      exact ⟨A9, c9, by rw [hv]; congr 1; simp [ptrs, MR.out.len]⟩
     subst hv9
     have HBE := Lib.hid (show Off (fun q => q = w1.heap.size) w2 w9 from by
      have h9 := hX
      exact ⟨h9.os.trans (B5.out.os.trans OR.out.os), h9.tape.trans (B5.out.tape.trans OR.out.tape), h9.output.trans (B5.out.output.trans OR.out.output), Nat.le_trans OR.out.size (Nat.le_trans B5.out.size h9.size), fun q hq hn => (h9.block q (Nat.lt_of_lt_of_le hq (Nat.le_trans OR.out.size B5.out.size)) (by rintro (h | h); exact hn h; have h1 := (own6_lt MR.out.own _ h).2; omega)).trans ((B5.out.block q (Nat.lt_of_lt_of_le hq OR.out.size)).trans (OR.out.block q hq hn))⟩)
     clear ho9 hg9 hw9
     refine sg_take (i := 10) (oi := ⟨some 57, _, _, _, _, _⟩) (v := ?_) rfl (by kernel_rfl) (by kernel_rfl) (by kernel_rfl) (fun _ _ _ h => h) rfl hX ?_ ?_; rotate_left; (intro W hW; go_simp; try with_reducible rfl); simp only [Act.put, qA, qB, qC]
     refine sg_take (i := 11) (oi := ⟨some 58, _, _, _, _, _⟩) (v := ?_) rfl (by kernel_rfl) (by kernel_rfl) (by kernel_rfl) (fun _ _ _ h => h) rfl hX ?_ ?_; rotate_left; (intro W hW; go_simp; try with_reducible rfl); simp only [Act.put, qA, qB, qC]
     refine sg_actB (i := 12) (o := ⟨none, _, _, _, _, _⟩) rfl (by kernel_rfl) rfl hX (fun K hK => ?_)
     refine wp_of_step (st_ms (.tmp 58) (.tmp 56) rfl rfl rfl ((mcl_at G9.out).2.1) (G9.out.frozen 5)) ?_
     have hX9 := hX.trans (Off.set (D := fun q => q = w1.heap.size ∨ v.ownBlock = some q) w9 5 (.slice A9 (j + 1) c9) (.inl rfl))
     refine hK _ _ hX9 ?_
     clear hK K
     refine wpAnyH_done (by kernel_rfl) ?_ _
     have GZ := Lib.hid (show Blk (w9.setCell ⟨w1.heap.size, 5, none⟩ (.slice A9 (j + 1) c9)) w1.heap.size 69 (mcl k zeroS (.slice A9 (j + 1) c9) zeroS (.slice none 0 0)) from G9.out.set 5 _)
     have MZ := Lib.hid (M9.out.far (w' := w9.setCell ⟨w1.heap.size, 5, none⟩ (.slice A9 (j + 1) c9)) (by simp) HBG.out fun q hq => Below.heap_setCell w9 ⟨w1.heap.size, 5, none⟩ _ q hq)
     have OZ := Lib.hid (HBE.out.trans (Off.set (D := fun q => q = w1.heap.size) w9 5 (.slice A9 (j + 1) c9) rfl))
     clear hX hX9
     go_wp2_with fail
     exact ⟨⟨j + 1, _, _, HJ1.out, by congr 1, MZ.out, GZ.out, OZ.out⟩, by simpa [intOf] using sub_next HJ1.out⟩
  ·obtain rfl : j = l.length := by omega
   have j1 : ¬ ((l.length : Int) < (l.length : Int)) := by omega
   go_wp2_with fail
   go_ret
   refine ⟨w1.heap.size, rfl, ?_, BR.out⟩
   exact MR.out.done HBG.out (Nat.le_of_lt HGL.out) OR.out.size (by rw [if_neg HK3.out]; exact GR.out) (fun _ h => absurd h HL1.out) (fun _ => rfl)
end Go.Proofs.Ytopnpdobcagcgaa
