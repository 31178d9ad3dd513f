/-
  Texts of this proof, put together: (LwXd) Package lang's match, of other kinds. No statement is proved here. (LwXe) Package lang's match, of all kinds. No statement is proved here. (LwI) Package lang's In. No statement is proved here. (LwP) A step of a sequence, all ways at once: as plain facts. No conditions; no statement is proved here.
-/
import Derived.Test.YtopnpdobcagcgaaGreatPX
import Derived.Test.YtopnpdobcagcgaaGreatPY
import Derived.Test.YtopnpdobcagcgaaGreatPS
namespace Go.Proofs.YtopnpdobcagcgaaGreat
open Go.RowKit
set_option linter.unusedSimpArgs false
set_option linter.unusedVariables false
-- the loop: $1 the world ahead of it, $2 the matcher's Blk there, $3 Below there, $4 the box's Blk, $5 the set, $6 the table
set_option maxHeartbeats 8000000 in
set_option maxRecDepth 1000000 in
theorem lMatchE (N : Nat) (ih : MatchC N) (k : Int) (s : Nat → Bool) (l : List T) (hN : (T.node k s l).nodes ≤ N + 1) (hM : (T.node k s l).nodes ≤ 2000) (W : List UInt8) (hW : W.length ≤ 200) (V : Value) (cs : List Value) (w : World) (hr : Row w V (bvs W)) (hv : RxV w.heap.size w cs (.node k s l)) (k3 : k ≠ 3) (k6 : k ≠ 6) :
  Calls Tryz.prog 31 #[.agg cs.toArray, V] w fun e w' => ∃ g, e = .returned (.pointer (some ⟨g, 0, none⟩)) ∧ Mat W w' (fun k => w.heap.size ≤ k ∧ k < w'.heap.size) g (.node k s l) ∧ Below w.heap.size w w' := by
 have IH := Lib.hid ih
 clear ih
 obtain ⟨A, cap, f, hcs, h1, h2, h0, h3, h4⟩ := hv.opened
 have H3 := Lib.hid h3
 have H4 := Lib.hid h4
 have HNN := Lib.hid (show T.nodes (.node k s l) = 1 + nodesL l by simp only [T.nodes])
 rw [HNN.out] at hN hM
 have HN := Lib.hid hN
 have HM := Lib.hid hM
 have HLL := Lib.hid (len_nodes l)
 have HCM := Lib.hid h2
 have HCL := Lib.hid h1
 have HW := Lib.hid hW
 have RV := Lib.hid hr
 have hr0 := hr
 have HC0 := Lib.hid (show cs[0]? = some (.int .i64 k) by rw [hcs]; rfl)
 have HC5 := Lib.hid (show cs[5]? = some (.slice A l.length cap) by rw [hcs]; rfl)
 have HCS := Lib.hid hcs
 obtain ⟨ix, hix, hx0, hx1, hx2⟩ := inf_rx'
 obtain ⟨ip, hip, hp0, hp1, hp2⟩ := infoP inf_ptr
 obtain ⟨z, hz⟩ : ∃ z, z = rxc 0 zeroS (.slice none 0 0) := ⟨_, rfl⟩
 have HZL := Lib.hid (show z.length = 6 by rw [hz]; rfl)
 have HZ0 := Lib.hid (show ix.zero = some (.agg z.toArray) by rw [hz]; exact hx0)
 obtain ⟨AV, cV, hVs, _⟩ := hr
 rw [bvs_length] at hVs
 have HVV := Lib.hid hVs
 clear hv h1 h2 h0 h3 h4 hcs hN hM hW hz hx0
 subst hVs
 have z3 : (k == 3) = false := by simpa using k3
 have z6 : (k == 6) = false := by simpa using k6
 have HK3 := Lib.hid k3
 have HK6 := Lib.hid k6
 clear k3 k6 hr0
 go_enter Tryz.func31, Tryz.ntmps31
 go_wp2_with (first
  | ((with_reducible refine atDst 2 ?_); refine wpList_box rfl 29 _ rfl cs rfl (Below.refl w.heap.size w) (Nat.le_refl _) ?_; intro w1 hk1 hb1 hs1 _; have K1 := Lib.hid hk1; have B1 := Lib.hid hb1; have c0 := K1.out.cell 0; rw [HC0.out] at c0; clear hk1 hb1 hs1; (try simp only [Act.put, qA, qB, qC]))
  | ((with_reducible refine atDst 10 ?_); refine wpList_bld rfl 68 _ rfl (mcl k zeroS (.slice none 0 0) zeroS (.slice none 0 0)) (builtM k) ?_; (try simp only [Act.put, qA, qB, qC]))
  | ((with_reducible refine atDst 11 ?_); refine wpList_box rfl 68 _ rfl (mcl k zeroS (.slice none 0 0) zeroS (.slice none 0 0)) rfl B1.out B1.out.size ?_; intro w2 hk2 hb2 hs2 ho2; have G2 := Lib.hid hk2; have B2 := Lib.hid hb2; have K2 := Lib.hid (show Blk w2 w.heap.size 29 cs from (ho2 _ K1.out.lt).trans K1.out); have c0 := K2.out.cell 0; rw [HC0.out] at c0; have c5 := K2.out.cell 5; rw [HC5.out] at c5; have HGL := Lib.hid K1.out.lt; have S2 := Lib.hid hs2; clear hk2 hb2 hs2 ho2; (try simp only [Act.put, qA, qB, qC]))
  )
 have HBG := Lib.hid (show w1.heap.size < w2.heap.size from G2.out.lt)
 have k5 := K2.out.cell 5
 rw [HC5.out] at k5
 go_loopw [43] (fun i wl => ∃ (j : Nat) (ms : List (Nat × Nat × Nat)) (v : Value), j ≤ l.length ∧ i = .int .i64 (j : Int) ∧ Mk W w2.heap.size w1.heap.size l j v ms wl ∧ Blk wl w1.heap.size 68 (mcl k zeroS v zeroS (.slice none 0 0)) ∧ Off (fun q => q = w1.heap.size) w2 wl) (fun i _ => l.length - (intOf i).toNat)
 case atStart => exact ⟨0, [], .slice none 0 0, by omega, by simp, ⟨rfl, ownN _ _ _, fun i m t h => (by simp at h), fun m h => (by cases h), List.Pairwise.nil⟩, G2.out, Off.refl _ _⟩
 case round =>
  obtain ⟨j, ms, v, hj, rfl, hm, hg, ho⟩ := hrel
  have MR := Lib.hid hm
  have GR := Lib.hid hg
  have OR := Lib.hid ho
  have BR := Lib.hid (B2.out.trans (ho.below (B := w.heap.size) (fun q hq => by rw [hq]; exact Nat.le_of_lt HGL.out) (Nat.le_trans (Nat.le_of_lt HGL.out) (Nat.le_of_lt HBG.out))))
  clear hm hg ho
  by_cases hjl : j < l.length
  ·have j1 : (j : Int) < (l.length : Int) := Int.ofNat_lt.2 hjl
   obtain ⟨b, off, rfl, hb, hrng⟩ := H3.out (by rintro rfl; simp at hjl)
   obtain ⟨u, hu⟩ : ∃ u, l[j]? = some u := ⟨_, List.getElem?_eq_getElem hjl⟩
   have HV := Lib.hid (RxV.part H4.out BR.out BR.out.size hu)
   have HV6 := Lib.hid HV.out.length
   have HV1 := Lib.hid (show (f j).all (·.oneCell') = true from List.all_eq_true.2 (RxD.one HV.out))
   have HRG := Lib.hid (range_below (hrng j hjl) BR.out hb)
   have HU := Lib.hid hu
   have HUN := Lib.hid (show u.nodes ≤ N by have h1 := nodes_mem (List.mem_of_getElem? hu); have := HN.out; omega)
   have HUM := Lib.hid (show u.nodes ≤ 2000 by have h1 := nodes_mem (List.mem_of_getElem? hu); have := HM.out; omega)
   have HJ1 := Lib.hid hjl
   have HJL := Lib.hid (show j + 1 ≤ 2097152 by have := HLL.out; have := HM.out; omega)
   have e3 := wrap_len hjl HCL.out HCM.out
   have e4 := wrap_len' hjl HCL.out HCM.out
   have RVR := Lib.hid (RV.out.below BR.out)
   have HBR := Lib.hid (show w2.heap.size ≤ wr.heap.size from OR.out.size)
   obtain ⟨Av, cv, hvs⟩ : ∃ Av cv, v = .slice Av j cv := by
    obtain ⟨Av, cv, hv, _⟩ := Row.of_own MR.out.own
    exact ⟨Av, cv, by rw [hv]; congr 1; simp [ptrs, MR.out.len]⟩
   have HVS := Lib.hid hvs
   clear hrng hu hb hj hjl hvs
   go_wp2_with (first
    | ((with_reducible refine atDst 46 ?_); refine wpList_load_mid rfl 29 _ rfl b (off + j * 6) rfl (f j) _ HRG.out Tryz.underlying29 rfl (size_rx HV6.out) ?_; (try simp only [Act.put, qA, qB, qC]))
    | ((with_reducible refine atDst 7 ?_); refine wpList_new rfl 29 rfl ix _ z hix HZ0.out rfl (Below.refl wr.heap.size wr) (Nat.le_refl _) ?_; intro w4 hk4 hb4 hs4 _; have K4 := Lib.hid hk4; have B4 := Lib.hid hb4; clear hk4 hb4 hs4; (try simp only [Act.put, qA, qB, qC]))
    | ((with_reducible refine atStore 29 7 46 ?_); refine wpList_stBlk rfl 29 _ _ rfl wr.heap.size (f j) rfl rfl 29 _ K4.out (size_rx HV6.out) (by rw [HZL.out, HV6.out]) HV1.out B4.out (Nat.le_refl _) ?_; intro w5 hk5 hb5 hs5 _; have K5 := Lib.hid hk5; have B5 := Lib.hid hb5; have G5 := Lib.hid (GR.out.below hb5 GR.out.lt); have M5 := Lib.hid (MR.out.stay hb5); clear hk5 hb5 hs5; (try simp only [Act.put, qA, qB, qC])))
   have HXG := Lib.hid (show ¬ (wr.heap.size = w1.heap.size ∨ v.ownBlock = some wr.heap.size) from by rintro (h | h); have := GR.out.lt; omega; have := (own6_lt MR.out.own _ h).1; omega)
   refine sg_start (S := fun V => Off (fun q => q = w1.heap.size ∨ v.ownBlock = some q) w5 V) (by kernel_rfl) (Off.start _ _) (fun wd hwd => ?_)
   have hX : Off (fun q => q = w1.heap.size ∨ v.ownBlock = some q) w5 wd := by rw [hwd]; exact Off.start _ _
   have BD := Lib.hid (show Below wr.heap.size wr wd by rw [hwd]; exact B5.out.drew)
   have GD := Lib.hid (show Blk wd w1.heap.size 68 (mcl k zeroS v zeroS (.slice none 0 0)) by rw [hwd]; exact G5.out)
   have MD := Lib.hid (show Mk W w2.heap.size w1.heap.size l j v ms wd from M5.out.stay (by rw [hwd]; exact (Below.refl _ _).drew))
   clear hwd
   refine sg_take (i := 0) (oi := ⟨some 47, _, _, _, _, _⟩) (v := ?_) rfl (by kernel_rfl) (by kernel_rfl) (by kernel_rfl) (fun _ _ _ h => h) rfl hX ?_ ?_; rotate_left; (intro W hW; go_simp; try with_reducible rfl); simp only [Act.put, qA, qB, qC]
   refine sg_take (i := 1) (oi := ⟨some 48, _, _, _, _, _⟩) (v := ?_) rfl (by kernel_rfl) (by kernel_rfl) (by kernel_rfl) (fun _ _ _ h => h) rfl hX ?_ ?_; rotate_left; (intro W hW; go_simp; try with_reducible rfl); simp only [Act.put, qA, qB, qC]
   refine sg_take (i := 2) (oi := ⟨some 49, _, _, _, _, _⟩) (v := ?_) rfl (by kernel_rfl) (by kernel_rfl) (by kernel_rfl) (fun _ _ _ h => h) rfl hX ?_ ?_; rotate_left; (intro W hW; go_simp; try with_reducible rfl); simp only [Act.put, qA, qB, qC]
   refine sg_take (i := 3) (oi := ⟨some 50, _, _, _, _, _⟩) (v := ?_) rfl (by kernel_rfl) (by kernel_rfl) (by kernel_rfl) (fun _ _ _ h => h) rfl hX ?_ ?_; rotate_left; (intro W hW; go_simp; try with_reducible rfl); simp only [Act.put, qA, qB, qC]
   refine sg_take (i := 5) (oi := ⟨some 52, _, _, _, _, _⟩) (v := .agg (f j).toArray) rfl (by kernel_rfl) (by kernel_rfl) (by kernel_rfl) (fun _ _ _ h => h) rfl hX (fun V hV => ld_keep 29 _ rfl wr.heap.size 0 rfl _ _ (fun i v hv => (K5.out.cell (0 + i)).trans (by rw [Nat.zero_add]; exact hv)) (hV.block _ K5.out.lt HXG.out) Tryz.underlying29 rfl (size_rx HV6.out)) ?_; simp only [Act.put, qA, qB, qC]
   refine sg_take (i := 6) (oi := ⟨some 53, _, _, _, _, _⟩) (v := ?_) rfl (by kernel_rfl) (by kernel_rfl) (by kernel_rfl) (fun _ _ _ h => h) rfl hX ?_ ?_; rotate_left; (intro W hW; go_simp; try with_reducible rfl); simp only [Act.put, qA, qB, qC]
   refine sg_two (i := 4) (j := 7) (oi := ⟨some 51, _, _, _, _, _⟩) (oj := ⟨some 54, _, _, _, _, _⟩) rfl rfl (by kernel_rfl) rfl rfl hX (fun K hK => ?_) (fun K hK => ?_)
   ·refine wp_of_run (ld_ms (.tmp 50) rfl rfl (by rw [(mcl_at GD.out).2.1, HVS.out])) ?_
    rw [← HVS.out]
    refine hK _ _ hX ?_
    clear hK K
    (try simp only [Act.put, qA, qB, qC])
    refine sg_actB (i := 7) (o := ⟨some 54, _, _, _, _, _⟩) rfl (by kernel_rfl) rfl hX (fun K hK => ?_)
    go_wp2_with fail
    refine (IH.out u HUN.out HUM.out W HW.out (.slice AV W.length cV) (f j) wd (RVR.out.below BD.out) (RxV.mono (HV.out.stay BD.out) BD.out.size)).mono ?_
    rintro e w7 ⟨g7, rfl, hm7, hb7⟩
    go_wp2_with fail
    refine hK _ _ (hX.then hb7) ?_
    clear hK K
    (try simp only [Act.put, qA, qB, qC])
    replace hX := hX.then hb7
    have G7 := Lib.hid (GD.out.below hb7 GD.out.lt)
    have M7 := Lib.hid hm7
    have C7 := Lib.hid hb7
    have D7 := Lib.hid (MD.out.stay hb7)
    clear hm7 hb7
    refine sg_actB (i := 8) (o := ⟨some 55, _, _, _, _, _⟩) rfl (by kernel_rfl) rfl hX (fun K hK => ?_)
    refine wp_bldP 65 53 _ rfl ip Tryz.underlying65 hip none hp0 hp1 (some ⟨g7, 0, none⟩) rfl ?_
    intro w8 hr8 hb8
    refine hK _ _ (hX.then hb8) ?_
    clear hK K
    (try simp only [Act.put, qA, qB, qC])
    replace hX := hX.then hb8
    have R8 := Lib.hid hr8
    have C8 := Lib.hid hb8
    have G8 := Lib.hid (G7.out.below hb8 G7.out.lt)
    have D8 := Lib.hid (D7.out.stay hb8)
    clear hr8 hb8
    refine sg_actB (i := 9) (o := ⟨some 56, _, _, _, _, _⟩) rfl (by kernel_rfl) rfl hX (fun K hK => ?_)
    refine wp_appW (base := w2.heap.size) (.tmp 51) (.tmp 55) 65 rfl 53 ip (.pointer none) 8 Tryz.underlying65 hip hp0 hp1 hp2 rfl v j (ptrs ms) rfl D8.out.own _ [.pointer (some ⟨g7, 0, none⟩)] rfl R8.out (by simp [Value.oneCell']) HJL.out (by omega) (Nat.le_trans HBR.out (Nat.le_trans BD.out.size (Nat.le_trans C7.out.size C8.out.size))) ?_
    intro v9 w9 ho9 hg9 hw9
    have hX9 := hX.trans (Off.grown (D := fun q => q = w1.heap.size ∨ v.ownBlock = some q) hg9 fun q hq => .inr (.inr hq))
    refine hK _ _ hX9 ?_
    clear hK K
    (try simp only [Act.put, qA, qB, qC])
    replace hX := hX9
    clear hX9
    have M9 := Lib.hid (MD.out.snoc (Nat.le_trans HBR.out BD.out.size) HU.out M7.out C7.out C8.out ho9 hg9 hw9)
    have G9 := Lib.hid (G8.out.grown hg9 (fun e => by have h1 := (own6_lt MR.out.own _ e.symm).2; have h2 := HBG.out; omega))
    obtain ⟨A9, c9, hv9⟩ : ∃ A9 c9, v9 = .slice A9 (j + 1) c9 := by
     obtain ⟨A9, c9, hv, _⟩ := Row.of_own ho9
     exact ⟨A9, c9, by rw [hv]; congr 1; simp [ptrs, MR.out.len]⟩
    subst hv9
    have HBE := Lib.hid (show Off (fun q => q = w1.heap.size) w2 w9 from by
     have h9 := hX
     exact ⟨h9.os.trans (B5.out.os.trans OR.out.os), h9.tape.trans (B5.out.tape.trans OR.out.tape), h9.output.trans (B5.out.output.trans OR.out.output), Nat.le_trans OR.out.size (Nat.le_trans B5.out.size h9.size), fun q hq hn => (h9.block q (Nat.lt_of_lt_of_le hq (Nat.le_trans OR.out.size B5.out.size)) (by rintro (h | h); exact hn h; have h1 := (own6_lt MR.out.own _ h).2; omega)).trans ((B5.out.block q (Nat.lt_of_lt_of_le hq OR.out.size)).trans (OR.out.block q hq hn))⟩)
    clear ho9 hg9 hw9
    refine sg_take (i := 10) (oi := ⟨some 57, _, _, _, _, _⟩) (v := ?_) rfl (by kernel_rfl) (by kernel_rfl) (by kernel_rfl) (fun _ _ _ h => h) rfl hX ?_ ?_; rotate_left; (intro W hW; go_simp; try with_reducible rfl); simp only [Act.put, qA, qB, qC]
    refine sg_take (i := 11) (oi := ⟨some 58, _, _, _, _, _⟩) (v := ?_) rfl (by kernel_rfl) (by kernel_rfl) (by kernel_rfl) (fun _ _ _ h => h) rfl hX ?_ ?_; rotate_left; (intro W hW; go_simp; try with_reducible rfl); simp only [Act.put, qA, qB, qC]
    refine sg_actB (i := 12) (o := ⟨none, _, _, _, _, _⟩) rfl (by kernel_rfl) rfl hX (fun K hK => ?_)
    refine wp_of_step (st_ms (.tmp 58) (.tmp 56) rfl rfl rfl ((mcl_at G9.out).2.1) (G9.out.frozen 5)) ?_
    have hX9 := hX.trans (Off.set (D := fun q => q = w1.heap.size ∨ v.ownBlock = some q) w9 5 (.slice A9 (j + 1) c9) (.inl rfl))
    refine hK _ _ hX9 ?_
    clear hK K
    refine wpAnyH_done (by kernel_rfl) ?_ _
    have GZ := Lib.hid (show Blk (w9.setCell ⟨w1.heap.size, 5, none⟩ (.slice A9 (j + 1) c9)) w1.heap.size 68 (mcl k zeroS (.slice A9 (j + 1) c9) zeroS (.slice none 0 0)) from G9.out.set 5 _)
    have MZ := Lib.hid (M9.out.far (w' := w9.setCell ⟨w1.heap.size, 5, none⟩ (.slice A9 (j + 1) c9)) (by simp) HBG.out fun q hq => Below.heap_setCell w9 ⟨w1.heap.size, 5, none⟩ _ q hq)
    have OZ := Lib.hid (HBE.out.trans (Off.set (D := fun q => q = w1.heap.size) w9 5 (.slice A9 (j + 1) c9) rfl))
    clear hX hX9
    go_wp2_with fail
    exact ⟨⟨j + 1, _, _, HJ1.out, by congr 1, MZ.out, GZ.out, OZ.out⟩, by simpa [intOf] using sub_next HJ1.out⟩
   ·go_wp2_with fail
    refine (IH.out u HUN.out HUM.out W HW.out (.slice AV W.length cV) (f j) wd (RVR.out.below BD.out) (RxV.mono (HV.out.stay BD.out) BD.out.size)).mono ?_
    rintro e w7 ⟨g7, rfl, hm7, hb7⟩
    go_wp2_with fail
    refine hK _ _ (hX.then hb7) ?_
    clear hK K
    (try simp only [Act.put, qA, qB, qC])
    replace hX := hX.then hb7
    have G7 := Lib.hid (GD.out.below hb7 GD.out.lt)
    have M7 := Lib.hid hm7
    have C7 := Lib.hid hb7
    have D7 := Lib.hid (MD.out.stay hb7)
    clear hm7 hb7
    refine sg_two (i := 4) (j := 8) (oi := ⟨some 51, _, _, _, _, _⟩) (oj := ⟨some 55, _, _, _, _, _⟩) rfl rfl (by kernel_rfl) rfl rfl hX (fun K hK => ?_) (fun K hK => ?_)
    ·refine wp_of_run (ld_ms (.tmp 50) rfl rfl (by rw [(mcl_at G7.out).2.1, HVS.out])) ?_
     rw [← HVS.out]
     refine hK _ _ hX ?_
     clear hK K
     (try simp only [Act.put, qA, qB, qC])
     refine sg_actB (i := 8) (o := ⟨some 55, _, _, _, _, _⟩) rfl (by kernel_rfl) rfl hX (fun K hK => ?_)
     refine wp_bldP 65 53 _ rfl ip Tryz.underlying65 hip none hp0 hp1 (some ⟨g7, 0, none⟩) rfl ?_
     intro w8 hr8 hb8
     refine hK _ _ (hX.then hb8) ?_
     clear hK K
     (try simp only [Act.put, qA, qB, qC])
     replace hX := hX.then hb8
     have R8 := Lib.hid hr8
     have C8 := Lib.hid hb8
     have G8 := Lib.hid (G7.out.below hb8 G7.out.lt)
     have D8 := Lib.hid (D7.out.stay hb8)
     clear hr8 hb8
     refine sg_actB (i := 9) (o := ⟨some 56, _, _, _, _, _⟩) rfl (by kernel_rfl) rfl hX (fun K hK => ?_)
     refine wp_appW (base := w2.heap.size) (.tmp 51) (.tmp 55) 65 rfl 53 ip (.pointer none) 8 Tryz.underlying65 hip hp0 hp1 hp2 rfl v j (ptrs ms) rfl D8.out.own _ [.pointer (some ⟨g7, 0, none⟩)] rfl R8.out (by simp [Value.oneCell']) HJL.out (by omega) (Nat.le_trans HBR.out (Nat.le_trans BD.out.size (Nat.le_trans C7.out.size C8.out.size))) ?_
     intro v9 w9 ho9 hg9 hw9
     have hX9 := hX.trans (Off.grown (D := fun q => q = w1.heap.size ∨ v.ownBlock = some q) hg9 fun q hq => .inr (.inr hq))
     refine hK _ _ hX9 ?_
     clear hK K
     (try simp only [Act.put, qA, qB, qC])
     replace hX := hX9
     clear hX9
     have M9 := Lib.hid (MD.out.snoc (Nat.le_trans HBR.out BD.out.size) HU.out M7.out C7.out C8.out ho9 hg9 hw9)
     have G9 := Lib.hid (G8.out.grown hg9 (fun e => by have h1 := (own6_lt MR.out.own _ e.symm).2; have h2 := HBG.out; omega))
     obtain ⟨A9, c9, hv9⟩ : ∃ A9 c9, v9 = .slice A9 (j + 1) c9 := by
      obtain ⟨A9, c9, hv, _⟩ := Row.of_own ho9
      exact ⟨A9, c9, by rw [hv]; congr 1; simp [ptrs, MR.out.len]⟩
     subst hv9
     have HBE := Lib.hid (show Off (fun q => q = w1.heap.size) w2 w9 from by
      have h9 := hX
      exact ⟨h9.os.trans (B5.out.os.trans OR.out.os), h9.tape.trans (B5.out.tape.trans OR.out.tape), h9.output.trans (B5.out.output.trans OR.out.output), Nat.le_trans OR.out.size (Nat.le_trans B5.out.size h9.size), fun q hq hn => (h9.block q (Nat.lt_of_lt_of_le hq (Nat.le_trans OR.out.size B5.out.size)) (by rintro (h | h); exact hn h; have h1 := (own6_lt MR.out.own _ h).2; omega)).trans ((B5.out.block q (Nat.lt_of_lt_of_le hq OR.out.size)).trans (OR.out.block q hq hn))⟩)
     clear ho9 hg9 hw9
     refine sg_take (i := 10) (oi := ⟨some 57, _, _, _, _, _⟩) (v := ?_) rfl (by kernel_rfl) (by kernel_rfl) (by kernel_rfl) (fun _ _ _ h => h) rfl hX ?_ ?_; rotate_left; (intro W hW; go_simp; try with_reducible rfl); simp only [Act.put, qA, qB, qC]
     refine sg_take (i := 11) (oi := ⟨some 58, _, _, _, _, _⟩) (v := ?_) rfl (by kernel_rfl) (by kernel_rfl) (by kernel_rfl) (fun _ _ _ h => h) rfl hX ?_ ?_; rotate_left; (intro W hW; go_simp; try with_reducible rfl); simp only [Act.put, qA, qB, qC]
     refine sg_actB (i := 12) (o := ⟨none, _, _, _, _, _⟩) rfl (by kernel_rfl) rfl hX (fun K hK => ?_)
     refine wp_of_step (st_ms (.tmp 58) (.tmp 56) rfl rfl rfl ((mcl_at G9.out).2.1) (G9.out.frozen 5)) ?_
     have hX9 := hX.trans (Off.set (D := fun q => q = w1.heap.size ∨ v.ownBlock = some q) w9 5 (.slice A9 (j + 1) c9) (.inl rfl))
     refine hK _ _ hX9 ?_
     clear hK K
     refine wpAnyH_done (by kernel_rfl) ?_ _
     have GZ := Lib.hid (show Blk (w9.setCell ⟨w1.heap.size, 5, none⟩ (.slice A9 (j + 1) c9)) w1.heap.size 68 (mcl k zeroS (.slice A9 (j + 1) c9) zeroS (.slice none 0 0)) from G9.out.set 5 _)
     have MZ := Lib.hid (M9.out.far (w' := w9.setCell ⟨w1.heap.size, 5, none⟩ (.slice A9 (j + 1) c9)) (by simp) HBG.out fun q hq => Below.heap_setCell w9 ⟨w1.heap.size, 5, none⟩ _ q hq)
     have OZ := Lib.hid (HBE.out.trans (Off.set (D := fun q => q = w1.heap.size) w9 5 (.slice A9 (j + 1) c9) rfl))
     clear hX hX9
     go_wp2_with fail
     exact ⟨⟨j + 1, _, _, HJ1.out, by congr 1, MZ.out, GZ.out, OZ.out⟩, by simpa [intOf] using sub_next HJ1.out⟩
    ·refine wp_bldP 65 53 _ rfl ip Tryz.underlying65 hip none hp0 hp1 (some ⟨g7, 0, none⟩) rfl ?_
     intro w8 hr8 hb8
     refine hK _ _ (hX.then hb8) ?_
     clear hK K
     (try simp only [Act.put, qA, qB, qC])
     replace hX := hX.then hb8
     have R8 := Lib.hid hr8
     have C8 := Lib.hid hb8
     have G8 := Lib.hid (G7.out.below hb8 G7.out.lt)
     have D8 := Lib.hid (D7.out.stay hb8)
     clear hr8 hb8
     refine sg_actB (i := 4) (o := ⟨some 51, _, _, _, _, _⟩) rfl (by kernel_rfl) rfl hX (fun K hK => ?_)
     refine wp_of_run (ld_ms (.tmp 50) rfl rfl (by rw [(mcl_at G8.out).2.1, HVS.out])) ?_
     rw [← HVS.out]
     refine hK _ _ hX ?_
     clear hK K
     (try simp only [Act.put, qA, qB, qC])
     refine sg_actB (i := 9) (o := ⟨some 56, _, _, _, _, _⟩) rfl (by kernel_rfl) rfl hX (fun K hK => ?_)
     refine wp_appW (base := w2.heap.size) (.tmp 51) (.tmp 55) 65 rfl 53 ip (.pointer none) 8 Tryz.underlying65 hip hp0 hp1 hp2 rfl v j (ptrs ms) rfl D8.out.own _ [.pointer (some ⟨g7, 0, none⟩)] rfl R8.out (by simp [Value.oneCell']) HJL.out (by omega) (Nat.le_trans HBR.out (Nat.le_trans BD.out.size (Nat.le_trans C7.out.size C8.out.size))) ?_
     intro v9 w9 ho9 hg9 hw9
     have hX9 := hX.trans (Off.grown (D := fun q => q = w1.heap.size ∨ v.ownBlock = some q) hg9 fun q hq => .inr (.inr hq))
     refine hK _ _ hX9 ?_
     clear hK K
     (try simp only [Act.put, qA, qB, qC])
     replace hX := hX9
     clear hX9
     have M9 := Lib.hid (MD.out.snoc (Nat.le_trans HBR.out BD.out.size) HU.out M7.out C7.out C8.out ho9 hg9 hw9)
     have G9 := Lib.hid (G8.out.grown hg9 (fun e => by have h1 := (own6_lt MR.out.own _ e.symm).2; have h2 := HBG.out; omega))
     obtain ⟨A9, c9, hv9⟩ : ∃ A9 c9, v9 = .slice A9 (j + 1) c9 := by
      obtain ⟨A9, c9, hv, _⟩ := Row.of_own ho9
      exact ⟨A9, c9, by rw [hv]; congr 1; simp [ptrs, MR.out.len]⟩
     subst hv9
     have HBE := Lib.hid (show Off (fun q => q = w1.heap.size) w2 w9 from by
      have h9 := hX
      exact ⟨h9.os.trans (B5.out.os.trans OR.out.os), h9.tape.trans (B5.out.tape.trans OR.out.tape), h9.output.trans (B5.out.output.trans OR.out.output), Nat.le_trans OR.out.size (Nat.le_trans B5.out.size h9.size), fun q hq hn => (h9.block q (Nat.lt_of_lt_of_le hq (Nat.le_trans OR.out.size B5.out.size)) (by rintro (h | h); exact hn h; have h1 := (own6_lt MR.out.own _ h).2; omega)).trans ((B5.out.block q (Nat.lt_of_lt_of_le hq OR.out.size)).trans (OR.out.block q hq hn))⟩)
     clear ho9 hg9 hw9
     refine sg_take (i := 10) (oi := ⟨some 57, _, _, _, _, _⟩) (v := ?_) rfl (by kernel_rfl) (by kernel_rfl) (by kernel_rfl) (fun _ _ _ h => h) rfl hX ?_ ?_; rotate_left; (intro W hW; go_simp; try with_reducible rfl); simp only [Act.put, qA, qB, qC]
     refine sg_take (i := 11) (oi := ⟨some 58, _, _, _, _, _⟩) (v := ?_) rfl (by kernel_rfl) (by kernel_rfl) (by kernel_rfl) (fun _ _ _ h => h) rfl hX ?_ ?_; rotate_left; (intro W hW; go_simp; try with_reducible rfl); simp only [Act.put, qA, qB, qC]
     refine sg_actB (i := 12) (o := ⟨none, _, _, _, _, _⟩) rfl (by kernel_rfl) rfl hX (fun K hK => ?_)
     refine wp_of_step (st_ms (.tmp 58) (.tmp 56) rfl rfl rfl ((mcl_at G9.out).2.1) (G9.out.frozen 5)) ?_
     have hX9 := hX.trans (Off.set (D := fun q => q = w1.heap.size ∨ v.ownBlock = some q) w9 5 (.slice A9 (j + 1) c9) (.inl rfl))
     refine hK _ _ hX9 ?_
     clear hK K
     refine wpAnyH_done (by kernel_rfl) ?_ _
     have GZ := Lib.hid (show Blk (w9.setCell ⟨w1.heap.size, 5, none⟩ (.slice A9 (j + 1) c9)) w1.heap.size 68 (mcl k zeroS (.slice A9 (j + 1) c9) zeroS (.slice none 0 0)) from G9.out.set 5 _)
     have MZ := Lib.hid (M9.out.far (w' := w9.setCell ⟨w1.heap.size, 5, none⟩ (.slice A9 (j + 1) c9)) (by simp) HBG.out fun q hq => Below.heap_setCell w9 ⟨w1.heap.size, 5, none⟩ _ q hq)
     have OZ := Lib.hid (HBE.out.trans (Off.set (D := fun q => q = w1.heap.size) w9 5 (.slice A9 (j + 1) c9) rfl))
     clear hX hX9
     go_wp2_with fail
     exact ⟨⟨j + 1, _, _, HJ1.out, by congr 1, MZ.out, GZ.out, OZ.out⟩, by simpa [intOf] using sub_next HJ1.out⟩
  ·obtain rfl : j = l.length := by omega
   have j1 : ¬ ((l.length : Int) < (l.length : Int)) := by omega
   go_wp2_with fail
   go_ret
   refine ⟨w1.heap.size, rfl, ?_, BR.out⟩
   exact MR.out.done HBG.out (Nat.le_of_lt HGL.out) OR.out.size (by rw [if_neg HK3.out]; exact GR.out) (fun h => absurd h HK6.out) (fun _ => rfl)
end Go.Proofs.YtopnpdobcagcgaaGreat
namespace Go.Proofs.YtopnpdobcagcgaaGreat
open Go.RowKit
set_option linter.unusedSimpArgs false
set_option linter.unusedVariables false
theorem lMatch_any : ∀ N : Nat, MatchC N := by
 intro N
 induction N with
 | zero => intro t h; have := nodes_pos t; omega
 | succ N ih =>
  rintro ⟨k, s, l⟩ hN hM W hW V cs w hr hv
  by_cases k3 : k = 3
  ·exact lMatch3 N ih k s l hN hM W hW V cs w hr hv k3
  by_cases k6 : k = 6
  ·by_cases hl : l.length = 1
   ·exact lMatch61 N ih k s l hN hM W hW V cs w hr hv k6 hl
   ·exact lMatch60 N ih k s l hN hM W hW V cs w hr hv k6 hl
  exact lMatchE N ih k s l hN hM W hW V cs w hr hv k3 k6
end Go.Proofs.YtopnpdobcagcgaaGreat
namespace Go.Proofs.YtopnpdobcagcgaaGreat
open Go.RowKit
set_option linter.unusedSimpArgs false
set_option linter.unusedVariables false
noncomputable def lgB (t : T) (W : List UInt8) : Bool := endsB (Lg t) W (fun q => decide (q = 0)) W.length
theorem lgB_iff {t : T} {W : List UInt8} : lgB t W = true ↔ Lg t W := by
 unfold lgB
 rw [endsB_iff]
 constructor
 ·rintro ⟨_, q, _, c, d⟩
  obtain rfl : q = 0 := by simpa using c
  rwa [seg_all] at d
 ·intro h
  exact ⟨Nat.le_refl _, 0, Nat.zero_le _, by simp, by rwa [seg_all]⟩
theorem lgB_of {t : T} {W : List UInt8} {b : Bool} (h : b = true ↔ Lg t W) : lgB t W = b := by
 rw [Bool.eq_iff_iff, lgB_iff, h]
set_option maxHeartbeats 2000000 in
set_option maxRecDepth 1000000 in
theorem lIn_any (t : T) (hn : t.nodes ≤ 2000) (W : List UInt8) (hW : W.length ≤ 200) (V : Value) (cs : List Value) (w : World) (hr : Row w V (bvs W)) (hv : RxV w.heap.size w cs t) :
  Calls Tryz.prog 12 #[.agg cs.toArray, V] w fun e w' => e = .returned (.bool (lgB t W)) ∧ Below w.heap.size w w' := by
 have X := Lib.hid hv
 have HC6 := Lib.hid hv.length
 have HN := Lib.hid hn
 have HW := Lib.hid hW
 have R := Lib.hid hr
 have HLG := Lib.hid (show decide (2000 < t.nodes) = false from decide_eq_false (by omega))
 obtain ⟨n, hn2⟩ : ∃ n, n = W.length := ⟨_, rfl⟩
 obtain ⟨A, cap, rfl, _⟩ := hr
 rw [bvs_length] at R ⊢
 have HNW := Lib.hid hn2
 have i1 : ¬ ((200 : Int) < (W.length : Int)) := by omega
 have hw8 : IntKind.u8.wrap (W.length : Int) = (W.length : Int) := IntWalk.u8_in _ (by omega)
 obtain ⟨b, hb⟩ : ∃ b, b = lgB t W := ⟨_, rfl⟩
 have HB := Lib.hid (show endsB (Lg t) W (fun q => decide (q = 0)) W.length = b from hb.symm)
 obtain ⟨f, hf⟩ : ∃ f : Nat → Bool, f = fun q => decide (q = 0) := ⟨_, rfl⟩
 have HF := Lib.hid hf
 have HFF := Lib.hid (show ∀ q, f q = true → q ≤ W.length from fun q h => by rw [hf] at h; have : q = 0 := (by simpa using h); omega)
 rw [← hb]
 clear hv hn hW hn2 hb hf
 go_enter Tryz.func12, Tryz.ntmps12
 go_wp2_with (first
  | ((with_reducible refine atDst 2 ?_); refine wpList_box rfl 29 _ rfl cs rfl (Below.refl w.heap.size w) (Nat.le_refl _) ?_; intro w1 hk1 hb1 hs1 _; have K1 := Lib.hid hk1; have B1 := Lib.hid hb1; clear hk1 hb1 hs1; (try simp only [Act.put, qA, qB, qC]))
  | ((with_reducible refine atDst 5 ?_); refine wpList_ldArr rfl 29 _ rfl w.heap.size rfl 29 _ _ K1.out Tryz.underlying29 rfl (size_rx HC6.out) ?_; (try simp only [Act.put, qA, qB, qC])))
 refine (lLarge_any t cs w1 ((X.out.stay B1.out).mono B1.out.size) false HLG.out).mono ?_
 rintro e w2 ⟨rfl, hb2⟩
 have B2 := Lib.hid (B1.out.trans (hb2.mono B1.out.size))
 have K2 := Lib.hid (K1.out.below hb2 K1.out.lt)
 clear hb2
 go_wp2_with ((with_reducible refine atDst 12 ?_); refine wpList_ldArr rfl 29 _ rfl w.heap.size rfl 29 _ _ K2.out Tryz.underlying29 rfl (size_rx HC6.out) ?_; (try simp only [Act.put, qA, qB, qC]))
 refine (lMatch_any _ t (Nat.le_refl _) HN.out W HW.out _ cs w2 (R.out.below B2.out) ((X.out.stay B2.out).mono B2.out.size)).mono ?_
 rintro e w3 ⟨g, rfl, hm3, hb3⟩
 have M3 := Lib.hid hm3
 have B3 := Lib.hid (B2.out.trans (hb3.mono B2.out.size))
 have S3 := Lib.hid B2.out.size
 clear hm3 hb3
 go_wp2_with fail
 refine (lPlace_any 0 w3 (by omega)).mono ?_
 rintro e w4 ⟨rfl, hb4⟩
 rw [← HF.out]
 have M4 := Lib.hid (M3.out.stay (w' := w4) fun k hk => hb4.block k hk.2)
 have S4 := Lib.hid hb4.size
 have B4 := Lib.hid (B3.out.trans (hb4.mono B3.out.size))
 clear hb4
 go_wp2_with fail
 refine (lEnds_any _ t (Nat.le_refl _) W HW.out _ g w4 M4.out (fun k hk => Nat.lt_of_lt_of_le hk.2 S4.out) f HFF.out).mono ?_
 rintro e w5 ⟨rfl, hm5, ho5⟩
 have B5 := Lib.hid (B4.out.trans (ho5.below (B := w.heap.size) (fun k hk => Nat.le_trans S3.out hk.1) B4.out.size))
 clear hm5 ho5
 go_wp2_with fail
 refine (bsHas_any (endsB (Lg t) W f) W.length w5 (by have := HW.out; omega)).mono ?_
 rintro e w6 ⟨rfl, hb6⟩
 have B6 := Lib.hid (B5.out.trans (hb6.mono B5.out.size))
 clear hb6
 rw [HF.out, HB.out]
 go_wp2_with fail
 go_ret
 exact ⟨rfl, B6.out⟩
end Go.Proofs.YtopnpdobcagcgaaGreat
namespace Go.Proofs.YtopnpdobcagcgaaGreat
open Go.RowKit
set_option linter.unusedSimpArgs false
set_option linter.unusedVariables false
theorem flatT_cons (k : Int) (t : T) (r : List T) : flatT k (t :: r) = (if t.kind = k then t.args else [t]) ++ flatT k r := by simp [flatT]
theorem flatT_nil (k : Int) : flatT k [] = [] := rfl
theorem anyK_app (k : Int) (a b : List T) : anyK k (a ++ b) = (anyK k a || anyK k b) := by simp [anyK]
theorem withoutT_app (k : Int) (a b : List T) : withoutT k (a ++ b) = withoutT k a ++ withoutT k b := by simp [withoutT]
theorem withoutT_id {k : Int} {l : List T} (h : ∀ t ∈ l, t.kind ≠ k) : withoutT k l = l := List.filter_eq_self.2 fun t ht => by simpa using h t ht
theorem cat_one {y : T} (h : good y) : catT [y] = y := by
 by_cases h4 : y.kind = 4
 ·have e : catT [y] = catT y.args := by
   unfold catT
   have hk : flatT 4 [y] = flatT 4 y.args := by
    rw [flatT_cons, if_pos h4, flatT_nil, List.append_nil]
    cases y with
    | node k s l =>
     have h4 : k = 4 := h4
     subst h4
     have hf := (good_node.1 h).2.2.2.2.1
     show l = flatT 4 l
     have : ∀ m : List T, (∀ t ∈ m, t.kind ≠ 4) → m = flatT 4 m := fun m hm => by
      induction m with
      | nil => rfl
      | cons a r ih =>
       rw [flatT_cons, if_neg (hm a (by simp)), ← ih fun t ht => hm t (by simp [ht])]
       rfl
     exact this l fun t ht => (fits4 (hf t ht)).2.2
   rw [hk]
  rw [e, cat_args h h4]
 ·exact cat_of_one h h4
theorem cat_nest {s : T} {r : List T} (hs : good s) (hr : ∀ t ∈ r, good t) : catT [s, catT r] = catT (s :: r) := by
 have hk4 := flat_kind (k := 4) (.inl rfl) hr
 unfold catT
 rw [flatT_cons, flatT_cons, flatT_nil, List.append_nil, flatT_cons]
 generalize hF : (if s.kind = 4 then s.args else [s]) = F
 cases ha : anyK 1 (flatT 4 r) with
 | true =>
  have e : (if True then noneT else wrapT 4 emptyT (withoutT 2 (flatT 4 r))) = noneT := rfl
  rw [if_pos rfl]
  have h1 : anyK 1 (F ++ if noneT.kind = 4 then noneT.args else [noneT]) = true := by
   rw [anyK_app, show anyK 1 (if noneT.kind = 4 then noneT.args else [noneT]) = true from rfl, Bool.or_true]
  rw [if_pos h1, if_pos (by rw [anyK_app, ha, Bool.or_true])]
 | false =>
  simp only [Bool.false_eq_true, if_false]
  have key : anyK 1 (if (wrapT 4 emptyT (withoutT 2 (flatT 4 r))).kind = 4 then (wrapT 4 emptyT (withoutT 2 (flatT 4 r))).args else [wrapT 4 emptyT (withoutT 2 (flatT 4 r))]) = false ∧
    withoutT 2 (if (wrapT 4 emptyT (withoutT 2 (flatT 4 r))).kind = 4 then (wrapT 4 emptyT (withoutT 2 (flatT 4 r))).args else [wrapT 4 emptyT (withoutT 2 (flatT 4 r))]) = withoutT 2 (flatT 4 r) := by
   have hn1 : ∀ t ∈ withoutT 2 (flatT 4 r), t.kind ≠ 1 := fun t ht h => by
    have : anyK 1 (flatT 4 r) = true := List.any_eq_true.2 ⟨t, (List.mem_filter.1 ht).1, by simpa using h⟩
    rw [ha] at this
    cases this
   have hn4 : ∀ t ∈ withoutT 2 (flatT 4 r), t.kind ≠ 4 := fun t ht => hk4 t (List.mem_filter.1 ht).1
   have hn2 : ∀ t ∈ withoutT 2 (flatT 4 r), t.kind ≠ 2 := without_kind
   match hE : withoutT 2 (flatT 4 r) with
   | [] => exact ⟨rfl, rfl⟩
   | [t] =>
    rw [hE] at hn1 hn4 hn2
    have a1 := hn1 t (by simp)
    have a4 := hn4 t (by simp)
    have a2 := hn2 t (by simp)
    show anyK 1 (if t.kind = 4 then t.args else [t]) = false ∧ withoutT 2 (if t.kind = 4 then t.args else [t]) = [t]
    rw [if_neg a4]
    exact ⟨by simp [anyK, a1], withoutT_id (by simpa using a2)⟩
   | a :: b :: m =>
    rw [hE] at hn1 hn2
    show anyK 1 (if (4 : Int) = 4 then a :: b :: m else _) = false ∧ withoutT 2 (if (4 : Int) = 4 then a :: b :: m else _) = a :: b :: m
    rw [if_pos rfl]
    refine ⟨?_, withoutT_id hn2⟩
    unfold anyK
    rw [List.any_eq_false]
    intro t ht
    simpa using hn1 t ht
  rw [anyK_app, key.1, withoutT_app, key.2, anyK_app, ha, withoutT_app]
theorem can_ext {p q : Nat → Bool} (hp : canS p) (hq : canS q) (h : ∀ b, b < 256 → p b = q b) : p = q := by
 funext b
 by_cases hb : b < 256
 ·exact h b hb
 ·rw [hp b (by omega), hq b (by omega)]
theorem orT_app (a b : List T) : orT (a ++ b) = fun x => orT a x || orT b x := by funext x; simp [orT]
theorem mem_items {E : List T} {x : T} : x ∈ itemsT E ↔ (x ∈ E ∧ x.kind ≠ 3) ∨ (eqS (orT E) zeroS = false ∧ x = .node 3 (orT E) []) := by
 unfold itemsT
 rw [List.mem_append]
 constructor
 ·rintro (h | h)
  ·have := List.mem_filter.1 h
   exact .inl ⟨this.1, by simpa using this.2⟩
  ·cases hs : eqS (orT E) zeroS with
   | true => rw [hs] at h; simp at h
   | false => rw [hs] at h; exact .inr ⟨rfl, by simpa using h⟩
 ·rintro (⟨h, h3⟩ | ⟨h, rfl⟩)
  ·exact .inl (List.mem_filter.2 ⟨h, by simpa using h3⟩)
  ·rw [h]; exact .inr (by simp)
theorem alt_nest {w : T} {L : List T} (hw : good w) (hL : ∀ t ∈ L, good t) : altT [w, altT L] = altT (w :: L) := by
 have hgL := good_without (k := 1) (good_flat (k := 5) hL)
 have hiL := good_items hgL
 have hmS := fun t => sortU_mem hiL t
 have hor : orT (sortU (itemsT (withoutT 1 (flatT 5 L)))) = orT (withoutT 1 (flatT 5 L)) := by
  refine can_ext (can_or fun t ht => hiL t ((hmS t).1 ht)) (can_or hgL) fun b hb => ?_
  rw [Bool.eq_iff_iff]
  unfold orT
  rw [List.any_eq_true, List.any_eq_true]
  constructor
  ·rintro ⟨t, ht, h⟩
   rw [Bool.and_eq_true, decide_eq_true_eq] at h
   rcases mem_items.1 ((hmS t).1 ht) with ⟨_, h3⟩ | ⟨_, rfl⟩
   ·exact absurd h.1 h3
   ·exact List.any_eq_true.1 (show List.any (withoutT 1 (flatT 5 L)) (fun t => decide (t.kind = 3) && t.set b) = true from h.2)
  ·rintro ⟨t, ht, h⟩
   have ho : orT (withoutT 1 (flatT 5 L)) b = true := List.any_eq_true.2 ⟨t, ht, h⟩
   refine ⟨.node 3 (orT (withoutT 1 (flatT 5 L))) [], (hmS _).2 (mem_items.2 (.inr ⟨?_, rfl⟩)), by simpa [T.kind, T.set] using ho⟩
   cases he : eqS (orT (withoutT 1 (flatT 5 L))) zeroS with
   | false => rfl
   | true =>
    have := (eqS_iff _ _).1 he b hb
    rw [ho] at this
    cases this
 have hk1 : ∀ t ∈ sortU (itemsT (withoutT 1 (flatT 5 L))), t.kind ≠ 1 ∧ t.kind ≠ 5 := fun t ht => by
  rcases mem_items.1 ((hmS t).1 ht) with ⟨h, _⟩ | ⟨_, rfl⟩
  ·exact ⟨without_kind t h, flat_kind (k := 5) (.inr rfl) hL t (List.mem_filter.1 h).1⟩
  ·exact ⟨by show (3 : Int) ≠ 1; omega, by show (3 : Int) ≠ 5; omega⟩
 have hZ : withoutT 1 (if (altT L).kind = 5 then (altT L).args else [altT L]) = sortU (itemsT (withoutT 1 (flatT 5 L))) := by
  have e : altT L = wrapT 5 noneT (sortU (itemsT (withoutT 1 (flatT 5 L)))) := rfl
  rw [e]
  match hS : sortU (itemsT (withoutT 1 (flatT 5 L))) with
  | [] => rfl
  | [t] =>
   rw [hS] at hk1
   have a := hk1 t (by simp)
   show withoutT 1 (if t.kind = 5 then t.args else [t]) = [t]
   rw [if_neg a.2]
   exact withoutT_id (by simpa using a.1)
  | a :: b :: m =>
   rw [hS] at hk1
   show withoutT 1 (if (5 : Int) = 5 then a :: b :: m else _) = a :: b :: m
   rw [if_pos rfl]
   exact withoutT_id fun t ht => (hk1 t ht).1
 have hgw : ∀ t ∈ withoutT 1 (if w.kind = 5 then w.args else [w]), good t := by
  have := good_without (k := 1) (good_flat (k := 5) (l := [w]) (by simpa using hw))
  rwa [flatT_cons, flatT_nil, List.append_nil] at this
 show wrapT 5 noneT (sortU (itemsT (withoutT 1 (flatT 5 [w, altT L])))) = wrapT 5 noneT (sortU (itemsT (withoutT 1 (flatT 5 (w :: L)))))
 rw [flatT_cons, flatT_cons, flatT_nil, List.append_nil, flatT_cons, withoutT_app, withoutT_app, hZ]
 generalize hX : withoutT 1 (if w.kind = 5 then w.args else [w]) = X at hgw ⊢
 generalize hY : withoutT 1 (flatT 5 L) = Y at *
 congr 1
 have hO : orT (X ++ sortU (itemsT Y)) = orT (X ++ Y) := by rw [orT_app, orT_app, hor]
 have hg1 : ∀ t ∈ itemsT (X ++ sortU (itemsT Y)), good t := good_items fun t ht => by
  rcases List.mem_append.1 ht with h | h
  ·exact hgw t h
  ·exact hiL t ((hmS t).1 h)
 have hg2 : ∀ t ∈ itemsT (X ++ Y), good t := good_items fun t ht => by
  rcases List.mem_append.1 ht with h | h
  ·exact hgw t h
  ·exact hgL t h
 refine asc_ext (sortU_asc _) (sortU_asc _) fun x => ?_
 rw [sortU_mem hg1, sortU_mem hg2, mem_items, mem_items, hO, List.mem_append, List.mem_append, hmS, mem_items]
 constructor
 ·rintro (⟨h | ⟨h, _⟩ | ⟨_, rfl⟩, h3⟩ | h)
  ·exact .inl ⟨.inl h, h3⟩
  ·exact .inl ⟨.inr h, h3⟩
  ·exact absurd rfl h3
  ·exact .inr h
 ·rintro (⟨h | h, h3⟩ | h)
  ·exact .inl ⟨.inl h, h3⟩
  ·exact .inl ⟨.inr (.inl ⟨h, h3⟩), h3⟩
  ·exact .inr h
theorem alt_one {x : T} (h : good x) : altT [x] = x := by
 by_cases h5 : x.kind = 5
 ·have e : altT [x] = altT x.args := by
   have hk : flatT 5 [x] = flatT 5 x.args := by
    rw [flatT_cons, if_pos h5, flatT_nil, List.append_nil]
    cases x with
    | node k s l =>
     have h5 : k = 5 := h5
     subst h5
     have hf := (good_node.1 h).2.2.2.2.1
     show l = flatT 5 l
     have : ∀ m : List T, (∀ t ∈ m, t.kind ≠ 5) → m = flatT 5 m := fun m hm => by
      induction m with
      | nil => rfl
      | cons a r ih =>
       rw [flatT_cons, if_neg (hm a (by simp)), ← ih fun t ht => hm t (by simp [ht])]
       rfl
     exact this l fun t ht => (fits5 (hf t ht)).2
   unfold altT
   rw [hk]
  rw [e]
  cases x with
  | node k s l =>
   have h5 : k = 5 := h5
   subst h5
   exact alt_eq h
 ·exact alt_of_one h h5
/-! ### the steps do not ask how long they may go on -/
theorem stepF_fuel : ∀ (N : Nat) (t : T), t.nodes ≤ N → good t → ∀ (M : Nat), N ≤ M → ∀ b : UInt8, stepF M t b.toNat = stepF N t b.toNat := by
 intro N
 induction N with
 | zero => intro t h; have := nodes_pos t; omega
 | succ N ih =>
  rintro ⟨k, s, l⟩ hN hg M hM b
  obtain ⟨M, rfl⟩ : ∃ M', M = M' + 1 := ⟨M - 1, by omega⟩
  have hgl := (good_node.1 hg).2.1
  have hnl : ∀ t ∈ l, t.nodes ≤ N := fun t ht => by
   have := nodes_mem (l := l) ht
   simp only [T.nodes] at hN
   omega
  rw [stepF, stepF]
  show (if k = 3 then _ else if k = 5 then altT (l.map fun x => stepF M x b.toNat) else if k = 6 then catT [stepF M (l.headD noneT) b.toNat, _] else if k = 4 then (if nullT (l.headD noneT) = true then altT [catT [stepF M (l.headD noneT) b.toNat, catT l.tail], stepF M (catT l.tail) b.toNat] else catT [stepF M (l.headD noneT) b.toNat, catT l.tail]) else _) =
   (if k = 3 then _ else if k = 5 then altT (l.map fun x => stepF N x b.toNat) else if k = 6 then catT [stepF N (l.headD noneT) b.toNat, _] else if k = 4 then (if nullT (l.headD noneT) = true then altT [catT [stepF N (l.headD noneT) b.toNat, catT l.tail], stepF N (catT l.tail) b.toNat] else catT [stepF N (l.headD noneT) b.toNat, catT l.tail]) else _)
  by_cases h3 : k = 3
  ·rw [if_pos h3, if_pos h3]
  rw [if_neg h3, if_neg h3]
  by_cases h5 : k = 5
  ·rw [if_pos h5, if_pos h5]
   congr 1
   exact List.map_congr_left fun x hx => ih x (hnl x hx) (hgl x hx) M (by omega) b
  rw [if_neg h5, if_neg h5]
  by_cases h6 : k = 6
  ·subst h6
   obtain ⟨x, rfl, _⟩ := star_one hg
   rw [if_pos rfl, if_pos rfl]
   show catT [stepF M x b.toNat, _] = catT [stepF N x b.toNat, _]
   rw [ih x (hnl x (by simp)) (hgl x (by simp)) M (by omega) b]
  rw [if_neg h6, if_neg h6]
  by_cases h4 : k = 4
  ·subst h4
   have hc := (good_node.1 hg).2.2.2.1
   rw [count45 (.inl rfl)] at hc
   cases l with
   | nil => simp at hc
   | cons a r =>
    obtain ⟨j1, j2, _⟩ := tail_cat hg
    rw [if_pos rfl, if_pos rfl]
    show (if nullT a = true then altT [catT [stepF M a b.toNat, catT r], stepF M (catT r) b.toNat] else catT [stepF M a b.toNat, catT r]) = (if nullT a = true then altT [catT [stepF N a b.toNat, catT r], stepF N (catT r) b.toNat] else catT [stepF N a b.toNat, catT r])
    rw [ih a (hnl a (by simp)) (hgl a (by simp)) M (by omega) b, ih (catT r) (by omega) j1 M (by omega) b]
  rw [if_neg h4, if_neg h4]
def stepT (t : T) (b : Nat) : T := stepF t.nodes t b
theorem stepT_of {N : Nat} {t : T} (hN : t.nodes ≤ N) (hg : good t) (b : UInt8) : stepF N t b.toNat = stepT t b.toNat := stepF_fuel t.nodes t (Nat.le_refl _) hg N hN b
theorem stepT_lg {t : T} (hg : good t) (b : UInt8) : good (stepT t b.toNat) ∧ ∀ w, Lg (stepT t b.toNat) w ↔ Lg t (b :: w) := step_lg t.nodes t (Nat.le_refl _) hg b
def waysT : List T → Nat → List T
 | [], _ => []
 | x :: r, b => catT (stepT x b :: r) :: if nullT x then waysT r b else []
theorem step_set {s : Nat → Bool} {l : List T} (b : Nat) : stepT (.node 3 s l) b = if s b then emptyT else noneT := by
 unfold stepT
 obtain ⟨N, hN⟩ : ∃ N, (T.node 3 s l).nodes = N + 1 := ⟨nodesL l, by simp only [T.nodes]; omega⟩
 rw [hN, stepF]
 rfl
theorem step_alt {s : Nat → Bool} {l : List T} (hg : good (.node 5 s l)) (b : UInt8) : stepT (.node 5 s l) b.toNat = altT (l.map fun x => stepT x b.toNat) := by
 unfold stepT
 obtain ⟨N, hN, hNl⟩ : ∃ N, (T.node 5 s l).nodes = N + 1 ∧ N = nodesL l := ⟨nodesL l, by simp only [T.nodes]; omega, rfl⟩
 rw [hN, stepF]
 show altT (l.map fun x => stepF N x b.toNat) = _
 congr 1
 exact List.map_congr_left fun x hx => stepT_of (by rw [hNl]; exact nodes_mem hx) ((good_node.1 hg).2.1 x hx) b
theorem step_star {s : Nat → Bool} {x : T} (hg : good (.node 6 s [x])) (b : UInt8) : stepT (.node 6 s [x]) b.toNat = catT [stepT x b.toNat, .node 6 s [x]] := by
 rw [show stepT (.node 6 s [x]) b.toNat = stepF (T.node 6 s [x]).nodes (.node 6 s [x]) b.toNat from rfl]
 obtain ⟨N, hN, hNl⟩ : ∃ N, (T.node 6 s [x]).nodes = N + 1 ∧ N = nodesL [x] := ⟨nodesL [x], by simp only [T.nodes]; omega, rfl⟩
 rw [hN, stepF]
 show catT [stepF N x b.toNat, .node 6 s [x]] = _
 rw [stepT_of (by rw [hNl]; exact nodes_mem (by simp)) ((good_node.1 hg).2.1 x (by simp)) b]
theorem step_cat {s : Nat → Bool} {a : T} {r : List T} (hg : good (.node 4 s (a :: r))) (b : UInt8) : stepT (.node 4 s (a :: r)) b.toNat =
  if nullT a then altT [catT [stepT a b.toNat, catT r], stepT (catT r) b.toNat] else catT [stepT a b.toNat, catT r] := by
 rw [show stepT (.node 4 s (a :: r)) b.toNat = stepF (T.node 4 s (a :: r)).nodes (.node 4 s (a :: r)) b.toNat from rfl]
 obtain ⟨N, hN, hNl⟩ : ∃ N, (T.node 4 s (a :: r)).nodes = N + 1 ∧ N = nodesL (a :: r) := ⟨nodesL (a :: r), by simp only [T.nodes]; omega, rfl⟩
 obtain ⟨j1, j2, _⟩ := tail_cat hg
 rw [hN, stepF]
 show (if nullT a = true then altT [catT [stepF N a b.toNat, catT r], stepF N (catT r) b.toNat] else catT [stepF N a b.toNat, catT r]) = _
 rw [stepT_of (t := a) (by rw [hNl]; exact nodes_mem (by simp)) ((good_node.1 hg).2.1 a (by simp)) b, stepT_of (t := catT r) (by omega) j1 b]
theorem step_no {k : Int} {s : Nat → Bool} {l : List T} (h3 : k ≠ 3) (h4 : k ≠ 4) (h5 : k ≠ 5) (h6 : k ≠ 6) (b : Nat) : stepT (.node k s l) b = noneT := by
 unfold stepT
 obtain ⟨N, hN⟩ : ∃ N, (T.node k s l).nodes = N + 1 := ⟨nodesL l, by simp only [T.nodes]; omega⟩
 rw [hN, stepF]
 show (if k = 3 then _ else if k = 5 then _ else if k = 6 then _ else if k = 4 then _ else noneT) = noneT
 rw [if_neg h3, if_neg h5, if_neg h6, if_neg h4]
theorem ways_good : ∀ {l : List T} (hl : ∀ t ∈ l, good t) (b : UInt8), ∀ t ∈ waysT l b.toNat, good t
 | [], _, _, t, ht => by cases ht
 | x :: r, hl, b, t, ht => by
  rw [waysT] at ht
  rcases List.mem_cons.1 ht with rfl | ht
  ·exact good_cat fun u hu => by
    rcases List.mem_cons.1 hu with rfl | hu
    ·exact (stepT_lg (hl x (by simp)) b).1
    ·exact hl u (by simp [hu])
  ·split at ht
   ·exact ways_good (fun u hu => hl u (by simp [hu])) b t ht
   ·cases ht
theorem step_ways (b : UInt8) : ∀ (l : List T), l ≠ [] → (∀ t ∈ l, good t ∧ fitsT t.kind 4 = true) → stepT (catT l) b.toNat = altT (waysT l b.toNat)
 | [], h, _ => absurd rfl h
 | [y], _, hl => by
  have hy := hl y (by simp)
  have hs := (stepT_lg hy.1 b).1
  rw [cat_one hy.1, waysT, waysT, cat_one hs]
  simp only [ite_self]
  exact (alt_one hs).symm
 | y :: z :: r, _, hl => by
  have hg : good (.node 4 zeroS (y :: z :: r)) := good_node.2 ⟨can_zero, fun t ht => (hl t ht).1, .inr rfl, by simp [countT], fun t ht => (hl t ht).2, fun h => by omega⟩
  have hr : ∀ t ∈ z :: r, good t := fun t ht => (hl t (List.mem_cons_of_mem _ ht)).1
  have hs := (stepT_lg (hl y (by simp)).1 b).1
  have ih := step_ways b (z :: r) (by simp) fun t ht => hl t (List.mem_cons_of_mem _ ht)
  have hc : ∀ t ∈ stepT y b.toNat :: z :: r, good t := fun t ht => by
   rcases List.mem_cons.1 ht with rfl | ht
   ·exact hs
   ·exact hr t ht
  have hw : waysT (y :: z :: r) b.toNat = catT (stepT y b.toNat :: z :: r) :: (if nullT y then waysT (z :: r) b.toNat else []) := by rw [waysT]
  rw [cat_eq hg, step_cat hg b, cat_nest hs hr, ih, hw]
  by_cases hn : nullT y = true
  ·rw [if_pos hn, if_pos hn]
   exact alt_nest (good_cat hc) (ways_good hr b)
  ·rw [if_neg hn, if_neg hn]
   exact (alt_one (good_cat hc)).symm
theorem step_cat_ways {s : Nat → Bool} {l : List T} (hg : good (.node 4 s l)) (b : UInt8) : stepT (.node 4 s l) b.toNat = altT (waysT l b.toNat) := by
 have h := good_node.1 hg
 have hc := h.2.2.2.1
 rw [count45 (.inl rfl)] at hc
 have hc : 2 ≤ l.length := by simpa using hc
 rw [← step_ways b l (by rintro rfl; simp at hc) fun t ht => ⟨h.2.1 t ht, h.2.2.2.2.1 t ht⟩, cat_eq hg]
/-! ### how great a step is -/
theorem ways_nodes {q : Nat} (b : Nat) : ∀ {l : List T}, (∀ x ∈ l, (stepT x b).nodes ≤ x.nodes * q) → nodesL (waysT l b) ≤ nodesL l * q + l.length * (2 + nodesL l)
 | [], _ => by simp [waysT, nodesL]
 | x :: r, h => by
  have ih := ways_nodes b (l := r) fun y hy => h y (by simp [hy])
  have hx := h x (by simp)
  have hc := catT_nodes (stepT x b :: r)
  have h1 : nodesL (waysT (x :: r) b) ≤ (catT (stepT x b :: r)).nodes + nodesL (waysT r b) := by
   rw [waysT]
   split <;> simp only [nodesL] <;> omega
  have h2 : nodesL (stepT x b :: r) = (stepT x b).nodes + nodesL r := rfl
  have h3 : nodesL (x :: r) = x.nodes + nodesL r := rfl
  have h4 : (x.nodes + nodesL r) * q = x.nodes * q + nodesL r * q := Nat.add_mul _ _ _
  have h5 : (r.length + 1) * (2 + (x.nodes + nodesL r)) = r.length * (2 + (x.nodes + nodesL r)) + (2 + (x.nodes + nodesL r)) := Nat.succ_mul _ _
  have h6 : r.length * (2 + nodesL r) ≤ r.length * (2 + (x.nodes + nodesL r)) := Nat.mul_le_mul_left _ (by omega)
  rw [h3, List.length_cons, h4, h5]
  omega
theorem map_nodes {q : Nat} (b : Nat) : ∀ {l : List T}, (∀ x ∈ l, (stepT x b).nodes ≤ x.nodes * q) → nodesL (l.map fun x => stepT x b) ≤ nodesL l * q
 | [], _ => by simp [nodesL]
 | x :: r, h => by
  have ih := map_nodes b (l := r) fun y hy => h y (by simp [hy])
  have hx := h x (by simp)
  simp only [List.map_cons, nodesL]
  rw [Nat.add_mul]
  omega
theorem sq_mono {m n : Nat} (h : m ≤ n) : (m + 2) * (m + 2) ≤ (n + 2) * (n + 2) := Nat.mul_le_mul (by omega) (by omega)
theorem step_nodes (b : UInt8) : ∀ (N : Nat) (t : T), t.nodes ≤ N → good t → (stepT t b.toNat).nodes ≤ t.nodes * ((t.nodes + 2) * (t.nodes + 2)) := by
 intro N
 induction N with
 | zero => intro t h; have := nodes_pos t; omega
 | succ N ih =>
  rintro ⟨k, s, l⟩ hN hg
  obtain ⟨n, hn⟩ : ∃ n, n = (T.node k s l).nodes := ⟨_, rfl⟩
  have hnl : n = 1 + nodesL l := by rw [hn]; simp only [T.nodes]
  have hgl := (good_node.1 hg).2.1
  have hq : ∀ x ∈ l, (stepT x b.toNat).nodes ≤ x.nodes * ((n + 2) * (n + 2)) := fun x hx => by
   have h1 := nodes_mem hx
   refine Nat.le_trans (ih x (by omega) (hgl x hx)) (Nat.mul_le_mul_left _ (sq_mono (by omega)))
  rw [← hn]
  obtain ⟨q, hqq⟩ : ∃ q, q = (n + 2) * (n + 2) := ⟨_, rfl⟩
  have e1 : n * q = nodesL l * q + q := by rw [hnl, Nat.add_mul, Nat.one_mul, Nat.add_comm]
  have e2 : (n + 2) * (n + 2) = n * n + 4 * n + 4 := by
   rw [Nat.add_mul, Nat.mul_add, Nat.mul_add]
   omega
  rw [← hqq] at hq ⊢
  by_cases h3 : k = 3
  ·subst h3
   rw [step_set]
   have : (if s b.toNat = true then emptyT else noneT).nodes ≤ 1 := by split <;> exact Nat.le_refl _
   omega
  by_cases h5 : k = 5
  ·subst h5
   rw [step_alt hg b]
   have h1 := altT_nodes (l.map fun x => stepT x b.toNat)
   have h2 := map_nodes b.toNat hq
   omega
  by_cases h6 : k = 6
  ·subst h6
   obtain ⟨x, rfl, _⟩ := star_one hg
   rw [step_star hg b]
   have h1 := catT_nodes [stepT x b.toNat, .node 6 s [x]]
   have h2 := hq x (by simp)
   have h3 : nodesL [stepT x b.toNat, .node 6 s [x]] = (stepT x b.toNat).nodes + (T.node 6 s [x]).nodes := by simp only [nodesL]; omega
   have h4 : nodesL [x] = x.nodes := by simp only [nodesL]; omega
   rw [h4] at e1
   omega
  by_cases h4 : k = 4
  ·subst h4
   rw [step_cat_ways hg b]
   have h1 := altT_nodes (waysT l b.toNat)
   have h2 := ways_nodes b.toNat hq
   have h3 := len_nodes l
   have h4 : l.length * (2 + nodesL l) ≤ n * (n + 1) := Nat.mul_le_mul (by omega) (by omega)
   have h5 : n * (n + 1) = n * n + n := by rw [Nat.mul_add, Nat.mul_one]
   omega
  ·rw [step_no h3 h4 h5 h6]
   have : noneT.nodes = 1 := rfl
   omega
theorem step_few {t : T} (hg : good t) (b : UInt8) (h : t.nodes ≤ 2000) : (stepT t b.toNat).nodes ≤ 8016008000 := by
 refine Nat.le_trans (step_nodes b _ t (Nat.le_refl _) hg) ?_
 exact Nat.le_trans (Nat.mul_le_mul h (Nat.mul_le_mul (Nat.add_le_add_right h 2) (Nat.add_le_add_right h 2))) (by decide)
theorem steps_q {l : List T} (hg : ∀ t ∈ l, good t) (b : UInt8) (h : nodesL l ≤ 2000) : ∀ x ∈ l, (stepT x b.toNat).nodes ≤ x.nodes * 4008004 := fun x hx => by
 have h1 := nodes_mem hx
 refine Nat.le_trans (step_nodes b _ x (Nat.le_refl _) (hg x hx)) (Nat.mul_le_mul_left _ ?_)
 exact Nat.le_trans (Nat.mul_le_mul (Nat.add_le_add_right (Nat.le_trans h1 h) 2) (Nat.add_le_add_right (Nat.le_trans h1 h) 2)) (by decide)
theorem ways_few {l : List T} (hg : ∀ t ∈ l, good t) (b : UInt8) (h : nodesL l ≤ 2000) : nodesL (waysT l b.toNat) ≤ 9000000000 := by
 have h1 := ways_nodes b.toNat (steps_q hg b h)
 have h2 : nodesL l * 4008004 ≤ 2000 * 4008004 := Nat.mul_le_mul_right _ h
 have h3 := len_nodes l
 have h4 : l.length * (2 + nodesL l) ≤ 2000 * 2002 := Nat.mul_le_mul (by omega) (by omega)
 omega
theorem alts_few {l : List T} (hg : ∀ t ∈ l, good t) (b : UInt8) (h : nodesL l ≤ 2000) : nodesL (l.map fun x => stepT x b.toNat) ≤ 9000000000 := by
 have h1 := map_nodes b.toNat (steps_q hg b h)
 have h2 : nodesL l * 4008004 ≤ 2000 * 4008004 := Nat.mul_le_mul_right _ h
 omega
end Go.Proofs.YtopnpdobcagcgaaGreat
