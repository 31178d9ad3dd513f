/-
  Texts of this proof, put together: LwE. No statement is proved here.
-/
import Derived.Test.YtopnpdobcagcgaaGreatMZ
namespace Go.Proofs.YtopnpdobcagcgaaGreat
open Go.RowKit
set_option linter.unusedSimpArgs false
set_option linter.unusedVariables false
theorem ld_ms {ev : Operand → Value} {o : Oper} (x : Operand) (ho : o.op = .load 65 x) {p : Addr} (hx : ev x = .pointer (some p)) {A : Option Addr} {n c : Nat} {W : World} (hc : W.cell? p = some (.slice A n c)) : (execOp ev o).run Tryz.prog W = .ok (.value (.slice A n c)) W := by
 simp only [execOp, ho, hx]
 go_simp
theorem ld_ss {ev : Operand → Value} {o : Oper} (x : Operand) (ho : o.op = .load 66 x) {p : Addr} (hx : ev x = .pointer (some p)) {A : Option Addr} {n c : Nat} {W : World} (hc : W.cell? p = some (.slice A n c)) : (execOp ev o).run Tryz.prog W = .ok (.value (.slice A n c)) W := by
 simp only [execOp, ho, hx]
 go_simp
theorem ld_mp {ev : Operand → Value} {o : Oper} (x : Operand) (ho : o.op = .load 53 x) {p : Addr} (hx : ev x = .pointer (some p)) {q : Option Addr} {W : World} (hc : W.cell? p = some (.pointer q)) : (execOp ev o).run Tryz.prog W = .ok (.value (.pointer q)) W := by
 simp only [execOp, ho, hx]
 go_simp
theorem wds_allA (p : Nat → Bool) : (wds p).toArray.all (·.oneCell') = true := by simpa using wds_all p
def EndsC (N : Nat) : Prop := ∀ t : T, t.nodes ≤ N → ∀ W : List UInt8, W.length ≤ 200 → ∀ (D : Nat → Prop) (g : Nat) (w : World), Mat W w D g t → (∀ k, D k → k < w.heap.size) → ∀ f : Nat → Bool, (∀ q, f q = true → q ≤ W.length) →
  Calls Tryz.prog 32 #[.pointer (some ⟨g, 0, none⟩), .agg (wds f).toArray] w fun e w' => e = .returned (.agg (wds (endsB (Lg t) W f)).toArray) ∧ Mat W w' D g t ∧ Off D w w'
set_option maxHeartbeats 8000000 in
set_option maxRecDepth 1000000 in
theorem lRound_any (N : Nat) (ih : EndsC N) (W : List UInt8) (hW : W.length ≤ 200) (s : Nat → Bool) (x : T) (hx : x.nodes ≤ N) {D : Nat → Prop} {g : Nat} {A : Option Addr} {cap : Nat} {gp : Nat → Nat} {Ds : Nat → Nat → Prop} {kn : Nat → Bool} {tb : Value} (w : World)
  (hm : MatN W w D g 6 s [x] A cap gp Ds kn tb) (hsz : ∀ k, D k → k < w.heap.size) (p : Nat) (hp : p ≤ W.length) :
  Calls Tryz.prog 71 #[.pointer (some ⟨g, 0, none⟩), .int .u8 (p : Int)] w fun e w' => e = .returned (.agg (wds (endsB (Lg x) W (fun q => decide (q = p)))).toArray) ∧ (∃ kn', MatN W w' D g 6 s [x] A cap gp Ds kn' tb) ∧ Off D w w' := by
 have IH := qH ih
 have HW := qH hW
 have HXN := qH hx
 have HP := qH hp
 have HSZ := qH hsz
 have M0 := qH hm
 obtain ⟨n, hn⟩ : ∃ n, n = W.length + 1 := ⟨_, rfl⟩
 have HNW := qH hn
 obtain ⟨b, off, rfl, hbD, hbg, hb0, hbc⟩ := hm.h3 (by simp)
 obtain ⟨tg, tf, rfl, htD, htg, ht0, hbt, htb, htf⟩ := hm.ht rfl x rfl
 rw [← hn] at htb M0 ⊢
 have HbD := qH hbD
 have Hbg := qH hbg
 have Hb0 := qH hb0
 have P0 := qH (hbc 0 (by simp))
 have HtD := qH htD
 have Htg := qH htg
 have Ht0 := qH ht0
 have Hbt := qH (hbt b off rfl)
 have T0 := qH htb
 have HTF := qH htf
 have HgD := qH hm.hD
 have HPN := qH (show p < n by omega)
 have i1 : (p : Int) < (n : Int) := by omega
 have i2 : (0 : Int) < (1 : Int) := by omega
 obtain ⟨res, hres⟩ : ∃ res, res = endsB (Lg x) W (fun q => decide (q = p)) := ⟨_, rfl⟩
 have HRES := qH hres
 obtain ⟨sp, hsp⟩ : ∃ sp : Nat → Bool, sp = fun q => decide (q = p) := ⟨_, rfl⟩
 have HSP := qH hsp
 obtain ⟨kn2, hkn2⟩ : ∃ kn2 : Nat → Bool, kn2 = fun q => kn q || sp q := ⟨_, rfl⟩
 have HKN := qH hkn2
 obtain ⟨q, hq⟩ : ∃ q, q = kn p := ⟨_, rfl⟩
 have HQ := qH hq
 obtain ⟨i0, hi0, hz0⟩ := info_set
 obtain ⟨zs, hzs⟩ : ∃ z : Nat → Bool, z = fun _ => false := ⟨_, rfl⟩
 rw [← hzs] at hz0
 rw [← hres]
 clear ih hW hx hp hsz hm hn hbD hbg hb0 hbc htD htg ht0 hbt htb htf hres hsp hkn2 hq hzs
 go_enter Tryz.func71, Tryz.ntmps71
 go_wp2_with (first
  | ((with_reducible refine atDst 4 ?_); refine wpList_new rfl 26 rfl i0 _ (wds zs) hi0 hz0 rfl (Below.refl w.heap.size w) (Nat.le_refl _) ?_; intro w1 hk1 hb1 hs1 ho1; have Z1 := qH hk1; have B1 := qH hb1; have M1 := qH (M0.out.stay (w' := w1) fun k hk => ho1 k (HSZ.out k hk)); clear hk1 hb1 hs1 ho1; (try simp only [Act.put, qA, qB, qC]))
  | ((with_reducible refine atDst 8 ?_); refine wpList_load_mid rfl 26 _ rfl g 6 rfl (wds kn) _ (mcl_at M1.out.blk).2.2.2.2 Tryz.underlying26 rfl (size_set kn) ?_; (try simp only [Act.put, qA, qB, qC])))
 refine (bsHas_any kn p w1 (by have := HP.out; have := HW.out; omega)).mono ?_
 rintro e wA ⟨rfl, hb2⟩
 rw [← HQ.out]
 have BA := qH (B1.out.trans (hb2.mono B1.out.size))
 have MNA := qH (M1.out.stay (w' := wA) fun k hk => hb2.block k (Nat.lt_of_lt_of_le (HSZ.out k hk) B1.out.size))
 have ZA := qH (Z1.out.below hb2 Z1.out.lt)
 have PA := qH (cell_heap P0.out (BA.out.block b (HSZ.out b HbD.out)))
 have TA := qH (T0.out.below BA.out (HSZ.out tg HtD.out))
 have OA := qH (Off.new D BA.out)
 clear hb2
 cases q with
 | true =>
  have MN := MNA
  have MZ := ZA
  have OZ := qH (OA.out.mono (D' := fun k => D k ∨ k = w.heap.size) fun k _ h => .inl h)
  have RT := qH (show wA.rangeAt tg (p * 4) (wds res) by have := flatS_range TA.out HPN.out; rwa [HTF.out p HP.out HQ.out.symm, ← HRES.out] at this)
  have c10 := (mcl_at MNA.out.blk).2.2.1
  go_wp2_with (first
   | ((with_reducible refine atDst 43 ?_); refine wpList_load_mid rfl 26 _ rfl tg (p * 4) rfl (wds res) _ RT.out Tryz.underlying26 rfl (size_set res) ?_; (try simp only [Act.put, qA, qB, qC]))
   | ((with_reducible refine atStore 26 4 43 ?_); refine wpList_stBlk rfl 26 _ _ rfl w.heap.size (wds res) rfl rfl 26 _ MZ.out (size_set res) rfl (wds_all _) (Below.refl w.heap.size _) (Nat.le_refl _) ?_; intro w11 hk11 hb11 hs11 ho11; have L11 := qH hk11; have OF := qH (OZ.out.trans (Off.put (D := fun k => D k ∨ k = w.heap.size) hb11 ho11 (.inr (.inr rfl)))); have O11 := qH ho11; clear hk11 hb11 hs11 ho11; (try simp only [Act.put, qA, qB, qC])))
  refine bodyPost_ret (results_blk rfl _ _ w.heap.size 26 _ _ rfl L11.out Tryz.underlying26 rfl (size_set res)) rfl ?_
  refine ⟨by rw [HRES.out], ⟨_, MN.out.stay (w' := w11) fun k hk => O11.out k (by have h1 := HSZ.out k hk; show k ≠ w.heap.size; omega)⟩, ?_⟩
  exact ⟨OF.out.os, OF.out.tape, OF.out.output, OF.out.size, fun k hk hn => OF.out.block k hk (by rintro (h | h); exact hn h; omega)⟩
 | false =>
  have GA := qH MNA.out.blk
  go_wp2_with fail
  refine sg_start (S := fun V => Off (fun k => k = g) wA V) (by kernel_rfl) (Off.start _ _) (fun wd hwd => ?_)
  have hX : Off (fun k => k = g) wA wd := by rw [hwd]; exact Off.start _ _
  have GD := qH (show Blk wd g 68 (mcl 6 zeroS (.slice (some ⟨b, off, none⟩) 1 cap) kn (.slice (some ⟨tg, 0, none⟩) n n)) by rw [hwd]; exact GA.out)
  clear hwd
  refine sg_take (i := 0) (oi := ⟨some 12, _, _, _, _, _⟩) (v := ?_) rfl (by kernel_rfl) (by kernel_rfl) (by kernel_rfl) (fun _ _ _ h => h) rfl hX ?_ ?_; rotate_left; (intro W hW; go_simp; try with_reducible rfl); simp only [Act.put, qA, qB, qC]
  refine sg_take (i := 1) (oi := ⟨some 13, _, _, _, _, _⟩) (v := ?_) rfl (by kernel_rfl) (by kernel_rfl) (by kernel_rfl) (fun _ _ _ h => h) rfl hX ?_ ?_; rotate_left; (intro W hW; go_simp; try with_reducible rfl); simp only [Act.put, qA, qB, qC]
  refine sg_take (i := 2) (oi := ⟨some 14, _, _, _, _, _⟩) (v := ?_) rfl (by kernel_rfl) (by kernel_rfl) (by kernel_rfl) (fun _ _ _ h => h) rfl hX ?_ ?_; rotate_left; (intro W hW; go_simp; try with_reducible rfl); simp only [Act.put, qA, qB, qC]
  refine sg_take (i := 3) (oi := ⟨some 15, _, _, _, _, _⟩) (v := ?_) rfl (by kernel_rfl) (by kernel_rfl) (by kernel_rfl) (fun _ _ _ h => h) rfl hX ?_ ?_; rotate_left; (intro W hW; go_simp; try with_reducible rfl); simp only [Act.put, qA, qB, qC]
  refine sg_take (i := 5) (oi := ⟨some 17, _, _, _, _, _⟩) (v := ?_) rfl (by kernel_rfl) (by kernel_rfl) (by kernel_rfl) (fun _ _ _ h => h) rfl hX ?_ ?_; rotate_left; (intro W hW; go_simp; try with_reducible rfl); simp only [Act.put, qA, qB, qC]
  refine sg_two (i := 4) (j := 6) (oi := ⟨some 16, _, _, _, _, _⟩) (oj := ⟨some 18, _, _, _, _, _⟩) rfl rfl (by kernel_rfl) rfl rfl hX (fun K hK => ?_) (fun K hK => ?_)
  focus
   refine wp_load_mid 26 _ rfl g 6 rfl (wds kn) _ (mcl_at GD.out).2.2.2.2 Tryz.underlying26 rfl (size_set kn) ?_
   refine hK _ _ hX ?_
   clear hK K
   (try simp only [Act.put, qA, qB, qC])
   refine sg_actB (i := 6) (o := ⟨some 18, _, _, _, _, _⟩) rfl (by kernel_rfl) rfl hX (fun K hK => ?_)
   go_wp2_with fail
   refine (lPlace_any p wd (by have := HP.out; have := HW.out; omega)).mono ?_
   rintro e w3 ⟨rfl, hb3⟩
   rw [← HSP.out]
   go_wp2_with fail
   refine hK _ _ (hX.then hb3) ?_
   clear hK K
   (try simp only [Act.put, qA, qB, qC])
   replace hX := hX.then hb3
   have GK3 := qH (GD.out.below hb3 GD.out.lt)
  rotate_left
  focus
   go_wp2_with fail
   refine (lPlace_any p wd (by have := HP.out; have := HW.out; omega)).mono ?_
   rintro e w3 ⟨rfl, hb3⟩
   rw [← HSP.out]
   go_wp2_with fail
   refine hK _ _ (hX.then hb3) ?_
   clear hK K
   (try simp only [Act.put, qA, qB, qC])
   replace hX := hX.then hb3
   have GK3 := qH (GD.out.below hb3 GD.out.lt)
   refine sg_actB (i := 4) (o := ⟨some 16, _, _, _, _, _⟩) rfl (by kernel_rfl) rfl hX (fun K hK => ?_)
   refine wp_load_mid 26 _ rfl g 6 rfl (wds kn) _ (mcl_at GK3.out).2.2.2.2 Tryz.underlying26 rfl (size_set kn) ?_
   refine hK _ _ hX ?_
   clear hK K
   (try simp only [Act.put, qA, qB, qC])
  all_goals
   refine sg_actB (i := 7) (o := ⟨some 19, _, _, _, _, _⟩) rfl (by kernel_rfl) rfl hX (fun K hK => ?_)
   go_wp2_with fail
   refine (bsOr_any kn sp w3).mono ?_
   rintro e w4 ⟨rfl, hb4⟩
   rw [← HKN.out]
   go_wp2_with fail
   refine hK _ _ (hX.then hb4) ?_
   clear hK K
   (try simp only [Act.put, qA, qB, qC])
   replace hX := hX.then hb4
   have G4 := qH (GK3.out.below hb4 GK3.out.lt)
   refine sg_take (i := 8) (oi := ⟨some 20, _, _, _, _, _⟩) (v := ?_) rfl (by kernel_rfl) (by kernel_rfl) (by kernel_rfl) (fun _ _ _ h => h) rfl hX ?_ ?_; rotate_left; (intro W hW; go_simp; try with_reducible rfl); simp only [Act.put, qA, qB, qC]
   refine sg_take (i := 9) (oi := ⟨some 21, _, _, _, _, _⟩) (v := ?_) rfl (by kernel_rfl) (by kernel_rfl) (by kernel_rfl) (fun _ _ _ h => h) rfl hX ?_ ?_; rotate_left; (intro W hW; go_simp; try with_reducible rfl); simp only [Act.put, qA, qB, qC]
   refine sg_actB (i := 10) (o := ⟨none, _, _, _, _, _⟩) rfl (by kernel_rfl) rfl hX (fun K hK => ?_)
   refine wp_store_mid 26 _ _ rfl g 6 (wds kn2).toArray rfl rfl (blk_there G4.out 6 4 (by simp [mcl_len])) (size_set kn2) (wds_allA kn2) ?_
   have hX9 := hX.trans (Off.setCells (D := fun k => k = g) rfl (wds kn2) 6 w4)
   refine hK _ _ hX9 ?_
   clear hK K
   refine wpAnyH_done (by kernel_rfl) ?_ _
   have GB := qH (mcl_known G4.out kn2)
   obtain ⟨wB, hwB⟩ : ∃ wB, wB = w4.setCells g 6 (wds kn2) := ⟨_, rfl⟩
   have e1 : w4.setCells g 6 (wds kn2).toArray.toList = wB := hwB.symm
   rw [e1]
   rw [← hwB] at GB hX9
   have OB := qH hX9
   clear hX hX9 hwB e1 hb3 hb4
   have GA : ∀ k, D k → k ≠ g → wB.heap[k]? = wA.heap[k]? := fun k hk hne => OB.out.block k (Nat.lt_of_lt_of_le (HSZ.out k hk) OA.out.size) hne
   have PB := qH (cell_heap PA.out (GA b HbD.out Hbg.out))
   have TB := qH (show Blk wB tg 26 (flatS n tf) from (GA tg HtD.out Htg.out).trans TA.out)
   have CB := qH ((MNA.out.hc 0 x rfl).stay fun k hk => GA k (MNA.out.hs 0 k hk) fun e => MNA.out.hg 0 (e ▸ hk))
   have ZB := qH (show Blk wB w.heap.size 26 (wds zs) from OB.out.blk (fun e => by have := HSZ.out g HgD.out; omega) ZA.out)
   have OWB := qH (show Off D w wB from ⟨OB.out.os.trans OA.out.os, OB.out.tape.trans OA.out.tape, OB.out.output.trans OA.out.output, Nat.le_trans OA.out.size OB.out.size, fun k hk hn => (OB.out.block k (Nat.lt_of_lt_of_le hk OA.out.size) (fun e => hn (e ▸ HgD.out))).trans (OA.out.block k hk hn)⟩)
   have LTB := qH (fun k hk => Nat.lt_of_lt_of_le (HSZ.out k hk) OWB.out.size)
   clear GA
   go_wp2_with fail
   refine sg_start (S := fun V => Off (fun k => Ds 0 k ∨ k = tg) wB V) (by kernel_rfl) (Off.start _ _) (fun wd hwd => ?_)
   have hX : Off (fun k => Ds 0 k ∨ k = tg) wB wd := by rw [hwd]; exact Off.start _ _
   have hwb : Below wB.heap.size wB wd := by rw [hwd]; exact (Below.refl _ _).drew
   clear hwd
   refine sg_take (i := 0) (oi := ⟨some 22, _, _, _, _, _⟩) (v := ?_) rfl (by kernel_rfl) (by kernel_rfl) (by kernel_rfl) (fun _ _ _ h => h) rfl hX ?_ ?_; rotate_left; (intro W hW; go_simp; try with_reducible rfl); simp only [Act.put, qA, qB, qC]
   refine sg_take (i := 1) (oi := ⟨some 23, _, _, _, _, _⟩) (v := ?_) rfl (by kernel_rfl) (by kernel_rfl) (by kernel_rfl) (fun _ _ _ h => h) rfl hX ?_ ?_; rotate_left; (intro W hW; go_simp; try with_reducible rfl); simp only [Act.put, qA, qB, qC]
   refine sg_take (i := 2) (oi := ⟨some 24, _, _, _, _, _⟩) (v := ?_) rfl (by kernel_rfl) (by kernel_rfl) (by kernel_rfl) (fun _ _ _ h => h) rfl hX ?_ ?_; rotate_left; (intro W hW; go_simp; try with_reducible rfl); simp only [Act.put, qA, qB, qC]
   refine sg_take (i := 3) (oi := ⟨some 25, _, _, _, _, _⟩) (v := .slice (some ⟨tg, 0, none⟩) n n) rfl (by kernel_rfl) (by kernel_rfl) (by kernel_rfl) (fun _ _ _ h => h) rfl hX (fun V hV => ld_ss (.tmp 24) rfl rfl (hV.cell GB.out.lt (by rintro (h | h); exact MNA.out.hg 0 h; exact Htg.out h.symm) (mcl_at GB.out).2.2.1)) ?_; simp only [Act.put, qA, qB, qC]
   refine sg_take (i := 4) (oi := ⟨some 26, _, _, _, _, _⟩) (v := ?_) rfl (by kernel_rfl) (by kernel_rfl) (by kernel_rfl) (fun _ _ _ h => h) rfl hX ?_ ?_; rotate_left; (intro W hW; go_simp; try with_reducible rfl); simp only [Act.put, qA, qB, qC]
   refine sg_take (i := 5) (oi := ⟨some 27, _, _, _, _, _⟩) (v := ?_) rfl (by kernel_rfl) (by kernel_rfl) (by kernel_rfl) (fun _ _ _ h => h) rfl hX ?_ ?_; rotate_left; (intro W hW; go_simp; try with_reducible rfl); simp only [Act.put, qA, qB, qC]
   refine sg_take (i := 6) (oi := ⟨some 28, _, _, _, _, _⟩) (v := ?_) rfl (by kernel_rfl) (by kernel_rfl) (by kernel_rfl) (fun _ _ _ h => h) rfl hX ?_ ?_; rotate_left; (intro W hW; go_simp; try with_reducible rfl); simp only [Act.put, qA, qB, qC]
   refine sg_take (i := 7) (oi := ⟨some 29, _, _, _, _, _⟩) (v := ?_) rfl (by kernel_rfl) (by kernel_rfl) (by kernel_rfl) (fun _ _ _ h => h) rfl hX ?_ ?_; rotate_left; (intro W hW; go_simp; try with_reducible rfl); simp only [Act.put, qA, qB, qC]
   refine sg_take (i := 8) (oi := ⟨some 30, _, _, _, _, _⟩) (v := .slice (some ⟨b, off, none⟩) 1 cap) rfl (by kernel_rfl) (by kernel_rfl) (by kernel_rfl) (fun _ _ _ h => h) rfl hX (fun V hV => ld_ms (.tmp 29) rfl rfl (hV.cell GB.out.lt (by rintro (h | h); exact MNA.out.hg 0 h; exact Htg.out h.symm) (mcl_at GB.out).2.1)) ?_; simp only [Act.put, qA, qB, qC]
   refine sg_take (i := 9) (oi := ⟨some 31, _, _, _, _, _⟩) (v := ?_) rfl (by kernel_rfl) (by kernel_rfl) (by kernel_rfl) (fun _ _ _ h => h) rfl hX ?_ ?_; rotate_left; (intro W hW; go_simp; try with_reducible rfl); simp only [Act.put, qA, qB, qC]
   refine sg_take (i := 10) (oi := ⟨some 32, _, _, _, _, _⟩) (v := .pointer (some ⟨gp 0, 0, none⟩)) rfl (by kernel_rfl) (by kernel_rfl) (by kernel_rfl) (fun _ _ _ h => h) rfl hX (fun V hV => ld_mp (.tmp 31) rfl rfl (hV.cell (LTB.out b HbD.out) (by rintro (h | h); exact Hb0.out 0 h; exact Hbt.out h) PB.out)) ?_; simp only [Act.put, qA, qB, qC]
   refine sg_take (i := 11) (oi := ⟨some 33, _, _, _, _, _⟩) (v := ?_) rfl (by kernel_rfl) (by kernel_rfl) (by kernel_rfl) (fun _ _ _ h => h) rfl hX ?_ ?_; rotate_left; (intro W hW; go_simp; try with_reducible rfl); simp only [Act.put, qA, qB, qC]
   refine sg_actB (i := 12) (o := ⟨some 34, _, _, _, _, _⟩) rfl (by kernel_rfl) rfl hX (fun K hK => ?_)
   go_wp2_with fail
   refine (lPlace_any p wd (by have := HP.out; have := HW.out; omega)).mono ?_
   rintro e w3 ⟨rfl, hb3⟩
   rw [← HSP.out]
   go_wp2_with fail
   refine hK _ _ (hX.then hb3) ?_
   clear hK K
   (try simp only [Act.put, qA, qB, qC])
   replace hX := hX.then hb3
   have CB3 := qH (CB.out.stay (w' := w3) fun k hk => (hwb.trans (hb3.mono hwb.size)).block k (LTB.out k (MNA.out.hs 0 k hk)))
   have LT3 := qH (fun k (hk : Ds 0 k) => Nat.lt_of_lt_of_le (LTB.out k (MNA.out.hs 0 k hk)) hX.size)
   refine sg_actB (i := 13) (o := ⟨some 35, _, _, _, _, _⟩) rfl (by kernel_rfl) rfl hX (fun K hK => ?_)
   go_wp2_with fail
   refine (IH.out x HXN.out W HW.out (Ds 0) (gp 0) w3 CB3.out LT3.out sp (by rw [HSP.out]; intro q hq; have h1 : q = p := (by simpa using hq); have h2 := HP.out; omega)).mono ?_
   rintro e w4 ⟨rfl, hm4, ho4⟩
   rw [HSP.out, ← HRES.out]
   go_wp2_with fail
   refine hK _ _ (hX.trans (ho4.mono fun k _ h => .inl h)) ?_
   clear hK K
   (try simp only [Act.put, qA, qB, qC])
   replace hX := hX.trans (ho4.mono fun k _ h => .inl h)
   have T4 := qH (show Blk w4 tg 26 (flatS n tf) from ho4.blk (Ht0.out 0) (TB.out.below (hwb.trans (hb3.mono hwb.size)) TB.out.lt))
   refine sg_take (i := 14) (oi := ⟨some 36, _, _, _, _, _⟩) (v := ?_) rfl (by kernel_rfl) (by kernel_rfl) (by kernel_rfl) (fun _ _ _ h => h) rfl hX ?_ ?_; rotate_left; (intro W hW; go_simp; try with_reducible rfl); simp only [Act.put, qA, qB, qC]
   refine sg_actB (i := 15) (o := ⟨none, _, _, _, _, _⟩) rfl (by kernel_rfl) rfl hX (fun K hK => ?_)
   refine wp_store_mid 26 _ _ rfl tg (p * 4) (wds res).toArray rfl rfl (blk_there T4.out (p * 4) 4 (by rw [flatS_len]; have := HPN.out; omega)) (size_set res) (wds_allA res) ?_
   have hX9 := hX.trans (Off.setCells (D := fun k => Ds 0 k ∨ k = tg) (.inr rfl) (wds res) (p * 4) w4)
   refine hK _ _ hX9 ?_
   clear hK K
   refine wpAnyH_done (by kernel_rfl) ?_ _
   have TC := qH (flatS_put T4.out res HPN.out)
   have CC := qH (hm4.stay (w' := w4.setCells tg (p * 4) (wds res)) fun k hk => (Off.setCells (D := fun k => k = tg) rfl (wds res) (p * 4) w4).block k (Nat.lt_of_lt_of_le (LT3.out k hk) ho4.size) (fun e => Ht0.out 0 (e ▸ hk)))
   obtain ⟨wC, hwC⟩ : ∃ wC, wC = w4.setCells tg (p * 4) (wds res) := ⟨_, rfl⟩
   have e1 : w4.setCells tg (p * 4) (wds res).toArray.toList = wC := hwC.symm
   rw [e1]
   rw [← hwC] at TC CC hX9
   have OC := qH hX9
   clear hX hX9 hwC e1 hb3 ho4 hm4 hwb
   have GC := qH (OC.out.blk (by rintro (h | h); exact MNA.out.hg 0 h; exact Htg.out h.symm) GB.out)
   have PC := qH (OC.out.cell (LTB.out b HbD.out) (by rintro (h | h); exact Hb0.out 0 h; exact Hbt.out h) PB.out)
   have MZ := qH (show Blk wC w.heap.size 26 (wds zs) from OC.out.blk (by rintro (h | h); have h1 := HSZ.out _ (MNA.out.hs 0 _ h); omega; have h1 := HSZ.out _ HtD.out; omega) ZB.out)
   have OZ0 := qH (OWB.out.trans (OC.out.mono (D' := D) fun k _ h => by rcases h with h | h; exact MNA.out.hs 0 k h; exact h ▸ HtD.out))
   have OZ := qH (OZ0.out.mono (D' := fun k => D k ∨ k = w.heap.size) fun k _ h => .inl h)
   have MN := qH (show MatN W wC D g 6 s [x] (some ⟨b, off, none⟩) cap gp Ds kn2 (.slice (some ⟨tg, 0, none⟩) n n) from
    {hD := HgD.out, hg := MNA.out.hg, blk := GC.out, h1 := MNA.out.h1, h2 := MNA.out.h2
     h3 := fun _ => ⟨b, off, rfl, HbD.out, Hbg.out, Hb0.out, fun i hi => by obtain rfl : i = 0 := (by simpa using hi); exact PC.out⟩
     ht := fun _ y hy => by
      injection hy with hy
      subst hy
      exact ⟨tg, updS tf p res, by rw [HNW.out], HtD.out, Htg.out, Ht0.out, fun b' off' h => by injection h with h; injection h with h; exact h ▸ Hbt.out, by rw [← HNW.out]; exact TC.out, fun q hq hk => by
       unfold updS
       by_cases hqp : q = p
       ·rw [if_pos hqp, HRES.out, hqp]
       ·rw [if_neg hqp]
        refine HTF.out q hq ?_
        rw [HKN.out, HSP.out] at hk
        simpa [hqp] using hk⟩
     hn := fun h => absurd ⟨rfl, rfl⟩ h, hs := MNA.out.hs, hd := MNA.out.hd
     hc := fun i t h => by
      match i, h with
      | 0, h => injection h with h; subst h; exact CC.out
      | i + 1, h => simp at h })
   have RT := qH (show wC.rangeAt tg (p * 4) (wds res) by have := flatS_range TC.out HPN.out; unfold updS at this; rwa [if_pos rfl] at this)
   have c10 := (mcl_at GC.out).2.2.1
   go_wp2_with (first
    | ((with_reducible refine atDst 43 ?_); refine wpList_load_mid rfl 26 _ rfl tg (p * 4) rfl (wds res) _ RT.out Tryz.underlying26 rfl (size_set res) ?_; (try simp only [Act.put, qA, qB, qC]))
    | ((with_reducible refine atStore 26 4 43 ?_); refine wpList_stBlk rfl 26 _ _ rfl w.heap.size (wds res) rfl rfl 26 _ MZ.out (size_set res) rfl (wds_all _) (Below.refl w.heap.size _) (Nat.le_refl _) ?_; intro w11 hk11 hb11 hs11 ho11; have L11 := qH hk11; have OF := qH (OZ.out.trans (Off.put (D := fun k => D k ∨ k = w.heap.size) hb11 ho11 (.inr (.inr rfl)))); have O11 := qH ho11; clear hk11 hb11 hs11 ho11; (try simp only [Act.put, qA, qB, qC])))
   refine bodyPost_ret (results_blk rfl _ _ w.heap.size 26 _ _ rfl L11.out Tryz.underlying26 rfl (size_set res)) rfl ?_
   refine ⟨by rw [HRES.out], ⟨_, MN.out.stay (w' := w11) fun k hk => O11.out k (by have h1 := HSZ.out k hk; show k ≠ w.heap.size; omega)⟩, ?_⟩
   exact ⟨OF.out.os, OF.out.tape, OF.out.output, OF.out.size, fun k hk hn => OF.out.block k hk (by rintro (h | h); exact hn h; omega)⟩
end Go.Proofs.YtopnpdobcagcgaaGreat
