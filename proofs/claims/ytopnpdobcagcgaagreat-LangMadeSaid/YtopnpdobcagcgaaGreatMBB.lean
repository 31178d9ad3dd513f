/-
  Texts of this proof, put together: LwH. No statement is proved here.
-/
import Derived.Test.YtopnpdobcagcgaaGreatMBA
namespace Go.Proofs.YtopnpdobcagcgaaGreat
open Go.RowKit
set_option linter.unusedSimpArgs false
set_option linter.unusedVariables false
theorem rndJ_yes {P : List UInt8 → Prop} {W : List UInt8} {f : Nat → Bool} {j : Nat} (h : rndJ P W f j j = true) : (fun b => rndJ P W f j b || endsB P W (fun q => decide (q = j)) b) = rndJ P W f (j + 1) := by
 funext b
 show _ = (rndJ P W f j b || (rndJ P W f j j && endsB P W (fun q => decide (q = j)) b))
 rw [h, Bool.true_and]
theorem rndJ_no {P : List UInt8 → Prop} {W : List UInt8} {f : Nat → Bool} {j : Nat} (h : rndJ P W f j j = false) : rndJ P W f (j + 1) = rndJ P W f j := by
 funext b
 show (rndJ P W f j b || (rndJ P W f j j && endsB P W (fun q => decide (q = j)) b)) = _
 rw [h, Bool.false_and, Bool.or_false]
theorem ends_star1 (s : Nat → Bool) (x : T) (W : List UInt8) (f : Nat → Bool) : endsB (Lg (.node 6 s [x])) W f = endsB (StarL (Lg x)) W f :=
 ends_congr (fun u => by rw [lg_star]; exact starL_same (lgO_one x) u) fun _ _ => rfl
theorem ends_star0 (s : Nat → Bool) (l : List T) (W : List UInt8) (f : Nat → Bool) (hf : ∀ q, f q = true → q ≤ W.length) (hl : l.length ≠ 1) : endsB (Lg (.node 6 s l)) W f = f := by
 rw [ends_congr (Q := fun u => u = []) (g := f) (fun u => ?_) (fun _ _ => rfl), ends_nil hf]
 rw [lg_star]
 refine starL_nothing (fun v hv => ?_) u
 cases l with
 | nil => exact hv.elim
 | cons t r =>
  have hv : r.length = 0 ∧ Lg t v := hv
  exact absurd (by rw [List.length_cons, hv.1]) hl
theorem ends_two2 (f : Nat → Bool) (W : List UInt8) (hf : ∀ q, f q = true → q ≤ W.length) {t : T} (h2 : t.kind = 2) : endsB (Lg t) W f = f := by
 rw [ends_congr (Q := fun u => u = []) (g := f) (fun u => lg_k2 h2 u) (fun _ _ => rfl), ends_nil hf]
theorem ends_set3 (s : Nat → Bool) (l : List T) (W : List UInt8) (f : Nat → Bool) : endsB (Lg (.node 3 s l)) W f = shl fun b => f b && hitP s W b := by
 rw [ends_congr (Q := fun u => ∃ b : UInt8, u = [b] ∧ s b.toNat = true) (g := f) (fun u => lg_set) (fun _ _ => rfl)]
 funext p
 rw [Bool.eq_iff_iff, ends_set]
 unfold shl
 rw [Bool.and_eq_true, Bool.and_eq_true, decide_eq_true_iff, hitP_iff]
 constructor
 ·rintro ⟨q, rfl, a, b⟩
  rw [Nat.add_sub_cancel]
  exact ⟨by omega, a, b⟩
 ·rintro ⟨h, a, b⟩
  exact ⟨p - 1, by omega, a, b⟩
theorem ends_catJ {l : List T} {j : Nat} {u : T} (h : l[j]? = some u) (W : List UInt8) (f : Nat → Bool) : endsB (LgC (l.take (j + 1))) W f = endsB (Lg u) W (endsB (LgC (l.take j)) W f) := by
 obtain ⟨hi, rfl⟩ := List.getElem?_eq_some_iff.1 h
 rw [ends_two, List.take_succ_eq_append_getElem hi]
 refine ends_congr (fun v => ?_) fun _ _ => rfl
 rw [lgC_app]
 constructor
 ·rintro ⟨a, b, e, h1, h2⟩; exact ⟨a, b, e, h1, (lgC_one _ _).1 h2⟩
 ·rintro ⟨a, b, e, h1, h2⟩; exact ⟨a, b, e, h1, (lgC_one _ _).2 h2⟩
theorem ends_cat0 (W : List UInt8) (f : Nat → Bool) (hf : ∀ q, f q = true → q ≤ W.length) (l : List T) : endsB (LgC (l.take 0)) W f = f := by
 rw [ends_congr (Q := fun u => u = []) (g := f) (fun u => by rw [List.take_zero]; exact Iff.rfl) (fun _ _ => rfl), ends_nil hf]
theorem ends_cat4 (s : Nat → Bool) (l : List T) (W : List UInt8) (f : Nat → Bool) : endsB (Lg (.node 4 s l)) W f = endsB (LgC (l.take l.length)) W f := by
 rw [List.take_length]
 exact ends_congr (fun u => lg_cat) fun _ _ => rfl
theorem ends_altJ {l : List T} {j : Nat} {u : T} (h : l[j]? = some u) (W : List UInt8) (f : Nat → Bool) : endsB (LgA (l.take (j + 1))) W f = fun p => endsB (LgA (l.take j)) W f p || endsB (Lg u) W f p := by
 obtain ⟨hi, rfl⟩ := List.getElem?_eq_some_iff.1 h
 funext p
 rw [ends_or, List.take_succ_eq_append_getElem hi]
 rw [ends_congr (Q := fun v => LgA (l.take j) v ∨ Lg l[j] v) (g := f) (fun v => ?_) (fun _ _ => rfl)]
 rw [lgA_mem, lgA_mem]
 simp only [List.mem_append, List.mem_singleton]
 constructor
 ·rintro ⟨t, h | rfl, hl⟩
  ·exact .inl ⟨t, h, hl⟩
  ·exact .inr hl
 ·rintro (⟨t, h, hl⟩ | hl)
  ·exact ⟨t, .inl h, hl⟩
  ·exact ⟨_, .inr rfl, hl⟩
theorem ends_alt0 (W : List UInt8) (f : Nat → Bool) (l : List T) : endsB (LgA (l.take 0)) W f = fun _ => false := ends_no fun u h => by rw [List.take_zero] at h; exact h
theorem ends_alt5 (s : Nat → Bool) (l : List T) (W : List UInt8) (f : Nat → Bool) : endsB (Lg (.node 5 s l)) W f = endsB (LgA (l.take l.length)) W f := by
 rw [List.take_length]
 exact ends_congr (fun u => lg_alt) fun _ _ => rfl
theorem ends_other {k : Int} (s : Nat → Bool) (l : List T) (W : List UInt8) (f : Nat → Bool) (h2 : k ≠ 2) (h3 : k ≠ 3) (h4 : k ≠ 4) (h5 : k ≠ 5) (h6 : k ≠ 6) : endsB (Lg (.node k s l)) W f = fun _ => false :=
 ends_no fun u h => by
  rw [Lg, if_neg h2, if_neg h3, if_neg h4, if_neg h5, if_neg h6] at h
  exact h
/-! ### rounds -/
-- the answer: what stands in a set's slot is stored: $1 slot of the load, $2 the Blk read (at block $3), $4 the answer's Blk, $5 Off, $6 MatN, $7 world, $8 set
set_option maxHeartbeats 8000000 in
set_option maxRecDepth 1000000 in
theorem lRounds1_any (N : Nat) (ih : EndsC N) (W : List UInt8) (hW : W.length ≤ 200) (s : Nat → Bool) (x : T) (hx : x.nodes ≤ N) {D : Nat → Prop} {g : Nat} {A : Option Addr} {cap : Nat} {gp : Nat → Nat} {Ds : Nat → Nat → Prop} {kn : Nat → Bool} {tb : Value} (w : World)
  (hm : MatN W w D g 6 s [x] A cap gp Ds kn tb) (hsz : ∀ k, D k → k < w.heap.size) (f : Nat → Bool) (hf : ∀ q, f q = true → q ≤ W.length) :
  Calls Tryz.prog 53 #[.pointer (some ⟨g, 0, none⟩), .agg (wds f).toArray] w fun e w' => e = .returned (.agg (wds (endsB (Lg (.node 6 s [x])) W f)).toArray) ∧ Mat W w' D g (.node 6 s [x]) ∧ Off D w w' := by
 have IH := qH ih
 have HW := qH hW
 have HXN := qH hx
 have HSZ := qH hsz
 have M0 := qH hm
 obtain ⟨n, hn⟩ : ∃ n, n = W.length + 1 := ⟨_, rfl⟩
 obtain ⟨tg, tf, rfl, _⟩ := hm.ht rfl x rfl
 rw [← hn] at M0
 have HNW := qH hn
 obtain ⟨i0, hi0, hz0⟩ := info_set
 obtain ⟨zs, hzs⟩ : ∃ z : Nat → Bool, z = fun _ => false := ⟨_, rfl⟩
 rw [← hzs] at hz0
 obtain ⟨res, hres⟩ : ∃ res, res = endsB (Lg (.node 6 s [x])) W f := ⟨_, rfl⟩
 have HRND := qH (show rndJ (Lg x) W f n = res by rw [hn, rnd_all hf, hres, ends_star1])
 rw [← hres]
 clear hres ih hW hx hsz hm hn hf hzs
 go_enter Tryz.func53, Tryz.ntmps53
 go_wp2_with (first
  | ((with_reducible refine atDst 3 ?_); refine wpList_box rfl 26 _ rfl (wds f) rfl (Below.refl w.heap.size w) (Nat.le_refl _) ?_; intro w1 hk1 hb1 hs1 ho1; have F1 := qH hk1; have B1 := qH hb1; clear hk1 hb1 hs1 ho1; (try simp only [Act.put, qA, qB, qC]))
  | ((with_reducible refine atDst 4 ?_); refine wpList_new rfl 26 rfl i0 _ (wds zs) hi0 hz0 rfl B1.out B1.out.size ?_; intro w2 hk1 hb1 hs1 ho1; have Z2 := qH hk1; have B2 := qH hb1; have F2 := qH (show Blk w2 w.heap.size 26 (wds f) from (ho1 _ F1.out.lt).trans F1.out); have M2 := qH (M0.out.stay (w' := w2) fun k hk => hb1.block k (HSZ.out k hk)); have c10 := (mcl_at M2.out.blk).2.2.1; have c0 := (mcl_at M2.out.blk).1; have c5 := (mcl_at M2.out.blk).2.1; have O2 := qH (Off.new D hb1); have HG3 := qH (fun k hk => Nat.ne_of_lt (HSZ.out k hk)); have HG4 := qH (fun k hk => Nat.ne_of_lt (Nat.lt_trans (HSZ.out k hk) F1.out.lt)); have HGG := qH (Nat.ne_of_lt F1.out.lt); clear hk1 hb1 hs1 ho1; (try simp only [Act.put, qA, qB, qC]))
  )
 go_loopw [11] (fun i wl => ∃ j : Nat, j ≤ n ∧ i = .int .i64 (j : Int) ∧ (∃ kn', MatN W wl D g 6 s [x] A cap gp Ds kn' (.slice (some ⟨tg, 0, none⟩) n n)) ∧ Blk wl w.heap.size 26 (wds (rndJ (Lg x) W f j)) ∧ Blk wl w1.heap.size 26 (wds zs) ∧ Off D w wl) (fun i _ => n - (intOf i).toNat)
 case atStart => exact ⟨0, by omega, by simp, ⟨_, M2.out⟩, F2.out, Z2.out, O2.out⟩
 case round =>
  obtain ⟨j, hj, rfl, ⟨kn', hm⟩, hF, hZ, hO⟩ := hrel
  have MR := qH hm
  have FR := qH hF
  have ZR := qH hZ
  have OR := qH hO
  clear hm hF hZ hO
  by_cases hjl : j < n
  ·have j1 : (j : Int) < (n : Int) := Int.ofNat_lt.2 hjl
   have HJ1 := qH hjl
   have HJW := qH (show j ≤ W.length by have := HNW.out; omega)
   have HJ2 := qH (show j < 256 by have := HW.out; have := HJW.out; omega)
   have hw8 : IntKind.u8.wrap (j : Int) = (j : Int) := IntWalk.u8_in _ (by have := HJ2.out; omega)
   have e3 := wrap_one j (by have := HJ2.out; omega)
   have e4 := wrap_one' j (by have := HJ2.out; omega)
   obtain ⟨cur, hcur⟩ : ∃ cur, cur = rndJ (Lg x) W f j := ⟨_, rfl⟩
   obtain ⟨nxt, hnxt⟩ : ∃ nxt, nxt = rndJ (Lg x) W f (j + 1) := ⟨_, rfl⟩
   rw [← hcur] at FR
   have HCUR := qH hcur
   have HNXT := qH hnxt
   obtain ⟨q, hq⟩ : ∃ q, q = cur j := ⟨_, rfl⟩
   have HQ := qH hq
   have LTR := qH (fun k (hk : D k) => Nat.lt_of_lt_of_le (HSZ.out k hk) OR.out.size)
   clear hj hjl hcur hnxt hq
   go_wp2_with ((with_reducible refine atDst 14 ?_); refine wpList_ldArr rfl 26 _ rfl w.heap.size rfl 26 _ _ FR.out Tryz.underlying26 rfl (size_set _) ?_; (try simp only [Act.put, qA, qB, qC]))
   refine (bsHas_any cur j wr HJ2.out).mono ?_
   rintro e wA ⟨rfl, hb2⟩
   rw [← HQ.out]
   have BA := qH hb2
   have MA := qH (MR.out.stay (w' := wA) fun k hk => hb2.block k (LTR.out k hk))
   have FA := qH (FR.out.below hb2 FR.out.lt)
   have ZA := qH (ZR.out.below hb2 ZR.out.lt)
   have OA := qH (OR.out.then hb2)
   clear hb2
   cases q with
   | false =>
    have HE := qH (show nxt = cur by rw [HNXT.out, HCUR.out, rndJ_no (by rw [← HCUR.out]; exact HQ.out.symm)])
    go_wp2_with fail
    exact ⟨⟨j + 1, HJ1.out, by congr 1, ⟨_, MA.out⟩, by rw [← HNXT.out, HE.out]; exact FA.out, ZA.out, OA.out⟩, by have := HJ1.out; simp [intOf] <;> omega⟩
   | true =>
    have HNX := qH (show (fun b => Bool.or (cur b) (endsB (Lg x) W (fun q => decide (q = j)) b)) = nxt by rw [HNXT.out, HCUR.out]; exact rndJ_yes (by rw [← HCUR.out]; exact HQ.out.symm))
    go_wp2_with fail
    refine sg_start (S := fun V => Off (fun k => D k ∨ k = w.heap.size) wA V) (by kernel_rfl) (Off.start _ _) (fun wd hwd => ?_)
    have hX : Off (fun k => D k ∨ k = w.heap.size) wA wd := by rw [hwd]; exact Off.start _ _
    have FD := qH (show Blk wd w.heap.size 26 (wds cur) by rw [hwd]; exact FA.out)
    have MD := qH (show MatN W wd D g 6 s [x] A cap gp Ds kn' (.slice (some ⟨tg, 0, none⟩) n n) from MA.out.stay fun k hk => by rw [hwd]; rfl)
    have LTD := qH (fun k (hk : D k) => show k < wd.heap.size from Nat.lt_of_lt_of_le (LTR.out k hk) (Nat.le_trans BA.out.size hX.size))
    have LTI := qH (fun k (hk : D k) => hk)
    clear hwd
    refine sg_take (i := 1) (oi := ⟨some 19, _, _, _, _, _⟩) (v := ?_) rfl (by kernel_rfl) (by kernel_rfl) (by kernel_rfl) (fun _ _ _ h => h) rfl hX ?_ ?_; rotate_left; (intro W hW; go_simp; try with_reducible rfl); simp only [Act.put, qA, qB, qC]
    refine sg_take (i := 2) (oi := ⟨some 20, _, _, _, _, _⟩) (v := ?_) rfl (by kernel_rfl) (by kernel_rfl) (by kernel_rfl) (fun _ _ _ h => h) rfl hX ?_ ?_; rotate_left; (intro W hW; go_simp; try with_reducible rfl); simp only [Act.put, qA, qB, qC]
    refine sg_take (i := 3) (oi := ⟨some 21, _, _, _, _, _⟩) (v := ?_) rfl (by kernel_rfl) (by kernel_rfl) (by kernel_rfl) (fun _ _ _ h => h) rfl hX ?_ ?_; rotate_left; (intro W hW; go_simp; try with_reducible rfl); simp only [Act.put, qA, qB, qC]
    refine sg_two (i := 0) (j := 4) (oi := ⟨some 18, _, _, _, _, _⟩) (oj := ⟨some 22, _, _, _, _, _⟩) rfl rfl (by kernel_rfl) rfl rfl hX (fun K hK => ?_) (fun K hK => ?_)
    ·refine wp_load_row 26 _ rfl w.heap.size rfl 26 (wds cur).toArray (0, 0) _ FD.out Tryz.underlying26 rfl (by simpa using size_set cur) ?_
     refine hK _ _ hX ?_
     clear hK K
     (try simp only [Act.put, qA, qB, qC])
     refine sg_actB (i := 4) (o := ⟨some 22, _, _, _, _, _⟩) rfl (by kernel_rfl) rfl hX (fun K hK => ?_)
     go_wp2_with fail
     refine (lRound_any N IH.out W HW.out s x HXN.out wd MD.out LTD.out j HJW.out).mono ?_
     rintro e w4 ⟨rfl, ⟨kn4, hm4⟩, ho4⟩
     go_wp2_with fail
     refine hK _ _ (hX.trans (ho4.mono fun k _ h => .inl h)) ?_
     clear hK K
     (try simp only [Act.put, qA, qB, qC])
     replace hX := hX.trans (ho4.mono fun k _ h => .inl h)
     have LT4 := qH (fun k (hk : D k) => Nat.lt_of_lt_of_le (LTD.out k hk) ho4.size)
     have F4 := qH (ho4.blk (fun h => HG3.out _ (LTI.out _ h) rfl) FD.out)
     refine sg_actB (i := 5) (o := ⟨some 23, _, _, _, _, _⟩) rfl (by kernel_rfl) rfl hX (fun K hK => ?_)
     go_wp2_with fail
     refine (bsOr_any cur (endsB (Lg x) W (fun q => decide (q = j))) w4).mono ?_
     rintro e w5 ⟨rfl, hb5⟩
     rw [HNX.out]
     go_wp2_with fail
     refine hK _ _ (hX.then hb5) ?_
     clear hK K
     (try simp only [Act.put, qA, qB, qC])
     replace hX := hX.then hb5
     have F5 := qH (F4.out.below hb5 F4.out.lt)
     have M5 := qH (hm4.stay (w' := w5) fun k hk => hb5.block k (LT4.out k hk))
     refine sg_actB (i := 6) (o := ⟨none, _, _, _, _, _⟩) rfl (by kernel_rfl) rfl hX (fun K hK => ?_)
     refine wp_stBlk 26 _ _ rfl w.heap.size (wds nxt) rfl rfl 26 _ F5.out (size_set _) rfl (wds_all _) (Below.refl w.heap.size w5) (Nat.le_refl _) ?_
     intro w6 hk6 hb6 hs6 ho6 _
     have hX9 := hX.trans (Off.put (D := fun k => D k ∨ k = w.heap.size) hb6 ho6 (.inr (.inr rfl)))
     refine hK _ _ hX9 ?_
     clear hK K
     refine wpAnyH_done (by kernel_rfl) ?_ _
     have F6 := qH hk6
     have M6 := qH (M5.out.stay (w' := w6) fun k hk => ho6 k (HG3.out k hk))
     have Z6 := qH (hX9.blk (by rintro (h | h); exact HG4.out _ h rfl; exact HGG.out h.symm) ZA.out)
     have O6 := qH (show Off D w w6 from ⟨hX9.os.trans OA.out.os, hX9.tape.trans OA.out.tape, hX9.output.trans OA.out.output, Nat.le_trans OA.out.size hX9.size, fun k hk hn => (hX9.block k (Nat.lt_of_lt_of_le hk OA.out.size) (by rintro (h | h); exact hn h; omega)).trans (OA.out.block k hk hn)⟩)
     clear hX hX9 hk6 hb6 hs6 ho6 hb5 ho4 hm4
     go_wp2_with fail
     exact ⟨⟨j + 1, HJ1.out, by congr 1, ⟨_, M6.out⟩, by rw [← HNXT.out]; exact F6.out, Z6.out, O6.out⟩, by have := HJ1.out; simp [intOf] <;> omega⟩
    ·go_wp2_with fail
     refine (lRound_any N IH.out W HW.out s x HXN.out wd MD.out LTD.out j HJW.out).mono ?_
     rintro e w4 ⟨rfl, ⟨kn4, hm4⟩, ho4⟩
     go_wp2_with fail
     refine hK _ _ (hX.trans (ho4.mono fun k _ h => .inl h)) ?_
     clear hK K
     (try simp only [Act.put, qA, qB, qC])
     replace hX := hX.trans (ho4.mono fun k _ h => .inl h)
     have LT4 := qH (fun k (hk : D k) => Nat.lt_of_lt_of_le (LTD.out k hk) ho4.size)
     have F4 := qH (ho4.blk (fun h => HG3.out _ (LTI.out _ h) rfl) FD.out)
     refine sg_actB (i := 0) (o := ⟨some 18, _, _, _, _, _⟩) rfl (by kernel_rfl) rfl hX (fun K hK => ?_)
     refine wp_load_row 26 _ rfl w.heap.size rfl 26 (wds cur).toArray (0, 0) _ F4.out Tryz.underlying26 rfl (by simpa using size_set cur) ?_
     refine hK _ _ hX ?_
     clear hK K
     (try simp only [Act.put, qA, qB, qC])
     refine sg_actB (i := 5) (o := ⟨some 23, _, _, _, _, _⟩) rfl (by kernel_rfl) rfl hX (fun K hK => ?_)
     go_wp2_with fail
     refine (bsOr_any cur (endsB (Lg x) W (fun q => decide (q = j))) w4).mono ?_
     rintro e w5 ⟨rfl, hb5⟩
     rw [HNX.out]
     go_wp2_with fail
     refine hK _ _ (hX.then hb5) ?_
     clear hK K
     (try simp only [Act.put, qA, qB, qC])
     replace hX := hX.then hb5
     have F5 := qH (F4.out.below hb5 F4.out.lt)
     have M5 := qH (hm4.stay (w' := w5) fun k hk => hb5.block k (LT4.out k hk))
     refine sg_actB (i := 6) (o := ⟨none, _, _, _, _, _⟩) rfl (by kernel_rfl) rfl hX (fun K hK => ?_)
     refine wp_stBlk 26 _ _ rfl w.heap.size (wds nxt) rfl rfl 26 _ F5.out (size_set _) rfl (wds_all _) (Below.refl w.heap.size w5) (Nat.le_refl _) ?_
     intro w6 hk6 hb6 hs6 ho6 _
     have hX9 := hX.trans (Off.put (D := fun k => D k ∨ k = w.heap.size) hb6 ho6 (.inr (.inr rfl)))
     refine hK _ _ hX9 ?_
     clear hK K
     refine wpAnyH_done (by kernel_rfl) ?_ _
     have F6 := qH hk6
     have M6 := qH (M5.out.stay (w' := w6) fun k hk => ho6 k (HG3.out k hk))
     have Z6 := qH (hX9.blk (by rintro (h | h); exact HG4.out _ h rfl; exact HGG.out h.symm) ZA.out)
     have O6 := qH (show Off D w w6 from ⟨hX9.os.trans OA.out.os, hX9.tape.trans OA.out.tape, hX9.output.trans OA.out.output, Nat.le_trans OA.out.size hX9.size, fun k hk hn => (hX9.block k (Nat.lt_of_lt_of_le hk OA.out.size) (by rintro (h | h); exact hn h; omega)).trans (OA.out.block k hk hn)⟩)
     clear hX hX9 hk6 hb6 hs6 ho6 hb5 ho4 hm4
     go_wp2_with fail
     exact ⟨⟨j + 1, HJ1.out, by congr 1, ⟨_, M6.out⟩, by rw [← HNXT.out]; exact F6.out, Z6.out, O6.out⟩, by have := HJ1.out; simp [intOf] <;> omega⟩
  ·obtain rfl : j = n := by omega
   have j1 : ¬ ((j : Int) < (j : Int)) := by omega
   rw [HRND.out] at FR
   obtain ⟨kn9, M9⟩ : ∃ kn9, Hid (MatN W wr D g 6 s [x] A cap gp Ds kn9 (.slice (some ⟨tg, 0, none⟩) j j)) := ⟨kn', MR⟩
   go_wp2_with (first
    | ((with_reducible refine atDst 25 ?_); refine wpList_ldArr rfl 26 _ rfl w.heap.size rfl 26 _ _ FR.out Tryz.underlying26 rfl (size_set _) ?_; (try simp only [Act.put, qA, qB, qC]))
    | ((with_reducible refine atStore 26 4 25 ?_); refine wpList_stBlk rfl 26 _ _ rfl w1.heap.size (wds res) rfl rfl 26 _ ZR.out (size_set _) rfl (wds_all _) (Below.refl w1.heap.size wr) (Nat.le_refl _) ?_; intro w11 hk11 hb11 hs11 ho11; have L11 := qH hk11; have O11 := qH ho11; have P11 := qH (Off.put (D := fun k => k = w1.heap.size) hb11 ho11 (.inr rfl)); clear hk11 hb11 hs11 ho11; (try simp only [Act.put, qA, qB, qC])))
   refine bodyPost_ret (results_blk rfl _ _ w1.heap.size 26 _ _ rfl L11.out Tryz.underlying26 rfl (size_set _)) rfl ?_
   have OF := qH (show Off D w w11 from ⟨P11.out.os.trans OR.out.os, P11.out.tape.trans OR.out.tape, P11.out.output.trans OR.out.output, Nat.le_trans OR.out.size P11.out.size, fun k hk hn => (P11.out.block k (Nat.lt_of_lt_of_le hk OR.out.size) (fun e => by have h1 := F1.out.lt; omega)).trans (OR.out.block k hk hn)⟩)
   have MF := qH (M9.out.stay (w' := w11) fun k hk => O11.out k (HG4.out k hk))
   exact ⟨rfl, MF.out.mat, OF.out⟩
set_option maxHeartbeats 4000000 in
set_option maxRecDepth 1000000 in
theorem lRounds0_any (W : List UInt8) (s : Nat → Bool) (l : List T) (hl : l.length ≠ 1) {D : Nat → Prop} {g : Nat} {A : Option Addr} {cap : Nat} {gp : Nat → Nat} {Ds : Nat → Nat → Prop} {kn : Nat → Bool} {tb : Value} (w : World)
  (hm : MatN W w D g 6 s l A cap gp Ds kn tb) (hsz : ∀ k, D k → k < w.heap.size) (f : Nat → Bool) (hf : ∀ q, f q = true → q ≤ W.length) :
  Calls Tryz.prog 53 #[.pointer (some ⟨g, 0, none⟩), .agg (wds f).toArray] w fun e w' => e = .returned (.agg (wds (endsB (Lg (.node 6 s l)) W f)).toArray) ∧ Mat W w' D g (.node 6 s l) ∧ Off D w w' := by
 have HSZ := qH hsz
 obtain rfl := hm.hn fun h => hl h.2
 have M0 := qH hm
 obtain ⟨i0, hi0, hz0⟩ := info_set
 obtain ⟨zs, hzs⟩ : ∃ z : Nat → Bool, z = fun _ => false := ⟨_, rfl⟩
 rw [← hzs] at hz0
 rw [ends_star0 s l W f hf hl]
 have HL := qH hl
 clear hsz hm hf hzs hl
 go_enter Tryz.func53, Tryz.ntmps53
 go_wp2_with (first
  | ((with_reducible refine atDst 3 ?_); refine wpList_box rfl 26 _ rfl (wds f) rfl (Below.refl w.heap.size w) (Nat.le_refl _) ?_; intro w1 hk1 hb1 hs1 ho1; have F1 := qH hk1; have B1 := qH hb1; clear hk1 hb1 hs1 ho1; (try simp only [Act.put, qA, qB, qC]))
  | ((with_reducible refine atDst 4 ?_); refine wpList_new rfl 26 rfl i0 _ (wds zs) hi0 hz0 rfl B1.out B1.out.size ?_; intro w2 hk1 hb1 hs1 ho1; have Z2 := qH hk1; have B2 := qH hb1; have F2 := qH (show Blk w2 w.heap.size 26 (wds f) from (ho1 _ F1.out.lt).trans F1.out); have M2 := qH (M0.out.stay (w' := w2) fun k hk => hb1.block k (HSZ.out k hk)); have c10 := (mcl_at M2.out.blk).2.2.1; have c0 := (mcl_at M2.out.blk).1; have c5 := (mcl_at M2.out.blk).2.1; have O2 := qH (Off.new D hb1); have HG3 := qH (fun k hk => Nat.ne_of_lt (HSZ.out k hk)); have HG4 := qH (fun k hk => Nat.ne_of_lt (Nat.lt_trans (HSZ.out k hk) F1.out.lt)); have HGG := qH (Nat.ne_of_lt F1.out.lt); clear hk1 hb1 hs1 ho1; (try simp only [Act.put, qA, qB, qC]))
  )
 go_loopw [11] (fun i wl => i = .int .i64 0 ∧ wl = w2) (fun i _ => 1)
 case atStart => exact ⟨by simp, rfl⟩
 case round =>
  obtain ⟨rfl, hwl⟩ := hrel
  have MR := qH (show MatN W wr D g 6 s l A cap gp Ds kn (.slice none 0 0) by rw [hwl]; exact M2.out)
  have FR := qH (show Blk wr w.heap.size 26 (wds f) by rw [hwl]; exact F2.out)
  have ZR := qH (show Blk wr w1.heap.size 26 (wds zs) by rw [hwl]; exact Z2.out)
  have OR := qH (show Off D w wr by rw [hwl]; exact O2.out)
  clear hwl
  go_wp2_with (first
   | ((with_reducible refine atDst 25 ?_); refine wpList_ldArr rfl 26 _ rfl w.heap.size rfl 26 _ _ FR.out Tryz.underlying26 rfl (size_set _) ?_; (try simp only [Act.put, qA, qB, qC]))
   | ((with_reducible refine atStore 26 4 25 ?_); refine wpList_stBlk rfl 26 _ _ rfl w1.heap.size (wds f) rfl rfl 26 _ ZR.out (size_set _) rfl (wds_all _) (Below.refl w1.heap.size wr) (Nat.le_refl _) ?_; intro w11 hk11 hb11 hs11 ho11; have L11 := qH hk11; have O11 := qH ho11; have P11 := qH (Off.put (D := fun k => k = w1.heap.size) hb11 ho11 (.inr rfl)); clear hk11 hb11 hs11 ho11; (try simp only [Act.put, qA, qB, qC])))
  refine bodyPost_ret (results_blk rfl _ _ w1.heap.size 26 _ _ rfl L11.out Tryz.underlying26 rfl (size_set _)) rfl ?_
  have OF := qH (show Off D w w11 from ⟨P11.out.os.trans OR.out.os, P11.out.tape.trans OR.out.tape, P11.out.output.trans OR.out.output, Nat.le_trans OR.out.size P11.out.size, fun k hk hn => (P11.out.block k (Nat.lt_of_lt_of_le hk OR.out.size) (fun e => by have h1 := F1.out.lt; omega)).trans (OR.out.block k hk hn)⟩)
  have MF := qH (MR.out.stay (w' := w11) fun k hk => O11.out k (HG4.out k hk))
  exact ⟨rfl, MF.out.mat, OF.out⟩
theorem lRounds_any (N : Nat) (ih : EndsC N) (W : List UInt8) (hW : W.length ≤ 200) (s : Nat → Bool) (l : List T) (hx : ∀ x ∈ l, x.nodes ≤ N) {D : Nat → Prop} {g : Nat} (w : World)
  (hm : Mat W w D g (.node 6 s l)) (hsz : ∀ k, D k → k < w.heap.size) (f : Nat → Bool) (hf : ∀ q, f q = true → q ≤ W.length) :
  Calls Tryz.prog 53 #[.pointer (some ⟨g, 0, none⟩), .agg (wds f).toArray] w fun e w' => e = .returned (.agg (wds (endsB (Lg (.node 6 s l)) W f)).toArray) ∧ Mat W w' D g (.node 6 s l) ∧ Off D w w' := by
 obtain ⟨A, cap, gp, Ds, kn, tb, hm⟩ := hm.opened
 by_cases hl : l.length = 1
 ·match l, hl with
  | [x], _ => exact lRounds1_any N ih W hW s x (hx x (by simp)) w hm hsz f hf
 ·exact lRounds0_any W s l hl w hm hsz f hf
/-! ### ends -/
-- a part's answer: $1 world, $2 MatN there, $3 sizes, $4 set asked, $5 that it lies within
set_option maxHeartbeats 8000000 in
set_option maxRecDepth 1000000 in
theorem lEnds_any : ∀ N : Nat, EndsC N := by
 intro N
 induction N with
 | zero => intro t h; have := nodes_pos t; omega
 | succ N ih =>
  rintro ⟨k, s, l⟩ hN W hW D g w hm hsz f hf
  have IH := qH ih
  clear ih
  have HNN := qH (show T.nodes (.node k s l) = 1 + nodesL l by simp only [T.nodes])
  rw [HNN.out] at hN
  have HN := qH hN
  have HW := qH hW
  have HSZ := qH hsz
  have HF := qH hf
  have HM := qH hm
  obtain ⟨A, cap, gp, Ds, kn, tb, hm⟩ := hm.opened
  have M0 := qH hm
  obtain ⟨i0, hi0, hz0⟩ := info_set
  obtain ⟨zs, hzs⟩ : ∃ z : Nat → Bool, z = fun _ => false := ⟨_, rfl⟩
  have HZS := qH hzs
  rw [← hzs] at hz0
  obtain ⟨res, hres⟩ : ∃ res, res = endsB (Lg (.node k s l)) W f := ⟨_, rfl⟩
  have HRES := qH hres
  rw [← hres]
  clear hN hW hsz hf hm hzs hres
  by_cases k2 : k = 2
  ·have HR := qH (show res = f by rw [HRES.out]; exact ends_two2 f W HF.out k2)
   subst k2
   go_enter Tryz.func32, Tryz.ntmps32
   go_wp2_with (first
    | ((with_reducible refine atDst 3 ?_); refine wpList_box rfl 26 _ rfl (wds f) rfl (Below.refl w.heap.size w) (Nat.le_refl _) ?_; intro w1 hk1 hb1 hs1 ho1; have F1 := qH hk1; have B1 := qH hb1; clear hk1 hb1 hs1 ho1; (try simp only [Act.put, qA, qB, qC]))
    | ((with_reducible refine atDst 4 ?_); refine wpList_new rfl 26 rfl i0 _ (wds zs) hi0 hz0 rfl B1.out B1.out.size ?_; intro w2 hk1 hb1 hs1 ho1; have Z2 := qH hk1; have B2 := qH hb1; have F2 := qH (show Blk w2 w.heap.size 26 (wds f) from (ho1 _ F1.out.lt).trans F1.out); have M2 := qH (M0.out.stay (w' := w2) fun k hk => hb1.block k (HSZ.out k hk)); have c10 := (mcl_at M2.out.blk).2.2.1; have c0 := (mcl_at M2.out.blk).1; have c5 := (mcl_at M2.out.blk).2.1; have O2 := qH (Off.new D hb1); have HG3 := qH (fun k hk => Nat.ne_of_lt (HSZ.out k hk)); have HG4 := qH (fun k hk => Nat.ne_of_lt (Nat.lt_trans (HSZ.out k hk) F1.out.lt)); have HGG := qH (Nat.ne_of_lt F1.out.lt); clear hk1 hb1 hs1 ho1; (try simp only [Act.put, qA, qB, qC]))
    | ((with_reducible refine atDst 15 ?_); refine wpList_ldArr rfl 26 _ rfl w.heap.size rfl 26 _ _ F2.out Tryz.underlying26 rfl (size_set _) ?_; (try simp only [Act.put, qA, qB, qC]))
    | ((with_reducible refine atStore 26 4 15 ?_); refine wpList_stBlk rfl 26 _ _ rfl w1.heap.size (wds f) rfl rfl 26 _ Z2.out (size_set _) rfl (wds_all _) (Below.refl w1.heap.size w2) (Nat.le_refl _) ?_; intro w11 hk11 hb11 hs11 ho11; have L11 := qH hk11; have O11 := qH ho11; have P11 := qH (Off.put (D := fun k => k = w1.heap.size) hb11 ho11 (.inr rfl)); clear hk11 hb11 hs11 ho11; (try simp only [Act.put, qA, qB, qC])))
   refine bodyPost_ret (results_blk rfl _ _ w1.heap.size 26 _ _ rfl L11.out Tryz.underlying26 rfl (size_set _)) rfl ?_
   have OF := qH (show Off D w w11 from ⟨P11.out.os.trans O2.out.os, P11.out.tape.trans O2.out.tape, P11.out.output.trans O2.out.output, Nat.le_trans O2.out.size P11.out.size, fun k hk hn => (P11.out.block k (Nat.lt_of_lt_of_le hk O2.out.size) (fun e => by have h1 := F1.out.lt; omega)).trans (O2.out.block k hk hn)⟩)
   have MF := qH (M2.out.stay (w' := w11) fun k hk => O11.out k (HG4.out k hk))
   exact ⟨by rw [HR.out], MF.out.mat, OF.out⟩
  have z2 : (k == 2) = false := by simpa using k2
  by_cases k3 : k = 3
  ·have HR := qH (show res = shl fun b => f b && hitP s W b by rw [HRES.out, k3]; exact ends_set3 s l W f)
   subst k3
   obtain ⟨hp, hhp⟩ : ∃ hp, hp = hitP s W := ⟨_, rfl⟩
   have HHP := qH hhp
   rw [← hhp] at HR
   clear hhp
   go_enter Tryz.func32, Tryz.ntmps32
   go_wp2_with (first
    | ((with_reducible refine atDst 3 ?_); refine wpList_box rfl 26 _ rfl (wds f) rfl (Below.refl w.heap.size w) (Nat.le_refl _) ?_; intro w1 hk1 hb1 hs1 ho1; have F1 := qH hk1; have B1 := qH hb1; clear hk1 hb1 hs1 ho1; (try simp only [Act.put, qA, qB, qC]))
    | ((with_reducible refine atDst 4 ?_); refine wpList_new rfl 26 rfl i0 _ (wds zs) hi0 hz0 rfl B1.out B1.out.size ?_; intro w2 hk1 hb1 hs1 ho1; have Z2 := qH hk1; have B2 := qH hb1; have F2 := qH (show Blk w2 w.heap.size 26 (wds f) from (ho1 _ F1.out.lt).trans F1.out); have M2 := qH (M0.out.stay (w' := w2) fun k hk => hb1.block k (HSZ.out k hk)); have c10 := (mcl_at M2.out.blk).2.2.1; have c0 := (mcl_at M2.out.blk).1; have c5 := (mcl_at M2.out.blk).2.1; have O2 := qH (Off.new D hb1); have HG3 := qH (fun k hk => Nat.ne_of_lt (HSZ.out k hk)); have HG4 := qH (fun k hk => Nat.ne_of_lt (Nat.lt_trans (HSZ.out k hk) F1.out.lt)); have HGG := qH (Nat.ne_of_lt F1.out.lt); clear hk1 hb1 hs1 ho1; (try simp only [Act.put, qA, qB, qC]))
    )
   have RH := qH (show w2.rangeAt g 1 (wds hp) by have := (mcl_at M2.out.blk).2.2.2.1; rw [if_pos rfl, ← HHP.out] at this; exact this)
   have HGD := qH M2.out.hD
   have HGL := qH M2.out.blk.lt
   go_wp2_with fail
   refine sg_start (S := fun V => Off (fun k => k = w1.heap.size) w2 V) (by kernel_rfl) (Off.start _ _) (fun wd hwd => ?_)
   have hX : Off (fun k => k = w1.heap.size) w2 wd := by rw [hwd]; exact Off.start _ _
   have ZD := qH (show Blk wd w1.heap.size 26 (wds zs) by rw [hwd]; exact Z2.out)
   clear hwd
   refine sg_take (i := 0) (oi := ⟨some 18, _, _, _, _, _⟩) (v := .agg (wds f).toArray) rfl (by kernel_rfl) (by kernel_rfl) (by kernel_rfl) (fun _ _ _ h => h) rfl hX (fun V hV => ld_keep 26 _ rfl w.heap.size 0 rfl _ _ (fun i v hv => (F2.out.cell (0 + i)).trans (by rw [Nat.zero_add]; exact hv)) (hV.block _ F2.out.lt (fun h => HGG.out h)) Tryz.underlying26 rfl (size_set f)) ?_; simp only [Act.put, qA, qB, qC]
   refine sg_take (i := 1) (oi := ⟨some 19, _, _, _, _, _⟩) (v := ?_) rfl (by kernel_rfl) (by kernel_rfl) (by kernel_rfl) (fun _ _ _ h => h) rfl hX ?_ ?_; rotate_left; (intro W hW; go_simp; try with_reducible rfl); simp only [Act.put, qA, qB, qC]
   refine sg_take (i := 2) (oi := ⟨some 20, _, _, _, _, _⟩) (v := ?_) rfl (by kernel_rfl) (by kernel_rfl) (by kernel_rfl) (fun _ _ _ h => h) rfl hX ?_ ?_; rotate_left; (intro W hW; go_simp; try with_reducible rfl); simp only [Act.put, qA, qB, qC]
   refine sg_take (i := 3) (oi := ⟨some 21, _, _, _, _, _⟩) (v := ?_) rfl (by kernel_rfl) (by kernel_rfl) (by kernel_rfl) (fun _ _ _ h => h) rfl hX ?_ ?_; rotate_left; (intro W hW; go_simp; try with_reducible rfl); simp only [Act.put, qA, qB, qC]
   refine sg_take (i := 4) (oi := ⟨some 22, _, _, _, _, _⟩) (v := .agg (wds hp).toArray) rfl (by kernel_rfl) (by kernel_rfl) (by kernel_rfl) (fun _ _ _ h => h) rfl hX (fun V hV => ld_keep 26 _ rfl g 1 rfl _ _ RH.out (hV.block _ HGL.out (fun h => HG4.out _ HGD.out h)) Tryz.underlying26 rfl (size_set hp)) ?_; simp only [Act.put, qA, qB, qC]
   refine sg_actB (i := 5) (o := ⟨some 23, _, _, _, _, _⟩) rfl (by kernel_rfl) rfl hX (fun K hK => ?_)
   go_wp2_with fail
   refine (bsAnd_any f hp wd).mono ?_
   rintro e w5 ⟨rfl, hb5⟩
   go_wp2_with fail
   refine hK _ _ (hX.then hb5) ?_
   clear hK K
   (try simp only [Act.put, qA, qB, qC])
   replace hX := hX.then hb5
   have Z5 := qH (ZD.out.below hb5 ZD.out.lt)
   clear hb5
   refine sg_actB (i := 6) (o := ⟨some 24, _, _, _, _, _⟩) rfl (by kernel_rfl) rfl hX (fun K hK => ?_)
   go_wp2_with fail
   refine (lBehind_any (fun b => f b && hp b) w5).mono ?_
   rintro e w6 ⟨rfl, hb6⟩
   rw [← HR.out]
   go_wp2_with fail
   refine hK _ _ (hX.then hb6) ?_
   clear hK K
   (try simp only [Act.put, qA, qB, qC])
   replace hX := hX.then hb6
   have Z6 := qH (Z5.out.below hb6 Z5.out.lt)
   clear hb6
   refine sg_actB (i := 7) (o := ⟨none, _, _, _, _, _⟩) rfl (by kernel_rfl) rfl hX (fun K hK => ?_)
   refine wp_stBlk 26 _ _ rfl w1.heap.size (wds res) rfl rfl 26 _ Z6.out (size_set _) rfl (wds_all _) (Below.refl w1.heap.size w6) (Nat.le_refl _) ?_
   intro w11 hk11 hb11 hs11 ho11 _
   have hX9 := hX.trans (Off.put (D := fun k => k = w1.heap.size) hb11 ho11 (.inr rfl))
   refine hK _ _ hX9 ?_
   clear hK K
   refine wpAnyH_done (by kernel_rfl) ?_ _
   have L11 := qH hk11
   have P11 := qH hX9
   clear hX hX9 hk11 hb11 hs11 ho11
   go_wp2_with fail
   refine bodyPost_ret (results_blk rfl _ _ w1.heap.size 26 _ _ rfl L11.out Tryz.underlying26 rfl (size_set _)) rfl ?_
   have OF := qH (show Off D w w11 from ⟨P11.out.os.trans O2.out.os, P11.out.tape.trans O2.out.tape, P11.out.output.trans O2.out.output, Nat.le_trans O2.out.size P11.out.size, fun k hk hn => (P11.out.block k (Nat.lt_of_lt_of_le hk O2.out.size) (fun e => by have h1 := F1.out.lt; omega)).trans (O2.out.block k hk hn)⟩)
   have MF := qH (M2.out.stay (w' := w11) fun k hk => P11.out.block k (Nat.lt_of_lt_of_le (HSZ.out k hk) O2.out.size) (HG4.out k hk))
   exact ⟨rfl, MF.out.mat, OF.out⟩
  have z3 : (k == 3) = false := by simpa using k3
  by_cases k4 : k = 4
  ·have HR := qH (show res = endsB (LgC (l.take l.length)) W f by rw [HRES.out, k4]; exact ends_cat4 s l W f)
   subst k4
   have HF0 := qH (ends_cat0 W f HF.out l)
   go_enter Tryz.func32, Tryz.ntmps32
   go_wp2_with (first
    | ((with_reducible refine atDst 3 ?_); refine wpList_box rfl 26 _ rfl (wds f) rfl (Below.refl w.heap.size w) (Nat.le_refl _) ?_; intro w1 hk1 hb1 hs1 ho1; have F1 := qH hk1; have B1 := qH hb1; clear hk1 hb1 hs1 ho1; (try simp only [Act.put, qA, qB, qC]))
    | ((with_reducible refine atDst 4 ?_); refine wpList_new rfl 26 rfl i0 _ (wds zs) hi0 hz0 rfl B1.out B1.out.size ?_; intro w2 hk1 hb1 hs1 ho1; have Z2 := qH hk1; have B2 := qH hb1; have F2 := qH (show Blk w2 w.heap.size 26 (wds f) from (ho1 _ F1.out.lt).trans F1.out); have M2 := qH (M0.out.stay (w' := w2) fun k hk => hb1.block k (HSZ.out k hk)); have c10 := (mcl_at M2.out.blk).2.2.1; have c0 := (mcl_at M2.out.blk).1; have c5 := (mcl_at M2.out.blk).2.1; have O2 := qH (Off.new D hb1); have HG3 := qH (fun k hk => Nat.ne_of_lt (HSZ.out k hk)); have HG4 := qH (fun k hk => Nat.ne_of_lt (Nat.lt_trans (HSZ.out k hk) F1.out.lt)); have HGG := qH (Nat.ne_of_lt F1.out.lt); clear hk1 hb1 hs1 ho1; (try simp only [Act.put, qA, qB, qC]))
    )
   go_loopw [32] (fun i wl => ∃ j : Nat, j ≤ l.length ∧ i = .int .i64 (j : Int) ∧ (∃ kn', MatN W wl D g 4 s l A cap gp Ds kn' tb) ∧ Blk wl w.heap.size 26 (wds (endsB (LgC (l.take j)) W f)) ∧ Blk wl w1.heap.size 26 (wds zs) ∧ Off D w wl) (fun i _ => l.length - (intOf i).toNat)
   case atStart => exact ⟨0, by omega, by simp, ⟨_, M2.out⟩, by rw [HF0.out]; exact F2.out, Z2.out, O2.out⟩
   case round =>
    obtain ⟨j, hj, rfl, ⟨kn', hm⟩, hF, hZ, hO⟩ := hrel
    have MR := qH hm
    have FR := qH hF
    have ZR := qH hZ
    have OR := qH hO
    clear hm hF hZ hO
    by_cases hjl : j < l.length
    ·have j1 : (j : Int) < (l.length : Int) := Int.ofNat_lt.2 hjl
     obtain ⟨u, hu⟩ : ∃ u, l[j]? = some u := ⟨_, List.getElem?_eq_getElem hjl⟩
     obtain ⟨b, off, hAA, _, _, _, hcell⟩ := MR.out.h3 (by rintro rfl; simp at hjl)
     subst hAA
     have cj := hcell j hjl
     have HU := qH hu
     have HUN := qH (show u.nodes ≤ N by have h1 := nodes_mem (List.mem_of_getElem? hu); have := HN.out; omega)
     have HJ1 := qH hjl
     have e3 := wrap_len hjl M0.out.h1 M0.out.h2
     have e4 := wrap_len' hjl M0.out.h1 M0.out.h2
     have LTR := qH (fun k (hk : D k) => Nat.lt_of_lt_of_le (HSZ.out k hk) OR.out.size)
     clear hcell hu hj hjl
     obtain ⟨cur, hcur⟩ : ∃ cur, cur = endsB (LgC (l.take j)) W f := ⟨_, rfl⟩
     have HCL := qH (show ∀ q, cur q = true → q ≤ W.length from fun q h => by rw [hcur] at h; exact ends_le h)
     have HNX := qH (show endsB (LgC (l.take (j + 1))) W f = endsB (Lg u) W cur by rw [hcur]; exact ends_catJ HU.out W f)
     rw [← hcur] at FR
     clear hcur
     go_wp2_with ((with_reducible refine atDst 37 ?_); refine wpList_ldArr rfl 26 _ rfl w.heap.size rfl 26 _ _ FR.out Tryz.underlying26 rfl (size_set _) ?_; (try simp only [Act.put, qA, qB, qC]))
     refine (IH.out u HUN.out W HW.out (Ds j) (gp j) wr (MR.out.hc j u HU.out) (fun k hk => LTR.out k (MR.out.hs j k hk)) cur HCL.out).mono ?_
     rintro e w4 ⟨rfl, hm4, ho4⟩
     have M4 := qH (MR.out.part LTR.out HU.out ho4 hm4)
     have HDJ := qH (fun k (hk : Ds j k) => MR.out.hs j k hk)
     have F4 := qH (ho4.blk (fun h => HG3.out _ (HDJ.out _ h) rfl) FR.out)
     have Z4 := qH (ho4.blk (fun h => HG4.out _ (HDJ.out _ h) rfl) ZR.out)
     have O4 := qH (OR.out.trans (ho4.mono (D' := D) fun k _ h => HDJ.out k h))
     clear ho4 hm4
     go_wp2_with ((with_reducible refine atStore 26 3 38 ?_); refine wpList_stBlk rfl 26 _ _ rfl w.heap.size (wds (endsB (Lg u) W cur)) rfl rfl 26 _ F4.out (size_set _) rfl (wds_all _) (Below.refl w.heap.size w4) (Nat.le_refl _) ?_; intro w5 hk5 hb5 hs5 ho5; have F5 := qH hk5; have M5 := qH (M4.out.stay (w' := w5) fun k hk => ho5 k (HG3.out k hk)); have Z5 := qH (show Blk w5 w1.heap.size 26 (wds zs) from (ho5 _ (Ne.symm HGG.out)).trans Z4.out); have P5 := qH (Off.put (D := fun k => k = w.heap.size) hb5 ho5 (.inr rfl)); clear hk5 hb5 hs5 ho5; (try simp only [Act.put, qA, qB, qC]))
     have O5 := qH (show Off D w w5 from ⟨P5.out.os.trans O4.out.os, P5.out.tape.trans O4.out.tape, P5.out.output.trans O4.out.output, Nat.le_trans O4.out.size P5.out.size, fun k hk hn => (P5.out.block k (Nat.lt_of_lt_of_le hk O4.out.size) (by omega)).trans (O4.out.block k hk hn)⟩)
     exact ⟨⟨j + 1, HJ1.out, by congr 1, ⟨_, M5.out⟩, by rw [HNX.out]; exact F5.out, Z5.out, O5.out⟩, by have := HJ1.out; simp [intOf] <;> omega⟩
    ·obtain rfl : j = l.length := by omega
     have j1 : ¬ ((l.length : Int) < (l.length : Int)) := by omega
     rw [← HR.out] at FR
     go_wp2_with (first
      | ((with_reducible refine atDst 40 ?_); refine wpList_ldArr rfl 26 _ rfl w.heap.size rfl 26 _ _ FR.out Tryz.underlying26 rfl (size_set _) ?_; (try simp only [Act.put, qA, qB, qC]))
      | ((with_reducible refine atStore 26 4 40 ?_); refine wpList_stBlk rfl 26 _ _ rfl w1.heap.size (wds res) rfl rfl 26 _ ZR.out (size_set _) rfl (wds_all _) (Below.refl w1.heap.size wr) (Nat.le_refl _) ?_; intro w11 hk11 hb11 hs11 ho11; have L11 := qH hk11; have O11 := qH ho11; have P11 := qH (Off.put (D := fun k => k = w1.heap.size) hb11 ho11 (.inr rfl)); clear hk11 hb11 hs11 ho11; (try simp only [Act.put, qA, qB, qC])))
     refine bodyPost_ret (results_blk rfl _ _ w1.heap.size 26 _ _ rfl L11.out Tryz.underlying26 rfl (size_set _)) rfl ?_
     have OF := qH (show Off D w w11 from ⟨P11.out.os.trans OR.out.os, P11.out.tape.trans OR.out.tape, P11.out.output.trans OR.out.output, Nat.le_trans OR.out.size P11.out.size, fun k hk hn => (P11.out.block k (Nat.lt_of_lt_of_le hk OR.out.size) (fun e => by have h1 := F1.out.lt; omega)).trans (OR.out.block k hk hn)⟩)
     have MF := qH (MR.out.stay (w' := w11) fun k hk => O11.out k (HG4.out k hk))
     exact ⟨rfl, MF.out.mat, OF.out⟩
  have z4 : (k == 4) = false := by simpa using k4
  by_cases k5 : k = 5
  ·have HR := qH (show res = endsB (LgA (l.take l.length)) W f by rw [HRES.out, k5]; exact ends_alt5 s l W f)
   subst k5
   have HF0 := qH (ends_alt0 W f l)
   go_enter Tryz.func32, Tryz.ntmps32
   go_wp2_with (first
    | ((with_reducible refine atDst 3 ?_); refine wpList_box rfl 26 _ rfl (wds f) rfl (Below.refl w.heap.size w) (Nat.le_refl _) ?_; intro w1 hk1 hb1 hs1 ho1; have F1 := qH hk1; have B1 := qH hb1; clear hk1 hb1 hs1 ho1; (try simp only [Act.put, qA, qB, qC]))
    | ((with_reducible refine atDst 4 ?_); refine wpList_new rfl 26 rfl i0 _ (wds zs) hi0 hz0 rfl B1.out B1.out.size ?_; intro w2 hk1 hb1 hs1 ho1; have Z2 := qH hk1; have B2 := qH hb1; have F2 := qH (show Blk w2 w.heap.size 26 (wds f) from (ho1 _ F1.out.lt).trans F1.out); have M2 := qH (M0.out.stay (w' := w2) fun k hk => hb1.block k (HSZ.out k hk)); have c10 := (mcl_at M2.out.blk).2.2.1; have c0 := (mcl_at M2.out.blk).1; have c5 := (mcl_at M2.out.blk).2.1; have O2 := qH (Off.new D hb1); have HG3 := qH (fun k hk => Nat.ne_of_lt (HSZ.out k hk)); have HG4 := qH (fun k hk => Nat.ne_of_lt (Nat.lt_trans (HSZ.out k hk) F1.out.lt)); have HGG := qH (Nat.ne_of_lt F1.out.lt); clear hk1 hb1 hs1 ho1; (try simp only [Act.put, qA, qB, qC]))
    )
   go_loopw [48] (fun i wl => ∃ j : Nat, j ≤ l.length ∧ i = .int .i64 (j : Int) ∧ (∃ kn', MatN W wl D g 5 s l A cap gp Ds kn' tb) ∧ Blk wl w.heap.size 26 (wds f) ∧ Blk wl w1.heap.size 26 (wds (endsB (LgA (l.take j)) W f)) ∧ Off D w wl) (fun i _ => l.length - (intOf i).toNat)
   case atStart => exact ⟨0, by omega, by simp, ⟨_, M2.out⟩, F2.out, by rw [HF0.out, ← HZS.out]; exact Z2.out, O2.out⟩
   case round =>
    obtain ⟨j, hj, rfl, ⟨kn', hm⟩, hF, hZ, hO⟩ := hrel
    have MR := qH hm
    have FR := qH hF
    have ZR := qH hZ
    have OR := qH hO
    clear hm hF hZ hO
    by_cases hjl : j < l.length
    ·have j1 : (j : Int) < (l.length : Int) := Int.ofNat_lt.2 hjl
     obtain ⟨u, hu⟩ : ∃ u, l[j]? = some u := ⟨_, List.getElem?_eq_getElem hjl⟩
     obtain ⟨b, off, hAA, _, _, _, hcell⟩ := MR.out.h3 (by rintro rfl; simp at hjl)
     subst hAA
     have cj := hcell j hjl
     have HU := qH hu
     have HUN := qH (show u.nodes ≤ N by have h1 := nodes_mem (List.mem_of_getElem? hu); have := HN.out; omega)
     have HJ1 := qH hjl
     have e3 := wrap_len hjl M0.out.h1 M0.out.h2
     have e4 := wrap_len' hjl M0.out.h1 M0.out.h2
     have LTR := qH (fun k (hk : D k) => Nat.lt_of_lt_of_le (HSZ.out k hk) OR.out.size)
     clear hcell hu hj hjl
     obtain ⟨cur, hcur⟩ : ∃ cur, cur = endsB (LgA (l.take j)) W f := ⟨_, rfl⟩
     have HNX := qH (show endsB (LgA (l.take (j + 1))) W f = fun p => cur p || endsB (Lg u) W f p by rw [hcur]; exact ends_altJ HU.out W f)
     rw [← hcur] at ZR
     clear hcur
     go_wp2_with fail
     refine sg_start (S := fun V => Off (fun k => D k ∨ k = w1.heap.size) wr V) (by kernel_rfl) (Off.start _ _) (fun wd hwd => ?_)
     have hX : Off (fun k => D k ∨ k = w1.heap.size) wr wd := by rw [hwd]; exact Off.start _ _
     have ZD := qH (show Blk wd w1.heap.size 26 (wds cur) by rw [hwd]; exact ZR.out)
     have MD := qH (show MatN W wd D g 5 s l (some ⟨b, off, none⟩) cap gp Ds kn' tb from MR.out.stay fun k hk => by rw [hwd]; rfl)
     have LTD := qH (fun k (hk : D k) => show k < wd.heap.size from Nat.lt_of_lt_of_le (LTR.out k hk) hX.size)
     clear hwd
     refine sg_take (i := 1) (oi := ⟨some 53, _, _, _, _, _⟩) (v := ?_) rfl (by kernel_rfl) (by kernel_rfl) (by kernel_rfl) (fun _ _ _ h => h) rfl hX ?_ ?_; rotate_left; (intro W hW; go_simp; try with_reducible rfl); simp only [Act.put, qA, qB, qC]
     refine sg_take (i := 2) (oi := ⟨some 54, _, _, _, _, _⟩) (v := .agg (wds f).toArray) rfl (by kernel_rfl) (by kernel_rfl) (by kernel_rfl) (fun _ _ _ h => h) rfl hX (fun V hV => ld_keep 26 _ rfl w.heap.size 0 rfl _ _ (fun i v hv => (FR.out.cell (0 + i)).trans (by rw [Nat.zero_add]; exact hv)) (hV.block _ FR.out.lt (by rintro (h | h); exact HG3.out _ h rfl; exact HGG.out h)) Tryz.underlying26 rfl (size_set f)) ?_; simp only [Act.put, qA, qB, qC]
     refine sg_two (i := 0) (j := 3) (oi := ⟨some 52, _, _, _, _, _⟩) (oj := ⟨some 55, _, _, _, _, _⟩) rfl rfl (by kernel_rfl) rfl rfl hX (fun K hK => ?_) (fun K hK => ?_)
     ·refine wp_load_row 26 _ rfl w1.heap.size rfl 26 (wds cur).toArray (0, 0) _ ZD.out Tryz.underlying26 rfl (by simpa using size_set cur) ?_
      refine hK _ _ hX ?_
      clear hK K
      (try simp only [Act.put, qA, qB, qC])
      refine sg_actB (i := 3) (o := ⟨some 55, _, _, _, _, _⟩) rfl (by kernel_rfl) rfl hX (fun K hK => ?_)
      go_wp2_with fail
      refine (IH.out u HUN.out W HW.out (Ds j) (gp j) wd (MD.out.hc j u HU.out) (fun k hk => LTD.out k (MD.out.hs j k hk)) f HF.out).mono ?_
      rintro e w4 ⟨rfl, hm4, ho4⟩
      have M4 := qH (MD.out.part LTD.out HU.out ho4 hm4)
      have HDJ := qH (fun k (hk : Ds j k) => MD.out.hs j k hk)
      go_wp2_with fail
      refine hK _ _ (hX.trans (ho4.mono fun k _ h => (.inl (HDJ.out _ h)))) ?_
      clear hK K
      (try simp only [Act.put, qA, qB, qC])
      replace hX := hX.trans (ho4.mono fun k _ h => (.inl (HDJ.out _ h)))
      have Z4 := qH (ho4.blk (fun h => HG4.out _ (HDJ.out _ h) rfl) ZD.out)
      have LT4 := qH (fun k (hk : D k) => Nat.lt_of_lt_of_le (LTD.out k hk) ho4.size)
      refine sg_actB (i := 4) (o := ⟨some 56, _, _, _, _, _⟩) rfl (by kernel_rfl) rfl hX (fun K hK => ?_)
      go_wp2_with fail
      refine (bsOr_any cur (endsB (Lg u) W f) w4).mono ?_
      rintro e w5 ⟨rfl, hb5⟩
      go_wp2_with fail
      refine hK _ _ (hX.then hb5) ?_
      clear hK K
      (try simp only [Act.put, qA, qB, qC])
      replace hX := hX.then hb5
      have Z5 := qH (Z4.out.below hb5 Z4.out.lt)
      have M5 := qH (M4.out.stay (w' := w5) fun k hk => hb5.block k (LT4.out k hk))
      refine sg_actB (i := 5) (o := ⟨none, _, _, _, _, _⟩) rfl (by kernel_rfl) rfl hX (fun K hK => ?_)
      refine wp_stBlk 26 _ _ rfl w1.heap.size (wds fun p => cur p || endsB (Lg u) W f p) rfl rfl 26 _ Z5.out (size_set _) rfl (wds_all _) (Below.refl w1.heap.size w5) (Nat.le_refl _) ?_
      intro w6 hk6 hb6 hs6 ho6 _
      have hX9 := hX.trans (Off.put (D := fun k => D k ∨ k = w1.heap.size) hb6 ho6 (.inr (.inr rfl)))
      refine hK _ _ hX9 ?_
      clear hK K
      refine wpAnyH_done (by kernel_rfl) ?_ _
      have Z6 := qH hk6
      have M6 := qH (M5.out.stay (w' := w6) fun k hk => ho6 k (HG4.out k hk))
      have F6 := qH (hX9.blk (by rintro (h | h); exact HG3.out _ h rfl; exact HGG.out h) FR.out)
      have O6 := qH (show Off D w w6 from ⟨hX9.os.trans OR.out.os, hX9.tape.trans OR.out.tape, hX9.output.trans OR.out.output, Nat.le_trans OR.out.size hX9.size, fun k hk hn => (hX9.block k (Nat.lt_of_lt_of_le hk OR.out.size) (by rintro (h | h); exact hn h; have h1 := F1.out.lt; omega)).trans (OR.out.block k hk hn)⟩)
      clear hX hX9 hk6 hb6 hs6 ho6 hb5 ho4 hm4
      go_wp2_with fail
      exact ⟨⟨j + 1, HJ1.out, by congr 1, ⟨_, M6.out⟩, F6.out, by rw [HNX.out]; exact Z6.out, O6.out⟩, by have := HJ1.out; simp [intOf] <;> omega⟩
     ·go_wp2_with fail
      refine (IH.out u HUN.out W HW.out (Ds j) (gp j) wd (MD.out.hc j u HU.out) (fun k hk => LTD.out k (MD.out.hs j k hk)) f HF.out).mono ?_
      rintro e w4 ⟨rfl, hm4, ho4⟩
      have M4 := qH (MD.out.part LTD.out HU.out ho4 hm4)
      have HDJ := qH (fun k (hk : Ds j k) => MD.out.hs j k hk)
      go_wp2_with fail
      refine hK _ _ (hX.trans (ho4.mono fun k _ h => (.inl (HDJ.out _ h)))) ?_
      clear hK K
      (try simp only [Act.put, qA, qB, qC])
      replace hX := hX.trans (ho4.mono fun k _ h => (.inl (HDJ.out _ h)))
      have Z4 := qH (ho4.blk (fun h => HG4.out _ (HDJ.out _ h) rfl) ZD.out)
      have LT4 := qH (fun k (hk : D k) => Nat.lt_of_lt_of_le (LTD.out k hk) ho4.size)
      refine sg_actB (i := 0) (o := ⟨some 52, _, _, _, _, _⟩) rfl (by kernel_rfl) rfl hX (fun K hK => ?_)
      refine wp_load_row 26 _ rfl w1.heap.size rfl 26 (wds cur).toArray (0, 0) _ Z4.out Tryz.underlying26 rfl (by simpa using size_set cur) ?_
      refine hK _ _ hX ?_
      clear hK K
      (try simp only [Act.put, qA, qB, qC])
      refine sg_actB (i := 4) (o := ⟨some 56, _, _, _, _, _⟩) rfl (by kernel_rfl) rfl hX (fun K hK => ?_)
      go_wp2_with fail
      refine (bsOr_any cur (endsB (Lg u) W f) w4).mono ?_
      rintro e w5 ⟨rfl, hb5⟩
      go_wp2_with fail
      refine hK _ _ (hX.then hb5) ?_
      clear hK K
      (try simp only [Act.put, qA, qB, qC])
      replace hX := hX.then hb5
      have Z5 := qH (Z4.out.below hb5 Z4.out.lt)
      have M5 := qH (M4.out.stay (w' := w5) fun k hk => hb5.block k (LT4.out k hk))
      refine sg_actB (i := 5) (o := ⟨none, _, _, _, _, _⟩) rfl (by kernel_rfl) rfl hX (fun K hK => ?_)
      refine wp_stBlk 26 _ _ rfl w1.heap.size (wds fun p => cur p || endsB (Lg u) W f p) rfl rfl 26 _ Z5.out (size_set _) rfl (wds_all _) (Below.refl w1.heap.size w5) (Nat.le_refl _) ?_
      intro w6 hk6 hb6 hs6 ho6 _
      have hX9 := hX.trans (Off.put (D := fun k => D k ∨ k = w1.heap.size) hb6 ho6 (.inr (.inr rfl)))
      refine hK _ _ hX9 ?_
      clear hK K
      refine wpAnyH_done (by kernel_rfl) ?_ _
      have Z6 := qH hk6
      have M6 := qH (M5.out.stay (w' := w6) fun k hk => ho6 k (HG4.out k hk))
      have F6 := qH (hX9.blk (by rintro (h | h); exact HG3.out _ h rfl; exact HGG.out h) FR.out)
      have O6 := qH (show Off D w w6 from ⟨hX9.os.trans OR.out.os, hX9.tape.trans OR.out.tape, hX9.output.trans OR.out.output, Nat.le_trans OR.out.size hX9.size, fun k hk hn => (hX9.block k (Nat.lt_of_lt_of_le hk OR.out.size) (by rintro (h | h); exact hn h; have h1 := F1.out.lt; omega)).trans (OR.out.block k hk hn)⟩)
      clear hX hX9 hk6 hb6 hs6 ho6 hb5 ho4 hm4
      go_wp2_with fail
      exact ⟨⟨j + 1, HJ1.out, by congr 1, ⟨_, M6.out⟩, F6.out, by rw [HNX.out]; exact Z6.out, O6.out⟩, by have := HJ1.out; simp [intOf] <;> omega⟩
    ·obtain rfl : j = l.length := by omega
     have j1 : ¬ ((l.length : Int) < (l.length : Int)) := by omega
     rw [← HR.out] at ZR
     go_wp2_with (first
      | ((with_reducible refine atDst 63 ?_); refine wpList_ldArr rfl 26 _ rfl w1.heap.size rfl 26 _ _ ZR.out Tryz.underlying26 rfl (size_set _) ?_; (try simp only [Act.put, qA, qB, qC]))
      | ((with_reducible refine atStore 26 4 63 ?_); refine wpList_stBlk rfl 26 _ _ rfl w1.heap.size (wds res) rfl rfl 26 _ ZR.out (size_set _) rfl (wds_all _) (Below.refl w1.heap.size wr) (Nat.le_refl _) ?_; intro w11 hk11 hb11 hs11 ho11; have L11 := qH hk11; have O11 := qH ho11; have P11 := qH (Off.put (D := fun k => k = w1.heap.size) hb11 ho11 (.inr rfl)); clear hk11 hb11 hs11 ho11; (try simp only [Act.put, qA, qB, qC])))
     refine bodyPost_ret (results_blk rfl _ _ w1.heap.size 26 _ _ rfl L11.out Tryz.underlying26 rfl (size_set _)) rfl ?_
     have OF := qH (show Off D w w11 from ⟨P11.out.os.trans OR.out.os, P11.out.tape.trans OR.out.tape, P11.out.output.trans OR.out.output, Nat.le_trans OR.out.size P11.out.size, fun k hk hn => (P11.out.block k (Nat.lt_of_lt_of_le hk OR.out.size) (fun e => by have h1 := F1.out.lt; omega)).trans (OR.out.block k hk hn)⟩)
     have MF := qH (MR.out.stay (w' := w11) fun k hk => O11.out k (HG4.out k hk))
     exact ⟨rfl, MF.out.mat, OF.out⟩
  have z5 : (k == 5) = false := by simpa using k5
  by_cases k6 : k = 6
  ·subst k6
   go_enter Tryz.func32, Tryz.ntmps32
   go_wp2_with (first
    | ((with_reducible refine atDst 3 ?_); refine wpList_box rfl 26 _ rfl (wds f) rfl (Below.refl w.heap.size w) (Nat.le_refl _) ?_; intro w1 hk1 hb1 hs1 ho1; have F1 := qH hk1; have B1 := qH hb1; clear hk1 hb1 hs1 ho1; (try simp only [Act.put, qA, qB, qC]))
    | ((with_reducible refine atDst 4 ?_); refine wpList_new rfl 26 rfl i0 _ (wds zs) hi0 hz0 rfl B1.out B1.out.size ?_; intro w2 hk1 hb1 hs1 ho1; have Z2 := qH hk1; have B2 := qH hb1; have F2 := qH (show Blk w2 w.heap.size 26 (wds f) from (ho1 _ F1.out.lt).trans F1.out); have M2 := qH (M0.out.stay (w' := w2) fun k hk => hb1.block k (HSZ.out k hk)); have c10 := (mcl_at M2.out.blk).2.2.1; have c0 := (mcl_at M2.out.blk).1; have c5 := (mcl_at M2.out.blk).2.1; have O2 := qH (Off.new D hb1); have HG3 := qH (fun k hk => Nat.ne_of_lt (HSZ.out k hk)); have HG4 := qH (fun k hk => Nat.ne_of_lt (Nat.lt_trans (HSZ.out k hk) F1.out.lt)); have HGG := qH (Nat.ne_of_lt F1.out.lt); clear hk1 hb1 hs1 ho1; (try simp only [Act.put, qA, qB, qC]))
    | ((with_reducible refine atDst 61 ?_); refine wpList_ldArr rfl 26 _ rfl w.heap.size rfl 26 _ _ F2.out Tryz.underlying26 rfl (size_set _) ?_; (try simp only [Act.put, qA, qB, qC])))
   refine (lRounds_any N IH.out W HW.out s l (fun x hx => by have h1 := nodes_mem hx; have := HN.out; omega) w2 M2.out.mat (fun k hk => Nat.lt_of_lt_of_le (HSZ.out k hk) O2.out.size) f HF.out).mono ?_
   rintro e w4 ⟨rfl, hm4, ho4⟩
   rw [← HRES.out]
   have M4 := qH hm4
   have Z4 := qH (ho4.blk (fun h => HG4.out _ h rfl) Z2.out)
   have O4 := qH (O2.out.trans ho4)
   clear hm4 ho4
   go_wp2_with ((with_reducible refine atStore 26 4 62 ?_); refine wpList_stBlk rfl 26 _ _ rfl w1.heap.size (wds res) rfl rfl 26 _ Z4.out (size_set _) rfl (wds_all _) (Below.refl w1.heap.size w4) (Nat.le_refl _) ?_; intro w11 hk11 hb11 hs11 ho11; have L11 := qH hk11; have O11 := qH ho11; have P11 := qH (Off.put (D := fun k => k = w1.heap.size) hb11 ho11 (.inr rfl)); clear hk11 hb11 hs11 ho11; (try simp only [Act.put, qA, qB, qC]))
   refine bodyPost_ret (results_blk rfl _ _ w1.heap.size 26 _ _ rfl L11.out Tryz.underlying26 rfl (size_set _)) rfl ?_
   have OF := qH (show Off D w w11 from ⟨P11.out.os.trans O4.out.os, P11.out.tape.trans O4.out.tape, P11.out.output.trans O4.out.output, Nat.le_trans O4.out.size P11.out.size, fun k hk hn => (P11.out.block k (Nat.lt_of_lt_of_le hk O4.out.size) (fun e => by have h1 := F1.out.lt; omega)).trans (O4.out.block k hk hn)⟩)
   have MF := qH (M4.out.stay (w' := w11) fun k hk => O11.out k (HG4.out k hk))
   exact ⟨rfl, MF.out, OF.out⟩
  have z6 : (k == 6) = false := by simpa using k6
  have HR := qH (show res = zs by rw [HRES.out, HZS.out]; exact ends_other s l W f k2 k3 k4 k5 k6)
  go_enter Tryz.func32, Tryz.ntmps32
  go_wp2_with (first
   | ((with_reducible refine atDst 3 ?_); refine wpList_box rfl 26 _ rfl (wds f) rfl (Below.refl w.heap.size w) (Nat.le_refl _) ?_; intro w1 hk1 hb1 hs1 ho1; have F1 := qH hk1; have B1 := qH hb1; clear hk1 hb1 hs1 ho1; (try simp only [Act.put, qA, qB, qC]))
   | ((with_reducible refine atDst 4 ?_); refine wpList_new rfl 26 rfl i0 _ (wds zs) hi0 hz0 rfl B1.out B1.out.size ?_; intro w2 hk1 hb1 hs1 ho1; have Z2 := qH hk1; have B2 := qH hb1; have F2 := qH (show Blk w2 w.heap.size 26 (wds f) from (ho1 _ F1.out.lt).trans F1.out); have M2 := qH (M0.out.stay (w' := w2) fun k hk => hb1.block k (HSZ.out k hk)); have c10 := (mcl_at M2.out.blk).2.2.1; have c0 := (mcl_at M2.out.blk).1; have c5 := (mcl_at M2.out.blk).2.1; have O2 := qH (Off.new D hb1); have HG3 := qH (fun k hk => Nat.ne_of_lt (HSZ.out k hk)); have HG4 := qH (fun k hk => Nat.ne_of_lt (Nat.lt_trans (HSZ.out k hk) F1.out.lt)); have HGG := qH (Nat.ne_of_lt F1.out.lt); clear hk1 hb1 hs1 ho1; (try simp only [Act.put, qA, qB, qC]))
   | ((with_reducible refine atDst 63 ?_); refine wpList_ldArr rfl 26 _ rfl w1.heap.size rfl 26 _ _ Z2.out Tryz.underlying26 rfl (size_set _) ?_; (try simp only [Act.put, qA, qB, qC]))
   | ((with_reducible refine atStore 26 4 63 ?_); refine wpList_stBlk rfl 26 _ _ rfl w1.heap.size (wds zs) rfl rfl 26 _ Z2.out (size_set _) rfl (wds_all _) (Below.refl w1.heap.size w2) (Nat.le_refl _) ?_; intro w11 hk11 hb11 hs11 ho11; have L11 := qH hk11; have O11 := qH ho11; have P11 := qH (Off.put (D := fun k => k = w1.heap.size) hb11 ho11 (.inr rfl)); clear hk11 hb11 hs11 ho11; (try simp only [Act.put, qA, qB, qC])))
  refine bodyPost_ret (results_blk rfl _ _ w1.heap.size 26 _ _ rfl L11.out Tryz.underlying26 rfl (size_set _)) rfl ?_
  have OF := qH (show Off D w w11 from ⟨P11.out.os.trans O2.out.os, P11.out.tape.trans O2.out.tape, P11.out.output.trans O2.out.output, Nat.le_trans O2.out.size P11.out.size, fun k hk hn => (P11.out.block k (Nat.lt_of_lt_of_le hk O2.out.size) (fun e => by have h1 := F1.out.lt; omega)).trans (O2.out.block k hk hn)⟩)
  have MF := qH (M2.out.stay (w' := w11) fun k hk => O11.out k (HG4.out k hk))
  exact ⟨by rw [HR.out], MF.out.mat, OF.out⟩
end Go.Proofs.YtopnpdobcagcgaaGreat
