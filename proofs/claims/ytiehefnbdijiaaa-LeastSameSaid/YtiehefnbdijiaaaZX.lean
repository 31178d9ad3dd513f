/-
  Texts of this proof, put together: LkZ, PxA, PxS, PqA. No statement is proved here.
-/
import Derived.Test.YtiehefnbdijiaaaZV
import Derived.Test.YtiehefnbdijiaaaZW
import Derived.Test.YtiehefnbdijiaaaZM
import Derived.Test.YtiehefnbdijiaaaZL
import Derived.Test.YtiehefnbdijiaaaZA
import Derived.Test.YtiehefnbdijiaaaZC
import Derived.Test.YtiehefnbdijiaaaZG
import Derived.Test.YtiehefnbdijiaaaZB
import Derived.Test.YtiehefnbdijiaaaZU
import Derived.Test.YtiehefnbdijiaaaZF
namespace Go.Proofs.Ytiehefnbdijiaaa
open Go.RowKit
set_option linter.unusedSimpArgs false
set_option linter.unusedVariables false
theorem Row.past {w w' : World} {v : Value} {xs : List Value} {g : Nat} {t : TypeId} {old : List Value} (h : Row w v xs) (hk : Blk w g t old) (ho : Off (fun k => k = g) w w') (hx : ∀ u ∈ xs, u ∉ old) : Row w' v xs := by
 obtain ⟨A, cap, rfl, h1, h2, h0, h3⟩ := h
 refine ⟨A, cap, rfl, h1, h2, h0, fun hne => ?_⟩
 obtain ⟨b, off, rfl, hb, hc⟩ := h3 hne
 have hbg : ¬ b = g := fun e => by
  subst e
  obtain ⟨u, hu⟩ : ∃ u, xs[0]? = some u := ⟨_, List.getElem?_eq_getElem (by first | exact hne | exact List.length_pos_iff.2 hne)⟩
  have h4 := (hk.cell (off + 0)).symm.trans (hc 0 u hu)
  exact hx u (List.mem_of_getElem? hu) (List.mem_of_getElem? h4)
 exact ⟨b, off, rfl, Nat.lt_of_lt_of_le hb ho.size, fun i u hu => ho.cell hb hbg (hc i u hu)⟩
theorem mem_d0 {u : Value} (h : u ∈ dcl (ctab [] 0) (.slice none 0 0) (.slice none 0 0)) : (∃ k, u = .int .u8 k) ∨ u = .slice none 0 0 := by
 unfold dcl at h
 rcases List.mem_append.1 h with h | h
 ·unfold bvs at h
  obtain ⟨b, _, rfl⟩ := List.mem_map.1 h
  exact .inl ⟨_, rfl⟩
 ·simp only [List.mem_cons, List.mem_nil_iff, or_false, or_self] at h
  exact .inr h
theorem DfaV.past {w w' : World} {cs : List Value} {D : Dm} {g : Nat} {t : TypeId} (h : DfaV w cs D) (hm : MayD D) (hk : Blk w g t (dcl (ctab [] 0) (.slice none 0 0) (.slice none 0 0))) (ho : Off (fun k => k = g) w w') : DfaV w' cs D := by
 obtain ⟨hl, vn, ve, vf, h1, h2, h3, h4⟩ := h
 refine ⟨hl, vn, ve, vf, h1, h2.past hk ho fun u hu hd => ?_, fun i r hr => (h3 i r hr).past hk ho fun u hu hd => ?_, h4.past hk ho fun u hu hd => ?_⟩
 ·obtain ⟨i, hi, rfl⟩ := List.mem_map.1 hu
  obtain ⟨r, hr⟩ : ∃ r, D.next[i]? = some r := ⟨_, List.getElem?_eq_getElem (List.mem_range.1 hi)⟩
  obtain ⟨A, cap, he, _⟩ := h3 i r hr
  have hrl := hm.rows r (List.mem_of_getElem? hr)
  have hcp : 0 < clsA D.cl := Nat.lt_of_le_of_lt (Nat.zero_le _) (clsA_lt hl (j := 0) (List.getElem?_eq_getElem (by rw [hl]; decide)))
  rcases mem_d0 hd with ⟨k, e⟩ | e
  ·rw [he] at e
   cases e
  ·rw [he] at e
   injection e with e1 e2
   rw [nums_length, hrl] at e2
   omega
 ·unfold nums at hu
  obtain ⟨x, _, rfl⟩ := List.mem_map.1 hu
  rcases mem_d0 hd with ⟨k, e⟩ | e <;> cases e
 ·unfold bools at hu
  obtain ⟨x, _, rfl⟩ := List.mem_map.1 hu
  rcases mem_d0 hd with ⟨k, e⟩ | e <;> cases e
set_option maxHeartbeats 8000000 in
set_option maxRecDepth 1000000 in
theorem lLeast_any (D : Dm) (cs : List Value) (w : World) (hv : DfaV w cs D) (hm : MayD D) : Calls Try.prog 9 #[.agg cs.toArray] w fun e w' => ∃ cs', e = .returned (.agg cs'.toArray) ∧ DfaV w' cs' (lstD D) ∧ Below w.heap.size w w' := by
 have V0 := qH hv
 have HM := qH hm
 have HL := qH hv.1
 have HSA := qH hv.size
 obtain ⟨d0, hd0⟩ : ∃ d0, d0 = dcl (ctab [] 0) (.slice none 0 0) (.slice none 0 0) := ⟨_, rfl⟩
 have HDL := qH (show d0.length = 258 by rw [hd0]; exact dcl_len (ctab_length _ _))
 obtain ⟨id, hid, hdz⟩ := Option.map_eq_some_iff.1 inf_dfa
 rw [← hd0] at hdz
 have HD0 := qH hd0
 clear hv hm hd0
 go_enter Try.func9, Try.ntmps9
 go_wp2_with (first
  | ((with_reducible refine atDst 1 ?_); refine wpList_box rfl 28 _ rfl cs rfl (Below.refl w.heap.size w) (Nat.le_refl _) ?_; intro w1 hk1 hb1 hs1 _; have K1 := qH hk1; have B1 := qH hb1; clear hk1 hb1 hs1; (try simp only [Act.put, qA, qB, qC]))
  | ((with_reducible refine atDst 2 ?_); refine wpList_new rfl 28 rfl id _ d0 hid hdz rfl (Below.refl w1.heap.size w1) (Nat.le_refl _) ?_; intro w2 hk hb hs _; have R2 := qH hk; have K2 := qH (K1.out.below hb K1.out.lt); have B12 := qH hb; have B2 := qH (B1.out.trans (hb.mono B1.out.size)); clear hk hb hs; (try simp only [Act.put, qA, qB, qC]))
  | ((with_reducible refine atDst 3 ?_); refine wpList_ldArr rfl 28 _ rfl w.heap.size rfl 28 _ _ K2.out Try.underlying28 rfl HSA.out ?_; (try simp only [Act.put, qA, qB, qC])))
 refine (mMay_any D cs w2 (V0.out.below B2.out)).mono ?_
 rintro e w3 ⟨rfl, hb⟩
 rw [mayDB_yes HM.out]
 have B13 := qH (show Below w1.heap.size w1 w3 from B12.out.trans (hb.mono B12.out.size))
 have R3 := qH (R2.out.below hb R2.out.lt)
 have B1G := qH (show w.heap.size ≤ w1.heap.size from B1.out.size)
 have V1 := qH (V0.out.below B1.out)
 clear hb
 go_wp2_with fail
 refine mc_start (fun V => Below w1.heap.size w1 V) (fun _ => True) 6 (by kernel_rfl) (fun wd hwd => ?_)
 have hD : Below w3.heap.size w3 wd := by rw [hwd]; exact (Below.refl _ _).drew
 have RD := qH (R3.out.below hD R3.out.lt)
 have hX : Below w1.heap.size w1 wd := B13.out.trans (hD.mono B13.out.size)
 have hY : True := trivial
 clear hwd hD
 refine mc_take (i := 0) (oi := ⟨some 7, _, _, _, _, _⟩) (v := .agg cs.toArray) rfl (by kernel_rfl) (by kernel_rfl) (by kernel_rfl) (fun _ _ _ h => h) rfl hX (fun V hT => ld_blk 28 (.tmp 1) rfl w.heap.size rfl 28 cs _ K1.out K1.out.lt Try.underlying28 rfl HSA.out V hT) ?_; simp only [Act.put, qA, qB, qC]
 refine mc_take (i := 1) (oi := ⟨some 8, _, _, _, _, _⟩) (v := .agg cs.toArray) rfl (by kernel_rfl) (by kernel_rfl) (by kernel_rfl) (fun _ _ _ h => h) rfl hX (fun V hT => ld_blk 28 (.tmp 1) rfl w.heap.size rfl 28 cs _ K1.out K1.out.lt Try.underlying28 rfl HSA.out V hT) ?_; simp only [Act.put, qA, qB, qC]
 refine mc_actB (i := 2) (o := ⟨some 9, _, _, _, _, _⟩) rfl (by kernel_rfl) rfl (fun K hK => ?_)
 have Y1 := qH hX
 go_wp2_with fail
 refine (lParts_any D cs wd (V1.out.below hX) HM.out).mono ?_
 rintro e v1 ⟨pv, rfl, hr, hb⟩
 have RP := qH hr
 have RD1 := qH (RD.out.below hb RD.out.lt)
 have hX2 := Y1.out.trans (hb.mono Y1.out.size)
 clear hb hr
 go_wp2_with fail
 refine hK _ _ hX2 trivial ?_
 clear hK K hX
 have hX := hX2
 clear hX2
 (try simp only [Act.put, qA, qB, qC])
 refine mc_actB (i := 3) (o := ⟨some 10, _, _, _, _, _⟩) rfl (by kernel_rfl) rfl (fun K hK => ?_)
 have Y2 := qH hX
 go_wp2_with fail
 refine (lNumbered_any D cs pv v1 (V1.out.below hX) HM.out RP.out).mono ?_
 rintro e v2 ⟨xs, rfl, ⟨i, hi, hd⟩, hb⟩
 have VX := qH hd
 have HQ := qH hi
 have RD2 := qH (RD1.out.below hb RD1.out.lt)
 have hX2 := Y2.out.trans (hb.mono Y2.out.size)
 clear hb hd hi
 go_wp2_with fail
 refine hK _ _ hX2 trivial ?_
 clear hK K hX
 have hX := hX2
 clear hX2
 (try simp only [Act.put, qA, qB, qC])
 refine mc_actB (i := 4) (o := ⟨some 11, _, _, _, _, _⟩) rfl (by kernel_rfl) rfl (fun K hK => ?_)
 have Y3 := qH hX
 go_wp2_with fail
 refine (lMerged_any (numD D i) xs i (usU D.cl 256).length v2 VX.out (numD_sh HM.out HL.out HQ.out)).mono ?_
 rw [mrg_num HL.out HQ.out]
 rintro e v3 ⟨ys, rfl, hd, hb⟩
 have VY := qH hd
 have RD3 := qH (RD2.out.below hb RD2.out.lt)
 have hX2 := Y3.out.trans (hb.mono Y3.out.size)
 have HXS := qH hd.size
 obtain ⟨Bn, Be, dn, de, uf, hl2, hes, _⟩ := hd.form
 have HXL := qH (show ys.length = 258 by rw [hes]; exact dcl_len hl2)
 have HXO := qH (show ys.all (·.oneCell') = true by rw [hes]; exact dcl_one)
 clear hb hd hes hl2
 go_wp2_with fail
 refine hK _ _ hX2 trivial ?_
 clear hK K hX
 have hX := hX2
 clear hX2
 (try simp only [Act.put, qA, qB, qC])
 refine mc_actB (i := 5) (o := ⟨none, _, _, _, _, _⟩) rfl (by kernel_rfl) rfl (fun K hK => ?_)
 refine wp_stBlk 28 (.tmp 2) (.tmp 11) rfl w1.heap.size ys rfl rfl 28 _ RD3.out HXS.out (by rw [HDL.out, HXL.out]) HXO.out hX (Nat.le_refl _) ?_
 intro v4 hk hb hs ho hbb
 have KZ := qH hk
 have BZ := qH hb
 have HO := qH ho
 have HS := qH hs
 refine hK _ _ hb trivial ?_
 have HLM := qH (lst_may HM.out HL.out)
 have OZ := qH (show Off (fun k => k = w1.heap.size) v3 v4 from Off.put (hbb w1.heap.size (Nat.le_refl _)) ho (.inr rfl))
 have VZ := qH (DfaV.past VY.out HLM.out (by rw [← HD0.out]; exact RD3.out) OZ.out)
 clear hK K hX hY hk hb hs ho hbb
 (try simp only [Act.put, qA, qB, qC])
 refine wpAnyC_done (by kernel_rfl) ?_ _
 go_wp2_with fail
 refine bodyPost_ret (results_blk rfl _ _ w1.heap.size 28 _ _ rfl KZ.out Try.underlying28 rfl HXS.out) rfl ?_
 exact ⟨ys, rfl, VZ.out, B1.out.trans (BZ.out.mono B1.out.size)⟩
set_option maxHeartbeats 8000000 in
set_option maxRecDepth 1000000 in
theorem lIs_any (D : Dm) (cs : List Value) (w : World) (hv : DfaV w cs D) (hm : MayD D) : Calls Try.prog 11 #[.agg cs.toArray] w fun e w' => e = .returned (.bool (@decide (D = lstD D) (Classical.propDecidable _))) ∧ Below w.heap.size w w' := by
 have V0 := qH hv
 have HM := qH hm
 have HSA := qH hv.size
 have HDE := qH (show decide (D = lstD D) = @decide (D = lstD D) (Classical.propDecidable _) by
  by_cases h : D = lstD D
  ·rw [@decide_eq_true _ (Classical.propDecidable _) h]
   exact decide_eq_true h
  ·rw [@decide_eq_false _ (Classical.propDecidable _) h]
   exact decide_eq_false h)
 clear hv hm
 go_enter Try.func11, Try.ntmps11
 go_wp2_with ((with_reducible refine atDst 1 ?_); refine wpList_box rfl 28 _ rfl cs rfl (Below.refl w.heap.size w) (Nat.le_refl _) ?_; intro w1 hk1 hb1 hs1 _; have K1 := qH hk1; have B1 := qH hb1; clear hk1 hb1 hs1; (try simp only [Act.put, qA, qB, qC]))
 have V1 := qH (V0.out.below B1.out)
 refine mc_start (fun V => Below w1.heap.size w1 V) (fun _ => True) 9 (by kernel_rfl) (fun wd hwd => ?_)
 have hX : Below w1.heap.size w1 wd := by rw [hwd]; exact (Below.refl _ _).drew
 have hY : True := trivial
 clear hwd
 refine mc_take (i := 0) (oi := ⟨some 3, _, _, _, _, _⟩) (v := .agg cs.toArray) rfl (by kernel_rfl) (by kernel_rfl) (by kernel_rfl) (fun _ _ _ h => h) rfl hX (fun V hT => ld_blk 28 (.tmp 1) rfl w.heap.size rfl 28 cs _ K1.out K1.out.lt Try.underlying28 rfl HSA.out V hT) ?_; simp only [Act.put, qA, qB, qC]
 refine mc_actB (i := 1) (o := ⟨some 4, _, _, _, _, _⟩) rfl (by kernel_rfl) rfl (fun K hK => ?_)
 have Y1 := qH hX
 go_wp2_with fail
 refine (mMay_any D cs wd (V1.out.below hX)).mono ?_
 rintro e v1 ⟨rfl, hb⟩
 rw [mayDB_yes HM.out]
 have hX2 := Y1.out.trans (hb.mono Y1.out.size)
 clear hb
 go_wp2_with fail
 refine hK _ _ hX2 trivial ?_
 clear hK K hX
 have hX := hX2
 clear hX2
 (try simp only [Act.put, qA, qB, qC])
 refine mc_take (i := 2) (oi := ⟨some 5, _, _, _, _, _⟩) (v := ?_) rfl (by kernel_rfl) (by kernel_rfl) (by kernel_rfl) (fun _ _ _ h => h) rfl hX ?_ ?_; rotate_left; (intro W hW; go_simp; try with_reducible rfl); simp only [Act.put, qA, qB, qC]
 refine mc_take (i := 3) (oi := ⟨some 6, _, _, _, _, _⟩) (v := .agg cs.toArray) rfl (by kernel_rfl) (by kernel_rfl) (by kernel_rfl) (fun _ _ _ h => h) rfl hX (fun V hT => ld_blk 28 (.tmp 1) rfl w.heap.size rfl 28 cs _ K1.out K1.out.lt Try.underlying28 rfl HSA.out V hT) ?_; simp only [Act.put, qA, qB, qC]
 refine mc_take (i := 4) (oi := ⟨some 7, _, _, _, _, _⟩) (v := .agg cs.toArray) rfl (by kernel_rfl) (by kernel_rfl) (by kernel_rfl) (fun _ _ _ h => h) rfl hX (fun V hT => ld_blk 28 (.tmp 1) rfl w.heap.size rfl 28 cs _ K1.out K1.out.lt Try.underlying28 rfl HSA.out V hT) ?_; simp only [Act.put, qA, qB, qC]
 refine mc_actB (i := 5) (o := ⟨some 8, _, _, _, _, _⟩) rfl (by kernel_rfl) rfl (fun K hK => ?_)
 have Y2 := qH hX
 go_wp2_with fail
 refine (lLeast_any D cs v1 (V1.out.below hX) HM.out).mono ?_
 rintro e v2 ⟨xs, rfl, hd, hb⟩
 have VX := qH hd
 have hX2 := Y2.out.trans (hb.mono Y2.out.size)
 clear hb hd
 go_wp2_with fail
 refine hK _ _ hX2 trivial ?_
 clear hK K hX
 have hX := hX2
 clear hX2
 (try simp only [Act.put, qA, qB, qC])
 refine mc_actB (i := 6) (o := ⟨some 9, _, _, _, _, _⟩) rfl (by kernel_rfl) rfl (fun K hK => ?_)
 have Y3 := qH hX
 go_wp2_with fail
 refine (mSame_any D (lstD D) cs xs v2 (V1.out.below hX) VX.out HM.out.few (by rw [HM.out.ends]; exact HM.out.few) (fun r hr => by rw [HM.out.rows r hr]; exact Nat.le_trans (clsA_le _) (by decide))).mono ?_
 rintro e v3 ⟨rfl, hb⟩
 rw [HDE.out]
 have hX2 := Y3.out.trans (hb.mono Y3.out.size)
 clear hb
 go_wp2_with fail
 refine hK _ _ hX2 trivial ?_
 clear hK K hX
 have hX := hX2
 clear hX2
 (try simp only [Act.put, qA, qB, qC])
 refine mc_take (i := 7) (oi := ⟨some 10, _, _, _, _, _⟩) (v := ?_) rfl (by kernel_rfl) (by kernel_rfl) (by kernel_rfl) (fun _ _ _ h => h) rfl hX ?_ ?_; rotate_left; (intro W hW; go_simp; try with_reducible rfl); simp only [Act.put, qA, qB, qC]
 refine mc_take (i := 8) (oi := ⟨some 2, _, _, _, _, _⟩) (v := ?_) rfl (by kernel_rfl) (by kernel_rfl) (by kernel_rfl) (fun _ _ _ h => h) rfl hX ?_ ?_; rotate_left; (intro W hW; go_simp; try with_reducible rfl); simp only [Act.put, qA, qB, qC]
 refine wpAnyC_done (by kernel_rfl) ?_ _
 have BE := qH (B1.out.trans (hX.mono B1.out.size))
 clear hX hY
 go_wp2_with fail
 go_ret
 exact ⟨rfl, BE.out⟩
theorem lstC : LstC := ⟨fun D cs w hv hm _ => lLeast_any D cs w hv hm, fun D cs w hv hm _ => lParts_any D cs w hv hm, fun D cs w hv hm _ => lIs_any D cs w hv hm⟩
def pr2 (x : Nat × Nat) : List Value := [.int .i64 (x.1 : Int), .int .i64 (x.2 : Int)]
def prs : List (Nat × Nat) → List Value
 | [] => []
 | x :: l => pr2 x ++ prs l
theorem prs_app : ∀ a b : List (Nat × Nat), prs (a ++ b) = prs a ++ prs b
 | [], _ => rfl
 | x :: a, b => by show pr2 x ++ prs (a ++ b) = pr2 x ++ prs a ++ prs b; rw [prs_app a b, List.append_assoc]
theorem prs_len : ∀ l : List (Nat × Nat), (prs l).length = l.length * 2
 | [] => rfl
 | x :: l => by
  show (pr2 x ++ prs l).length = (l.length + 1) * 2
  rw [List.length_append, prs_len l, Nat.add_mul, Nat.one_mul, Nat.add_comm]
  rfl
theorem prs_get : ∀ {l : List (Nat × Nat)} {i : Nat} {x : Nat × Nat}, l[i]? = some x → ∀ k, k < 2 → (prs l)[i * 2 + k]? = (pr2 x)[k]?
 | [], i, x, h, k, _ => by simp at h
 | y :: l, 0, x, h, k, hk => by
  have e : y = x := by simpa using h
  subst e
  show (pr2 y ++ prs l)[0 * 2 + k]? = _
  rw [Nat.zero_mul, Nat.zero_add, List.getElem?_append_left hk]
 | y :: l, i + 1, x, h, k, hk => by
  have h2 : l[i]? = some x := by simpa using h
  show (pr2 y ++ prs l)[(i + 1) * 2 + k]? = _
  rw [List.getElem?_append_right (by show 2 ≤ _; omega), show (i + 1) * 2 + k - (pr2 y).length = i * 2 + k by show (i + 1) * 2 + k - 2 = _; omega]
  exact prs_get h2 k hk
theorem prs_one : ∀ l : List (Nat × Nat), ∀ u ∈ prs l, u.oneCell' = true
 | [], u, h => by cases h
 | x :: l, u, h => by
  rcases List.mem_append.1 (show u ∈ pr2 x ++ prs l from h) with h | h
  ·simp only [pr2, List.mem_cons, List.mem_nil_iff, or_false] at h
   rcases h with rfl | rfl <;> rfl
  ·exact prs_one l u h
theorem inf_p2 : (Try.prog.info? 44).map (fun i => (i.zero, i.size, i.bytes)) = some (some (.agg (pr2 (0, 0)).toArray), 2, 16) := by kernel_rfl
theorem inf_p2s : (Try.prog.info? 44).map (·.size) = some 2 := by kernel_rfl
section
variable {ev : Operand → Value} {o : Oper} {p : Addr} {W : World} {A : Option Addr} {n c : Nat}
theorem px_ix (x i : Operand) (ho : o.op = .indexAddr 45 x i) {b off q : Nat} (hx : ev x = .slice (some ⟨b, off, none⟩) n c) (hi : ev i = .int .i64 (q : Int)) (hq : q < n) (W : World) : (execOp ev o).run Try.prog W = .ok (.value (.pointer (some ⟨b, off + q * 2, none⟩))) W := by
 have h1 : (q : Int) < (n : Int) := Int.ofNat_lt.2 hq
 have hs := inf_p2s
 obtain ⟨i2, hi2, hz2, hs2, _⟩ := infoP inf_p2
 simp only [execOp, ho, hx, hi]
 go_simp
theorem px_ix0 (x i : Operand) (ho : o.op = .indexAddr 45 x i) {b q : Nat} (hx : ev x = .slice (some ⟨b, 0, none⟩) n c) (hi : ev i = .int .i64 (q : Int)) (hq : q < n) (W : World) : (execOp ev o).run Try.prog W = .ok (.value (.pointer (some ⟨b, q * 2, none⟩))) W := by
 have := px_ix x i ho hx hi hq W
 rwa [Nat.zero_add] at this
theorem px_sub1 (x : Operand) {r : TypeId} (ho : o.op = .binOp .sub 3 x (.const (.int .i64 1)) r) {h : Int} (hx : ev x = .int .i64 h) (hc : ev (.const (.int .i64 1)) = .int .i64 1) {k : Nat} (hk : h = (k : Int) + 1) (h4 : k < 4) (W : World) : (execOp ev o).run Try.prog W = .ok (.value (.int .i64 (k : Int))) W := by
 subst hk
 simp only [execOp, ho, hx, hc]
 have : k = 0 ∨ k = 1 ∨ k = 2 ∨ k = 3 := by omega
 rcases this with rfl | rfl | rfl | rfl <;> (go_simp; try rfl)
theorem px_i0 (x : Operand) (ho : o.op = .indexAddr 44 x (.const (.int .i64 0))) {b off : Nat} (hx : ev x = .pointer (some ⟨b, off, none⟩)) (hc : ev (.const (.int .i64 0)) = .int .i64 0) (W : World) : (execOp ev o).run Try.prog W = .ok (.value (.pointer (some ⟨b, off, none⟩))) W := by
 simp only [execOp, ho, hx, hc]
 go_simp
theorem px_i1 (x : Operand) (ho : o.op = .indexAddr 44 x (.const (.int .i64 1))) {b off : Nat} (hx : ev x = .pointer (some ⟨b, off, none⟩)) (hc : ev (.const (.int .i64 1)) = .int .i64 1) (W : World) : (execOp ev o).run Try.prog W = .ok (.value (.pointer (some ⟨b, off + 1, none⟩))) W := by
 simp only [execOp, ho, hx, hc]
 go_simp
theorem px_ld (x : Operand) (ho : o.op = .load 44 x) {b off : Nat} (hx : ev x = .pointer (some ⟨b, off, none⟩)) {y : Nat × Nat} (hc : W.rangeAt b off (pr2 y)) : (execOp ev o).run Try.prog W = .ok (.value (.agg (pr2 y).toArray)) W := by
 simp only [execOp, ho, hx, Instr.loadAt, Instr.sureAddr, Sem.run_bind, Sem.run_pure, Result.andThen_ok, run_loadVar_mid W b off 44 (pr2 y) _ hc Try.underlying44 rfl inf_p2s]
theorem px_bld (x y : Operand) (ho : o.op = .build 44 #[(0, x), (1, y)]) {a b : Nat} (hx : ev x = .int .i64 (a : Int)) (hy : ev y = .int .i64 (b : Int)) (W : World) : (execOp ev o).run Try.prog W = .ok (.value (.agg (pr2 (a, b)).toArray)) W := by
 simp only [execOp, ho, hx, hy]
 go_simp
 rfl
theorem px_neU (x y : Operand) {r : TypeId} (ho : o.op = .binOp .neq 5 x y r) {u v : Int} (hx : ev x = .int .u8 u) (hy : ev y = .int .u8 v) {b : Bool} (hb : (u != v) = b) (W : World) : (execOp ev o).run Try.prog W = .ok (.value (.bool b)) W := by
 simp only [execOp, ho, hx, hy]
 subst hb
 by_cases h : u = v
 ·subst h
  go_simp
 ·have h2 : (u == v) = false := beq_eq_false_iff_ne.2 h
  go_simp
theorem px_ne (x y : Operand) (oT : TypeId) (ho : o.op = .binOp .neq 44 x y oT) {u v : Nat × Nat} (hx : ev x = .agg (pr2 u).toArray) (hy : ev y = .agg (pr2 v).toArray) (W : World) : (execOp ev o).run Try.prog W = .ok (.value (.bool (decide (u ≠ v)))) W := by
 have h1 := run_equalIn_nums (P := Try.prog) W 9998 44 3 2 .i64 Try.underlying44 Try.underlying3 (fun w => by go_simp) [(u.1 : Int), (u.2 : Int)] [(v.1 : Int), (v.2 : Int)] rfl rfl
 have hg : Try.prog.eqGuardType Try.prog.depth 44 = false := by kernel_rfl
 simp only [execOp, ho, hx, hy, Sem.run_bind, run_eqGuard_agg W .neq 44 x y _ _ hg, Result.andThen_ok]
 have e1 : (pr2 u).toArray = (nums .i64 [(u.1 : Int), (u.2 : Int)]).toArray := rfl
 have e2 : (pr2 v).toArray = (nums .i64 [(v.1 : Int), (v.2 : Int)]).toArray := rfl
 rw [run_neq_struct, e1, e2, show (10000 : Nat) = 9998 + 2 from rfl, h1]
 have e3 : (!([(u.1 : Int), (u.2 : Int)] == [(v.1 : Int), (v.2 : Int)])) = decide (u ≠ v) := by
  obtain ⟨a, b⟩ := u
  obtain ⟨c, d⟩ := v
  by_cases h : (a, b) = (c, d)
  ·injection h with h2 h3
   subst h2
   subst h3
   simp
  ·rw [decide_eq_true h, Bool.not_eq_true', beq_eq_false_iff_ne]
   intro h4
   injection h4 with h5 h6
   injection h6 with h6 _
   exact h (Prod.ext (Int.ofNat.inj h5) (Int.ofNat.inj h6))
 simp only [Result.andThen_ok, Sem.run_pure, e3]
theorem px_neB (x y : Operand) (oT : TypeId) (ho : o.op = .binOp .neq 44 x y oT) {u v : Nat × Nat} (hx : ev x = .agg (pr2 u).toArray) (hy : ev y = .agg (pr2 v).toArray) {b : Bool} (hb : decide (u ≠ v) = b) (W : World) : (execOp ev o).run Try.prog W = .ok (.value (.bool b)) W := hb ▸ px_ne x y oT ho hx hy W
end
section
variable {o : Oper} {a : Act} {w : World} {K : Act → World → Prop} {Q : Exit → Act → World → Prop}
theorem wp_rd {P : Program} {v : Value} (h : (execOp a.eval o).run P w = .ok (.value v) w) (hk : K (a.put o.dst v) w) : o.wp P a w K Q := by
 unfold Oper.wp
 rw [h]
 exact hk
theorem px_bld4 (x y u v : Operand) (ho : o.op = .buildSlice 26 4 #[(0, x), (1, y), (2, u), (3, v)]) (i : TypeInfo) (hi : Try.prog.info? 4 = some i) (hz : i.zero = some (.bool false)) (hs : i.size = 1) (b c d e : Bool) (hx : a.eval x = .bool b) (hy : a.eval y = .bool c) (hu : a.eval u = .bool d) (hv : a.eval v = .bool e)
  (h : ∀ w', Blk w' w.heap.size 4 (bools [b, c, d, e]) → Below w.heap.size w w' → K (a.put o.dst (.slice (some ⟨w.heap.size, 0, none⟩) 4 4)) w') : o.wp Try.prog a w K Q := by
 have hzv : (zeroValue 4).run Try.prog w = .ok (.bool false) w := by simp [zeroValue, typeInfo, hi, hz]
 have hrun : (Instr.buildSlice 26 4 #[(0, .bool b), (1, .bool c), (2, .bool d), (3, .bool e)]).run Try.prog w = .ok (.slice (some ⟨w.heap.size, 0, none⟩) 4 4) (w.alloc (.cells (bools [b, c, d, e]).toArray 4)) := by
  simp [Instr.buildSlice, run_underlying Try.underlying26, sizeOf, typeInfo, hi, hs, hzv, Value.cells, Instr.fill, bools, Array.range_succ, Array.range_zero', newRow]
 unfold Oper.wp
 simp only [execOp, ho, List.map_toArray, List.map_cons, List.map_nil, hx, hy, hu, hv, hrun, Sem.run_bind, Result.andThen_ok, Sem.run_pure]
 exact h _ (Blk.new w _ _) ((Below.refl _ _).alloc (Nat.le_refl _) _)
theorem px_bld1 (x : Operand) (ho : o.op = .buildSlice 45 1 #[(0, x)]) (y : Nat × Nat) (hx : a.eval x = .agg (pr2 y).toArray)
  (h : ∀ w', Blk w' w.heap.size 44 (prs [y]) → Below w.heap.size w w' → K (a.put o.dst (.slice (some ⟨w.heap.size, 0, none⟩) 1 1)) w') : o.wp Try.prog a w K Q := by
 obtain ⟨i, hi, hz, hs, _⟩ := infoP inf_p2
 have hzv : (zeroValue 44).run Try.prog w = .ok (.agg (pr2 (0, 0)).toArray) w := by simp [zeroValue, typeInfo, hi, hz]
 have hrun : (Instr.buildSlice 45 1 #[(0, .agg (pr2 y).toArray)]).run Try.prog w = .ok (.slice (some ⟨w.heap.size, 0, none⟩) 1 1) (w.alloc (.cells (prs [y]).toArray 44)) := by
  simp [Instr.buildSlice, run_underlying Try.underlying45, sizeOf, typeInfo, hi, hs, hzv, Value.cells, Instr.fill, pr2, prs, Array.range_succ, Array.range_zero', newRow]
 unfold Oper.wp
 simp only [execOp, ho, List.map_toArray, List.map_cons, List.map_nil, hx, hrun, Sem.run_bind, Result.andThen_ok, Sem.run_pure]
 exact h _ (Blk.new w _ _) ((Below.refl _ _).alloc (Nat.le_refl _) _)
theorem px_app {base : Nat} (s x : Operand) (ho : o.op = .call { callee := .builtin .append, args := #[s, x], argTypes := #[45, 45] })
  (v : Value) (M : List (Nat × Nat)) (hs : a.eval s = v) (hown : w.ownsRow base 44 2 v M.length (prs M))
  (g c : Nat) (tg : TypeId) (y : Nat × Nat) (hx : a.eval x = .slice (some ⟨g, 0, none⟩) 1 c) (hr : Blk w g tg (prs [y])) (hlen : M.length + 1 ≤ 1048576) (hb : base ≤ w.heap.size)
  (h : ∀ v' w', w'.ownsRow base 44 2 v' (M ++ [y]).length (prs (M ++ [y])) → w.grownBy w' v.ownBlock → (∀ k, v'.ownBlock = some k → v.ownBlock = some k ∨ w.heap.size ≤ k) → K (a.put o.dst v') w') : o.wp Try.prog a w K Q := by
 obtain ⟨i, hi, hz, hsz, hby⟩ := infoP inf_p2
 have hnews : ∀ j u, (prs [y])[j]? = some u → w.cell? ((⟨g, 0, none⟩ : Addr).add j) = some u := fun j u hj => by
  rw [Addr.add_lit, Nat.zero_add, hr.cell j]
  exact hj
 obtain ⟨v', w', hrun, hown', hgr, _⟩ := run_append_own (P := Try.prog) w base 45 o.type 44 i _ 2 16 Try.underlying45 hi hz hsz hby (by simp [Value.cells, pr2]) (by omega) v M.length (prs M) hown ⟨g, 0, none⟩ 1 c (prs [y]) rfl hnews (prs_one _) (by unfold maxLen; omega) (by omega) hb
 have hwh := append_where (P := Try.prog) (w := w) base 45 o.type 44 i _ 2 16 Try.underlying45 hi hz hsz hby (by omega) v M.length (prs M) hown ⟨g, 0, none⟩ 1 c (prs [y]) rfl hnews (prs_one _) (by unfold maxLen; omega) (by omega) hrun
 unfold Oper.wp execOp
 simp only [ho, resolve, invoke, builtin, Sem.run_bind, Sem.run_pure, Result.andThen_ok, List.map_toArray, List.map_cons, List.map_nil, hs, hx, hrun]
 refine h v' w' ?_ hgr hwh
 rw [List.length_append, prs_app]
 exact hown'
end
theorem own2_in {w : World} {base n : Nat} {e : TypeId} {v : Value} {M : List (Nat × Nat)} (h : w.ownsRow base e 2 v n (prs M)) (hn : 0 < n) : ∃ g c, v = .slice (some ⟨g, 0, none⟩) n c ∧ base ≤ g ∧ g < w.heap.size ∧ ∀ i x, i < n → M[i]? = some x → w.rangeAt g (i * 2) (pr2 x) := by
 rcases h.2 with ⟨_, h0⟩ | ⟨g, cap, cur, rfl, hb, hg, hnc, hm, hs, ht⟩
 ·omega
 ·refine ⟨g, cap, rfl, hb, (Array.getElem?_eq_some_iff.1 hg).1, fun i x hi hx k u hu => ?_⟩
  have hk : k < 2 := (List.getElem?_eq_some_iff.1 hu).1
  have e1 := prs_get hx k hk
  rw [hu, ← ht, List.getElem?_take, if_pos (by omega), Array.getElem?_toList] at e1
  rw [cell_of_row w g _ cur e (0, 0) hg, e1]
theorem own2_slice {w : World} {base n k : Nat} {e : TypeId} {v : Value} {xs : List Value} (h : w.ownsRow base e k v n xs) : ∃ A c, v = .slice A n c := by
 rcases h.2 with ⟨rfl, rfl⟩ | ⟨g, cap, cur, rfl, _⟩
 ·exact ⟨_, _, rfl⟩
 ·exact ⟨_, _, rfl⟩
structure ApS (ty : Nat → TypeId) (sz : Nat → Nat) (w : World) (H m : Nat) (U : Nat → Value) (X : Nat → List Value) : Prop where
 own : ∀ i, i < m → ∃ n, w.ownsRow H (ty i) (sz i) (U i) n (X i)
 inj : ∀ i j, i < m → j < m → i ≠ j → ∀ k, (U i).ownBlock = some k → (U j).ownBlock ≠ some k
section
variable {ty : Nat → TypeId} {sz : Nat → Nat} {w w' : World} {H m : Nat} {U : Nat → Value} {X : Nat → List Value}
theorem ApS.stay (h : ApS ty sz w H m U X) (hs : ∀ k, H ≤ k → k < w.heap.size → w'.heap[k]? = w.heap[k]?) : ApS ty sz w' H m U X :=
 ⟨fun i hi => by
  obtain ⟨n, ho⟩ := h.own i hi
  exact ⟨n, own6_stay ho fun j hj => hs j (own6_lt ho j hj).2 (own6_lt ho j hj).1⟩, h.inj⟩
theorem ApS.below (h : ApS ty sz w H m U X) (hb : Below w.heap.size w w') : ApS ty sz w' H m U X := h.stay fun k _ hk => hb.block k hk
theorem ApS.lt (h : ApS ty sz w H m U X) {i : Nat} (hi : i < m) : ∀ k, (U i).ownBlock = some k → k < w.heap.size ∧ H ≤ k := by
 obtain ⟨n, ho⟩ := h.own i hi
 exact own6_lt ho
theorem ApS.grow (h : ApS ty sz w H m U X) {s : Nat} (hs : s < m) {v : Value} {l : List Value} {n : Nat} (ho : w'.ownsRow H (ty s) (sz s) v n l) (hg : w.grownBy w' (U s).ownBlock) (hw : ∀ k, v.ownBlock = some k → (U s).ownBlock = some k ∨ w.heap.size ≤ k) :
  ApS ty sz w' H m (putV U s v) (putX X s l) := by
 have hkeep : ∀ i, i < m → i ≠ s → ∀ k, (U i).ownBlock = some k → w'.heap[k]? = w.heap[k]? := fun i hi hne k hk =>
  hg.block k (h.lt hi k hk).1 fun e => h.inj i s hi hs hne k hk (by first | exact e | exact e.symm)
 refine ⟨fun i hi => ?_, fun i j hi hj hij k hk => ?_⟩
 ·by_cases hne : i = s
  ·subst hne
   rw [putV_at, putX_at]
   exact ⟨_, ho⟩
  ·rw [putV_ne hne, putX_ne hne]
   obtain ⟨n2, ho2⟩ := h.own i hi
   exact ⟨n2, own6_stay ho2 fun j hj => hkeep i hi hne j hj⟩
 ·by_cases hi2 : i = s
  ·have hj2 : j ≠ s := fun e => hij (by rw [hi2, e])
   rw [hi2, putV_at] at hk
   rw [putV_ne hj2]
   rcases hw k hk with e | e
   ·exact h.inj s j hs hj (Ne.symm hj2) k e
   ·exact fun e2 => absurd (h.lt hj k e2).1 (Nat.not_lt.2 e)
  ·rw [putV_ne hi2] at hk
   by_cases hj2 : j = s
   ·rw [hj2, putV_at]
    intro e2
    rcases hw k e2 with e | e
    ·exact h.inj s i hs hi (Ne.symm hi2) k e hk
    ·exact absurd (h.lt hi k hk).1 (Nat.not_lt.2 e)
   ·rw [putV_ne hj2]
    exact h.inj i j hi hj hij k hk
theorem ApS.more (h : ApS ty sz w H m U X) : ApS ty sz w H (m + 1) (putV U m (.slice none 0 0)) (putX X m []) := by
 refine ⟨fun i hi => ?_, fun i j hi hj hij k hk => ?_⟩
 ·by_cases hne : i = m
  ·subst hne
   rw [putV_at, putX_at]
   exact ⟨0, by simp, .inl ⟨rfl, rfl⟩⟩
  ·rw [putV_ne hne, putX_ne hne]
   exact h.own i (by omega)
 ·by_cases hi2 : i = m
  ·rw [hi2, putV_at] at hk
   cases (show (none : Option Nat) = some k from hk)
  ·rw [putV_ne hi2] at hk
   by_cases hj2 : j = m
   ·rw [hj2, putV_at]
    intro e
    cases (show (none : Option Nat) = some k from e)
   ·rw [putV_ne hj2]
    exact h.inj i j (by omega) (by omega) hij k hk
theorem ApS.fewer (h : ApS ty sz w H (m + 1) U X) : ApS ty sz w H m U X := ⟨fun i hi => h.own i (by omega), fun i j hi hj => h.inj i j (by omega) (by omega)⟩
theorem ApS.own1 (h : ApS ty sz w H m U X) {i : Nat} (hi : i < m) (hz : sz i = 1) : w.ownsRow H (ty i) 1 (U i) (X i).length (X i) := by
 obtain ⟨n, ho⟩ := h.own i hi
 rw [hz] at ho
 have e : (X i).length = n := by rw [ho.1, Nat.mul_one]
 rw [e]
 exact ho
theorem ApS.own2 (h : ApS ty sz w H m U X) {i : Nat} (hi : i < m) (hz : sz i = 2) {M : List (Nat × Nat)} (hX : X i = prs M) : w.ownsRow H (ty i) 2 (U i) M.length (prs M) := by
 obtain ⟨n, ho⟩ := h.own i hi
 rw [hz, hX] at ho
 have e : (prs M).length = n * 2 := ho.1
 rw [prs_len] at e
 have e2 : M.length = n := by omega
 rw [e2]
 exact ho
end
section
variable {α : Type} [DecidableEq α]
def fG (ps : List (Nat → Bool)) (g : α → Nat → α) (x : α) : List α := (firstJ ps 256).map fun b => g x b
omit [DecidableEq α] in
theorem fG_len (ps : List (Nat → Bool)) (g : α → Nat → α) (x : α) : (fG ps g x).length = (firstJ ps 256).length := by simp [fG]
def genN (ps : List (Nat → Bool)) (g : α → Nat → α) (x0 : α) (p : α → Bool) (n : Nat) : Dm := ⟨ctab ps 256, rowsI (fG ps g) (Lq (fG ps g) x0 n) n, endsI p (Lq (fG ps g) x0 n) n⟩
def OneG (ps : List (Nat → Bool)) (g : α → Nat → α) : Prop := ∀ x b c, b < 256 → c < 256 → alikeS ps b c = true → g x b = g x c
variable {ps : List (Nat → Bool)} {g : α → Nat → α} {x0 : α} {p : α → Bool} {n : Nat}
omit [DecidableEq α] in
theorem fG_cls (hg : OneG ps g) (x : α) {b : Nat} (hb : b < 256) : (fG ps g x)[clsOf ps b]? = some (g x b) := by
 have h := clsOf_lt ps hb
 have h1 := (clsOf_is ps 256 b hb (clsOf ps b) h).1 rfl
 have hc := firstJ_lt ps 256 _ (List.getElem_mem h)
 unfold fG
 rw [List.getElem?_map, List.getElem?_eq_getElem h, Option.map_some, hg x _ b hc hb h1]
theorem genN_clE (ps : List (Nat → Bool)) (g : α → Nat → α) (x0 : α) (p : α → Bool) (n : Nat) : (genN ps g x0 p n).cl = ctab ps 256 := rfl
theorem genN_cls (ps : List (Nat → Bool)) (g : α → Nat → α) (x0 : α) (p : α → Bool) (n : Nat) : clsA (genN ps g x0 p n).cl = (firstJ ps 256).length := by
 rw [genN_clE]
 exact clsA_ctabN ps 256 rfl
theorem genN_len (h : Fit (fG ps g) x0 n) : (genN ps g x0 p n).next.length = n := rowsI_len (Nat.le_of_eq (show (Lq (fG ps g) x0 n).length = n from h).symm)
theorem genN_ends (h : Fit (fG ps g) x0 n) : (genN ps g x0 p n).ends.length = n := endsI_len (Nat.le_of_eq (show (Lq (fG ps g) x0 n).length = n from h).symm)
theorem genN_at {i : Nat} {x : α} (hx : (Lq (fG ps g) x0 n)[i]? = some x) (hi : i < n) : (genN ps g x0 p n).next[i]? = some (rowI (Lq (fG ps g) x0 n) (fG ps g x)) := by
 show (((Lq (fG ps g) x0 n).take n).map fun y => rowI (Lq (fG ps g) x0 n) (fG ps g y))[i]? = _
 rw [List.getElem?_map, List.getElem?_take_of_lt hi, hx]
 rfl
theorem genN_end {i : Nat} {x : α} (hx : (Lq (fG ps g) x0 n)[i]? = some x) (hi : i < n) : (genN ps g x0 p n).ends[i]? = some (p x) := by
 show (((Lq (fG ps g) x0 n).take n).map p)[i]? = _
 rw [List.getElem?_map, List.getElem?_take_of_lt hi, hx]
 rfl
theorem genN_key {r : List Int} (hr : r ∈ (genN ps g x0 p n).next) : ∃ x ∈ Lq (fG ps g) x0 n, r = rowI (Lq (fG ps g) x0 n) (fG ps g x) := by
 obtain ⟨x, hx, he⟩ := List.mem_map.1 (show r ∈ ((Lq (fG ps g) x0 n).take n).map (fun y => rowI (Lq (fG ps g) x0 n) (fG ps g y)) from hr)
 exact ⟨x, List.mem_of_mem_take hx, he.symm⟩
theorem fitG_pos (h : Fit (fG ps g) x0 n) : 1 ≤ n := by
 have h1 := Lq_pos (f := fG ps g) (x0 := x0) n
 unfold Fit at h
 omega
theorem genN_may (h : Fit (fG ps g) x0 n) (hn : n ≤ 2000) : MayD (genN ps g x0 p n) := by
 have hl := genN_len (p := p) h
 refine ⟨by rw [hl]; exact fitG_pos h, by rw [hl]; exact hn, by rw [hl]; exact genN_ends h, fun r hr => ?_, fun r hr x hx => ?_⟩
 ·obtain ⟨y, _, he⟩ := genN_key hr
  rw [he, rowI_len, fG_len, genN_cls]
 ·obtain ⟨y, hm, he⟩ := genN_key hr
  rw [he] at hx
  obtain ⟨q, hq, he2⟩ := List.mem_map.1 (show x ∈ (fG ps g y).map (fun q => (ixOf (Lq (fG ps g) x0 n) q : Int)) from hx)
  have h1 := idx_lt (fit_closed h hm q hq)
  rw [hl, ← he2]
  unfold Fit at h
  omega
theorem stD_genN (hg : OneG ps g) (h : Fit (fG ps g) x0 n) {i : Nat} {x : α} (hx : (Lq (fG ps g) x0 n)[i]? = some x) (b : UInt8) :
  (Lq (fG ps g) x0 n)[stD (genN ps g x0 p n) i b]? = some (g x b.toNat) := by
 have hi : i < n := by have h1 := (List.getElem?_eq_some_iff.1 hx).1; unfold Fit at h; omega
 have hb := b.toNat_lt
 have hs := fG_cls hg x hb
 have hm : g x b.toNat ∈ Lq (fG ps g) x0 n := fit_closed h (List.mem_of_getElem? hx) _ (List.mem_of_getElem? hs)
 have hc : (ctab ps 256).getD b.toNat 0 = UInt8.ofNat (clsOf ps b.toNat) := by
  rw [List.getD_eq_getElem?_getD, ctab_at ps hb]
  rfl
 have e : stD (genN ps g x0 p n) i b = ixOf (Lq (fG ps g) x0 n) (g x b.toNat) := by
  unfold stD
  rw [genN_at hx hi, genN_clE, Option.getD_some, hc, ofNat_toNat (clsOf_256 _ hb), List.getD_eq_getElem?_getD]
  have h2 : (rowI (Lq (fG ps g) x0 n) (fG ps g x))[clsOf ps b.toNat]? = some ((ixOf (Lq (fG ps g) x0 n) (g x b.toNat) : Nat) : Int) := by
   unfold rowI
   rw [List.getElem?_map, hs, Option.map_some]
  rw [h2]
  rfl
 rw [e]
 exact idx_get hm
theorem toD_genN (hg : OneG ps g) (h : Fit (fG ps g) x0 n) : ∀ (w : List UInt8) (i : Nat) (x : α), (Lq (fG ps g) x0 n)[i]? = some x → (Lq (fG ps g) x0 n)[toD (genN ps g x0 p n) i w]? = some (w.foldl (fun x b => g x b.toNat) x)
 | [], i, x, hx => hx
 | b :: w, i, x, hx => toD_genN hg h w _ _ (stD_genN hg h hx b)
theorem accD_genN (hg : OneG ps g) (h : Fit (fG ps g) x0 n) (w : List UInt8) : accD (genN ps g x0 p n) 0 w = p (w.foldl (fun x b => g x b.toNat) x0) := by
 have h1 := toD_genN (p := p) hg h w 0 x0 (Lq_zero n)
 have hi : toD (genN ps g x0 p n) 0 w < n := by have h2 := (List.getElem?_eq_some_iff.1 h1).1; unfold Fit at h; omega
 unfold accD
 rw [List.getD_eq_getElem?_getD, genN_end h1 hi]
 rfl
end
/-! ### two machines at once -/
def psP (A B : Dm) : List (Nat → Bool) := (List.range 256).map fun c b => decide (A.cl.getD b 0 = A.cl.getD c 0 ∧ B.cl.getD b 0 = B.cl.getD c 0)
theorem psP_alike (A B : Dm) {b c : Nat} (hb : b < 256) (hc : c < 256) : alikeS (psP A B) b c = true ↔ A.cl.getD b 0 = A.cl.getD c 0 ∧ B.cl.getD b 0 = B.cl.getD c 0 := by
 rw [alikeS_iff]
 constructor
 ·intro h
  have h1 := h _ (List.mem_map.2 ⟨c, List.mem_range.2 hc, rfl⟩)
  have h2 : decide (A.cl.getD b 0 = A.cl.getD c 0 ∧ B.cl.getD b 0 = B.cl.getD c 0) = decide (A.cl.getD c 0 = A.cl.getD c 0 ∧ B.cl.getD c 0 = B.cl.getD c 0) := h1
  rw [decide_eq_true (⟨rfl, rfl⟩ : A.cl.getD c 0 = A.cl.getD c 0 ∧ B.cl.getD c 0 = B.cl.getD c 0)] at h2
  exact of_decide_eq_true h2
 ·rintro ⟨h1, h2⟩ p hp
  obtain ⟨d, _, rfl⟩ := List.mem_map.1 hp
  show decide (A.cl.getD b 0 = A.cl.getD d 0 ∧ B.cl.getD b 0 = B.cl.getD d 0) = decide (A.cl.getD c 0 = A.cl.getD d 0 ∧ B.cl.getD c 0 = B.cl.getD d 0)
  rw [h1, h2]
def gP (A B : Dm) (x : Nat × Nat) (b : Nat) : Nat × Nat := (stD A x.1 (UInt8.ofNat b), stD B x.2 (UInt8.ofNat b))
theorem gP_one (A B : Dm) : OneG (psP A B) (gP A B) := fun x b c hb hc h => by
 obtain ⟨h1, h2⟩ := (psP_alike A B hb hc).1 h
 unfold gP stD
 rw [ofNat_toNat hb, ofNat_toNat hc, h1, h2]
def opP (how : Int) (x y : Bool) : Bool := if how = 1 then x && y else if how = 2 then x || y else if how = 3 then x && !y else x != y
def endP (A B : Dm) (how : Int) (x : Nat × Nat) : Bool := opP how (A.ends.getD x.1 false) (B.ends.getD x.2 false)
def QPr (A B : Dm) (r : Nat) : List (Nat × Nat) := Lq (fG (psP A B) (gP A B)) (0, 0) r
def FitPr (A B : Dm) (n : Nat) : Prop := Fit (fG (psP A B) (gP A B)) (0, 0) n
def prdN (A B : Dm) (how : Int) (n : Nat) : Dm := genN (psP A B) (gP A B) (0, 0) (endP A B how) n
theorem fold_gP (A B : Dm) : ∀ (w : List UInt8) (x : Nat × Nat), w.foldl (fun x b => gP A B x b.toNat) x = (toD A x.1 w, toD B x.2 w)
 | [], _ => rfl
 | b :: w, x => by
  rw [List.foldl_cons, fold_gP A B w]
  unfold gP
  rw [UInt8.ofNat_toNat]
  rfl
theorem acc_prd {A B : Dm} {how : Int} {n : Nat} (h : FitPr A B n) (w : List UInt8) : accD (prdN A B how n) 0 w = opP how (accD A 0 w) (accD B 0 w) := by
 unfold prdN
 rw [accD_genN (gP_one A B) h w, fold_gP]
 rfl
theorem nodup_pairs {m n : Nat} {L : List (Nat × Nat)} (hn : L.Nodup) (h : ∀ x ∈ L, x.1 < m ∧ x.2 < n) : L.length ≤ m * n := by
 have h1 := nodup_sub (L.map fun x => x.1 * n + x.2) (List.range (m * n)) ?_ ?_
 ·rw [List.length_map, List.length_range] at h1
  exact h1
 ·rw [List.Nodup, List.pairwise_map]
  refine (List.Pairwise.and_mem.1 hn).imp fun {a b} hab he => hab.2.2 ?_
  obtain ⟨a1, a2⟩ := h a hab.1
  obtain ⟨b1, b2⟩ := h b hab.2.1
  have hn0 : 0 < n := by omega
  have e1 : a.1 = b.1 := by
   have h2 := congrArg (· / n) he
   simp only [Nat.mul_comm _ n, Nat.mul_add_div hn0, Nat.div_eq_of_lt a2, Nat.div_eq_of_lt b2] at h2
   omega
  have e2 : a.2 = b.2 := by
   rw [e1] at he
   omega
  exact Prod.ext e1 e2
 ·intro y hy
  obtain ⟨x, hx, rfl⟩ := List.mem_map.1 hy
  obtain ⟨x1, x2⟩ := h x hx
  rw [List.mem_range]
  have h3 : (x.1 + 1) * n ≤ m * n := Nat.mul_le_mul_right n x1
  rw [Nat.add_mul, Nat.one_mul] at h3
  omega
theorem prd_rng {A B : Dm} (ha : MayD A) (hla : A.cl.length = 256) (hb : MayD B) (hlb : B.cl.length = 256) (r : Nat) : ∀ x ∈ QPr A B r, x.1 < A.next.length ∧ x.2 < B.next.length :=
 Lq_all (p := fun x : Nat × Nat => x.1 < A.next.length ∧ x.2 < B.next.length) ⟨by have := ha.pos; omega, by have := hb.pos; omega⟩ (fun x hx y hy => by
  obtain ⟨b, _, rfl⟩ := List.mem_map.1 hy
  exact ⟨toD_ltA ha hla [UInt8.ofNat b] x.1 hx.1, toD_ltA hb hlb [UInt8.ofNat b] x.2 hx.2⟩) r
theorem prd_fit {A B : Dm} (ha : MayD A) (hla : A.cl.length = 256) (hb : MayD B) (hlb : B.cl.length = 256) : ∃ n, n ≤ A.next.length * B.next.length ∧ FitPr A B n :=
 fit_ex fun r => nodup_pairs (Lq_nodup r) (prd_rng ha hla hb hlb r)
end Go.Proofs.Ytiehefnbdijiaaa
