/-
  Texts of this proof, put together: McM, MdA, PyG, PdA. No statement is proved here.
-/
import Derived.Test.YtbbodfpnneifgaaYU
import Derived.Test.YtbbodfpnneifgaaYH
import Derived.Test.YtbbodfpnneifgaaYA
import Derived.Test.YtbbodfpnneifgaaYD
import Derived.Test.YtbbodfpnneifgaaYB
import Derived.Test.YtbbodfpnneifgaaYT
namespace Go.Proofs.Ytbbodfpnneifgaa
open Go.RowKit
set_option linter.unusedSimpArgs false
set_option linter.unusedVariables false
theorem SpR.mono {L L' : Nat → List Int} {F F' : List Int} (h1 : ∀ i x, x ∈ L i → x ∈ L' i) (h2 : ∀ x, x ∈ F → x ∈ F') {j : Nat} (h : SpR L F j) : SpR L' F' j := by
 induction h with
 | base h => exact .base (h2 _ h)
 | go _ h ih => exact .go ih (h1 _ _ h)
theorem sprB_congr {L L' : Nat → List Int} {F F' : List Int} (h1 : ∀ i x, x ∈ L i ↔ x ∈ L' i) (h2 : ∀ x, x ∈ F ↔ x ∈ F') : sprB L F = sprB L' F' := by
 funext j
 rw [Bool.eq_iff_iff, sprB_iff, sprB_iff]
 exact ⟨SpR.mono (fun i x => (h1 i x).1) fun x => (h2 x).1, SpR.mono (fun i x => (h1 i x).2) fun x => (h2 x).2⟩
theorem stpL_mem {D : Dm} {l l' : List UInt8} (h : ∀ c, c ∈ l ↔ c ∈ l') (i : Nat) (x : Int) : x ∈ stpL D l i ↔ x ∈ stpL D l' i := by
 unfold stpL
 simp only [List.mem_map, h]
theorem stpL_rng {D : Dm} {l : List UInt8} (hm : MayD D) (hl : D.cl.length = 256) (h : ∀ c, c ∈ l ↔ c ∈ D.cl) {i : Nat} (hi : i < D.next.length) : ∀ x ∈ stpL D l i, 0 ≤ x ∧ x < (D.next.length : Int) := by
 intro x hx
 unfold stpL at hx
 obtain ⟨c, hc, rfl⟩ := List.mem_map.1 hx
 obtain ⟨j, hj⟩ := List.mem_iff_getElem?.1 ((h c).1 hc)
 have h1 := clsA_lt hl hj
 have h2 := List.getElem?_eq_getElem hi
 rw [nxt_at h2]
 have h3 := hm.rows _ (List.getElem_mem hi)
 rw [List.getElem?_eq_getElem (by rw [h3]; exact h1), Option.getD_some]
 exact hm.to _ (List.getElem_mem hi) _ (List.getElem_mem _)
noncomputable def reaM (D : Dm) (j : Nat) : Bool := sprB (stpL D D.cl) [0] j
noncomputable def livM (D : Dm) (j : Nat) : Bool := sprB (trI (stpL D D.cl) D.next.length 0) (endI D.ends D.ends.length) j
theorem reaM_of {D : Dm} {l : List UInt8} (h : ∀ c, c ∈ l ↔ c ∈ D.cl) : sprB (stpL D l) [0] = reaM D :=
 sprB_congr (stpL_mem h) fun _ => Iff.rfl
theorem livM_of {D : Dm} {l : List UInt8} (h : ∀ c, c ∈ l ↔ c ∈ D.cl) : sprB (trI (stpL D l) D.next.length 0) (endI D.ends D.ends.length) = livM D :=
 sprB_congr (fun i x => by
  rw [trI_mem, trI_mem]
  exact ⟨fun ⟨q, h1, h2, h3⟩ => ⟨q, h1, h2, (stpL_mem h q _).1 h3⟩, fun ⟨q, h1, h2, h3⟩ => ⟨q, h1, h2, (stpL_mem h q _).2 h3⟩⟩) fun _ => Iff.rfl
noncomputable def rchG (D : Dm) : List Bool := if mayDB D = true then (List.range D.next.length).map (reaM D) else []
noncomputable def lvgG (D : Dm) : List Bool := if mayDB D = true then (List.range D.next.length).map (livM D) else []
set_option maxHeartbeats 8000000 in
set_option maxRecDepth 1000000 in
theorem mcReach_any (D : Dm) (cs : List Value) (w : World) (hv : DfaV w cs D) :
  Calls Try.prog 14 #[.agg cs.toArray] w fun e w' => ∃ v : Value, e = .returned v ∧ Row w' v (bools (rchG D)) ∧ Below w.heap.size w w' := by
 have V0 := qH hv
 have HDS := qH hv.size
 have HL := qH (show D.cl.length = 256 by obtain ⟨An, Ae, cn, ce, vf, hl, _⟩ := hv.form; exact hl)
 obtain ⟨i1, hi1, hy0, hy1, hy2⟩ := infoC (show (Try.prog.info? 3).map (fun i => (i.zero, i.size, i.bytes)) = some (some (.int .i64 0), 1, 8) by kernel_rfl)
 obtain ⟨my, hmy⟩ : ∃ b, b = mayDB D := ⟨_, rfl⟩
 have HMY := qH hmy
 have HG := qH (show rchG D = if my = true then (List.range D.next.length).map (reaM D) else [] by rw [hmy]; rfl)
 rw [HG.out]
 clear hv hmy HG
 go_enter Try.func14, Try.ntmps14
 go_wp2_with (first
  | ((with_reducible refine atDst 1 ?_); refine wpList_box rfl 28 _ rfl cs rfl (Below.refl w.heap.size w) (Nat.le_refl _) ?_; intro w1 hk1 hb1 hs1 _; have K1 := qH hk1; have B1 := qH hb1; clear hk1 hb1 hs1; (try simp only [Act.put, qA, qB, qC]))
  | ((with_reducible refine atDst 3 ?_); refine wpList_ldArr rfl 28 _ rfl w.heap.size rfl 28 _ _ K1.out Try.underlying28 rfl HDS.out ?_; (try simp only [Act.put, qA, qB, qC])))
 refine (mMay_any D cs w1 (V0.out.below B1.out)).mono ?_
 rintro e w2 ⟨rfl, hb⟩
 rw [← HMY.out]
 have K2 := qH (K1.out.below hb K1.out.lt)
 have B2 := qH (B1.out.trans (hb.mono B1.out.size))
 clear hb
 cases my with
 | false =>
  go_wp2_with fail
  go_ret
  exact ⟨_, rfl, Row.nil _, B2.out⟩
 | true =>
  have HM := qH (mayDB_iff.1 HMY.out.symm)
  go_wp2_with ((with_reducible refine atDst 6 ?_); refine wpList_ldArr rfl 28 _ rfl w.heap.size rfl 28 _ _ K2.out Try.underlying28 rfl HDS.out ?_; (try simp only [Act.put, qA, qB, qC]))
  refine (mSteps_any D cs w2 (V0.out.below B2.out) HM.out).mono ?_
  rintro e w3 ⟨v, l, rfl, hlk, hml, hle, hb⟩
  have LK := qH hlk
  have ML := qH hml
  have B3 := qH (B2.out.trans (hb.mono B2.out.size))
  clear hlk hml hle hb
  go_wp2_with ((with_reducible refine atDst 8 ?_); refine wpList_plain rfl fun K hK => wp_bldVk 41 3 (.const (.int .i64 0)) rfl i1 (.int .i64 0) Try.underlying41 hi1 hy0 hy1 rfl (.int .i64 0) rfl rfl ?_; intro w4 hk hb; have K4 := qH hk; have B4 := qH hb; clear hk hb; refine hK _ _ ?_; clear hK K; (try simp only [Act.put, qA, qB, qC]))
  refine (mSpread_any v _ D.next.length (stpL D l) [0] w3 w4 HM.out.pos HM.out.few LK.out (fun i hi => stpL_rng HM.out HL.out ML.out hi) (by simp) (fun x hx => by
   obtain rfl := List.mem_singleton.1 hx
   exact ⟨Int.le_refl _, Int.ofNat_lt.2 HM.out.pos⟩) B4.out (K4.out.own (Nat.le_refl _) (by decide))).mono ?_
  rintro e w5 ⟨u, rfl, hr, hb⟩
  rw [reaM_of ML.out] at hr
  have RU := qH hr
  have B5 := qH (B3.out.trans ((B4.out.trans hb).mono B3.out.size))
  clear hr hb
  go_wp2_with fail
  go_ret
  exact ⟨_, rfl, RU.out, B5.out⟩
set_option maxHeartbeats 8000000 in
set_option maxRecDepth 1000000 in
theorem mcLive_any (D : Dm) (cs : List Value) (w : World) (hv : DfaV w cs D) :
  Calls Try.prog 16 #[.agg cs.toArray] w fun e w' => ∃ v : Value, e = .returned v ∧ Row w' v (bools (lvgG D)) ∧ Below w.heap.size w w' := by
 have V0 := qH hv
 have HDS := qH hv.size
 have HL := qH (show D.cl.length = 256 by obtain ⟨An, Ae, cn, ce, vf, hl, _⟩ := hv.form; exact hl)
 obtain ⟨i1, hi1, hy0, hy1, hy2⟩ := infoC (show (Try.prog.info? 3).map (fun i => (i.zero, i.size, i.bytes)) = some (some (.int .i64 0), 1, 8) by kernel_rfl)
 obtain ⟨my, hmy⟩ : ∃ b, b = mayDB D := ⟨_, rfl⟩
 have HMY := qH hmy
 have HG := qH (show lvgG D = if my = true then (List.range D.next.length).map (livM D) else [] by rw [hmy]; rfl)
 rw [HG.out]
 clear hv hmy HG
 go_enter Try.func16, Try.ntmps16
 go_wp2_with (first
  | ((with_reducible refine atDst 1 ?_); refine wpList_box rfl 28 _ rfl cs rfl (Below.refl w.heap.size w) (Nat.le_refl _) ?_; intro w1 hk1 hb1 hs1 _; have K1 := qH hk1; have B1 := qH hb1; clear hk1 hb1 hs1; (try simp only [Act.put, qA, qB, qC]))
  | ((with_reducible refine atDst 3 ?_); refine wpList_ldArr rfl 28 _ rfl w.heap.size rfl 28 _ _ K1.out Try.underlying28 rfl HDS.out ?_; (try simp only [Act.put, qA, qB, qC])))
 refine (mMay_any D cs w1 (V0.out.below B1.out)).mono ?_
 rintro e w2 ⟨rfl, hb⟩
 rw [← HMY.out]
 have K2 := qH (K1.out.below hb K1.out.lt)
 have B2 := qH (B1.out.trans (hb.mono B1.out.size))
 clear hb
 cases my with
 | false =>
  go_wp2_with fail
  go_ret
  exact ⟨_, rfl, Row.nil _, B2.out⟩
 | true =>
  have HM := qH (mayDB_iff.1 HMY.out.symm)
  go_wp2_with fail
  refine mc_start (fun V => Below w2.heap.size w2 V) (fun _ => True) 7 (by kernel_rfl) (fun wd hwd => ?_)
  have hX : Below w2.heap.size w2 wd := by rw [hwd]; exact (Below.refl _ _).drew
  have hY : True := trivial
  clear hwd
  refine mc_take (i := 0) (oi := ⟨some 6, _, _, _, _, _⟩) (v := .agg cs.toArray) rfl (by kernel_rfl) (by kernel_rfl) (by kernel_rfl) (fun _ _ _ h => h) rfl hX (fun V hT => ld_blk 28 (.tmp 1) rfl w.heap.size rfl 28 cs _ K2.out K2.out.lt Try.underlying28 rfl HDS.out V hT) ?_; simp only [Act.put, qA, qB, qC]
  refine mc_take (i := 3) (oi := ⟨some 9, _, _, _, _, _⟩) (v := .agg cs.toArray) rfl (by kernel_rfl) (by kernel_rfl) (by kernel_rfl) (fun _ _ _ h => h) rfl hX (fun V hT => ld_blk 28 (.tmp 1) rfl w.heap.size rfl 28 cs _ K2.out K2.out.lt Try.underlying28 rfl HDS.out V hT) ?_; simp only [Act.put, qA, qB, qC]
  refine mc_actB (i := 1) (o := ⟨some 7, _, _, _, _, _⟩) rfl (by kernel_rfl) rfl (fun K hK => ?_)
  have BD := qH hX
  go_wp2_with fail
  refine (mSteps_any D cs wd (V0.out.below (B2.out.trans (BD.out.mono B2.out.size))) HM.out).mono ?_
  rintro e w3 ⟨v, l, rfl, hlk, hml, hle, hb⟩
  have LK := qH hlk
  have ML := qH hml
  have LE := qH hle
  have B3 := qH (BD.out.trans (hb.mono BD.out.size))
  clear hlk hml hle hb
  go_wp2_with fail
  refine hK _ _ B3.out trivial ?_
  clear hK K hX
  have hX := B3.out
  (try simp only [Act.put, qA, qB, qC])
  refine mc_actB (i := 2) (o := ⟨some 8, _, _, _, _, _⟩) rfl (by kernel_rfl) rfl (fun K hK => ?_)
  go_wp2_with fail
  have HLL := qH (show LnkL D.next.length (stpL D l) from fun i hi => ⟨by rw [stpL_len]; exact LE.out, stpL_rng HM.out HL.out ML.out hi⟩)
  refine (mTurned_any v D.next.length (stpL D l) w3 HM.out.pos HM.out.few LK.out HLL.out).mono ?_
  rintro e w4 ⟨u, rfl, hlk, hb⟩
  have LU := qH hlk
  have B4 := qH (B3.out.trans (hb.mono B3.out.size))
  clear hlk hb
  go_wp2_with fail
  refine hK _ _ B4.out trivial ?_
  clear hK K hX
  have hX := B4.out
  (try simp only [Act.put, qA, qB, qC])
  refine mc_actB (i := 4) (o := ⟨some 10, _, _, _, _, _⟩) rfl (by kernel_rfl) rfl (fun K hK => ?_)
  go_wp2_with fail
  refine (mEnds_any D cs w4 (V0.out.below (B2.out.trans (B4.out.mono B2.out.size))) (by rw [HM.out.ends]; exact HM.out.few)).mono ?_
  rintro e w5 ⟨en, rfl, ho, hb⟩
  have OE := qH ho
  have B45 := qH hb
  have B5 := qH (B4.out.trans (hb.mono B4.out.size))
  clear ho hb
  go_wp2_with fail
  refine hK _ _ B5.out trivial ?_
  clear hK K hX
  have hX := B5.out
  (try simp only [Act.put, qA, qB, qC])
  refine mc_actB (i := 5) (o := ⟨some 11, _, _, _, _, _⟩) rfl (by kernel_rfl) rfl (fun K hK => ?_)
  go_wp2_with fail
  refine (mSpread_any u en D.next.length (trI (stpL D l) D.next.length 0) (endI D.ends D.ends.length) w4 w5 HM.out.pos HM.out.few LU.out (fun i _ x hx => by
   obtain ⟨q, h1, rfl, _⟩ := (trI_mem x).1 hx
   exact ⟨Int.natCast_nonneg _, Int.ofNat_lt.2 h1⟩) (endI_nodup _ _) (fun x hx => by
   obtain ⟨q, h1, rfl, _⟩ := (endI_mem x).1 hx
   rw [← HM.out.ends]
   exact ⟨Int.natCast_nonneg _, Int.ofNat_lt.2 h1⟩) B45.out OE.out).mono ?_
  rintro e w6 ⟨z, rfl, hr, hb⟩
  rw [livM_of ML.out] at hr
  have RZ := qH hr
  have B6 := qH (B4.out.trans ((B45.out.trans hb).mono B4.out.size))
  clear hr hb
  go_wp2_with fail
  refine hK _ _ B6.out trivial ?_
  clear hK K hX
  have hX := B6.out
  (try simp only [Act.put, qA, qB, qC])
  refine mc_take (i := 6) (oi := ⟨some 2, _, _, _, _, _⟩) (v := ?_) rfl (by kernel_rfl) (by kernel_rfl) (by kernel_rfl) (fun _ _ _ h => h) rfl hX ?_ ?_; rotate_left; (intro W hW; go_simp; try with_reducible rfl); simp only [Act.put, qA, qB, qC]
  refine wpAnyC_done (by kernel_rfl) ?_ _
  clear hX
  go_wp2_with fail
  go_ret
  exact ⟨_, rfl, RZ.out, B2.out.trans (B6.out.mono B2.out.size)⟩
/-! ### the machine that numbers make -/
def clsQ (m i : Nat) : Nat := if 97 ≤ i ∧ i < 97 + m then i - 97 else i % 7 % m
theorem clsQ_lt {m : Nat} (hm : 0 < m) (i : Nat) : clsQ m i < m := by
 unfold clsQ
 split
 ·omega
 ·exact Nat.mod_lt _ hm
def tabQ (m N : Nat) : List UInt8 := (List.range 256).map fun i => if i < N then UInt8.ofNat (clsQ m i) else 0
theorem tabQ_len (m N : Nat) : (tabQ m N).length = 256 := by simp [tabQ]
theorem tabQ_zero (m : Nat) : tabQ m 0 = ctab [] 0 := by
 unfold tabQ ctab
 refine List.map_congr_left fun i _ => ?_
 rw [if_neg (Nat.not_lt_zero _), if_neg (Nat.not_lt_zero _)]
theorem tabQ_set {m N : Nat} (hN : N < 256) : (tabQ m N).set N (UInt8.ofNat (clsQ m N)) = tabQ m (N + 1) := by
 apply List.ext_getElem?
 intro i
 unfold tabQ
 by_cases hi : i < 256
 ·by_cases he : N = i
  ·subst he
   rw [List.getElem?_set_self (by simp [hi])]
   simp only [List.getElem?_map, List.getElem?_range hi, Option.map_some]
   rw [if_pos (Nat.lt_succ_self _)]
  ·rw [List.getElem?_set_ne he]
   simp only [List.getElem?_map, List.getElem?_range hi, Option.map_some]
   by_cases h : i < N
   ·rw [if_pos h, if_pos (by omega)]
   ·rw [if_neg h, if_neg (by omega)]
 ·rw [List.getElem?_eq_none (by rw [List.length_set]; simp; omega), List.getElem?_eq_none (by simp; omega)]
theorem tabQ_at {m N i : Nat} (h : i < N) (hi : i < 256) : (tabQ m N)[i]? = some (UInt8.ofNat (clsQ m i)) := by
 unfold tabQ
 rw [List.getElem?_map, List.getElem?_range hi, Option.map_some, if_pos h]
theorem toNat_ofNatQ {n : Nat} (h : n < 256) : (UInt8.ofNat n).toNat = n := by
 rw [UInt8.toNat_ofNat']
 exact Nat.mod_eq_of_lt h
theorem clsD_upQ {cl : List UInt8} {K : Nat} (h : ∀ c ∈ cl, c.toNat + 1 ≤ K) : ∀ i, clsD cl i ≤ K
 | 0 => Nat.zero_le _
 | i + 1 => by
  rcases Nat.lt_or_ge i cl.length with hi | hi
  ·rw [clsD_next (List.getElem?_eq_getElem hi)]
   have h1 := clsD_upQ h i
   have h2 := h _ (List.getElem_mem hi)
   omega
  ·have : clsD cl (i + 1) = clsD cl i := by
    unfold clsD
    rw [List.take_of_length_le hi, List.take_of_length_le (by omega)]
   rw [this]
   exact clsD_upQ h i
theorem clsA_upQ {cl : List UInt8} {K : Nat} (h : ∀ c ∈ cl, c.toNat + 1 ≤ K) : clsA cl ≤ K := clsD_upQ h 256
theorem clsA_tab {m N : Nat} (hm : 0 < m) (hm2 : m ≤ 100) (hN : N = 256) : clsA (tabQ m N) = m := by
 apply Nat.le_antisymm
 ·refine clsA_upQ fun c hc => ?_
  obtain ⟨j, hj, rfl⟩ := List.getElem_of_mem hc
  have hj' : j < 256 := by rwa [tabQ_len] at hj
  have h1 := tabQ_at (m := m) (N := N) (i := j) (by omega) hj'
  rw [List.getElem?_eq_getElem hj] at h1
  injection h1 with h1
  have h2 := clsQ_lt hm j
  rw [h1, toNat_ofNatQ (by omega)]
  exact h2
 ·have h1 := tabQ_at (m := m) (N := N) (i := 97 + (m - 1)) (by omega) (by omega)
  have h2 := clsA_lt (tabQ_len m N) h1
  have h3 : clsQ m (97 + (m - 1)) = m - 1 := by
   unfold clsQ
   rw [if_pos (by omega)]
   omega
  rw [h3, toNat_ofNatQ (by omega)] at h2
  omega
def rowQ (ps : List UInt8) (k q : Nat) : Nat → List Int × Nat
 | 0 => ([], q)
 | j + 1 => ((rowQ ps k q j).1 ++ [(numV ps (rowQ ps k q j).2 k : Int)], numN ps (rowQ ps k q j).2)
theorem rowQ_len (ps : List UInt8) (k q : Nat) : ∀ j, (rowQ ps k q j).1.length = j
 | 0 => rfl
 | j + 1 => by
  show ((rowQ ps k q j).1 ++ [_]).length = j + 1
  rw [List.length_append, rowQ_len ps k q j]
  rfl
theorem rowQ_rng (ps : List UInt8) {k : Nat} (hk : 0 < k) (q : Nat) : ∀ j, ∀ x ∈ (rowQ ps k q j).1, 0 ≤ x ∧ x < (k : Int)
 | 0, x, hx => by cases hx
 | j + 1, x, hx => by
  have hx : x ∈ (rowQ ps k q j).1 ++ [(numV ps (rowQ ps k q j).2 k : Int)] := hx
  rcases List.mem_append.1 hx with hx | hx
  ·exact rowQ_rng ps hk q j x hx
  ·have e := List.mem_singleton.1 hx
   have := numV_lt ps (rowQ ps k q j).2 hk
   omega
def stQ (ps : List UInt8) (k m : Nat) : Nat → List (List Int) × List Bool × Nat
 | 0 => ([], [], 0)
 | i + 1 => ((stQ ps k m i).1 ++ [(rowQ ps k (stQ ps k m i).2.2 m).1], (stQ ps k m i).2.1 ++ [decide ((numV ps (rowQ ps k (stQ ps k m i).2.2 m).2 2 : Int) = 1)], numN ps (rowQ ps k (stQ ps k m i).2.2 m).2)
theorem stQ_len (ps : List UInt8) (k m : Nat) : ∀ i, (stQ ps k m i).1.length = i ∧ (stQ ps k m i).2.1.length = i
 | 0 => ⟨rfl, rfl⟩
 | i + 1 => by
  have h := stQ_len ps k m i
  constructor
  ·show ((stQ ps k m i).1 ++ [_]).length = i + 1
   rw [List.length_append, h.1]; rfl
  ·show ((stQ ps k m i).2.1 ++ [_]).length = i + 1
   rw [List.length_append, h.2]; rfl
theorem stQ_rows (ps : List UInt8) {k : Nat} (hk : 0 < k) (m : Nat) : ∀ i, ∀ r ∈ (stQ ps k m i).1, r.length = m ∧ ∀ x ∈ r, 0 ≤ x ∧ x < (k : Int)
 | 0, r, hr => by cases hr
 | i + 1, r, hr => by
  have hr : r ∈ (stQ ps k m i).1 ++ [(rowQ ps k (stQ ps k m i).2.2 m).1] := hr
  rcases List.mem_append.1 hr with hr | hr
  ·exact stQ_rows ps hk m i r hr
  ·rw [List.mem_singleton.1 hr]
   exact ⟨rowQ_len _ _ _ _, rowQ_rng ps hk _ m⟩
def dfaQ (n c : Nat) (ps : List UInt8) : Dm := ⟨tabQ (1 + c % 4) 256, (stQ ps (1 + n % 8) (1 + c % 4) (1 + n % 8)).1, (stQ ps (1 + n % 8) (1 + c % 4) (1 + n % 8)).2.1⟩
theorem dfaQ_len (n c : Nat) (ps : List UInt8) : (dfaQ n c ps).next.length = 1 + n % 8 := (stQ_len _ _ _ _).1
theorem dfaQ_ends (n c : Nat) (ps : List UInt8) : (dfaQ n c ps).ends.length = 1 + n % 8 := (stQ_len _ _ _ _).2
theorem dfaQ_cls (n c : Nat) (ps : List UInt8) : clsA (dfaQ n c ps).cl = 1 + c % 4 := clsA_tab (by omega) (by omega) rfl
theorem dfaQ_may (n c : Nat) (ps : List UInt8) : MayD (dfaQ n c ps) := by
 have h1 := dfaQ_len n c ps
 have h2 := dfaQ_cls n c ps
 have h3 := stQ_rows ps (k := 1 + n % 8) (by omega) (1 + c % 4) (1 + n % 8)
 refine ⟨by omega, by omega, by rw [dfaQ_ends, h1], fun r hr => ?_, fun r hr x hx => ?_⟩
 ·rw [h2]
  exact (h3 r hr).1
 ·rw [h1]
  exact (h3 r hr).2 x hx
/-! ### which states are live -/
inductive LvD (D : Dm) : Nat → Prop
 | base {i : Nat} : D.ends[i]? = some true → LvD D i
 | go {i j : Nat} {r : List Int} : D.next[i]? = some r → (j : Int) ∈ r → LvD D j → LvD D i
noncomputable def livB (D : Dm) (i : Nat) : Bool := @decide (LvD D i) (Classical.propDecidable _)
theorem livB_iff {D : Dm} {i : Nat} : livB D i = true ↔ LvD D i := by
 unfold livB
 exact @decide_eq_true_iff _ (Classical.propDecidable _)
structure Pv (D : Dm) (n : Nat) (t0 : Nat → Bool) (ag : Bool) (i kk : Nat) (t : Nat → Bool) : Prop where
 seeds : ∀ q, q < n → D.ends[q]? = some true → t q = true
 sound : ∀ q, q < n → t q = true → LvD D q
 more : ∀ q, t0 q = true → t q = true
 still : ag = false → ∀ q, q < n → t q = t0 q
 new : ag = true → ∃ q, q < n ∧ t0 q = false ∧ t q = true
 done : ag = false → ∀ i' r, i' < i → D.next[i']? = some r → t i' = false → ∀ x ∈ r, t x.toNat = false
 part : ag = false → ∀ r, D.next[i]? = some r → t i = false → ∀ m x, m < kk → r[m]? = some x → t x.toNat = false
section
variable {D : Dm} {n : Nat} {t0 t : Nat → Bool} {ag : Bool} {i kk : Nat}
theorem Pv.start (h1 : ∀ q, q < n → D.ends[q]? = some true → t q = true) (h2 : ∀ q, q < n → t q = true → LvD D q) : Pv D n t false 0 0 t :=
 ⟨h1, h2, fun _ h => h, fun _ _ _ => rfl, fun h => (by cases h), fun _ i' r h => absurd h (Nat.not_lt_zero i'), fun _ r _ _ m x h => absurd h (Nat.not_lt_zero m)⟩
theorem Pv.mark (h : Pv D n t0 ag i kk t) {r : List Int} (hr : D.next[i]? = some r) (hi : i < n) (ht : t i = false) {x : Int} (hx : r[kk]? = some x) (h0 : 0 ≤ x) (hxn : x < (n : Int)) (htx : t x.toNat = true) : Pv D n t0 true i (kk + 1) (updB t i true) := by
 have hup : ∀ q, t q = true → updB t i true q = true := fun q hq => by unfold updB; split; rfl; exact hq
 refine ⟨fun q hq he => hup q (h.seeds q hq he), fun q hq hu => ?_, fun q hq => hup q (h.more q hq), fun h => (by cases h), fun _ => ⟨i, hi, ?_, by unfold updB; rw [if_pos rfl]⟩, fun h => (by cases h), fun h => (by cases h)⟩
 ·unfold updB at hu
  by_cases hqi : q = i
  ·rw [hqi]
   exact .go hr (by rw [Int.toNat_of_nonneg h0]; exact List.mem_of_getElem? hx) (h.sound x.toNat (by omega) htx)
  ·rw [if_neg hqi] at hu
   exact h.sound q hq hu
 ·cases h0 : t0 i with
  | false => rfl
  | true => rw [h.more i h0] at ht; cases ht
theorem Pv.skip (h : Pv D n t0 ag i kk t) {r : List Int} (hr : D.next[i]? = some r) {x : Int} (hx : r[kk]? = some x) (htx : t x.toNat = false) : Pv D n t0 ag i (kk + 1) t := by
 refine ⟨h.seeds, h.sound, h.more, h.still, h.new, h.done, fun ha r' hr' ht m y hm hy => ?_⟩
 rw [hr] at hr'
 injection hr' with hr'
 subst hr'
 rcases Nat.lt_or_ge m kk with hlt | hge
 ·exact h.part ha r hr ht m y hlt hy
 ·obtain rfl : m = kk := by omega
  rw [hx] at hy
  injection hy with hy
  rw [← hy]
  exact htx
theorem Pv.next (h : Pv D n t0 ag i kk t) {r : List Int} (hr : D.next[i]? = some r) (hk : kk = r.length ∨ t i = true) : Pv D n t0 ag (i + 1) 0 t := by
 refine ⟨h.seeds, h.sound, h.more, h.still, h.new, fun ha i' r' hi hr' ht x hx => ?_, fun _ r _ _ m x h => absurd h (Nat.not_lt_zero m)⟩
 rcases Nat.lt_or_ge i' i with hlt | hge
 ·exact h.done ha i' r' hlt hr' ht x hx
 ·obtain rfl : i' = i := by omega
  rw [hr] at hr'
  injection hr' with hr'
  subst hr'
  rcases hk with hk | hk
  ·obtain ⟨m, hm, hmx⟩ := List.getElem_of_mem hx
   exact h.part ha r hr ht m x (by omega) (by rw [List.getElem?_eq_getElem hm, hmx])
  ·rw [hk] at ht; cases ht
structure Pw (D : Dm) (n : Nat) (ag : Bool) (t : Nat → Bool) : Prop where
 seeds : ∀ q, q < n → D.ends[q]? = some true → t q = true
 sound : ∀ q, q < n → t q = true → LvD D q
 done : ag = false → ∀ q, q < n → (t q = true ↔ LvD D q)
theorem Pv.all (h : Pv D n t0 ag n kk t) (hn : n = D.next.length) (he : D.ends.length = n) (hto : ∀ r ∈ D.next, ∀ x ∈ r, 0 ≤ x ∧ x < (n : Int)) : Pw D n ag t := by
 refine ⟨h.seeds, h.sound, fun ha q hq => ⟨h.sound q hq, fun hl => ?_⟩⟩
 subst ha
 revert hq
 induction hl with
 | base h1 => exact fun hq => h.seeds _ hq h1
 | @go i j r h1 h2 h3 ih =>
  intro hq
  have hj := (hto r (List.mem_of_getElem? h1) _ h2).2
  have ihj := ih (by omega)
  cases ht : t i with
  | true => rfl
  | false =>
   have h4 := h.done rfl i r hq h1 ht _ h2
   rw [Int.toNat_natCast, ihj] at h4
   cases h4
theorem Pv.less (h : Pv D n t0 true i kk t) : unm n t < unm n t0 := unm_less h.more (h.new rfl)
end
theorem built_picks (A : Option Addr) (n c : Nat) : Try.prog.built 56 [(0, .slice A n c)] = some #[.slice A n c, .int .i64 0] := by kernel_rfl
set_option maxHeartbeats 4000000 in
set_option maxRecDepth 1000000 in
theorem made_any (V : Value) (ps : List UInt8) (w : World) (hr : Row w V (bvs ps)) (hl : ps.length ≤ 1048576) :
  Calls Try.prog 23 #[V] w fun e w' => e = .returned (.pointer (some ⟨w.heap.size, 0, none⟩)) ∧ Below w.heap.size w w' ∧ Pk w' w.heap.size V ps 0 := by
 have R := qH hr
 obtain ⟨A, cap, rfl, _⟩ := hr
 obtain ⟨n, hn⟩ : ∃ n, n = (bvs ps).length := ⟨_, rfl⟩
 rw [← hn] at R ⊢
 obtain ⟨cs, hcs⟩ : ∃ cs, cs = [Value.slice A n cap, .int .i64 0] := ⟨_, rfl⟩
 have HB := qH (show Try.prog.built 56 [(0, .slice A n cap)] = some cs.toArray by rw [hcs]; exact built_picks A n cap)
 have HC := qH hcs
 clear hn hcs
 go_enter Try.func23, Try.ntmps23
 go_wp2_with (first
  | ((with_reducible refine atDst 4 ?_); refine wpList_bld rfl 56 _ rfl cs HB.out ?_; (try simp only [Act.put, qA, qB, qC]))
  | ((with_reducible refine atDst 5 ?_); refine wpList_box rfl 56 _ rfl cs rfl (Below.refl w.heap.size w) (Nat.le_refl _) ?_; intro w1 hk1 hb1 hs1 _; have K1 := qH hk1; have B1 := qH hb1; clear hk1 hb1 hs1; (try simp only [Act.put, qA, qB, qC])))
 go_ret
 have hk := K1.out
 rw [HC.out] at hk
 exact ⟨rfl, B1.out, ⟨hk, R.out.toB.below B1.out, Nat.zero_le _, hl⟩⟩
def tyU : Nat → TypeId
 | 0 => 41
 | 1 => 4
 | _ => 3
structure Apt (w : World) (H m : Nat) (U : Nat → Value) (X : Nat → List Value) : Prop where
 own : ∀ i, i < m → w.ownsRow H (tyU i) 1 (U i) (X i).length (X i)
 inj : ∀ i j, i < m → j < m → i ≠ j → ∀ k, (U i).ownBlock = some k → (U j).ownBlock ≠ some k
def putX (X : Nat → List Value) (s : Nat) (l : List Value) : Nat → List Value := fun i => if i = s then l else X i
theorem putX_at (X : Nat → List Value) (s : Nat) (l : List Value) : putX X s l s = l := if_pos rfl
theorem putX_ne {X : Nat → List Value} {s i : Nat} {l : List Value} (h : i ≠ s) : putX X s l i = X i := if_neg h
section
variable {w w' : World} {H m : Nat} {U : Nat → Value} {X : Nat → List Value}
theorem Apt.stay (h : Apt w H m U X) (hs : ∀ k, H ≤ k → k < w.heap.size → w'.heap[k]? = w.heap[k]?) : Apt w' H m U X :=
 ⟨fun i hi => own6_stay (h.own i hi) fun j hj => hs j (own6_lt (h.own i hi) j hj).2 (own6_lt (h.own i hi) j hj).1, h.inj⟩
theorem Apt.below (h : Apt w H m U X) (hb : Below w.heap.size w w') : Apt w' H m U X := h.stay fun k _ hk => hb.block k hk
theorem Apt.lt (h : Apt w H m U X) {i : Nat} (hi : i < m) : ∀ k, (U i).ownBlock = some k → k < w.heap.size ∧ H ≤ k := own6_lt (h.own i hi)
theorem Apt.grow (h : Apt w H m U X) {s : Nat} (hs : s < m) {v : Value} {l : List Value} (ho : w'.ownsRow H (tyU s) 1 v l.length l) (hg : w.grownBy w' (U s).ownBlock) (hw : ∀ k, v.ownBlock = some k → (U s).ownBlock = some k ∨ w.heap.size ≤ k) :
  Apt w' H m (putV U s v) (putX X s l) := by
 have hkeep : ∀ i, i < m → i ≠ s → ∀ k, (U i).ownBlock = some k → w'.heap[k]? = w.heap[k]? := fun i hi hne k hk =>
  hg.block k (h.lt hi k hk).1 fun e => h.inj i s hi hs hne k hk (by first | exact e | exact e.symm)
 refine ⟨fun i hi => ?_, fun i j hi hj hij k hk => ?_⟩
 ·by_cases hne : i = s
  ·subst hne
   rw [putV_at, putX_at]
   exact ho
  ·rw [putV_ne hne, putX_ne hne]
   exact own6_stay (h.own i hi) fun j hj => hkeep i hi hne j hj
 ·by_cases hi2 : i = s
  ·have hj2 : j ≠ s := fun e => hij (by rw [hi2, e])
   rw [hi2, putV_at] at hk
   rw [putV_ne hj2]
   rcases hw k hk with e | e
   ·exact h.inj s j hs hj (Ne.symm hj2) k e
   ·exact fun e2 => absurd (h.lt hj k e2).1 (Nat.not_lt.2 e)
  ·rw [putV_ne hi2] at hk
   by_cases hj2 : j = s
   ·rw [hj2, putV_at]
    intro e2
    rcases hw k e2 with e | e
    ·exact h.inj s i hs hi (Ne.symm hi2) k e hk
    ·exact absurd (h.lt hi k hk).1 (Nat.not_lt.2 e)
   ·rw [putV_ne hj2]
    exact h.inj i j hi hj hij k hk
theorem Apt.more (h : Apt w H m U X) : Apt w H (m + 1) (putV U m (.slice none 0 0)) (putX X m []) := by
 refine ⟨fun i hi => ?_, fun i j hi hj hij k hk => ?_⟩
 ·by_cases hne : i = m
  ·subst hne
   rw [putV_at, putX_at]
   exact ownC_nil _ _ _
  ·rw [putV_ne hne, putX_ne hne]
   exact h.own i (by omega)
 ·by_cases hi2 : i = m
  ·rw [hi2, putV_at] at hk
   cases (show (none : Option Nat) = some k from hk)
  ·rw [putV_ne hi2] at hk
   by_cases hj2 : j = m
   ·rw [hj2, putV_at]
    intro e
    cases (show (none : Option Nat) = some k from e)
   ·rw [putV_ne hj2]
    exact h.inj i j (by omega) (by omega) hij k hk
theorem Apt.set (h : Apt w H m U X) {s : Nat} (hs : s < m) {g n cap : Nat} (hv : U s = .slice (some ⟨g, 0, none⟩) n cap) {q : Nat} (hq : q < (X s).length) (u : Value) : Apt (w.setCell ⟨g, q, none⟩ u) H m U (putX X s ((X s).set q u)) := by
 refine ⟨fun i hi => ?_, h.inj⟩
 by_cases hne : i = s
 ·subst hne
  rw [putX_at, List.length_set]
  have h1 := h.own i hi
  rw [hv] at h1 ⊢
  have h2 : n = (X i).length := by
   rcases h1.2 with ⟨e, _⟩ | ⟨g', cap', cur, e, _⟩
   ·cases e
   ·injection e
  rw [← h2] at h1 ⊢
  exact own_set h1 hq u
 ·rw [putX_ne hne]
  refine own6_stay (h.own i hi) fun j hj => Below.heap_setCell w ⟨g, q, none⟩ u j fun e => h.inj s i hs hi (Ne.symm hne) g (by rw [hv]; rfl) (by rw [hj]; exact congrArg some e)
end
def DfaA (w : World) (H : Nat) (cs : List Value) (D : Dm) : Prop :=
 ∃ (U : Nat → Value) (X : Nat → List Value), D.cl.length = 256 ∧ cs = dcl D.cl (U 0) (U 1) ∧ Apt w H (2 + D.next.length) U X ∧ X 0 = (List.range D.next.length).map (fun q => U (q + 2)) ∧ X 1 = bools D.ends ∧ ∀ i r, D.next[i]? = some r → X (i + 2) = nums .i64 r
theorem DfaA.dfa {w : World} {H : Nat} {cs : List Value} {D : Dm} (h : DfaA w H cs D) : DfaV w cs D := by
 obtain ⟨U, X, h1, h2, h3, h4, h5, h6⟩ := h
 have r0 : Row w (U 0) (X 0) := Row.of_own (h3.own 0 (by omega))
 have r1 : Row w (U 1) (X 1) := Row.of_own (h3.own 1 (by omega))
 refine ⟨h1, U 0, U 1, fun q => U (q + 2), h2, by rwa [h4] at r0, fun i r hr => ?_, by rwa [h5] at r1⟩
 have hi := (List.getElem?_eq_some_iff.1 hr).1
 have r2 : Row w (U (i + 2)) (X (i + 2)) := Row.of_own (h3.own (i + 2) (by omega))
 rwa [h6 i r hr] at r2
end Go.Proofs.Ytbbodfpnneifgaa
