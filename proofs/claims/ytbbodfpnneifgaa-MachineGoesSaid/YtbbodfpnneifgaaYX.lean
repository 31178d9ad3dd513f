/-
  Texts of this proof, put together: McF, FlD, McE. No statement is proved here.
-/
import Derived.Test.YtbbodfpnneifgaaYS
import Derived.Test.YtbbodfpnneifgaaYE
import Derived.Test.YtbbodfpnneifgaaYD
namespace Go.Proofs.Ytbbodfpnneifgaa
open Go.RowKit
set_option linter.unusedSimpArgs false
set_option linter.unusedVariables false
abbrev eqIV : Value := .func (.func 34) #[] #[]
set_option maxHeartbeats 8000000 in
set_option maxRecDepth 1000000 in
theorem eqRows_any (X Y : List (List Int)) (uf vf : Nat → Value) (u v : Value) (w : World) (hu : Row w u ((List.range X.length).map uf)) (hv : Row w v ((List.range Y.length).map vf))
  (hur : ∀ i r, X[i]? = some r → Row w (uf i) (nums .i64 r)) (hvr : ∀ i r, Y[i]? = some r → Row w (vf i) (nums .i64 r)) (hn : X.length ≤ 1048576) (hrl : ∀ r ∈ X, r.length ≤ 1048576) :
  Calls Try.prog 33 #[u, v, eqIV] w fun e w' => e = .returned (.bool (decide (X = Y))) ∧ Below w.heap.size w w' := by
 have HU := qH hu
 have HV := qH hv
 have HUR := qH hur
 have HVR := qH hvr
 have HNM := qH hn
 have HRL := qH hrl
 obtain ⟨A, c, rfl, _⟩ := hu
 obtain ⟨B, d, rfl, _⟩ := hv
 obtain ⟨n, hnn⟩ : ∃ n, n = X.length := ⟨_, rfl⟩
 obtain ⟨m, hm⟩ : ∃ m, m = Y.length := ⟨_, rfl⟩
 have HN := qH hnn
 have HM := qH hm
 rw [List.length_map, List.length_range, ← hnn] at HU ⊢
 rw [List.length_map, List.length_range, ← hm] at HV ⊢
 clear hn hnn hm hur hvr hrl
 by_cases hnm : n = m
 ·subst hnm
  go_enter Try.func33, Try.ntmps33
  go_wp2_with fail
  go_loopw [17] (fun iv wl => ∃ i : Nat, iv = .int .i64 (i : Int) ∧ i ≤ n ∧ (∀ j, j < i → X[j]? = Y[j]?) ∧ Below w.heap.size w wl) (fun iv _ => n - (intOf iv).toNat)
  case atStart => exact ⟨0, rfl, Nat.zero_le _, fun j h => absurd h (Nat.not_lt_zero _), Below.refl _ _⟩
  obtain ⟨i, rfl, hi, heq, hb⟩ := hrel
  have HEQ := qH heq
  have BR := qH hb
  have HI := qH hi
  clear heq hb hi
  by_cases hin : i < n
  ·have x1 : (i : Int) < (n : Int) := Int.ofNat_lt.2 hin
   have HIN := qH hin
   have HMI := qH (sub_next hin)
   have e3 := wrap_one i (Nat.le_trans (Nat.le_of_lt hin) (by rw [HN.out]; exact Nat.le_trans HNM.out (by decide)))
   have e4 := wrap_one' i (Nat.le_trans (Nat.le_of_lt hin) (by rw [HN.out]; exact Nat.le_trans HNM.out (by decide)))
   obtain ⟨x, hx⟩ : ∃ x, X[i]? = some x := ⟨_, List.getElem?_eq_getElem (by rw [← HN.out]; exact hin)⟩
   obtain ⟨y, hy⟩ : ∃ y, Y[i]? = some y := ⟨_, List.getElem?_eq_getElem (by rw [← HM.out]; exact hin)⟩
   have HX := qH hx
   have HY := qH hy
   have rx := (HUR.out i x hx).below BR.out
   have ry := (HVR.out i y hy).below BR.out
   have RX := qH rx
   have RY := qH ry
   obtain ⟨A1, c1, hv1, _⟩ := rx
   obtain ⟨A2, c2, hv2, _⟩ := ry
   rw [hv1] at RX
   rw [hv2] at RY
   rw [nums_length] at hv1 hv2 RX RY
   obtain ⟨l1, hl1⟩ : ∃ l, l = x.length := ⟨_, rfl⟩
   obtain ⟨l2, hl2⟩ : ∃ l, l = y.length := ⟨_, rfl⟩
   rw [← hl1] at hv1 RX
   rw [← hl2] at hv2 RY
   have HLX := qH (HRL.out x (List.mem_of_getElem? hx))
   obtain ⟨b1, o1, rfl, _, hc1⟩ := (HU.out.below BR.out).at_ (by simp; exact Nat.lt_of_le_of_lt (Nat.zero_le _) hin)
   obtain ⟨b2, o2, rfl, _, hc2⟩ := (HV.out.below BR.out).at_ (by simp; exact Nat.lt_of_le_of_lt (Nat.zero_le _) hin)
   have hd1 : wr.cell? ⟨b1, o1 + i, none⟩ = some (.slice A1 l1 c1) := hc1 i _ (by simp [hin, hv1])
   have hd2 : wr.cell? ⟨b2, o2 + i, none⟩ = some (.slice A2 l2 c2) := hc2 i _ (by simp [hin, hv2])
   obtain ⟨q, hq⟩ : ∃ q, q = decide (x = y) := ⟨_, rfl⟩
   have HQE := qH hq
   clear hin hx hy hc1 hc2 hq hl1 hl2 hv1 hv2
   go_wp2_with fail
   refine (eqInts_any x y _ _ wr RX.out RY.out HLX.out).mono ?_
   rintro e w2 ⟨rfl, hb⟩
   rw [← HQE.out]
   have BD := qH (BR.out.trans (hb.mono BR.out.size))
   clear hb hd1 hd2
   cases q with
   | true =>
    have HXY := qH (show x = y from of_decide_eq_true HQE.out.symm)
    have HEN := qH (show ∀ j, j < i + 1 → X[j]? = Y[j]? from fun j hj => by
     rcases Nat.lt_succ_iff_lt_or_eq.1 hj with h | h
     ·exact HEQ.out j h
     ·rw [h, HX.out, HY.out, HXY.out])
    clear HQE
    go_wp2_with fail
    exact ⟨⟨i + 1, by congr 1, HIN.out, HEN.out, BD.out⟩, by simpa [intOf] using HMI.out⟩
   | false =>
    have HNE := qH (show decide (X = Y) = false from decide_eq_false fun h => of_decide_eq_false HQE.out.symm (by
     have h1 := HX.out
     rw [h, HY.out] at h1
     exact (Option.some.inj h1).symm))
    clear HQE
    go_wp2_with fail
    go_ret
    rw [HNE.out]
    exact ⟨rfl, BD.out⟩
  ·obtain rfl : i = n := Nat.le_antisymm HI.out (Nat.le_of_not_lt hin)
   have x1 : ¬ ((i : Int) < (i : Int)) := Int.lt_irrefl _
   have HYE := qH (show decide (X = Y) = true from decide_eq_true (List.ext_getElem? fun j => by
    by_cases hj : j < i
    ·exact HEQ.out j hj
    ·rw [List.getElem?_eq_none (by rw [← HN.out]; omega), List.getElem?_eq_none (by rw [← HM.out]; omega)]))
   clear hin
   go_wp2_with fail
   go_ret
   rw [HYE.out]
   exact ⟨rfl, BR.out⟩
 ·have x1 : ¬ ((n : Int) = (m : Int)) := fun h => hnm (Int.ofNat.inj h)
  have HNE := qH (show decide (X = Y) = false from decide_eq_false fun h => hnm (by rw [HN.out, HM.out, h]))
  go_enter Try.func33, Try.ntmps33
  go_wp2_with fail
  go_ret
  rw [HNE.out]
  exact ⟨rfl, Below.refl _ _⟩
set_option maxHeartbeats 8000000 in
set_option maxRecDepth 1000000 in
theorem mSame_any (D E : Dm) (cs es : List Value) (w : World) (hv : DfaV w cs D) (he : DfaV w es E) (hN : D.next.length ≤ 2000) (hE : D.ends.length ≤ 2000) (hR : ∀ r ∈ D.next, r.length ≤ 2000) :
  Calls Try.prog 19 #[.agg cs.toArray, .agg es.toArray] w fun e w' => e = .returned (.bool (decide (D = E))) ∧ Below w.heap.size w w' := by
 have V0 := qH hv
 have U0 := qH he
 have HDS := qH hv.size
 have HES := qH he.size
 obtain ⟨An, Ae, cn, ce, vf, hl, hcs, hn, hr, hne⟩ := hv.form
 obtain ⟨Bn, Be, dn, de, uf, hl2, hes, hn2, hr2, hne2⟩ := he.form
 have HL := qH hl
 have HL2 := qH hl2
 have HCS := qH hcs
 have HCS2 := qH hes
 have HN1 := qH hn
 have HN2 := qH hn2
 have HR1 := qH hr
 have HR2 := qH hr2
 have HE1 := qH hne
 have HE2 := qH hne2
 have HNF := qH hN
 have HEF := qH hE
 have HRF := qH hR
 obtain ⟨cl, hcl⟩ : ∃ cl, cl = D.cl := ⟨_, rfl⟩
 obtain ⟨cm, hcm⟩ : ∃ cl, cl = E.cl := ⟨_, rfl⟩
 have HCL := qH hcl
 have HCM := qH hcm
 rw [← hcl] at HL HCS
 rw [← hcm] at HL2 HCS2
 obtain ⟨q1, hq1⟩ : ∃ q, q = decide (cl = cm) := ⟨_, rfl⟩
 obtain ⟨q2, hq2⟩ : ∃ q, q = decide (D.next = E.next) := ⟨_, rfl⟩
 obtain ⟨q3, hq3⟩ : ∃ q, q = decide (D.ends = E.ends) := ⟨_, rfl⟩
 have HQ1 := qH hq1
 have HQ2 := qH hq2
 have HQ3 := qH hq3
 have HSC := qH (show (Try.prog.info? 24).map (·.size) = some (bvs cl).length from size_ctab HL.out)
 have HSC2 := qH (show (Try.prog.info? 24).map (·.size) = some (bvs cm).length from size_ctab HL2.out)
 have HFIN := qH (show decide (D = E) = (q1 && (q2 && q3)) by
  rw [hq1, hq2, hq3, hcl, hcm, Bool.eq_iff_iff]
  simp only [Bool.and_eq_true, decide_eq_true_iff]
  constructor
  ·intro h; rw [h]; exact ⟨rfl, rfl, rfl⟩
  ·rintro ⟨h1, h2, h3⟩
   obtain ⟨c1, n1, e1⟩ := D
   obtain ⟨c2, n2, e2⟩ := E
   simp only at h1 h2 h3
   rw [h1, h2, h3])
 rw [HFIN.out]
 clear hv he hl hl2 hcs hes hn hr hne hn2 hr2 hne2 hN hE hR hcl hcm hq1 hq2 hq3
 go_enter Try.func19, Try.ntmps19
 cases q1 with
 | false =>
  go_wp2_with (first
   | ((with_reducible refine atDst 2 ?_); refine wpList_box rfl 28 _ rfl cs rfl (Below.refl w.heap.size w) (Nat.le_refl _) ?_; intro w1 hk1 hb1 hs1 _; have K1 := qH hk1; have B1 := qH hb1; clear hk1 hb1 hs1; (try simp only [Act.put, qA, qB, qC]))
   | ((with_reducible refine atDst 3 ?_); refine wpList_box rfl 28 _ rfl es rfl (Below.refl w1.heap.size w1) (Nat.le_refl _) ?_; intro w2 hk hb hs _; have L2 := qH hk; have K2 := qH (K1.out.below hb K1.out.lt); have B2 := qH (B1.out.trans (hb.mono B1.out.size)); (skip); have r1 := qH (show w2.rangeAt w.heap.size 0 (bvs cl) from fun i v hv => by { rw [Nat.zero_add, K2.out.cell i, HCS.out, dcl_cl HL.out (by have := (List.getElem?_eq_some_iff.1 hv).1; rw [bvs_length, HL.out] at this; exact this)]; exact hv }); have r2 := qH (show w2.rangeAt w1.heap.size 0 (bvs cm) from fun i v hv => by { rw [Nat.zero_add, L2.out.cell i, HCS2.out, dcl_cl HL2.out (by have := (List.getElem?_eq_some_iff.1 hv).1; rw [bvs_length, HL2.out] at this; exact this)]; exact hv }); clear hk hb hs; (try simp only [Act.put, qA, qB, qC]))
   | ((with_reducible refine atDst 6 ?_); refine wpList_load_mid rfl 24 _ rfl w.heap.size 0 rfl (bvs cl) _ r1.out Try.underlying24 rfl HSC.out ?_; (try simp only [Act.put, qA, qB, qC]))
   | ((with_reducible refine atDst 8 ?_); refine wpList_load_mid rfl 24 _ rfl w1.heap.size 0 rfl (bvs cm) _ r2.out Try.underlying24 rfl HSC2.out ?_; (try simp only [Act.put, qA, qB, qC]))
   | ((with_reducible refine atDst 9 ?_); refine wpList_eqArr rfl 24 5 256 (.tmp 6) (.tmp 8) 24 rfl guard_cls Try.underlying24 Try.underlying5 size_byte cl cm HL.out HL2.out rfl rfl ?_; rw [← HQ1.out]; (try simp only [Act.put, qA, qB, qC])))
  go_ret
  exact ⟨rfl, B2.out⟩
 | true =>
  go_wp2_with (first
   | ((with_reducible refine atDst 2 ?_); refine wpList_box rfl 28 _ rfl cs rfl (Below.refl w.heap.size w) (Nat.le_refl _) ?_; intro w1 hk1 hb1 hs1 _; have K1 := qH hk1; have B1 := qH hb1; clear hk1 hb1 hs1; (try simp only [Act.put, qA, qB, qC]))
   | ((with_reducible refine atDst 3 ?_); refine wpList_box rfl 28 _ rfl es rfl (Below.refl w1.heap.size w1) (Nat.le_refl _) ?_; intro w2 hk hb hs _; have L2 := qH hk; have K2 := qH (K1.out.below hb K1.out.lt); have B2 := qH (B1.out.trans (hb.mono B1.out.size)); (have c256 : w2.cell? ⟨w.heap.size, 256, none⟩ = some (.slice An D.next.length cn) := (by rw [K2.out.cell 256, HCS.out]; exact dcl_n HL.out); have d256 : w2.cell? ⟨w1.heap.size, 256, none⟩ = some (.slice Bn E.next.length dn) := (by rw [L2.out.cell 256, HCS2.out]; exact dcl_n HL2.out)); have r1 := qH (show w2.rangeAt w.heap.size 0 (bvs cl) from fun i v hv => by { rw [Nat.zero_add, K2.out.cell i, HCS.out, dcl_cl HL.out (by have := (List.getElem?_eq_some_iff.1 hv).1; rw [bvs_length, HL.out] at this; exact this)]; exact hv }); have r2 := qH (show w2.rangeAt w1.heap.size 0 (bvs cm) from fun i v hv => by { rw [Nat.zero_add, L2.out.cell i, HCS2.out, dcl_cl HL2.out (by have := (List.getElem?_eq_some_iff.1 hv).1; rw [bvs_length, HL2.out] at this; exact this)]; exact hv }); clear hk hb hs; (try simp only [Act.put, qA, qB, qC]))
   | ((with_reducible refine atDst 6 ?_); refine wpList_load_mid rfl 24 _ rfl w.heap.size 0 rfl (bvs cl) _ r1.out Try.underlying24 rfl HSC.out ?_; (try simp only [Act.put, qA, qB, qC]))
   | ((with_reducible refine atDst 8 ?_); refine wpList_load_mid rfl 24 _ rfl w1.heap.size 0 rfl (bvs cm) _ r2.out Try.underlying24 rfl HSC2.out ?_; (try simp only [Act.put, qA, qB, qC]))
   | ((with_reducible refine atDst 9 ?_); refine wpList_eqArr rfl 24 5 256 (.tmp 6) (.tmp 8) 24 rfl guard_cls Try.underlying24 Try.underlying5 size_byte cl cm HL.out HL2.out rfl rfl ?_; rw [← HQ1.out]; (try simp only [Act.put, qA, qB, qC])))
  refine (eqRows_any D.next E.next vf uf _ _ w2 (HN1.out.below B2.out) (HN2.out.below B2.out) (fun i r h => (HR1.out i r h).below B2.out) (fun i r h => (HR2.out i r h).below B2.out) (Nat.le_trans HNF.out (by decide)) (fun r h => Nat.le_trans (HRF.out r h) (by decide))).mono ?_
  rintro e w3 ⟨rfl, hb⟩
  rw [← HQ2.out]
  have B3 := qH (B2.out.trans (hb.mono B2.out.size))
  have K3 := qH (K2.out.below hb K2.out.lt)
  have L3 := qH (L2.out.below hb L2.out.lt)
  clear hb c256 d256
  cases q2 with
  | false =>
   go_wp2_with fail
   go_ret
   exact ⟨rfl, B3.out⟩
  | true =>
   have c257 : w3.cell? ⟨w.heap.size, 257, none⟩ = some (.slice Ae D.ends.length ce) := by rw [K3.out.cell 257, HCS.out]; exact dcl_e HL.out
   have d257 : w3.cell? ⟨w1.heap.size, 257, none⟩ = some (.slice Be E.ends.length de) := by rw [L3.out.cell 257, HCS2.out]; exact dcl_e HL2.out
   go_wp2_with fail
   refine (eqBools_any D.ends E.ends _ _ w3 (HE1.out.below B3.out) (HE2.out.below B3.out) (Nat.le_trans HEF.out (by decide))).mono ?_
   rintro e w4 ⟨rfl, hb⟩
   rw [← HQ3.out]
   have B4 := qH (B3.out.trans (hb.mono B3.out.size))
   clear hb c257 d257
   go_wp2_with fail
   go_ret
   exact ⟨rfl, B4.out⟩
def flipD (D : Dm) : Dm := ⟨D.cl, D.next, D.ends.map fun b => !b⟩
theorem flipD_may {D : Dm} (h : MayD D) : MayD (flipD D) := ⟨h.pos, h.few, by
 show (D.ends.map _).length = D.next.length
 rw [List.length_map]
 exact h.ends, h.rows, h.to⟩
theorem flipD_twice (D : Dm) : flipD (flipD D) = D := by
 obtain ⟨cl, next, ends⟩ := D
 unfold flipD
 congr 1
 show (ends.map fun b => !b).map (fun b => !b) = ends
 rw [List.map_map]
 conv => rhs; rw [← List.map_id ends]
 refine List.map_congr_left fun b _ => ?_
 simp
def flipI (l : List Bool) (i : Nat) : List Bool := (l.take i).map (fun b => !b) ++ l.drop i
theorem flipI_zero (l : List Bool) : flipI l 0 = l := by simp [flipI]
theorem flipI_all (l : List Bool) {i : Nat} (h : l.length ≤ i) : flipI l i = l.map fun b => !b := by
 unfold flipI
 rw [List.take_of_length_le h, List.drop_of_length_le h, List.append_nil]
theorem flipI_len (l : List Bool) (i : Nat) : (flipI l i).length = l.length := by simp [flipI]; omega
theorem flipI_at {l : List Bool} {i : Nat} (h : i < l.length) : (flipI l i)[i]? = l[i]? := by
 unfold flipI
 rw [List.getElem?_append_right (by simp; omega)]
 simp [Nat.min_eq_left (Nat.le_of_lt h)]
theorem flipI_set {l : List Bool} {i : Nat} {b : Bool} (h : l[i]? = some b) : (flipI l i).set i (!b) = flipI l (i + 1) := by
 have hi := (List.getElem?_eq_some_iff.1 h).1
 unfold flipI
 rw [List.set_append_right _ _ (by simp; omega), List.take_succ_eq_append_getElem hi, List.map_append, List.append_assoc]
 have hl : ((l.take i).map fun b => !b).length = i := by simp; omega
 rw [hl, Nat.sub_self, List.drop_eq_getElem_cons hi]
 simp [(List.getElem?_eq_some_iff.1 h).2]
theorem bools_setM (l : List Bool) (j : Nat) (b : Bool) : (bools l).set j (.bool b) = bools (l.set j b) := by simp [bools, List.map_set]
noncomputable def flipG (D : Dm) : Dm := if mayDB D = true then flipD D else noDm
set_option maxHeartbeats 8000000 in
set_option maxRecDepth 1000000 in
theorem mFlip_any (D : Dm) (cs : List Value) (w : World) (hv : DfaV w cs D) :
  Calls Try.prog 12 #[.agg cs.toArray] w fun e w' => ∃ cs', e = .returned (.agg cs'.toArray) ∧ DfaV w' cs' (flipG D) ∧ Below w.heap.size w w' := by
 have V0 := qH hv
 have HDS := qH hv.size
 obtain ⟨i0, hi0, hz0⟩ : ∃ i, Try.prog.info? 28 = some i ∧ i.zero = some (.agg (dcl (ctab [] 0) (.slice none 0 0) (.slice none 0 0)).toArray) := by
  have h := inf_dfa
  cases hi : Try.prog.info? 28 with
  | none => rw [hi] at h; cases h
  | some i => rw [hi] at h; exact ⟨i, rfl, Option.some.inj h⟩
 obtain ⟨d0, hd0⟩ : ∃ d, d = dcl (ctab [] 0) (.slice none 0 0) (.slice none 0 0) := ⟨_, rfl⟩
 have HD0 := qH hd0
 have HDL := qH (show d0.length = 258 by rw [hd0]; exact dcl_len (by simp [ctab]))
 have HD1 := qH (show d0.all (·.oneCell') = true by rw [hd0]; exact dcl_one)
 have HDS0 := qH (show (Try.prog.info? 28).map (·.size) = some d0.length by rw [hd0]; exact size_dfa (by simp [ctab]))
 have HDB := qH (show Try.prog.built 28 [] = some d0.toArray by rw [hd0]; exact built_d0)
 have HCL0 := qH (show cs.length = 258 by
  obtain ⟨An, Ae, cn, ce, vf, hl, hcs, _⟩ := hv.form
  rw [hcs]
  exact dcl_len hl)
 rw [← hd0] at hz0
 have HZ0 := qH hz0
 obtain ⟨my, hmy⟩ : ∃ b, b = mayDB D := ⟨_, rfl⟩
 have HG := qH (show flipG D = if my = true then flipD D else noDm by rw [hmy]; rfl)
 have HMY := qH hmy
 rw [HG.out]
 clear hv hz0 hd0 hmy HG
 go_enter Try.func12, Try.ntmps12
 go_wp2_with (first
  | ((with_reducible refine atDst 1 ?_); refine wpList_box rfl 28 _ rfl cs rfl (Below.refl w.heap.size w) (Nat.le_refl _) ?_; intro w1 hk1 hb1 hs1 _; have K1 := qH hk1; have B1 := qH hb1; clear hk1 hb1 hs1; (try simp only [Act.put, qA, qB, qC]))
  | ((with_reducible refine atDst 2 ?_); refine wpList_new rfl 28 rfl i0 _ d0 hi0 HZ0.out rfl (Below.refl w1.heap.size w1) (Nat.le_refl _) ?_; intro w2 hk hb hs ho; have R2 := qH hk; have K2 := qH (K1.out.below hb K1.out.lt); have B2 := qH (B1.out.trans (hb.mono B1.out.size)); have HR1 := qH (show w.heap.size < w1.heap.size from K1.out.lt); clear hk hb hs ho; (try simp only [Act.put, qA, qB, qC]))
  | ((with_reducible refine atDst 5 ?_); refine wpList_ldArr rfl 28 _ rfl w.heap.size rfl 28 _ _ K2.out Try.underlying28 rfl HDS.out ?_; (try simp only [Act.put, qA, qB, qC])))
 refine (mMay_any D cs w2 (V0.out.below B2.out)).mono ?_
 rintro e w3 ⟨rfl, hb⟩
 rw [← HMY.out]
 have K3 := qH (K2.out.below hb K2.out.lt)
 have R3 := qH (R2.out.below hb R2.out.lt)
 have B3 := qH (B2.out.trans (hb.mono B2.out.size))
 clear hb
 cases my with
 | false =>
  go_wp2_with (first
   | ((with_reducible refine atDst 8 ?_); refine wpList_bld rfl 28 #[] rfl d0 HDB.out ?_; (try simp only [Act.put, qA, qB, qC]))
   | ((with_reducible refine atStore 28 2 8 ?_); refine wpList_stBlk rfl 28 _ _ rfl w1.heap.size d0 rfl rfl 28 _ R3.out HDS0.out rfl HD1.out (Below.refl w1.heap.size w3) (Nat.le_refl _) ?_; intro we hk hb hs ho; have KE := qH hk; have BE := qH (B3.out.trans (hb.mono (Nat.le_of_lt HR1.out))); clear hk hb hs ho; (try simp only [Act.put, qA, qB, qC])))
  refine bodyPost_ret (results_blk rfl _ _ w1.heap.size 28 _ _ rfl KE.out Try.underlying28 rfl HDS0.out) rfl ?_
  exact ⟨d0, rfl, by rw [HD0.out]; exact dfaV_no _, BE.out⟩
 | true =>
  have HM := qH (mayDB_iff.1 HMY.out.symm)
  go_wp2_with ((with_reducible refine atDst 9 ?_); refine wpList_ldArr rfl 28 _ rfl w.heap.size rfl 28 _ _ K3.out Try.underlying28 rfl HDS.out ?_; (try simp only [Act.put, qA, qB, qC]))
  refine (mCopy_any D cs w3 (V0.out.below B3.out) HM.out.pos (by rw [HM.out.ends]; exact HM.out.pos) HM.out.few (by rw [HM.out.ends]; exact HM.out.few) (fun r hr => by rw [HM.out.rows r hr]; exact Nat.le_trans (clsA_le _) (by decide))).mono ?_
  rintro e w4 ⟨cc, rfl, ho, hb⟩
  have K4 := qH (K3.out.below hb K3.out.lt)
  have R4 := qH (R3.out.below hb R3.out.lt)
  have HB4 := qH hb
  have B4 := qH (B3.out.trans (hb.mono B3.out.size))
  obtain ⟨E, ce, vn, vf, hcc, hl, hon, hor, hoe, hne, hnr⟩ := ho
  obtain ⟨n, hnn⟩ : ∃ n, n = D.ends.length := ⟨_, rfl⟩
  rw [← hnn] at hcc hoe
  have HL := qH hl
  have HN := qH hnn
  have HNF := qH (show n ≤ 2000 by rw [hnn, HM.out.ends]; exact HM.out.few)
  have ON := qH hon
  have OR := qH hor
  have OE := qH hoe
  have HNE := qH hne
  have HNR := qH hnr
  obtain ⟨An, cnn, rfl⟩ := ownC_slice hon
  have HCC := qH hcc
  have HCL := qH (show cc.length = 258 by rw [hcc]; exact dcl_len hl)
  have HCO := qH (show cc.all (·.oneCell') = true by rw [hcc]; exact dcl_one)
  have HCS := qH (show (Try.prog.info? 28).map (·.size) = some cc.length by rw [hcc]; exact size_dfa hl)
  clear hb hon hor hoe hne hnr hl hcc hnn
  obtain ⟨BC, hBC⟩ : ∃ x, x = w3.heap.size := ⟨_, rfl⟩
  have HGB := qH (show w.heap.size < BC by rw [hBC]; exact K3.out.lt)
  have HRB := qH (show w1.heap.size < BC by rw [hBC]; exact R3.out.lt)
  rw [← hBC] at ON OR OE
  clear hBC
  go_wp2_with ((with_reducible refine atStore 28 1 10 ?_); refine wpList_stBlk rfl 28 _ _ rfl w.heap.size cc rfl rfl 28 _ K4.out HCS.out (by rw [HCL0.out, HCL.out]) HCO.out (Below.refl w.heap.size w4) (Nat.le_refl _) ?_; intro w5 hk hb hs ho; have K5 := qH hk; have HO5 := qH ho; have B5 := qH (B4.out.trans hb); have HS5 := qH hs; clear hk hb hs ho; (try simp only [Act.put, qA, qB, qC]); have c257 : w5.cell? ⟨w.heap.size, 257, none⟩ = some (.slice (some ⟨E, 0, none⟩) n ce) := (by rw [K5.out.cell 257, HCC.out]; exact dcl_e HL.out))
  have R5 := qH (show Blk w5 w1.heap.size 28 d0 from (HO5.out _ (Nat.ne_of_gt HR1.out)).trans R4.out)
  have st5 : ∀ k, BC ≤ k → w5.heap[k]? = w4.heap[k]? := fun k hk => HO5.out k (by have := HGB.out; omega)
  have OE5 := qH (own6_stay OE.out fun k hk => st5 k (own6_lt OE.out k hk).2)
  have ON5 := qH (own6_stay ON.out fun k hk => st5 k (own6_lt ON.out k hk).2)
  have OR5 := qH (show ∀ i r, D.next[i]? = some r → w5.ownsRow BC 3 1 (vf i) r.length (nums .i64 r) from fun i r hr => own6_stay (OR.out i r hr) fun k hk => st5 k (own6_lt (OR.out i r hr) k hk).2)
  have HEB := qH (own6_lt OE5.out E rfl)
  clear st5 ON OR OE c257
  go_loopw [14] (fun iv wl => ∃ i : Nat, iv = .int .i64 (i : Int) ∧ i ≤ n ∧ wl.ownsRow BC 4 1 (.slice (some ⟨E, 0, none⟩) n ce) n (bools (flipI D.ends i)) ∧ w5.grownBy wl (some E)) (fun iv _ => n - (intOf iv).toNat)
  case atStart => exact ⟨0, rfl, Nat.zero_le _, by rw [flipI_zero]; exact OE5.out, World.grownBy.refl _ _⟩
  clear OE5
  obtain ⟨i, rfl, hi, hoe, hg⟩ := hrel
  have OE := qH hoe
  have GR := qH hg
  have HI := qH hi
  clear hoe hg hi
  have KI := qH (show Blk wr w.heap.size 28 cc from (GR.out.block w.heap.size K5.out.lt (fun e => by have h1 := Option.some.inj e; have h2 := HGB.out; have h3 := HEB.out.2; omega)).trans K5.out)
  have RI := qH (show Blk wr w1.heap.size 28 d0 from (GR.out.block w1.heap.size R5.out.lt (fun e => by have h1 := Option.some.inj e; have h2 := HRB.out; have h3 := HEB.out.2; omega)).trans R5.out)
  by_cases hin : i < n
  ·have x1 : (i : Int) < (n : Int) := Int.ofNat_lt.2 hin
   have HIN := qH hin
   have HMI := qH (sub_next hin)
   have e3 := wrap_one i (lt_bigN hin HNF.out)
   have e4 := wrap_one' i (lt_bigN hin HNF.out)
   obtain ⟨b, hb⟩ : ∃ b, D.ends[i]? = some b := ⟨_, List.getElem?_eq_getElem (by rw [← HN.out]; exact hin)⟩
   have hcl := own_cell OE.out (j := i) (u := .bool b) (by unfold bools; rw [List.getElem?_map, flipI_at (by rw [← HN.out]; exact hin), hb]; rfl)
   have hc1 := hcl.1
   have hc2 := hcl.2
   have c257 : wr.cell? ⟨w.heap.size, 257, none⟩ = some (.slice (some ⟨E, 0, none⟩) n ce) := by rw [KI.out.cell 257, HCC.out]; exact dcl_e HL.out
   have OS := qH (show (wr.setCell ⟨E, i, none⟩ (.bool (!b))).ownsRow BC 4 1 (.slice (some ⟨E, 0, none⟩) n ce) n (bools (flipI D.ends (i + 1))) by
    have h1 := own_set OE.out (j := i) (by rw [bools_length, flipI_len, ← HN.out]; exact hin) (.bool (!b))
    rw [bools_setM, flipI_set hb] at h1
    exact h1)
   have GS := qH (grownS_set GR.out i (.bool (!b)))
   clear hin hb hcl
   go_wp2_with fail
   exact ⟨⟨i + 1, by congr 1, HIN.out, OS.out, GS.out⟩, by simpa [intOf] using HMI.out⟩
  ·obtain rfl : i = n := Nat.le_antisymm HI.out (Nat.le_of_not_lt hin)
   have x1 : ¬ ((i : Int) < (i : Int)) := Int.lt_irrefl _
   clear hin
   go_wp2_with (first
    | ((with_reducible refine atDst 26 ?_); refine wpList_ldArr rfl 28 _ rfl w.heap.size rfl 28 _ _ KI.out Try.underlying28 rfl HCS.out ?_; (try simp only [Act.put, qA, qB, qC]))
    | ((with_reducible refine atStore 28 2 26 ?_); refine wpList_stBlk rfl 28 _ _ rfl w1.heap.size cc rfl rfl 28 _ RI.out HCS.out (by rw [HDL.out, HCL.out]) HCO.out (Below.refl w1.heap.size wr) (Nat.le_refl _) ?_; intro we hk hb hs ho; have KE := qH hk; have HO9 := qH ho; have BE := qH hb; clear hk hb hs ho; (try simp only [Act.put, qA, qB, qC])))
   refine bodyPost_ret (results_blk rfl _ _ w1.heap.size 28 _ _ rfl KE.out Try.underlying28 rfl HCS.out) rfl ?_
   have st : ∀ k, BC ≤ k → we.heap[k]? = wr.heap[k]? := fun k hk => HO9.out k (by have := HRB.out; omega)
   have st5 : ∀ k, BC ≤ k → k < w5.heap.size → k ≠ E → we.heap[k]? = w5.heap[k]? := fun k hk hlt hne => (st k hk).trans (GR.out.block k hlt fun e => hne (Option.some.inj e))
   have hfin : flipI D.ends i = (flipD D).ends := flipI_all D.ends (by rw [← HN.out]; exact Nat.le_refl _)
   refine ⟨cc, rfl, ⟨HL.out, .slice An D.next.length cnn, .slice (some ⟨E, 0, none⟩) i ce, vf, HCC.out, ?_, fun j r hr => ?_, ?_⟩, ?_⟩
   ·exact Row.of_own (own6_stay ON5.out fun k hk => st5 k (own6_lt ON5.out k hk).2 (own6_lt ON5.out k hk).1 fun e => HNE.out (by rw [hk, e]))
   ·exact Row.of_own (own6_stay (OR5.out j r hr) fun k hk => st5 k (own6_lt (OR5.out j r hr) k hk).2 (own6_lt (OR5.out j r hr) k hk).1 fun e => HNR.out j r hr (by rw [hk, e]))
   ·rw [← hfin]
    exact Row.of_own (own6_stay OE.out fun k hk => st k (own6_lt OE.out k hk).2)
   ·refine (B5.out.trans (Below.trans ?_ (BE.out.mono (Nat.le_of_lt HR1.out))))
    exact ⟨GR.out.os, GR.out.tape, GR.out.output, GR.out.size, fun k hk => GR.out.block k (Nat.lt_of_lt_of_le hk (Nat.le_of_lt K5.out.lt)) fun e => by have h1 := Option.some.inj e; have h2 := HGB.out; have h3 := HEB.out.2; omega⟩
end Go.Proofs.Ytbbodfpnneifgaa
