/-
  Texts of this proof, put together: WnA, LpK, WnB. No statement is proved here.
-/
import Derived.Test.YtaakdebcagdfgaaZO
import Derived.Test.YtaakdebcagdfgaaZM
import Derived.Test.YtaakdebcagdfgaaZD
import Derived.Test.YtaakdebcagdfgaaZH
import Derived.Test.YtaakdebcagdfgaaZK
import Derived.Test.YtaakdebcagdfgaaZE
import Derived.Test.YtaakdebcagdfgaaZI
import Derived.Test.YtaakdebcagdfgaaZJ
namespace Go.Proofs.Ytaakdebcagdfgaa
open Go.RowKit
set_option linter.unusedSimpArgs false
set_option linter.unusedVariables false
def cntW (D : Dm) (n : Int) : Nat := if n < 0 then 0 else cntL (accD D 0) (min n.toNat 1000) % N64
def wrdW (D : Dm) (n m : Int) : List (List UInt8) := if 0 ≤ n ∧ n ≤ 200 ∧ 1 ≤ m then (wrds (accD D 0) n.toNat).take (min m.toNat 1000) else []
structure WitC : Prop where
 shortest : ∀ (D : Dm) (cs : List Value) (w : World), DfaV w cs D → MayD D → AllC D → Calls Try.prog 11 #[.agg cs.toArray] w fun e w' => ∃ v b, e = .returned (.tuple #[v, .bool b]) ∧ (b = true → ∃ u, Row w' v (bvs u) ∧ Sho (accD D 0) u) ∧ (b = false → Row w' v [] ∧ ∀ u, accD D 0 u = false) ∧ Below w.heap.size w w'
 count : ∀ (D : Dm) (cs : List Value) (n : Int) (w : World), -1 ≤ n → n ≤ 1000 → DfaV w cs D → MayD D → AllC D → Calls Try.prog 13 #[.agg cs.toArray, .int .i64 n] w fun e w' => e = .returned (.int .u64 (cntW D n : Int)) ∧ Below w.heap.size w w'
 words : ∀ (D : Dm) (cs : List Value) (n m : Int) (w : World), -1 ≤ n → n ≤ 1000 → 0 ≤ m → m ≤ 1000 → DfaV w cs D → MayD D → AllC D → Calls Try.prog 16 #[.agg cs.toArray, .int .i64 n, .int .i64 m] w fun e w' => ∃ v, e = .returned v ∧ WrdsE w' v (wrdW D n m) ∧ Below w.heap.size w w'
/-! ### one state, which ends words and leads to itself -/
def oneW : Dm := ⟨ctab [] 0, [[0]], [true]⟩
theorem oneW_cl : oneW.cl.length = 256 := ctab_length _ _
theorem oneW_cls : clsA oneW.cl = 1 := by
 apply Nat.le_antisymm
 ·refine clsA_upQ fun c hc => ?_
  obtain ⟨j, hj, rfl⟩ := List.getElem_of_mem hc
  show (ctab [] 0)[j].toNat + 1 ≤ 1
  simp [ctab]
 ·exact Nat.lt_of_le_of_lt (Nat.zero_le _) (clsA_lt oneW_cl (j := 0) (List.getElem?_eq_getElem (by rw [oneW_cl]; decide)))
theorem oneW_may : MayD oneW :=
 ⟨Nat.le_refl _, by decide, rfl, fun r hr => by rw [oneW_cls, List.mem_singleton.1 hr]; rfl, fun r hr x hx => by
  rw [List.mem_singleton.1 hr] at hx
  rw [List.mem_singleton.1 hx]
  exact ⟨Int.le_refl _, by decide⟩⟩
theorem oneW_allC : AllC oneW := fun k hk => by
 rw [oneW_cls] at hk
 refine ⟨0, ?_⟩
 obtain rfl : k = 0 := Nat.lt_one_iff.1 hk
 show ((ctab [] 0).getD 0 0).toNat = 0
 rw [ctab_no]
 rfl
theorem oneW_acc (u : List UInt8) : accD oneW 0 u = true := by
 have h1 : toD oneW 0 u = 0 := Nat.lt_one_iff.1 (toD_ltA oneW_may oneW_cl u 0 Nat.zero_lt_one)
 unfold accD
 rw [h1]
 rfl
theorem oneW_sho {u : List UInt8} (h : Sho (accD oneW 0) u) : u = [] := by
 rcases h.low [] (oneW_acc []) with h1 | ⟨h1, _⟩
 ·exact absurd h1 (Nat.not_lt_zero _)
 ·exact List.length_eq_zero_iff.1 h1
theorem cntL_none {L : Lang} {n : Nat} (h : ∀ u, L u = false) : cntL L n = 0 := by
 unfold cntL
 rw [List.length_eq_zero_iff, List.eq_nil_iff_forall_not_mem]
 intro u hu
 have h1 := (wrds_mem.1 hu).2
 rw [h] at h1
 cases h1
theorem oneW_cnt (n : Nat) : cntL (accD oneW 0) n = 256 ^ n := by
 have h1 := cntL_not (accD oneW 0) n
 rw [cntL_none (L := notL (accD oneW 0)) fun u => by
  show (!accD oneW 0 u) = false
  rw [oneW_acc]
  rfl] at h1
 exact h1
theorem oneW_two : cntW oneW 2 = 65536 := by
 unfold cntW
 rw [if_neg (by decide)]
 rw [show min (2 : Int).toNat 1000 = 2 by decide]
 exact (congrArg (· % N64) (oneW_cnt 2)).trans (by decide)
theorem oneW_three : (wrdW oneW 1 3).length = 3 := by
 unfold wrdW
 rw [if_pos (by decide)]
 show ((wrds (accD oneW 0) 1).take 3).length = 3
 rw [List.length_take]
 have h1 : (wrds (accD oneW 0) 1).length = 256 := by
  have h2 := oneW_cnt 1
  unfold cntL at h2
  rw [h2]
 rw [h1]
 rfl
theorem built_nxW (A : Option Addr) (n c : Nat) (A' : Option Addr) (n' c' : Nat) : Try.prog.built 28 [(1, .slice A n c), (2, .slice A' n' c')] = some (dcl (ctab [] 0) (.slice A n c) (.slice A' n' c')).toArray := by kernel_rfl
set_option maxHeartbeats 8000000 in
set_option maxRecDepth 1000000 in
theorem begun14_any (C : WitC) (w : World) : Calls Try.prog 9 #[] w fun e w' => e = .returned (.bool true) ∧ Below w.heap.size w w' := by
 have HCC := qH C
 clear C
 obtain ⟨D, hD⟩ : ∃ D, D = oneW := ⟨_, rfl⟩
 have HM := qH (show MayD D by rw [hD]; exact oneW_may)
 have HAC := qH (show AllC D by rw [hD]; exact oneW_allC)
 have HSH := qH (show ∀ u, Sho (accD D 0) u → u = [] by rw [hD]; exact fun u h => oneW_sho h)
 have HNO := qH (show ¬ ∀ u, accD D 0 u = false by rw [hD]; exact fun h => by have h1 := h []; rw [oneW_acc] at h1; cases h1)
 have H2 := qH (show cntW D 2 = 65536 by rw [hD]; exact oneW_two)
 have H3 := qH (show (wrdW D 1 3).length = 3 by rw [hD]; exact oneW_three)
 have HNL := qH (show D.next = [[0]] ∧ D.ends = [true] ∧ D.cl = ctab [] 0 by rw [hD]; exact ⟨rfl, rfl, rfl⟩)
 obtain ⟨d0, hd0⟩ : ∃ d0, d0 = dcl (ctab [] 0) (.slice none 0 0) (.slice none 0 0) := ⟨_, rfl⟩
 have HDL := qH (show d0.length = 258 by rw [hd0]; exact dcl_len (ctab_length _ _))
 obtain ⟨id, hid, hdz⟩ := Option.map_eq_some_iff.1 inf_dfa
 rw [← hd0] at hdz
 have HDZ := qH hdz
 obtain ⟨i1, hi1, hy0, hy1, hy2⟩ := infoP inf_int
 obtain ⟨i2, hi2, hb0, hb1, hb2⟩ := infoP inf_bool
 obtain ⟨il, hil, hl0, hl1, hl2⟩ := infoP inf_sl
 clear hD hd0 hdz
 go_enter Try.func9, Try.ntmps9
 go_wp2_with (first
  | ((with_reducible refine atDst 4 ?_); refine wpList_plain rfl fun K hK => wp_bldVk 47 3 (.const (.int .i64 0)) rfl i1 (.int .i64 0) Try.underlying47 hi1 hy0 hy1 rfl (.int .i64 0) rfl rfl ?_; intro w1 hk hb; have K1 := qH hk; have B1 := qH hb; clear hk hb; refine hK _ _ ?_; clear hK K; (try simp only [Act.put, qA, qB, qC]))
  | ((with_reducible refine atDst 5 ?_); refine wpList_plain rfl fun K hK => wp_bldVk 25 47 (.tmp 4) rfl il (.slice none 0 0) Try.underlying25 hil hl0 hl1 rfl (.slice (some ⟨w.heap.size, 0, none⟩) 1 1) rfl rfl ?_; intro w2 hk hb; have K2 := qH hk; have J1 := qH (K1.out.below hb K1.out.lt); have B2 := qH (B1.out.trans (hb.mono B1.out.size)); clear hk hb; refine hK _ _ ?_; clear hK K; (try simp only [Act.put, qA, qB, qC]))
  | ((with_reducible refine atDst 6 ?_); refine wpList_plain rfl fun K hK => wp_bldVk 26 4 (.const (.bool true)) rfl i2 (.bool false) Try.underlying26 hi2 hb0 hb1 rfl (.bool true) rfl rfl ?_; intro w3 hk hb; have K3 := qH hk; have J2 := qH (K2.out.below hb K2.out.lt); have I1 := qH (J1.out.below hb J1.out.lt); have B3 := qH (B2.out.trans (hb.mono B2.out.size)); clear hk hb; refine hK _ _ ?_; clear hK K; obtain ⟨d1, hd1⟩ : ∃ d1, d1 = dcl (ctab [] 0) (.slice (some ⟨w1.heap.size, 0, none⟩) 1 1) (.slice (some ⟨w2.heap.size, 0, none⟩) 1 1) := ⟨_, rfl⟩; have HD1 := qH hd1; have HBL := qH (show Try.prog.built 28 [(1, .slice (some ⟨w1.heap.size, 0, none⟩) 1 1), (2, .slice (some ⟨w2.heap.size, 0, none⟩) 1 1)] = some d1.toArray by (rw [hd1]; exact built_nxW _ _ _ _ _ _)); have HDLa := qH (show d1.length = 258 by (rw [hd1]; exact dcl_len (ctab_length _ _))); have HDOa := qH (show d1.all (·.oneCell') = true by (rw [hd1]; exact dcl_one)); have HDSa := qH (show (Try.prog.info? 28).map (·.size) = some d1.length by (rw [hd1]; exact size_dfa (ctab_length _ _))); clear hd1; (try simp only [Act.put, qA, qB, qC]))
  | ((with_reducible refine atDst 7 ?_); refine wpList_bld rfl 28 _ rfl d1 HBL.out ?_; (try simp only [Act.put, qA, qB, qC]))
  | ((with_reducible refine atDst 1 ?_); refine wpList_new rfl 28 rfl id _ d0 hid HDZ.out rfl (Below.refl w3.heap.size w3) (Nat.le_refl _) ?_; intro w4 hk hb hs _; have K4 := qH hk; have B34 := qH hb; clear hk hb hs; (try simp only [Act.put, qA, qB, qC]))
  | ((with_reducible refine atStore 28 1 7 ?_); refine wpList_stBlk rfl 28 _ _ rfl w3.heap.size d1 rfl rfl 28 _ K4.out HDSa.out (by rw [HDL.out, HDLa.out]) HDOa.out B34.out (Nat.le_refl _) ?_; intro w5 hk hb hs ho; have K5 := qH hk; have B35 := qH hb; clear hk hb hs ho; (try simp only [Act.put, qA, qB, qC]))
  | ((with_reducible refine atDst 9 ?_); refine wpList_ldArr rfl 28 _ rfl w3.heap.size rfl 28 _ _ K5.out Try.underlying28 rfl HDSa.out ?_; (try simp only [Act.put, qA, qB, qC])))
 have V5 := qH (show DfaV w5 d1 D from ⟨by rw [HNL.out.2.2]; exact ctab_length _ _, .slice (some ⟨w1.heap.size, 0, none⟩) 1 1, .slice (some ⟨w2.heap.size, 0, none⟩) 1 1, fun _ => .slice (some ⟨w.heap.size, 0, none⟩) 1 1, by rw [HNL.out.2.2]; exact HD1.out, by
  rw [HNL.out.1]
  exact Row.of_own ((J2.out.below B35.out J2.out.lt).own (Nat.zero_le _) one_maxW), fun i r hr => by
  rw [HNL.out.1] at hr
  have h := List.mem_of_getElem? hr
  rw [List.mem_singleton.1 h]
  exact Row.of_own ((I1.out.below B35.out I1.out.lt).own (Nat.zero_le _) one_maxW), by
  rw [HNL.out.2.1]
  exact Row.of_own ((K3.out.below B35.out K3.out.lt).own (Nat.zero_le _) one_maxW)⟩)
 have B5 := qH (B3.out.trans (B35.out.mono B3.out.size))
 refine (HCC.out.shortest D d1 w5 V5.out HM.out HAC.out).mono ?_
 rintro e w6 ⟨v, b, rfl, ht, hf, hb⟩
 cases b with
 | false => exact absurd (hf rfl).2 HNO.out
 | true =>
 obtain ⟨u, hu, hsh⟩ := ht rfl
 have hu0 := HSH.out u hsh
 subst hu0
 obtain ⟨A, c, rfl, _⟩ := hu
 have V6 := qH (V5.out.below hb)
 have K6 := qH (K5.out.below hb K5.out.lt)
 have B6 := qH (B5.out.trans (hb.mono B5.out.size))
 clear ht hf hb hsh
 go_wp2_with ((with_reducible refine atDst 20 ?_); refine wpList_ldArr rfl 28 _ rfl w3.heap.size rfl 28 _ _ K6.out Try.underlying28 rfl HDSa.out ?_; (try simp only [Act.put, qA, qB, qC]))
 refine (HCC.out.count D d1 2 w6 (by decide) (by decide) V6.out HM.out HAC.out).mono ?_
 rintro e w7 ⟨rfl, hb⟩
 rw [H2.out]
 have V7 := qH (V6.out.below hb)
 have K7 := qH (K6.out.below hb K6.out.lt)
 have B7 := qH (B6.out.trans (hb.mono B6.out.size))
 clear hb
 go_wp2_with ((with_reducible refine atDst 25 ?_); refine wpList_ldArr rfl 28 _ rfl w3.heap.size rfl 28 _ _ K7.out Try.underlying28 rfl HDSa.out ?_; (try simp only [Act.put, qA, qB, qC]))
 refine (HCC.out.words D d1 1 3 w7 (by decide) (by decide) (by decide) (by decide) V7.out HM.out HAC.out).mono ?_
 rintro e w8 ⟨v2, rfl, hw, hb⟩
 obtain ⟨vs, hr, hl, _⟩ := hw
 obtain ⟨A2, c2, rfl, _⟩ := hr
 rw [hl, H3.out]
 have B8 := qH (B7.out.trans (hb.mono B7.out.size))
 clear hl hb
 go_wp2_with fail
 go_ret
 exact ⟨rfl, B8.out⟩
theorem l21 (n : Nat) : 1 < 2 + n := by omega
theorem ne_21 (j : Nat) : j + 2 ≠ 1 := by omega
def flJ (l : List Bool) (i : Nat) : List Bool := (l.take i).map (fun b => !b) ++ l.drop i
theorem flJ_zero (l : List Bool) : flJ l 0 = l := by simp [flJ]
theorem flJ_all (l : List Bool) {i : Nat} (h : l.length ≤ i) : flJ l i = l.map fun b => !b := by
 unfold flJ
 rw [List.take_of_length_le h, List.drop_of_length_le h, List.append_nil]
theorem flJ_len (l : List Bool) (i : Nat) : (flJ l i).length = l.length := by simp [flJ]; omega
theorem flJ_at {l : List Bool} {i : Nat} (h : i < l.length) : (flJ l i)[i]? = l[i]? := by
 unfold flJ
 rw [List.getElem?_append_right (by simp; omega)]
 simp
 congr 1
 omega
theorem flJ_set {l : List Bool} {i : Nat} {b : Bool} (h : l[i]? = some b) : (flJ l i).set i (!b) = flJ l (i + 1) := by
 obtain ⟨hi, hb⟩ := List.getElem?_eq_some_iff.1 h
 unfold flJ
 rw [List.set_append_right _ _ (by simp; omega), List.drop_eq_getElem_cons hi, List.take_succ_eq_append_getElem hi, hb]
 simp [Nat.min_eq_left (Nat.le_of_lt hi)]
theorem bools_setJ (l : List Bool) (j : Nat) (b : Bool) : (bools l).set j (.bool b) = bools (l.set j b) := by simp [bools, List.map_set]
set_option maxHeartbeats 8000000 in
set_option maxRecDepth 1000000 in
theorem refFlip11_any (D : Dm) (cs : List Value) (w : World) (hv : DfaV w cs D) (hm : MayD D) :
  Calls Try.prog 20 #[.agg cs.toArray] w fun e w' => ∃ cs', e = .returned (.agg cs'.toArray) ∧ DfaV w' cs' (flipD D) ∧ Below w.heap.size w w' := by
 have V0 := qH hv
 have HM := qH hm
 have HDS := qH hv.size
 obtain ⟨d0, hd0⟩ : ∃ d0, d0 = dcl (ctab [] 0) (.slice none 0 0) (.slice none 0 0) := ⟨_, rfl⟩
 have HDL := qH (show d0.length = 258 by rw [hd0]; exact dcl_len (ctab_length _ _))
 obtain ⟨id, hid, hdz⟩ := Option.map_eq_some_iff.1 inf_dfa
 rw [← hd0] at hdz
 clear hv hm hd0
 go_enter Try.func20, Try.ntmps20
 go_wp2_with (first
  | ((with_reducible refine atDst 1 ?_); refine wpList_box rfl 28 _ rfl cs rfl (Below.refl w.heap.size w) (Nat.le_refl _) ?_; intro w1 hk1 hb1 hs1 _; have K1 := qH hk1; have B1 := qH hb1; clear hk1 hb1 hs1; (try simp only [Act.put, qA, qB, qC]))
  | ((with_reducible refine atDst 2 ?_); refine wpList_new rfl 28 rfl id _ d0 hid hdz rfl (Below.refl w1.heap.size w1) (Nat.le_refl _) ?_; intro w2 hk hb hs _; have R2 := qH hk; have K2 := qH (K1.out.below hb K1.out.lt); have B2 := qH (B1.out.trans (hb.mono B1.out.size)); clear hk hb hs; (try simp only [Act.put, qA, qB, qC]))
  | ((with_reducible refine atDst 5 ?_); refine wpList_ldArr rfl 28 _ rfl w.heap.size rfl 28 _ _ K2.out Try.underlying28 rfl HDS.out ?_; (try simp only [Act.put, qA, qB, qC])))
 refine (refMay11_any D cs w2 (V0.out.below B2.out) HM.out).mono ?_
 rintro e w3 ⟨rfl, hb⟩
 have K3 := qH (K2.out.below hb K2.out.lt)
 have R3 := qH (R2.out.below hb R2.out.lt)
 have B3 := qH (B2.out.trans (hb.mono B2.out.size))
 clear hb
 go_wp2_with ((with_reducible refine atDst 9 ?_); refine wpList_ldArr rfl 28 _ rfl w.heap.size rfl 28 _ _ K3.out Try.underlying28 rfl HDS.out ?_; (try simp only [Act.put, qA, qB, qC]))
 refine (refCopy11_any D cs w3 (V0.out.below B3.out) HM.out).mono ?_
 rintro e w4 ⟨cc, rfl, hd, hb⟩
 have HCS4 := qH hd.dfa.size
 obtain ⟨U, X, hl, hcc, ha, h0, h1, hr⟩ := hd
 obtain ⟨n, hnn⟩ : ∃ n, n = D.next.length := ⟨_, rfl⟩
 have HN := qH hnn
 have HEL := qH (show D.ends.length = n by rw [hnn]; exact HM.out.ends)
 have HNP := qH (show 0 < n by rw [hnn]; exact HM.out.pos)
 have HNF := qH (show n ≤ 2000 by rw [hnn]; exact HM.out.few)
 rw [← hnn] at ha
 have o1 := ha.own 1 (by omega)
 have ex1 : (X 1).length = n := by rw [h1, bools_length, HEL.out]
 rw [ex1] at o1
 obtain ⟨g1, c1, hu1, _, _, hg1, hg1b⟩ := own_in o1 HNP.out
 have o0 := ha.own 0 (by omega)
 obtain ⟨AN, cN, hu0⟩ := ownC_slice o0
 have HL := qH hl
 have HU1 := qH hu1
 have HX1 := qH h1
 have HX0 := qH h0
 have HXR := qH hr
 have HG1 := qH hg1
 have HG1B := qH hg1b
 have HCC := qH hcc
 have HCL := qH (show cc.length = 258 by rw [hcc]; exact dcl_len hl)
 have HCO := qH (show cc.all (·.oneCell') = true by rw [hcc, hu0, hu1]; exact dcl_one)
 have A4 := qH (show Apt w4 w3.heap.size (2 + n) U (putX X 1 (bools (flJ D.ends 0))) by
  have e : putX X 1 (bools (flJ D.ends 0)) = X := by
   funext i
   unfold putX
   by_cases hi : i = 1
   ·rw [if_pos hi, flJ_zero, hi, h1]
   ·rw [if_neg hi]
  rw [e]
  exact ha)
 have R4 := qH (R3.out.below hb R3.out.lt)
 have B34 := qH hb
 have B4 := qH (B3.out.trans (hb.mono B3.out.size))
 have HR3 := qH (show w1.heap.size < w3.heap.size from R3.out.lt)
 clear hl hcc ha h0 h1 hr hnn o1 ex1 hu1 hg1 hg1b o0 hu0 hb
 go_wp2_with (first
  | ((with_reducible refine atDst 3 ?_); refine wpList_new rfl 28 rfl id _ d0 hid hdz rfl (Below.refl w4.heap.size w4) (Nat.le_refl _) ?_; intro w5 hk hb hs _; have G5 := qH hk; have B45 := qH hb; clear hk hb hs; (try simp only [Act.put, qA, qB, qC]))
  | ((with_reducible refine atStore 28 3 10 ?_); refine wpList_stBlk rfl 28 _ _ rfl w4.heap.size cc rfl rfl 28 _ G5.out HCS4.out (by rw [HDL.out, HCL.out]) HCO.out B45.out (Nat.le_refl _) ?_; intro w6 hk hb hs ho; have G6 := qH hk; have B46 := qH hb; clear hk hb hs ho; (try simp only [Act.put, qA, qB, qC])))
 obtain ⟨gd, hgd⟩ : ∃ g, g = w4.heap.size := ⟨_, rfl⟩
 rw [← hgd] at G6
 rw [← hgd]
 have HGD := qH hgd
 have A6 := qH (A4.out.below B46.out)
 have B36 := qH (B34.out.trans (B46.out.mono B34.out.size))
 clear hgd
 go_loopw [4] (fun v wl => ∃ i : Nat, i ≤ n ∧ v = .int .i64 (i : Int) ∧ Apt wl w3.heap.size (2 + n) U (putX X 1 (bools (flJ D.ends i))) ∧ Blk wl gd 28 cc ∧ Below w3.heap.size w3 wl) (fun v _ => n - (intOf v).toNat)
 case atStart => exact ⟨0, Nat.zero_le _, rfl, A6.out, G6.out, B36.out⟩
 clear A6 G6 B36 A4 B46 G5 B45
 obtain ⟨i, hi, rfl, ha, hg, hb⟩ := hrel
 have HI := qH hi
 have AI := qH ha
 have GI := qH hg
 have BI := qH hb
 have C257 := qH (show wr.cell? ⟨gd, 257, none⟩ = some (.slice (some ⟨g1, 0, none⟩) n c1) by rw [hg.cell 257, HCC.out, ← HU1.out]; exact dcl_e HL.out)
 have c257 := C257.out
 clear hi ha hg hb
 by_cases hin : i < n
 ·have x1 : (i : Int) < (n : Int) := Int.ofNat_lt.2 hin
  have HIN := qH hin
  have HMI := qH (sub_next hin)
  have e3 := wrap_one i (lt_bigN hin HNF.out)
  have e4 := wrap_one' i (lt_bigN hin HNF.out)
  obtain ⟨b, hb⟩ : ∃ b, D.ends[i]? = some b := ⟨_, List.getElem?_eq_getElem (by rw [HEL.out]; exact hin)⟩
  have HB := qH hb
  have hcl := own_cell (j := i) (u := .bool b) (show wr.ownsRow w3.heap.size 4 1 (.slice (some ⟨g1, 0, none⟩) n c1) n (bools (flJ D.ends i)) by
   have h1 := AI.out.own 1 (l21 n)
   rw [putX_at, bools_length, flJ_len, HEL.out, HU1.out] at h1
   exact h1) (by unfold bools; rw [List.getElem?_map, flJ_at (by rw [HEL.out]; exact hin), hb]; rfl)
  have HC1 := qH hcl.1
  have HC2 := qH hcl.2
  have HGR := qH (show gd < wr.heap.size from GI.out.lt)
  have HG1R := qH (show g1 < wr.heap.size from Nat.lt_trans (by rw [HGD.out]; exact HG1.out) HGR.out)
  clear hin hb hcl
  go_wp2_with fail
  clear c257
  refine mc_start (fun _ => True) (fun V => Below wr.heap.size wr V) 10 (by kernel_rfl) (fun wd hwd => ?_)
  have hX : True := trivial
  have hY : Below wr.heap.size wr wd := by rw [hwd]; exact (Below.refl _ _).drew
  clear hwd
  refine mc_take (i := 0) (oi := ⟨some 18, _, _, _, _, _⟩) (v := ?_) rfl (by kernel_rfl) (by kernel_rfl) (by kernel_rfl) (fun _ _ _ h => h) rfl hX ?_ ?_; rotate_left; (intro W hW; go_simp; try with_reducible rfl); simp only [Act.put, qA, qB, qC]
  refine mc_takeS (i := 1) (oi := ⟨some 19, _, _, _, _, _⟩) (v := .slice (some ⟨g1, 0, none⟩) n c1) rfl (by kernel_rfl) (by kernel_rfl) (by kernel_rfl) (fun _ _ _ h => h) rfl hX hY (fun V _ hV => ld_bls (.tmp 18) rfl rfl ((hV.cell (p := ⟨gd, 257, none⟩) HGR.out).trans C257.out)) ?_; simp only [Act.put, qA, qB, qC]
  refine mc_take (i := 2) (oi := ⟨some 20, _, _, _, _, _⟩) (v := ?_) rfl (by kernel_rfl) (by kernel_rfl) (by kernel_rfl) (fun _ _ _ h => h) rfl hX ?_ ?_; rotate_left; (intro W hW; go_simp; try with_reducible rfl); simp only [Act.put, qA, qB, qC]
  refine mc_take (i := 3) (oi := ⟨some 21, _, _, _, _, _⟩) (v := ?_) rfl (by kernel_rfl) (by kernel_rfl) (by kernel_rfl) (fun _ _ _ h => h) rfl hX ?_ ?_; rotate_left; (intro W hW; go_simp; try with_reducible rfl); simp only [Act.put, qA, qB, qC]
  refine mc_takeS (i := 4) (oi := ⟨some 22, _, _, _, _, _⟩) (v := .slice (some ⟨g1, 0, none⟩) n c1) rfl (by kernel_rfl) (by kernel_rfl) (by kernel_rfl) (fun _ _ _ h => h) rfl hX hY (fun V _ hV => ld_bls (.tmp 21) rfl rfl ((hV.cell (p := ⟨gd, 257, none⟩) HGR.out).trans C257.out)) ?_; simp only [Act.put, qA, qB, qC]
  refine mc_take (i := 5) (oi := ⟨some 23, _, _, _, _, _⟩) (v := ?_) rfl (by kernel_rfl) (by kernel_rfl) (by kernel_rfl) (fun _ _ _ h => h) rfl hX ?_ ?_; rotate_left; (intro W hW; go_simp; try with_reducible rfl); simp only [Act.put, qA, qB, qC]
  refine mc_take (i := 6) (oi := ⟨some 24, _, _, _, _, _⟩) (v := ?_) rfl (by kernel_rfl) (by kernel_rfl) (by kernel_rfl) (fun _ _ _ h => h) rfl hX ?_ ?_; rotate_left; (intro W hW; go_simp; try with_reducible rfl); simp only [Act.put, qA, qB, qC]
  refine mc_takeS (i := 7) (oi := ⟨some 25, _, _, _, _, _⟩) (v := .bool b) rfl (by kernel_rfl) (by kernel_rfl) (by kernel_rfl) (fun _ _ _ h => h) rfl hX hY (fun V _ hV => ld_b (.tmp 24) rfl rfl ((hV.cell (p := ⟨g1, i, none⟩) HG1R.out).trans HC1.out)) ?_; simp only [Act.put, qA, qB, qC]
  refine mc_take (i := 8) (oi := ⟨some 26, _, _, _, _, _⟩) (v := ?_) rfl (by kernel_rfl) (by kernel_rfl) (by kernel_rfl) (fun _ _ _ h => h) rfl hX ?_ ?_; rotate_left; (intro W hW; go_simp; try with_reducible rfl); simp only [Act.put, qA, qB, qC]
  refine mc_take (i := 9) (oi := ⟨some 27, _, _, _, _, _⟩) (v := ?_) rfl (by kernel_rfl) (by kernel_rfl) (by kernel_rfl) (fun _ _ _ h => h) rfl hX ?_ ?_; rotate_left; (intro W hW; go_simp; try with_reducible rfl); simp only [Act.put, qA, qB, qC]
  refine mc_last (i := 10) (o := ⟨none, _, _, _, _, _⟩) rfl (by kernel_rfl) rfl (fun K hK => ?_)
  have AD := qH (AI.out.below hY)
  have GDD := qH (GI.out.below hY GI.out.lt)
  have BD := qH (BI.out.trans (hY.mono BI.out.size))
  have HCD := qH ((hY.cell (p := ⟨g1, i, none⟩) HG1R.out).trans HC1.out)
  have HFD := qH (own_cell (j := i) (u := .bool b) (show wd.ownsRow w3.heap.size 4 1 (.slice (some ⟨g1, 0, none⟩) n c1) n (bools (flJ D.ends i)) by
   have h1 := AD.out.own 1 (l21 n)
   rw [putX_at, bools_length, flJ_len, HEL.out, HU1.out] at h1
   exact h1) (by unfold bools; rw [List.getElem?_map, flJ_at (by rw [HEL.out]; exact HIN.out), HB.out]; rfl)).2
  clear hY
  refine wp_stB (.tmp 27) (.tmp 26) rfl g1 i rfl (!b) rfl _ HCD.out HFD.out ?_
  refine hK _ _ trivial ?_
  clear hK K hX
  (try simp only [Act.put, qA, qB, qC])
  refine wpAnyC_done (by kernel_rfl) ?_ _
  have AS := qH (show Apt (wd.setCell ⟨g1, i, none⟩ (.bool (!b))) w3.heap.size (2 + n) U (putX X 1 (bools (flJ D.ends (i + 1)))) by
   have h1 := AD.out.set (s := 1) (l21 n) HU1.out (q := i) (by rw [putX_at, bools_length, flJ_len, HEL.out]; exact HIN.out) (.bool (!b))
   rw [putX_at, bools_setJ, flJ_set HB.out, putX_putX] at h1
   exact h1)
  have GS := qH (show Blk (wd.setCell ⟨g1, i, none⟩ (.bool (!b))) gd 28 cc from (Below.heap_setCell wd ⟨g1, i, none⟩ _ gd (by rw [HGD.out]; exact Nat.ne_of_gt HG1.out)).trans GDD.out)
  have BS := qH (BD.out.setCell (p := ⟨g1, i, none⟩) HG1B.out (Value.bool (!b)))
  go_wp2_with fail
  exact ⟨⟨i + 1, HIN.out, by congr 1, AS.out, GS.out, BS.out⟩, by simpa [intOf] using HMI.out⟩
 ·obtain rfl : n = i := Nat.le_antisymm (Nat.le_of_not_lt hin) HI.out
  have x1 : ¬ ((n : Int) < (n : Int)) := Int.lt_irrefl _
  have KR := qH (show Blk wr w1.heap.size 28 d0 from (BI.out.block w1.heap.size HR3.out).trans R3.out)
  have B1G := qH (show w.heap.size ≤ w1.heap.size from B1.out.size)
  clear hin
  go_wp2_with (first
   | ((with_reducible refine atDst 28 ?_); refine wpList_ldArr rfl 28 _ rfl gd rfl 28 _ _ GI.out Try.underlying28 rfl HCS4.out ?_; (try simp only [Act.put, qA, qB, qC]))
   | ((with_reducible refine atStore 28 2 28 ?_); refine wpList_stBlk rfl 28 _ _ rfl w1.heap.size cc rfl rfl 28 _ KR.out HCS4.out (by rw [HDL.out, HCL.out]) HCO.out (Below.refl w1.heap.size wr) (Nat.le_refl _) ?_; intro wz hk hb hs ho; have KZ := qH hk; have HO9 := qH ho; have BZ := qH hb; clear hk hb hs ho; (try simp only [Act.put, qA, qB, qC])))
  refine bodyPost_ret (results_blk rfl _ _ w1.heap.size 28 _ _ rfl KZ.out Try.underlying28 rfl HCS4.out) rfl ?_
  have az : Apt wz w3.heap.size (2 + n) U (putX X 1 (bools (flJ D.ends n))) := AI.out.stay fun q hq _ => HO9.out q (Nat.ne_of_gt (Nat.lt_of_lt_of_le HR3.out hq))
  have fin : flJ D.ends n = (flipD D).ends := flJ_all D.ends (by rw [HEL.out]; exact Nat.le_refl _)
  refine ⟨cc, rfl, DfaA.dfa (H := w3.heap.size) ⟨U, putX X 1 (bools (flJ D.ends n)), HL.out, HCC.out, by rw [show (flipD D).next.length = n from HN.out.symm]; exact az, ?_, by rw [putX_at, fin], fun j r hr => ?_⟩, (B3.out.trans (BI.out.mono B3.out.size)).trans (BZ.out.mono B1G.out)⟩
  ·rw [putX_ne (by decide)]
   exact HX0.out
  ·rw [putX_ne (ne_21 j)]
   exact HXR.out j r hr
theorem rem_by (k m : Nat) (hm : 0 < m) (hm2 : m < 256) : (k : Int).tmod (m : Int) = ((k % m : Nat) : Int) ∧ IntKind.u8.wrap ((k % m : Nat) : Int) = ((k % m : Nat) : Int) ∧ IntKind.i64.wrap ((k % m : Nat) : Int) = ((k % m : Nat) : Int) ∧ wrap64 ((k % m : Nat) : Int) = ((k % m : Nat) : Int) := by
 have h1 := Nat.mod_lt k hm
 refine ⟨by rw [Int.tmod_eq_emod_of_nonneg (by omega)]; rfl, IntWalk.u8_in _ (by omega), IntWalk.i64_in _ (by omega), IntWalk.wrap64_in _ (by omega)⟩
theorem pow_step (i : Nat) : (256 ^ i % N64) * 256 % N64 = 256 ^ (i + 1) % N64 := by
 rw [Nat.pow_succ, Nat.mod_mul_mod]
theorem flip_sum {D : Dm} (h : MayD D) (hl : D.cl.length = 256) (m : Nat) (hm : m ≤ 1000) : (cntW D m + cntW (flipD D) m) % N64 = 256 ^ m % N64 := by
 unfold cntW
 rw [if_neg (by omega), if_neg (by omega), Int.toNat_natCast, Nat.min_eq_left hm, ← Nat.add_mod, accD_flip h hl h.pos, cntL_not]
theorem mod_12 (k : Nat) : k % 12 ≤ 1000 := by have := Nat.mod_lt k (show 0 < 12 by decide); omega
theorem int_m1 (i : Nat) : -1 ≤ (i : Int) := by omega
theorem int_1k {i : Nat} (h : i ≤ 1000) : (i : Int) ≤ 1000 := by omega
theorem fl_12 {i m : Nat} (h : i < m) (hm : m ≤ 1000) : i ≤ 4611686018427387904 := by omega
set_option maxHeartbeats 8000000 in
set_option maxRecDepth 1000000 in
theorem witness_flip_walk (C : WitC) (n c : Nat) (V : Value) (ps : List UInt8) (k : Nat) (w : World) (hn : n < 256) (hc : c < 256) (hr : Row w V (bvs ps)) (hk : k < 256) :
  Calls Try.prog 6 #[.int .u8 (n : Int), .int .u8 (c : Int), V, .int .u8 (k : Int)] w fun e w' => e = .returned (.bool true) ∧ Below w.heap.size w w' := by
 have HCC := qH C
 clear C
 have R := qH hr
 obtain ⟨A, cap, rfl, _⟩ := hr
 rw [bvs_length] at R
 rw [bvs_length]
 have HN := qH hn
 have HC := qH hc
 obtain ⟨d0, hd0⟩ : ∃ d0, d0 = dcl (ctab [] 0) (.slice none 0 0) (.slice none 0 0) := ⟨_, rfl⟩
 have HDL := qH (show d0.length = 258 by rw [hd0]; exact dcl_len (ctab_length _ _))
 obtain ⟨id, hid, hdz⟩ := Option.map_eq_some_iff.1 inf_dfa
 rw [← hd0] at hdz
 have HDZ := qH hdz
 obtain ⟨r1, r2, r3, r4⟩ := rem_by k 12 (by decide) (by decide)
 obtain ⟨m, hm⟩ : ∃ m, m = k % 12 := ⟨_, rfl⟩
 have HM12 := qH (show m ≤ 1000 by rw [hm]; exact mod_12 k)
 rw [← hm] at r1 r2 r3 r4
 have r1' : (k : Int).tmod 12 = (m : Int) := r1
 have RR := qH (And.intro r1' (And.intro r2 (And.intro r3 r4)))
 clear hd0 hdz hn hc hk hm r1 r1' r2 r3 r4
 go_enter Try.func6, Try.ntmps6
 go_wp2_with fail
 refine (begun14_any HCC.out w).mono ?_
 rintro e w1 ⟨rfl, hb⟩
 have B1 := qH hb
 clear hb
 by_cases hl : 60 < ps.length
 ·have x1 : (60 : Int) < (ps.length : Int) := Int.ofNat_lt.2 hl
  clear hl
  go_wp2_with fail
  go_ret
  exact ⟨rfl, B1.out⟩
 have x1 : ¬ (60 : Int) < (ps.length : Int) := fun h => hl (Int.ofNat_lt.1 h)
 have HL := qH (Nat.le_of_not_lt hl)
 clear hl
 go_wp2_with fail
 refine (playDfa_any n c ps _ w1 HN.out HC.out (R.out.below B1.out) HL.out).mono ?_
 rintro e w2 ⟨cs, rfl, hd, hb⟩
 obtain ⟨D, hD⟩ : ∃ D, D = dfaQ n c ps := ⟨_, rfl⟩
 rw [← hD] at hd
 have HM := qH (show MayD D by rw [hD]; exact dfaQ_may n c ps)
 have HAC := qH (show AllC D by rw [hD]; exact dfaQ_allC n c ps)
 clear hD
 have VA := qH hd.dfa
 obtain ⟨An, Ae, cn, ce, vf, hcl, hcs, _⟩ := VA.out.form
 have HCL2 := qH hcl
 have HLA := qH (show cs.length = 258 by rw [hcs]; exact dcl_len hcl)
 have HOA := qH (show cs.all (·.oneCell') = true by rw [hcs]; exact dcl_one)
 have HSA := qH (show (Try.prog.info? 28).map (·.size) = some cs.length from VA.out.size)
 have B2 := qH (B1.out.trans (hb.mono B1.out.size))
 obtain ⟨t1, t2, t3, t4⟩ := RR.out
 clear hd hb hcl hcs
 go_wp2_with (first
  | ((with_reducible refine atDst 9 ?_); refine wpList_new rfl 28 rfl id _ d0 hid HDZ.out rfl (Below.refl w2.heap.size w2) (Nat.le_refl _) ?_; intro w3 hk hb hs _; have K3 := qH hk; have B23 := qH hb; clear hk hb hs; (try simp only [Act.put, qA, qB, qC]))
  | ((with_reducible refine atStore 28 9 21 ?_); refine wpList_stBlk rfl 28 _ _ rfl w2.heap.size cs rfl rfl 28 _ K3.out HSA.out (by rw [HDL.out, HLA.out]) HOA.out B23.out (Nat.le_refl _) ?_; intro w4 hk hb hs ho; have K4 := qH hk; have V4 := qH (VA.out.below hb); have B4 := qH (B2.out.trans (hb.mono B2.out.size)); clear hk hb hs ho; (try simp only [Act.put, qA, qB, qC])))
 obtain ⟨gd, hgd⟩ : ∃ g, g = w2.heap.size := ⟨_, rfl⟩
 rw [← hgd] at K4
 rw [← hgd]
 clear hgd K3 B23 VA t1 t2 t3 t4
 go_loopw [11, 12] (fun av iv wl => ∃ i : Nat, i ≤ m ∧ av = .int .u64 ((256 ^ i % N64 : Nat) : Int) ∧ iv = .int .i64 (i : Int) ∧ Below w4.heap.size w4 wl) (fun _ iv _ => m - (intOf iv).toNat)
 case atStart => exact ⟨0, Nat.zero_le _, rfl, rfl, Below.refl _ _⟩
 obtain ⟨i, hi, rfl, rfl, hb⟩ := hrel
 have HI := qH hi
 have BI := qH hb
 obtain ⟨wi, hwi⟩ : ∃ v : World, v = wr := ⟨_, rfl⟩
 subst hwi
 obtain ⟨x, hx⟩ : ∃ x, x = 256 ^ i % N64 := ⟨_, rfl⟩
 have HX := qH hx
 rw [← hx]
 clear hi hb hx
 by_cases him : i < m
 ·have y1 : (i : Int) < (m : Int) := Int.ofNat_lt.2 him
  have HIM := qH him
  have HMX := qH (sub_next him)
  obtain ⟨y, hy⟩ : ∃ y, y = x * 256 % N64 := ⟨_, rfl⟩
  have HY := qH (show y = 256 ^ (i + 1) % N64 by rw [hy, HX.out]; exact pow_step i)
  have g1 : IntKind.u64.wrap ((x : Int) * 256) = (y : Int) := by
   have h1 := wrapU_mul x 256
   rw [← hy] at h1
   exact h1
  have e3 := wrap_one i (fl_12 him HM12.out)
  have e4 := wrap_one' i (fl_12 him HM12.out)
  clear him hy
  go_wp2_with fail
  exact ⟨⟨i + 1, HIM.out, by rw [← HY.out], by congr 1, BI.out⟩, by simpa [intOf] using HMX.out⟩
 ·obtain rfl : i = m := Nat.le_antisymm HI.out (Nat.not_lt.1 him)
  have y1 : ¬ ((i : Int) < (i : Int)) := Int.lt_irrefl _
  have KI := qH (K4.out.below BI.out K4.out.lt)
  have VI := qH (V4.out.below BI.out)
  obtain ⟨p, hp⟩ : ∃ p, p = cntW D i := ⟨_, rfl⟩
  obtain ⟨q, hq⟩ : ∃ q, q = cntW (flipD D) i := ⟨_, rfl⟩
  have HP := qH hp
  have HQ := qH hq
  have g1 : IntKind.u64.wrap ((p : Int) + (q : Int)) = (x : Int) := by
   rw [wrapU_add, hp, hq, flip_sum HM.out HCL2.out i HM12.out, ← HX.out]
  have G1 := qH g1
  have HI0 := qH (int_m1 i)
  have HI1 := qH (int_1k HM12.out)
  clear him hp hq g1
  go_wp2_with fail
  refine mc_start (fun V => Below wi.heap.size wi V) (fun _ => True) 11 (by kernel_rfl) (fun wd hwd => ?_)
  have hX : Below wi.heap.size wi wd := by rw [hwd]; exact (Below.refl _ _).drew
  have hY : True := trivial
  clear hwd
  refine mc_take (i := 0) (oi := ⟨some 32, _, _, _, _, _⟩) (v := .agg cs.toArray) rfl (by kernel_rfl) (by kernel_rfl) (by kernel_rfl) (fun _ _ _ h => h) rfl hX (fun V hT => ld_blk 28 (.tmp 9) rfl gd rfl 28 cs _ KI.out KI.out.lt Try.underlying28 rfl HSA.out V hT) ?_; simp only [Act.put, qA, qB, qC]
  refine mc_take (i := 1) (oi := ⟨some 33, _, _, _, _, _⟩) (v := ?_) rfl (by kernel_rfl) (by kernel_rfl) (by kernel_rfl) (fun _ _ _ h => h) rfl hX ?_ ?_; rotate_left; (intro W hW; go_simp; try with_reducible rfl); simp only [Act.put, qA, qB, qC]
  refine mc_take (i := 3) (oi := ⟨some 35, _, _, _, _, _⟩) (v := .agg cs.toArray) rfl (by kernel_rfl) (by kernel_rfl) (by kernel_rfl) (fun _ _ _ h => h) rfl hX (fun V hT => ld_blk 28 (.tmp 9) rfl gd rfl 28 cs _ KI.out KI.out.lt Try.underlying28 rfl HSA.out V hT) ?_; simp only [Act.put, qA, qB, qC]
  refine mc_take (i := 5) (oi := ⟨some 37, _, _, _, _, _⟩) (v := ?_) rfl (by kernel_rfl) (by kernel_rfl) (by kernel_rfl) (fun _ _ _ h => h) rfl hX ?_ ?_; rotate_left; (intro W hW; go_simp; try with_reducible rfl); simp only [Act.put, qA, qB, qC]
  refine mc_take (i := 8) (oi := ⟨some 40, _, _, _, _, _⟩) (v := ?_) rfl (by kernel_rfl) (by kernel_rfl) (by kernel_rfl) (fun _ _ _ h => h) rfl hX ?_ ?_; rotate_left; (intro W hW; go_simp; try with_reducible rfl); simp only [Act.put, qA, qB, qC]
  refine mc_actB (i := 2) (o := ⟨some 34, _, _, _, _, _⟩) rfl (by kernel_rfl) rfl (fun K hK => ?_)
  have X1 := qH hX
  go_wp2_with fail
  refine (HCC.out.count D cs i wd HI0.out HI1.out (VI.out.below hX) HM.out HAC.out).mono ?_
  rintro e v1 ⟨rfl, hb⟩
  rw [← HP.out]
  have hX2 := X1.out.trans (hb.mono X1.out.size)
  clear hb
  go_wp2_with fail
  refine hK _ _ hX2 trivial ?_
  clear hK K hX
  have hX := hX2
  clear hX2
  (try simp only [Act.put, qA, qB, qC])
  refine mc_actB (i := 4) (o := ⟨some 36, _, _, _, _, _⟩) rfl (by kernel_rfl) rfl (fun K hK => ?_)
  have X2 := qH hX
  go_wp2_with fail
  refine (refFlip11_any D cs v1 (VI.out.below hX) HM.out).mono ?_
  rintro e v2 ⟨xs, rfl, hx, hb⟩
  have VX := qH hx
  have hX2 := X2.out.trans (hb.mono X2.out.size)
  clear hb hx
  go_wp2_with fail
  refine hK _ _ hX2 trivial ?_
  clear hK K hX
  have hX := hX2
  clear hX2
  (try simp only [Act.put, qA, qB, qC])
  refine mc_actB (i := 6) (o := ⟨some 38, _, _, _, _, _⟩) rfl (by kernel_rfl) rfl (fun K hK => ?_)
  have X3 := qH hX
  go_wp2_with fail
  refine (HCC.out.count (flipD D) xs i v2 HI0.out HI1.out VX.out (flipD_may HM.out) (fun k hk => HAC.out k hk)).mono ?_
  rintro e v3 ⟨rfl, hb⟩
  rw [← HQ.out]
  have hX2 := X3.out.trans (hb.mono X3.out.size)
  clear hb
  go_wp2_with fail
  refine hK _ _ hX2 trivial ?_
  clear hK K hX
  have hX := hX2
  clear hX2
  (try simp only [Act.put, qA, qB, qC])
  have g1 := G1.out
  refine mc_take (i := 7) (oi := ⟨some 39, _, _, _, _, _⟩) (v := ?_) rfl (by kernel_rfl) (by kernel_rfl) (by kernel_rfl) (fun _ _ _ h => h) rfl hX ?_ ?_; rotate_left; (intro W hW; go_simp; try with_reducible rfl); simp only [Act.put, qA, qB, qC]
  refine mc_take (i := 9) (oi := ⟨some 41, _, _, _, _, _⟩) (v := ?_) rfl (by kernel_rfl) (by kernel_rfl) (by kernel_rfl) (fun _ _ _ h => h) rfl hX ?_ ?_; rotate_left; (intro W hW; go_simp; try with_reducible rfl); simp only [Act.put, qA, qB, qC]
  refine mc_take (i := 10) (oi := ⟨some 8, _, _, _, _, _⟩) (v := ?_) rfl (by kernel_rfl) (by kernel_rfl) (by kernel_rfl) (fun _ _ _ h => h) rfl hX ?_ ?_; rotate_left; (intro W hW; go_simp; try with_reducible rfl); simp only [Act.put, qA, qB, qC]
  refine wpAnyC_done (by kernel_rfl) ?_ _
  have BF := qH (B4.out.trans ((BI.out.trans (hX.mono BI.out.size)).mono B4.out.size))
  clear hX hY g1
  go_wp2_with fail
  go_ret
  exact ⟨rfl, BF.out⟩
end Go.Proofs.Ytaakdebcagdfgaa
