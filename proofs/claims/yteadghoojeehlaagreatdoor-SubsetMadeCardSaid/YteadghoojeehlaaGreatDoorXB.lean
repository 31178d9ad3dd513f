/-
  Texts of this proof, put together: SetA, SetB, BsC. No statement is proved here.
-/
import Derived.Test.YteadghoojeehlaaGreatDoorProg
import Derived.Test.YteadghoojeehlaaGreatDoorXA
import Derived.StillTailTactics
import Derived.Deep.QuietTactic
import Derived.BigQuiet
namespace Go.Proofs.YteadghoojeehlaaGreatDoor
open Go.RowKit
set_option linter.unusedSimpArgs false
set_option linter.unusedVariables false
theorem size_set (p : Nat → Bool) : (Tryz.prog.info? 43).map (·.size) = some (wds p).length := by
 rw [wds_length]
 kernel_rfl
theorem info_set : ∃ i : TypeInfo, Tryz.prog.info? 43 = some i ∧ i.zero = some (.agg (wds fun _ => false).toArray) := by
 have h : ((Tryz.prog.info? 43).map (·.zero)) = some (some (.agg (wds fun _ => false).toArray)) := by kernel_rfl
 cases hi : Tryz.prog.info? 43 with
 | none => rw [hi] at h; cases h
 | some i =>
  rw [hi] at h
  exact ⟨i, rfl, by simpa using h⟩
theorem has_bit (x k : Nat) : (((x : Int) / 2 ^ k).tmod 2 == 1) = decide (x / 2 ^ k % 2 = 1) := by
 have e : (2 ^ k : Int) = ((2 ^ k : Nat) : Int) := by rw [Int.natCast_pow]; rfl
 rw [e, ← Int.natCast_ediv]
 generalize x / 2 ^ k = y
 rw [Int.tmod_eq_emod_of_nonneg (by omega), Bool.eq_iff_iff, beq_iff_eq, decide_eq_true_iff]
 omega
set_option maxHeartbeats 1000000 in
theorem refHas_any (p : Nat → Bool) (b : Nat) (hb : b < 256) (w : World) :
  Calls Tryz.prog 45 #[.agg (wds p).toArray, .int .u8 (b : Int)] w fun e w' => e = .returned (.bool (p b)) ∧ Below w.heap.size w w' := by
 obtain ⟨x, hx⟩ : ∃ x, x = word p (b / 64) := ⟨_, rfl⟩
 have hlt := word_lt p (b / 64)
 have hsh := word_shift p b
 rw [← hx] at hlt hsh
 have HX := qH hx
 have HSH := qH hsh
 clear hx hsh
 go_enter Tryz.func45, Tryz.ntmps45
 go_wp2_with ((with_reducible refine atDst 2 ?_); refine wpList_box rfl 43 _ rfl (wds p) rfl (Below.refl w.heap.size w) (Nat.le_refl _) ?_; intro w1 hk1 hb1 hs1 _; have c1 := hk1.cell (b / 64); rw [wds_get p (b / 64) (by omega), ← HX.out] at c1; have B1 := qH hb1; clear hk1 hb1 hs1)
 go_ret
 refine ⟨?_, B1.out⟩
 rw [← HSH.out]
 refine congrArg (fun b => Ending.returned (.bool b)) ?_
 exact has_bit x _
/-! ### Of -/
theorem shl_bit (c : Nat) (hc : c < 64) : IntKind.u64.wrap (2 ^ c : Int) = ((2 ^ c : Nat) : Int) := by
 have h : 2 ^ c < 2 ^ 64 := Nat.pow_lt_pow_right (by omega) hc
 have e : (2 ^ c : Int) = ((2 ^ c : Nat) : Int) := by rw [Int.natCast_pow]; rfl
 rw [e]
 generalize 2 ^ c = y at h
 exact IntWalk.u64_in _ (by omega)
theorem of_bits {x k : Nat} (hx : x < 18446744073709551616) (hk : k < 64) : bits .or .u64 (x : Int) (2 ^ k : Int) = ((x ||| 2 ^ k : Nat) : Int) := by
 have h : 2 ^ k < 2 ^ 64 := Nat.pow_lt_pow_right (by omega) hk
 have e : (2 ^ k : Int) = ((2 ^ k : Nat) : Int) := by rw [Int.natCast_pow]; rfl
 rw [e]
 exact u64_or_nat x (2 ^ k) hx h
theorem mem_next (b : Nat) (c : UInt8) (n : Nat) (hb : b < 256) (hn : n = c.toNat) (l : List UInt8) : decide (UInt8.ofNat b ∈ l ++ [c]) = (decide (UInt8.ofNat b ∈ l) || decide (b = n)) := by
 have h : UInt8.ofNat b = c ↔ b = n := by
  rw [hn]
  constructor
  ·rintro rfl
   rw [UInt8.toNat_ofNat']
   exact (Nat.mod_eq_of_lt hb).symm
  ·rintro rfl
   simp
 rw [Bool.eq_iff_iff, Bool.or_eq_true, decide_eq_true_iff, decide_eq_true_iff, decide_eq_true_iff, List.mem_append, List.mem_singleton, h]
set_option maxHeartbeats 2000000 in
set_option maxRecDepth 100000 in
theorem refOf_any (v : Value) (l : List UInt8) (w : World) (hr : Row w v (bvs l)) (hl : l.length ≤ 1048576) :
  Calls Tryz.prog 16 #[v] w fun e w' => e = .returned (.agg (wds fun b => decide (UInt8.ofNat b ∈ l)).toArray) ∧ Below w.heap.size w w' := by
 have R0 := qH hr
 obtain ⟨A, cap, rfl, a1, a2, a0, a3⟩ := hr
 rw [bvs_length] at a1 R0 ⊢
 clear a3 a0 a2
 obtain ⟨i0, hi0, hz0⟩ := info_set
 obtain ⟨z, hz⟩ : ∃ z : Nat → Bool, z = fun _ => false := ⟨_, rfl⟩
 rw [← hz] at hz0
 have HZ := qH hz
 clear hz
 go_enter Tryz.func16, Tryz.ntmps16
 go_wp2_with (first
  | ((with_reducible refine atDst 2 ?_); refine wpList_new rfl 43 rfl i0 _ (wds z) hi0 hz0 rfl (Below.refl w.heap.size w) (Nat.le_refl _) ?_; intro w1 hk1 hb1 hs1 _; have K1 := qH hk1; have B1 := qH hb1; have S1 := qH hs1; clear hk1 hb1 hs1)
  | ((with_reducible refine atDst 3 ?_); refine wpList_new rfl 43 rfl i0 _ (wds z) hi0 hz0 rfl (Below.refl w1.heap.size w1) (Nat.le_refl _) ?_; intro w2 hk2 hb2 hs2 ho2; have K2 := qH hk2; have B2 := qH hb2; clear hk2 hb2 hs2 ho2))
 go_loopw [4] (fun i wl => ∃ j : Nat, j ≤ l.length ∧ i = .int .i64 (j : Int) ∧ Blk wl w1.heap.size 43 (wds fun b => decide (UInt8.ofNat b ∈ l.take j)) ∧ Below w1.heap.size w1 wl) (fun i _ => l.length - (intOf i).toNat)
 case atStart => exact ⟨0, by omega, by simp, by simpa [HZ.out] using K2.out, B2.out⟩
 case round =>
  obtain ⟨j, hj, rfl, hk, hb⟩ := hrel
  have KR := qH hk
  have BR := qH hb
  clear hk hb
  by_cases hjl : j < l.length
  ·have i1 : (j : Int) < (l.length : Int) := by omega
   obtain ⟨b0, off, rfl, hb0, hcell⟩ := (R0.out.below (B1.out.trans (BR.out.mono B1.out.size))).at_ (by rw [bvs_length]; omega)
   have hcj := hcell j _ (bvs_get l j l[j] (List.getElem?_eq_getElem hjl))
   obtain ⟨c, hc⟩ : ∃ c : UInt8, c = l[j] := ⟨_, rfl⟩
   rw [← hc] at hcj
   have HC := qH hc
   have hlt := c.toNat_lt
   obtain ⟨n, hn⟩ : ∃ n, n = c.toNat := ⟨_, rfl⟩
   have hcj' : wr.cell? ⟨b0, off + j, none⟩ = some (.int .u8 (n : Int)) := by rw [hn]; exact hcj
   rw [← hn] at hlt
   have HN := qH hn
   have hgc := KR.out.cell (n / 64)
   rw [wds_get _ (n / 64) (by omega)] at hgc
   obtain ⟨x, hx⟩ : ∃ x, x = word (fun b => decide (UInt8.ofNat b ∈ l.take j)) (n / 64) := ⟨_, rfl⟩
   rw [← hx] at hgc
   have hfz := KR.out.frozen (n / 64)
   have HX := qH hx
   have hlx : x < 18446744073709551616 := by rw [hx]; exact word_lt _ _
   have hsh := shl_bit (n % 64) (Nat.mod_lt _ (by omega))
   clear hcell hc hcj hn hx
   have hq1 : IntKind.u8.wrap ((n : Int) / 64) = ((n / 64 : Nat) : Int) := IntWalk.u8_in _ (by omega)
   have hq2 : ((n : Int).tmod 64) = ((n % 64 : Nat) : Int) := by rw [Int.tmod_eq_emod_of_nonneg (by omega)]; rfl
   have hq3 : (n : Int) / 64 < 4 := by omega
   have hq4 : 0 ≤ (n : Int) / 64 := by omega
   have hq5 : ((n : Int) / 64).toNat = n / 64 := by omega
   go_wp2_with fail
   go_still_tail 15, (by kernel_rfl)
   change wpList _ _ _ _ _ wr.drew
   go_wp2_with fail
   refine ⟨⟨j + 1, by omega, by congr 1, ?_, (BR.out.setCell (p := ⟨w1.heap.size, n / 64, none⟩) (Nat.le_refl _) _).drew⟩, by simp [intOf] <;> omega⟩
   rw [of_bits hlx (Nat.mod_lt n (by omega))]
   have hk := KR.out.set (n / 64) (.int .u64 ((x ||| 2 ^ (n % 64) : Nat) : Int))
   rw [HX.out, wds_put _ n (by omega)] at hk
   rw [HX.out]
   refine Blk.drew ?_
   rw [wds_congr (q := fun b => decide (UInt8.ofNat b ∈ l.take j) || decide (b = n)) (fun b hb => ?_)]
   ·exact hk
   ·rw [List.take_succ_eq_append_getElem hjl, ← HC.out]
    exact mem_next b c n hb HN.out _
  ·obtain rfl : j = l.length := by omega
   have i1 : ¬ ((l.length : Int) < (l.length : Int)) := by omega
   have k9 := KR.out
   rw [List.take_length] at k9
   obtain ⟨q, hq⟩ : ∃ q : Nat → Bool, q = fun b => decide (UInt8.ofNat b ∈ l) := ⟨_, rfl⟩
   rw [← hq] at k9
   have K9 := qH k9
   have HQ := qH hq
   have KA := qH (K1.out.below BR.out K1.out.lt)
   have B9 := qH (B1.out.trans (BR.out.mono B1.out.size))
   clear k9 hq KR
   go_wp2_with (first
    | ((with_reducible refine atDst 26 ?_); refine wpList_ldArr rfl 43 _ rfl w1.heap.size rfl 43 _ _ K9.out Tryz.underlying43 rfl (size_set q) ?_)
    | ((with_reducible refine atStore 43 2 26 ?_); refine wpList_stBlk rfl 43 _ _ rfl w.heap.size (wds q) rfl rfl 43 _ KA.out (size_set q) rfl (wds_all _) B9.out (Nat.le_refl _) ?_; intro w3 hk3 hb3 hs3 _; have K3 := qH hk3; have B3 := qH hb3; clear hk3 hb3))
   refine bodyPost_ret (results_blk rfl _ _ w.heap.size 43 _ _ rfl K3.out Tryz.underlying43 rfl (size_set q)) rfl ?_
   exact ⟨by rw [HQ.out], B3.out⟩
/-! ### Where -/
theorem inf_u8 : (Tryz.prog.info? 5).map (fun i => (i.zero, i.size, i.bytes)) = some (some (.int .u8 0), 1, 1) := by kernel_rfl
theorem size_tab {l : List Bool} (h : l.length = 256) : (Tryz.prog.info? 146).map (·.size) = some (bools l).length := by
 rw [bools_length, h]
 kernel_rfl
set_option maxHeartbeats 2000000 in
set_option maxRecDepth 100000 in
theorem refWhere_any (tb : List Bool) (ht : tb.length = 256) (w : World) :
  Calls Tryz.prog 98 #[.agg (bools tb).toArray] w fun e w' => e = .returned (.agg (wds fun b => tb.getD b false).toArray) ∧ Below w.heap.size w w' := by
 have HTL := qH ht
 obtain ⟨p, hp⟩ : ∃ p : Nat → Bool, p = fun b => tb.getD b false := ⟨_, rfl⟩
 rw [← hp]
 have HP := qH hp
 clear hp ht
 obtain ⟨i0, hi0, hz0⟩ := info_set
 obtain ⟨i1, hi1, hy0, hy1, hy2⟩ := infoP inf_u8
 obtain ⟨z, hz⟩ : ∃ z : Nat → Bool, z = fun _ => false := ⟨_, rfl⟩
 rw [← hz] at hz0
 clear hz
 go_enter Tryz.func98, Tryz.ntmps98
 go_wp2_with (first
  | ((with_reducible refine atDst 1 ?_); refine wpList_box rfl 146 _ rfl (bools tb) rfl (Below.refl w.heap.size w) (Nat.le_refl _) ?_; intro w1 hk1 hb1 hs1 _; have K1 := qH hk1; have B1 := qH hb1; clear hk1 hb1 hs1)
  | ((with_reducible refine atDst 2 ?_); refine wpList_new rfl 43 rfl i0 _ (wds z) hi0 hz0 rfl B1.out B1.out.size ?_; intro w2 hk2 hb2 hs2 ho2; have K2 := qH hk2; have B2 := qH hb2; have K1a := qH (show Blk w2 w.heap.size 146 (bools tb) from (ho2 _ K1.out.lt).trans K1.out); clear hk2 hb2 hs2 ho2))
 go_loopw [3, 4] (fun v i wl => ∃ j : Nat, j ≤ 256 ∧ i = .int .i64 (j : Int) ∧ wl.ownsRow w2.heap.size 5 1 v (memJ p j).length (bvs (memJ p j)) ∧ Below w2.heap.size w2 wl) (fun _ i _ => 256 - (intOf i).toNat)
 case atStart => exact ⟨0, by omega, by simp, ownN _ _ _, Below.refl _ _⟩
 case round =>
  obtain ⟨j, hj, rfl, ho, hb⟩ := hrel
  have HO := qH ho
  have HB := qH hb
  clear ho hb
  by_cases hjl : j < 256
  ·have j1 : (j : Int) < 256 := by omega
   have hc := (K1a.out.below HB.out K1a.out.lt).cell j
   rw [bools_get _ _ (by rw [HTL.out]; exact hjl)] at hc
   obtain ⟨q, hq⟩ : ∃ q, q = tb[j]'(by rw [HTL.out]; exact hjl) := ⟨_, rfl⟩
   rw [← hq] at hc
   have hqp : p j = q := by rw [hq, HP.out]; simp [List.getD, HTL.out, hjl]
   have hms := memJ_succ p j
   rw [hqp] at hms
   have HM := qH hms
   have hln := memJ_len p j
   have HLN := qH hln
   clear hq hms hqp hln
   cases q with
   | true =>
    have hw8 : IntKind.u8.wrap (j : Int) = (j : Int) := IntWalk.u8_in _ (by omega)
    have R1 := qH (rowB (n := 1) (show Blk (wr.alloc (.cells #[.int .u8 (j : Int)] 5)) wr.heap.size 5 (bvs [UInt8.ofNat j]) by
     have := Blk.new wr 5 (bvs [UInt8.ofNat j])
     rw [show bvs [UInt8.ofNat j] = [.int .u8 (j : Int)] from congrArg (fun x => [x]) (bv_ofNat hjl)] at this ⊢
     exact this) rfl (by omega))
    go_wp2_with ((with_reducible refine atDst 16 ?_); refine wpList_appR (w0 := w2) rfl (.tmp 12) (.tmp 15) 38 rfl 5 i1 (.int .u8 0) 1 Tryz.underlying38 hi1 hy0 hy1 hy2 rfl _ _ _ rfl (HO.out.alloc _) _ (bvs [UInt8.ofNat j]) rfl R1.out (bvs_one _) (by have := HLN.out; rw [bvs_length]; simp; omega) (by omega) (HB.out.alloc HB.out.size _) ?_; intro v3 w3 ho3 _ hb3 _; have O3 := qH ho3; have B3 := qH hb3; clear ho3 hb3)
    refine ⟨⟨j + 1, by omega, by congr 1, ?_, B3.out⟩, by simp [intOf] <;> omega⟩
    rw [HM.out, if_pos rfl, bvs_append, List.length_append]
    exact O3.out
   | false =>
    go_wp2_with fail
    refine ⟨⟨j + 1, by omega, by congr 1, ?_, HB.out⟩, by simp [intOf] <;> omega⟩
    rw [HM.out]
    exact HO.out
  ·obtain rfl : j = 256 := by omega
   have j1 : ¬ ((256 : Int) < 256) := by omega
   have hr := Row.of_own HO.out
   have HR := qH hr
   have HLN := qH (memJ_len p 256)
   have K9 := qH (K2.out.below HB.out K2.out.lt)
   have B9 := qH (B2.out.trans (HB.out.mono B2.out.size))
   have HWM := qH (wds_mem p)
   clear hr HO
   go_wp2_with fail
   refine (refOf_any _ (memJ p 256) wr HR.out (by have := HLN.out; omega)).mono ?_
   rintro e w4 ⟨rfl, hb4⟩
   rw [HWM.out]
   have K10 := qH (K9.out.below hb4 K9.out.lt)
   have B10 := qH (B9.out.trans (hb4.mono B9.out.size))
   clear hb4
   go_wp2_with ((with_reducible refine atStore 43 2 18 ?_); refine wpList_stBlk rfl 43 _ _ rfl w1.heap.size (wds p) rfl rfl 43 _ K10.out (size_set p) rfl (wds_all _) B10.out B1.out.size ?_; intro w5 hk5 hb5 hs5 _; have K5 := qH hk5; have B5 := qH hb5; clear hk5 hb5)
   refine bodyPost_ret (results_blk rfl _ _ w1.heap.size 43 _ _ rfl K5.out Tryz.underlying43 rfl (size_set p)) rfl ?_
   exact ⟨rfl, B5.out⟩
def tab (p : Nat → Bool) : List Bool := (List.range 256).map p
theorem tab_length (p : Nat → Bool) : (tab p).length = 256 := by simp [tab]
theorem tab_set (p : Nat → Bool) (j : Nat) (x : Bool) (hj : j < 256) : (bools (tab p)).set j (.bool x) = bools (tab fun b => if b = j then x else p b) := by
 apply List.ext_getElem
 ·simp [bools, tab]
 ·intro i h1 h2
  have hi : i < 256 := by simpa [bools, tab] using h1
  simp only [bools, tab, List.getElem_set, List.getElem_map, List.getElem_range]
  by_cases h : j = i
  ·subst h
   simp
  ·rw [if_neg h, if_neg (fun e => h e.symm)]
theorem tab_congr {p q : Nat → Bool} (h : ∀ b, b < 256 → p b = q b) : tab p = tab q := by
 unfold tab
 exact List.map_congr_left fun b hb => h b (List.mem_range.1 hb)
theorem where_tab (p : Nat → Bool) (w : World) :
  Calls Tryz.prog 98 #[.agg (bools (tab p)).toArray] w fun e w' => e = .returned (.agg (wds p).toArray) ∧ Below w.heap.size w w' := by
 have := refWhere_any (tab p) (tab_length p) w
 rwa [wds_congr (q := p) fun b hb => by simp [List.getD, tab, hb]] at this
theorem tab_zero : ∃ i : TypeInfo, Tryz.prog.info? 146 = some i ∧ i.zero = some (.agg (bools (tab fun _ => false)).toArray) := by
 have h : ((Tryz.prog.info? 146).map (·.zero)) = some (some (.agg (bools (tab fun _ => false)).toArray)) := by kernel_rfl
 cases hi : Tryz.prog.info? 146 with
 | none => rw [hi] at h; cases h
 | some i =>
  rw [hi] at h
  exact ⟨i, rfl, by simpa using h⟩
theorem tab_round {w : World} {g j : Nat} {t : TypeId} {r : Nat → Bool} (h : Blk w g t (bools (tab fun b => decide (b < j) && r b))) (hj : j < 256) :
  Blk (w.setCell ⟨g, j, none⟩ (.bool (r j))) g t (bools (tab fun b => decide (b < j + 1) && r b)) := by
 have := h.set j (.bool (r j))
 rw [tab_set _ _ _ hj] at this
 rw [tab_congr (q := fun b => if b = j then r j else decide (b < j) && r b) (fun b hb => ?_)]
 ·exact this
 ·by_cases hbj : b = j
  ·rw [if_pos hbj, hbj, decide_eq_true (by omega), Bool.true_and]
  ·rw [if_neg hbj]
   congr 1
   exact decide_eq_decide.2 (by omega)
theorem tab_done {w : World} {g : Nat} {t : TypeId} {r : Nat → Bool} (h : Blk w g t (bools (tab fun b => decide (b < 256) && r b))) : Blk w g t (bools (tab r)) := by
 rwa [tab_congr (q := r) fun b hb => by rw [decide_eq_true hb, Bool.true_and]] at h
set_option maxHeartbeats 2000000 in
set_option maxRecDepth 100000 in
theorem refRange_any (f t : Nat) (hf : f < 256) (ht : t < 256) (w : World) :
  Calls Tryz.prog 80 #[.int .u8 (f : Int), .int .u8 (t : Int)] w fun e w' => e = .returned (.agg (wds fun b => decide (f ≤ b ∧ b ≤ t)).toArray) ∧ Below w.heap.size w w' := by
 obtain ⟨r, hr⟩ : ∃ r : Nat → Bool, r = fun b => decide (f ≤ b ∧ b ≤ t) := ⟨_, rfl⟩
 rw [← hr]
 have HR := qH hr
 clear hr
 obtain ⟨i0, hi0, hz0⟩ := info_set
 obtain ⟨i1, hi1, hy0⟩ := tab_zero
 obtain ⟨z, hz⟩ : ∃ z : Nat → Bool, z = fun _ => false := ⟨_, rfl⟩
 rw [← hz] at hz0 hy0
 have HZ := qH hz
 clear hz
 have hw1 : IntKind.i64.wrap (f : Int) = (f : Int) := IntWalk.i64_in _ (by omega)
 have hw2 : IntKind.i64.wrap (t : Int) = (t : Int) := IntWalk.i64_in _ (by omega)
 go_enter Tryz.func80, Tryz.ntmps80
 go_wp2_with (first
  | ((with_reducible refine atDst 4 ?_); refine wpList_new rfl 43 rfl i0 _ (wds z) hi0 hz0 rfl (Below.refl w.heap.size w) (Nat.le_refl _) ?_; intro w1 hk1 hb1 hs1 _; have K1 := qH hk1; have B1 := qH hb1; clear hk1 hb1 hs1)
  | ((with_reducible refine atDst 5 ?_); refine wpList_new rfl 146 rfl i1 _ (bools (tab z)) hi1 hy0 rfl (Below.refl w1.heap.size w1) (Nat.le_refl _) ?_; intro w2 hk2 hb2 hs2 ho2; have K2 := qH hk2; have B2 := qH hb2; clear hk2 hb2 hs2 ho2))
 go_loopw [6] (fun i wl => ∃ j : Nat, f ≤ j ∧ (j ≤ f ∨ j ≤ t + 1) ∧ i = .int .i64 (j : Int) ∧ Blk wl w1.heap.size 146 (bools (tab fun b => decide (f ≤ b ∧ b < j))) ∧ Below w1.heap.size w1 wl) (fun i _ => 256 - (intOf i).toNat)
 case atStart => exact ⟨f, by omega, by omega, by simp, by rw [tab_congr (q := z) (fun b hb => by rw [HZ.out]; exact decide_eq_false (by omega))]; exact K2.out, B2.out⟩
 case round =>
  obtain ⟨j, hfj, hj, rfl, hk, hb⟩ := hrel
  have HK := qH hk
  have HB := qH hb
  clear hk hb
  by_cases hjl : j ≤ t
  ·have j1 : (j : Int) ≤ (t : Int) := by omega
   have hc := HK.out.cell j
   rw [bools_get _ _ (by rw [tab_length]; omega)] at hc
   have hfz := HK.out.frozen j
   have j2 : (j : Int) < 256 := by omega
   go_wp2_with fail
   refine ⟨⟨j + 1, by omega, by omega, by congr 1, ?_, HB.out.setCell (p := ⟨w1.heap.size, j, none⟩) (Nat.le_refl _) _⟩, by simp [intOf] <;> omega⟩
   have := HK.out.set j (.bool true)
   rw [tab_set _ _ _ (by omega)] at this
   rw [tab_congr (q := fun b => if b = j then true else decide (f ≤ b ∧ b < j)) (fun b hb => ?_)]
   ·exact this
   ·by_cases hbj : b = j
    ·rw [if_pos hbj]; exact decide_eq_true (by omega)
    ·rw [if_neg hbj]; exact decide_eq_decide.2 (by omega)
  ·have j1 : ¬ ((j : Int) ≤ (t : Int)) := by omega
   have hk9 := HK.out
   rw [tab_congr (q := r) (fun b hb => by rw [HR.out]; exact decide_eq_decide.2 (by omega))] at hk9
   have K9 := qH hk9
   have KA := qH (K1.out.below HB.out K1.out.lt)
   have B9 := qH (B1.out.trans (HB.out.mono B1.out.size))
   clear hk9 HK
   go_wp2_with ((with_reducible refine atDst 17 ?_); refine wpList_ldArr rfl 146 _ rfl w1.heap.size rfl 146 _ _ K9.out Tryz.underlying146 rfl (size_tab (tab_length _)) ?_)
   refine (where_tab r wr).mono ?_
   rintro e w4 ⟨rfl, hb4⟩
   have K10 := qH (Blk.below KA.out hb4 (Blk.lt KA.out))
   have B10 := qH (B9.out.trans (hb4.mono B9.out.size))
   clear hb4
   go_wp2_with ((with_reducible refine atStore 43 4 18 ?_); refine wpList_stBlk rfl 43 _ _ rfl w.heap.size (wds r) rfl rfl 43 _ K10.out (size_set r) rfl (wds_all _) B10.out (Nat.le_refl _) ?_; intro w5 hk5 hb5 hs5 _; have K5 := qH hk5; have B5 := qH hb5; clear hk5 hb5)
   refine bodyPost_ret (results_blk rfl _ _ w.heap.size 43 _ _ rfl K5.out Tryz.underlying43 rfl (size_set r)) rfl ?_
   exact ⟨rfl, B5.out⟩
/-! ### List -/
set_option maxHeartbeats 2000000 in
set_option maxRecDepth 100000 in
theorem refList_any (p : Nat → Bool) (w : World) :
  Calls Tryz.prog 99 #[.agg (wds p).toArray] w fun e w' => ∃ v, e = .returned v ∧ w'.ownsRow w.heap.size 5 1 v (memJ p 256).length (bvs (memJ p 256)) ∧ Below w.heap.size w w' := by
 obtain ⟨i1, hi1, hy0, hy1, hy2⟩ := infoP inf_u8
 go_enter Tryz.func99, Tryz.ntmps99
 go_wp2_with ((with_reducible refine atDst 1 ?_); refine wpList_box rfl 43 _ rfl (wds p) rfl (Below.refl w.heap.size w) (Nat.le_refl _) ?_; intro w1 hk1 hb1 hs1 _; have K1 := qH hk1; have B1 := qH hb1; clear hk1 hb1 hs1)
 go_loopw [3, 4] (fun v i wl => ∃ j : Nat, j ≤ 256 ∧ i = .int .i64 (j : Int) ∧ wl.ownsRow w1.heap.size 5 1 v (memJ p j).length (bvs (memJ p j)) ∧ Below w1.heap.size w1 wl) (fun _ i _ => 256 - (intOf i).toNat)
 case atStart => exact ⟨0, by omega, by simp, ownN _ _ _, Below.refl _ _⟩
 case round =>
  obtain ⟨j, hj, rfl, ho, hb⟩ := hrel
  have HO := qH ho
  have HB := qH hb
  clear ho hb
  by_cases hjl : j < 256
  ·have j1 : (j : Int) < 256 := by omega
   have hw8 : IntKind.u8.wrap (j : Int) = (j : Int) := IntWalk.u8_in _ (by omega)
   have KR := qH (K1.out.below HB.out K1.out.lt)
   go_wp2_with ((with_reducible refine atDst 9 ?_); refine wpList_ldArr rfl 43 _ rfl w.heap.size rfl 43 _ _ KR.out Tryz.underlying43 rfl (size_set p) ?_)
   refine (refHas_any p j hjl wr).mono ?_
   rintro e w2 ⟨rfl, hb2⟩
   have B2 := qH (HB.out.trans (hb2.mono HB.out.size))
   have O2 := qH (ownBelow HO.out hb2 (Nat.le_refl _))
   clear hb2
   have HLN := qH (memJ_len p j)
   cases hq : p j with
   | true =>
    have HM := qH (show memJ p (j + 1) = memJ p j ++ [UInt8.ofNat j] by rw [memJ_succ, hq]; rfl)
    clear hq
    have R1 := qH (rowB (n := 1) (show Blk (w2.alloc (.cells #[.int .u8 (j : Int)] 5)) w2.heap.size 5 (bvs [UInt8.ofNat j]) by
     have := Blk.new w2 5 (bvs [UInt8.ofNat j])
     rw [show bvs [UInt8.ofNat j] = [.int .u8 (j : Int)] from congrArg (fun x => [x]) (bv_ofNat hjl)] at this ⊢
     exact this) rfl (by omega))
    go_wp2_with ((with_reducible refine atDst 17 ?_); refine wpList_appR (w0 := w1) rfl (.tmp 13) (.tmp 16) 38 rfl 5 i1 (.int .u8 0) 1 Tryz.underlying38 hi1 hy0 hy1 hy2 rfl _ _ _ rfl (O2.out.alloc _) _ (bvs [UInt8.ofNat j]) rfl R1.out (bvs_one _) (by have := HLN.out; rw [bvs_length]; simp; omega) (by omega) (B2.out.alloc B2.out.size _) ?_; intro v3 w3 ho3 _ hb3 _; have O3 := qH ho3; have B3 := qH hb3; clear ho3 hb3)
    refine ⟨⟨j + 1, by omega, by congr 1, ?_, B3.out⟩, by simp [intOf] <;> omega⟩
    rw [HM.out, bvs_append, List.length_append]
    exact O3.out
   | false =>
    have HM := qH (show memJ p (j + 1) = memJ p j by rw [memJ_succ, hq]; rfl)
    clear hq
    go_wp2_with fail
    refine ⟨⟨j + 1, by omega, by congr 1, ?_, B2.out⟩, by simp [intOf] <;> omega⟩
    rw [HM.out]
    exact O2.out
  ·obtain rfl : j = 256 := by omega
   have j1 : ¬ ((256 : Int) < 256) := by omega
   have HO2 := qH (ownMono HO.out B1.out.size)
   have B9 := qH (B1.out.trans (HB.out.mono B1.out.size))
   clear HO
   go_wp2_with fail
   go_ret
   exact ⟨_, rfl, HO2.out, B9.out⟩
/-! ### Not -/
set_option maxHeartbeats 2000000 in
set_option maxRecDepth 100000 in
theorem refNot_any (p : Nat → Bool) (w : World) :
  Calls Tryz.prog 81 #[.agg (wds p).toArray] w fun e w' => e = .returned (.agg (wds fun b => !p b).toArray) ∧ Below w.heap.size w w' := by
 obtain ⟨r, hr⟩ : ∃ r : Nat → Bool, r = fun b => !p b := ⟨_, rfl⟩
 rw [← hr]
 have HR := qH hr
 clear hr
 obtain ⟨i0, hi0, hz0⟩ := info_set
 obtain ⟨i1, hi1, hy0⟩ := tab_zero
 obtain ⟨z, hz⟩ : ∃ z : Nat → Bool, z = fun _ => false := ⟨_, rfl⟩
 rw [← hz] at hz0 hy0
 have HZ := qH hz
 clear hz
 go_enter Tryz.func81, Tryz.ntmps81
 go_wp2_with (first
  | ((with_reducible refine atDst 1 ?_); refine wpList_box rfl 43 _ rfl (wds p) rfl (Below.refl w.heap.size w) (Nat.le_refl _) ?_; intro w1 hk1 hb1 hs1 _; have K1 := qH hk1; have B1 := qH hb1; clear hk1 hb1 hs1)
  | ((with_reducible refine atDst 2 ?_); refine wpList_new rfl 43 rfl i0 _ (wds z) hi0 hz0 rfl B1.out B1.out.size ?_; intro w2 hk2 hb2 hs2 ho2; have K2 := qH hk2; have B2 := qH hb2; have K1a := qH (show Blk w2 w.heap.size 43 (wds p) from (ho2 _ K1.out.lt).trans K1.out); clear hk2 hb2 hs2 ho2)
  | ((with_reducible refine atDst 3 ?_); refine wpList_new rfl 146 rfl i1 _ (bools (tab z)) hi1 hy0 rfl (Below.refl w2.heap.size w2) (Nat.le_refl _) ?_; intro w3 hk3 hb3 hs3 ho3; have K3 := qH hk3; have B3 := qH hb3; clear hk3 hb3 hs3 ho3))
 go_loopw [4] (fun i wl => ∃ j : Nat, j ≤ 256 ∧ i = .int .i64 (j : Int) ∧ Blk wl w2.heap.size 146 (bools (tab fun b => decide (b < j) && r b)) ∧ Below w2.heap.size w2 wl) (fun i _ => 256 - (intOf i).toNat)
 case atStart => exact ⟨0, by omega, by simp, by rw [tab_congr (q := z) (fun b hb => by rw [HZ.out]; simp)]; exact K3.out, B3.out⟩
 case round =>
  obtain ⟨j, hj, rfl, hk, hb⟩ := hrel
  have HK := qH hk
  have HB := qH hb
  clear hk hb
  by_cases hjl : j < 256
  ·have j1 : (j : Int) < 256 := by omega
   have hw8 : IntKind.u8.wrap (j : Int) = (j : Int) := IntWalk.u8_in _ (by omega)
   have KR := qH (K1a.out.below HB.out K1a.out.lt)
   go_wp2_with ((with_reducible refine atDst 10 ?_); refine wpList_ldArr rfl 43 _ rfl w.heap.size rfl 43 _ _ KR.out Tryz.underlying43 rfl (size_set p) ?_)
   refine (refHas_any p j hjl wr).mono ?_
   rintro e w4 ⟨rfl, hb4⟩
   obtain ⟨q, hq⟩ : ∃ q, q = p j := ⟨_, rfl⟩
   rw [← hq]
   have HQ := qH (show (!q) = r j by rw [hq, HR.out])
   have K4 := qH (HK.out.below hb4 HK.out.lt)
   have B4 := qH (HB.out.trans (hb4.mono HB.out.size))
   have hc := K4.out.cell j
   rw [bools_get _ _ (by rw [tab_length]; omega)] at hc
   have hfz := K4.out.frozen j
   clear hb4 hq
   go_wp2_with fail
   refine ⟨⟨j + 1, by omega, by congr 1, ?_, B4.out.setCell (p := ⟨w2.heap.size, j, none⟩) (Nat.le_refl _) _⟩, by simp [intOf] <;> omega⟩
   rw [HQ.out]
   exact tab_round K4.out hjl
  ·obtain rfl : j = 256 := by omega
   have j1 : ¬ ((256 : Int) < 256) := by omega
   have K9 := qH (tab_done HK.out)
   have KA := qH (K2.out.below HB.out K2.out.lt)
   have B9 := qH (B2.out.trans (HB.out.mono B2.out.size))
   clear HK
   go_wp2_with ((with_reducible refine atDst 16 ?_); refine wpList_ldArr rfl 146 _ rfl w2.heap.size rfl 146 _ _ K9.out Tryz.underlying146 rfl (size_tab (tab_length _)) ?_)
   refine (where_tab r wr).mono ?_
   rintro e w4 ⟨rfl, hb4⟩
   have K10 := qH (Blk.below KA.out hb4 (Blk.lt KA.out))
   have B10 := qH (B9.out.trans (hb4.mono B9.out.size))
   clear hb4
   go_wp2_with ((with_reducible refine atStore 43 2 17 ?_); refine wpList_stBlk rfl 43 _ _ rfl w1.heap.size (wds r) rfl rfl 43 _ K10.out (size_set r) rfl (wds_all _) B10.out B1.out.size ?_; intro w5 hk5 hb5 hs5 _; have K5 := qH hk5; have B5 := qH hb5; clear hk5 hb5)
   refine bodyPost_ret (results_blk rfl _ _ w1.heap.size 43 _ _ rfl K5.out Tryz.underlying43 rfl (size_set r)) rfl ?_
   exact ⟨rfl, B5.out⟩
theorem ld_blk {P : Program} {a : Act} {oi : Oper} {B : Nat} {w0 : World} (ty : TypeId) (x : Operand) (ho : oi.op = .load ty x) (g : Nat) (hx : a.eval x = .pointer (some ⟨g, 0, none⟩)) (t : TypeId) (cs : List Value) (d : TypeDesc)
  (hg : Blk w0 g t cs) (hB : g < B) (hu : P.underlying ty = some d) (hd : (match d with | .struct _ | .array _ _ => true | _ => false) = true) (hi : (P.info? ty).map (·.size) = some cs.length) :
  ∀ W, Below B w0 W → (execOp a.eval oi).run P W = .ok (.value (.agg cs.toArray)) W := by
 intro W hW
 have hl := run_loadVar_row (P := P) W g t ty cs.toArray (0, 0) d (hg.below hW hB) hu hd (by simpa using hi)
 simp [execOp, ho, hx, Instr.loadAt, Instr.sureAddr, asAddr, hl]
/-! ### Or -/
theorem wds_or (p q : Nat → Bool) : (wds fun b => decide (UInt8.ofNat b ∈ memJ p 256 ++ memJ q 256)) = wds fun b => p b || q b := by
 refine wds_congr fun b hb => ?_
 have h1 := memJ_mem p b hb
 have h2 := memJ_mem q b hb
 rw [← h1, ← h2, Bool.eq_iff_iff, Bool.or_eq_true, decide_eq_true_iff, decide_eq_true_iff, decide_eq_true_iff, List.mem_append]
set_option maxHeartbeats 2000000 in
set_option maxRecDepth 100000 in
theorem refOr_any (p q : Nat → Bool) (w : World) :
  Calls Tryz.prog 84 #[.agg (wds p).toArray, .agg (wds q).toArray] w fun e w' => e = .returned (.agg (wds fun b => p b || q b).toArray) ∧ Below w.heap.size w w' := by
 obtain ⟨r, hr⟩ : ∃ r : Nat → Bool, r = fun b => p b || q b := ⟨_, rfl⟩
 have hor := wds_or p q
 rw [← hr] at hor ⊢
 have HR := qH hor
 clear hr hor
 obtain ⟨i0, hi0, hz0⟩ := info_set
 obtain ⟨i1, hi1, hy0, hy1, hy2⟩ := infoP inf_u8
 obtain ⟨z, hz⟩ : ∃ z : Nat → Bool, z = fun _ => false := ⟨_, rfl⟩
 rw [← hz] at hz0
 clear hz
 have LP := qH (memJ_len p 256)
 have LQ := qH (memJ_len q 256)
 go_enter Tryz.func84, Tryz.ntmps84
 go_wp2_with (first
  | ((with_reducible refine atDst 2 ?_); refine wpList_box rfl 43 _ rfl (wds p) rfl (Below.refl w.heap.size w) (Nat.le_refl _) ?_; intro w1 hk1 hb1 hs1 _; have K1 := qH hk1; have B1 := qH hb1; clear hk1 hb1 hs1)
  | ((with_reducible refine atDst 3 ?_); refine wpList_box rfl 43 _ rfl (wds q) rfl B1.out B1.out.size ?_; intro w2 hk2 hb2 hs2 ho2; have L2 := qH hk2; have B2 := qH hb2; have K2 := qH (show Blk w2 w.heap.size 43 (wds p) from (ho2 _ K1.out.lt).trans K1.out); clear hk2 hb2 hs2 ho2)
  | ((with_reducible refine atDst 4 ?_); refine wpList_new rfl 43 rfl i0 _ (wds z) hi0 hz0 rfl B2.out B2.out.size ?_; intro w3 hk3 hb3 hs3 ho3; have M3 := qH hk3; have B3 := qH hb3; have K3 := qH (show Blk w3 w.heap.size 43 (wds p) from (ho3 _ K2.out.lt).trans K2.out); have L3 := qH (show Blk w3 w1.heap.size 43 (wds q) from (ho3 _ L2.out.lt).trans L2.out); clear hk3 hb3 hs3 ho3))
 refine sx_startB (B := w2.heap.size) (w0 := w3) (by kernel_rfl) (Below.refl _ _) (fun wd hwd hX => ?_)
 have MD := qH (show Blk wd w2.heap.size 43 (wds z) by rw [hwd]; exact M3.out.drew)
 have SD := qH (Nat.le_trans (Nat.le_of_lt M3.out.lt) hX.size)
 have BD := qH (show Below w.heap.size w wd by rw [hwd]; exact B3.out.drew)
 clear hwd
 refine sx_take (i := 0) (oi := ⟨some 5, _, _, _, _, _⟩) (v := .agg (wds p).toArray) rfl (by kernel_rfl) (by kernel_rfl) (by kernel_rfl) (fun _ _ _ h => h) rfl hX (ld_blk 43 _ rfl w.heap.size rfl 43 _ _ K3.out K2.out.lt Tryz.underlying43 rfl (size_set p)) ?_
 simp only [Act.put, qA, qB, qC]
 refine sx_take (i := 2) (oi := ⟨some 7, _, _, _, _, _⟩) (v := .agg (wds q).toArray) rfl (by kernel_rfl) (by kernel_rfl) (by kernel_rfl) (fun _ _ _ h => h) rfl hX (ld_blk 43 _ rfl w1.heap.size rfl 43 _ _ L3.out L2.out.lt Tryz.underlying43 rfl (size_set q)) ?_
 simp only [Act.put, qA, qB, qC]
 refine sx_actB (i := 1) (o := ⟨some 6, _, _, _, _, _⟩) rfl (by kernel_rfl) rfl hX (fun K hK => ?_)
 go_wp2_with fail
 refine (refList_any p wd).mono ?_
 rintro e w5 ⟨v5, rfl, ho5, hb5⟩
 refine hK _ _ (hb5.mono SD.out) ?_
 clear hK K
 replace hX := hX.trans (hb5.mono SD.out)
 have O5 := qH ho5
 have M5 := qH (MD.out.below hb5 MD.out.lt)
 have S5 := qH (Nat.le_trans SD.out hb5.size)
 have BB5 := qH (BD.out.trans (hb5.mono BD.out.size))
 have D5 := qH hb5.size
 clear ho5 hb5
 refine sx_actB (i := 3) (o := ⟨some 8, _, _, _, _, _⟩) rfl (by kernel_rfl) rfl hX (fun K hK => ?_)
 go_wp2_with fail
 refine (refList_any q w5).mono ?_
 rintro e w6 ⟨v6, rfl, ho6, hb6⟩
 refine hK _ _ (hb6.mono S5.out) ?_
 clear hK K
 replace hX := hX.trans (hb6.mono S5.out)
 have O6 := qH (ownBelow O5.out hb6 (Nat.le_refl _))
 have R6 := qH (Row.of_own ho6)
 have M6 := qH (M5.out.below hb6 M5.out.lt)
 have S6 := qH (Nat.le_trans S5.out hb6.size)
 have BB6 := qH (BB5.out.trans (hb6.mono BB5.out.size))
 have D6 := qH (Nat.le_trans D5.out hb6.size)
 clear ho6 hb6
 refine sx_actB (i := 4) (o := ⟨some 9, _, _, _, _, _⟩) rfl (by kernel_rfl) rfl hX (fun K hK => ?_)
 refine wp_appG (base := wd.heap.size) (.tmp 6) (.tmp 8) 38 rfl 5 i1 (.int .u8 0) 1 Tryz.underlying38 hi1 hy0 hy1 hy2 rfl _ _ _ rfl O6.out _ (bvs (memJ q 256)) rfl R6.out (bvs_one _) (by have := LP.out; have := LQ.out; rw [bvs_length]; omega) (by omega) D6.out ?_
 intro v7 w7 ho7 hg7
 have hb7 : Below wd.heap.size w6 w7 := (Below.refl _ _).grown hg7 D6.out (own_above O6.out)
 refine hK _ _ (hb7.mono SD.out) ?_
 clear hK K
 replace hX := hX.trans (hb7.mono SD.out)
 have R7 := qH (Row.of_own ho7)
 have M7 := qH (M6.out.below hb7 MD.out.lt)
 have S7 := qH (Nat.le_trans S6.out hb7.size)
 have BB7 := qH (BB6.out.trans (hb7.mono BD.out.size))
 clear ho7 hg7 hb7
 refine sx_actB (i := 5) (o := ⟨some 10, _, _, _, _, _⟩) rfl (by kernel_rfl) rfl hX (fun K hK => ?_)
 go_wp2_with fail
 refine (refOf_any v7 (memJ p 256 ++ memJ q 256) w7 (by rw [bvs_append]; exact R7.out) (by have := LP.out; have := LQ.out; rw [List.length_append]; omega)).mono ?_
 rintro e w8 ⟨rfl, hb8⟩
 rw [HR.out]
 refine hK _ _ (hb8.mono S7.out) ?_
 clear hK K
 replace hX := hX.trans (hb8.mono S7.out)
 have M8 := qH (M7.out.below hb8 M7.out.lt)
 have BB8 := qH (BB7.out.trans (hb8.mono BB7.out.size))
 clear hb8
 refine sx_actB (i := 6) (o := ⟨none, _, _, _, _, _⟩) rfl (by kernel_rfl) rfl hX (fun K hK => ?_)
 refine wp_stBlk 43 _ _ rfl w2.heap.size (wds r) rfl rfl 43 _ M8.out (size_set r) rfl (wds_all _) BB8.out B2.out.size ?_
 intro w9 hk9 hb9 hs9 ho9 hbs9
 refine hK _ _ (hbs9 _ (Nat.le_refl _)) ?_
 clear hK K
 refine wpAnyH_done (by kernel_rfl) ?_ _
 go_wp2_with fail
 refine bodyPost_ret (results_blk rfl _ _ w2.heap.size 43 _ _ rfl hk9 Tryz.underlying43 rfl (size_set r)) rfl ?_
 exact ⟨rfl, hb9⟩
/-! ### counting bits, byte by byte -/
def rep (c : Nat) : Nat → Nat
 | 0 => 0
 | n + 1 => 256 * rep c n + c
theorem and_byte (x m c : Nat) (hc : c < 256) : x &&& (256 * m + c) = 256 * ((x / 256) &&& m) + ((x % 256) &&& c) := by
 have h1 : (x &&& (256 * m + c)) / 2 ^ 8 = (x / 2 ^ 8) &&& ((256 * m + c) / 2 ^ 8) := Nat.and_div_two_pow
 have h2 : (x &&& (256 * m + c)) % 2 ^ 8 = (x % 2 ^ 8) &&& ((256 * m + c) % 2 ^ 8) := Nat.and_mod_two_pow
 have e1 : (256 * m + c) / 2 ^ 8 = m := by omega
 have e2 : (256 * m + c) % 2 ^ 8 = c := by omega
 rw [e1] at h1
 rw [e2] at h2
 have e3 : (2 : Nat) ^ 8 = 256 := rfl
 rw [e3] at h1 h2
 omega
def s1 (b : Nat) : Nat := ((b / 2) &&& 85) + (b &&& 85)
def s2 (b : Nat) : Nat := ((b / 4) &&& 51) + (b &&& 51)
def s3 (b : Nat) : Nat := (b / 16 + b) &&& 15
def S1 (n x : Nat) : Nat := ((x / 2) &&& rep 85 n) + (x &&& rep 85 n)
def S2 (n x : Nat) : Nat := ((x / 4) &&& rep 51 n) + (x &&& rep 51 n)
def S3 (n x : Nat) : Nat := (x / 16 + x) &&& rep 15 n
theorem f1 : ∀ (b : Fin 256) (r : Fin 2), (((128 * r.val + b.val / 2) % 256) &&& 85) = ((b.val / 2) &&& 85) ∧ s1 b.val < 256 := by decide +kernel
theorem f2 : ∀ (b : Fin 256) (r : Fin 4), (((64 * r.val + b.val / 4) % 256) &&& 51) = ((b.val / 4) &&& 51) ∧ s2 b.val < 256 := by decide +kernel
theorem f3 : ∀ (b : Fin 69) (r : Fin 5), b.val % 16 ≤ 4 → ((16 * r.val + b.val / 16 + b.val) &&& 15) = s3 b.val := by decide +kernel
theorem f4 : ∀ b : Fin 256, s2 (s1 b.val) % 16 ≤ 4 ∧ s2 (s1 b.val) ≤ 68 ∧ s3 (s2 (s1 b.val)) = ((List.range 8).filter b.val.testBit).length ∧ s3 (s2 (s1 b.val)) ≤ 8 := by decide +kernel
theorem S1_step (n y b : Nat) (hb : b < 256) : S1 (n + 1) (256 * y + b) = 256 * S1 n y + s1 b := by
 have h := (f1 ⟨b, hb⟩ ⟨y % 2, Nat.mod_lt _ (by omega)⟩).1
 simp only at h
 simp only [S1, s1, rep]
 rw [and_byte _ _ 85 (by omega), and_byte (256 * y + b) _ 85 (by omega)]
 have e1 : (256 * y + b) / 2 / 256 = y / 2 := by omega
 have e2 : (256 * y + b) / 2 % 256 = (128 * (y % 2) + b / 2) % 256 := by omega
 have e3 : (256 * y + b) / 256 = y := by omega
 have e4 : (256 * y + b) % 256 = b := by omega
 rw [e1, e2, e3, e4, h]
 omega
theorem S2_step (n y b : Nat) (hb : b < 256) : S2 (n + 1) (256 * y + b) = 256 * S2 n y + s2 b := by
 have h := (f2 ⟨b, hb⟩ ⟨y % 4, Nat.mod_lt _ (by omega)⟩).1
 simp only at h
 simp only [S2, s2, rep]
 rw [and_byte _ _ 51 (by omega), and_byte (256 * y + b) _ 51 (by omega)]
 have e1 : (256 * y + b) / 4 / 256 = y / 4 := by omega
 have e2 : (256 * y + b) / 4 % 256 = (64 * (y % 4) + b / 4) % 256 := by omega
 have e3 : (256 * y + b) / 256 = y := by omega
 have e4 : (256 * y + b) % 256 = b := by omega
 rw [e1, e2, e3, e4, h]
 omega
theorem S3_step (n y b : Nat) (hb : b ≤ 68) (hb2 : b % 16 ≤ 4) (hy : y % 16 ≤ 4) : S3 (n + 1) (256 * y + b) = 256 * S3 n y + s3 b := by
 have h := f3 ⟨b, by omega⟩ ⟨y % 16, by omega⟩ hb2
 simp only at h
 simp only [S3, rep]
 rw [and_byte _ _ 15 (by omega)]
 have e1 : ((256 * y + b) / 16 + (256 * y + b)) / 256 = y / 16 + y := by omega
 have e2 : ((256 * y + b) / 16 + (256 * y + b)) % 256 = 16 * (y % 16) + b / 16 + b := by omega
 rw [e1, e2, h]
def S (n x : Nat) : Nat := S3 n (S2 n (S1 n x))
theorem low4 : ∀ n x : Nat, S2 n (S1 n x) % 16 ≤ 4
 | 0, x => by simp [S2, S1, rep]
 | n + 1, x => by
  have hb : x % 256 < 256 := Nat.mod_lt _ (by omega)
  have e : x = 256 * (x / 256) + x % 256 := by omega
  have k1 : s1 (x % 256) < 256 := (f1 ⟨_, hb⟩ 0).2
  have k2 : s2 (s1 (x % 256)) % 16 ≤ 4 := (f4 ⟨_, hb⟩).1
  rw [e, S1_step n _ _ hb, S2_step n _ _ k1]
  omega
theorem S_step (n y b : Nat) (hb : b < 256) : S (n + 1) (256 * y + b) = 256 * S n y + ((List.range 8).filter b.testBit).length := by
 have h4 := f4 ⟨b, hb⟩
 simp only at h4
 unfold S
 rw [S1_step n _ _ hb, S2_step n _ _ (f1 ⟨_, hb⟩ 0).2, S3_step n _ _ h4.2.1 h4.1 (low4 n y), h4.2.2.1]
def popc (n x : Nat) : Nat := ((List.range n).filter x.testBit).length
theorem popc_byte (n y b : Nat) (hb : b < 256) : popc (8 + n) (256 * y + b) = popc 8 b + popc n y := by
 unfold popc
 rw [List.range_add, List.filter_append, List.length_append]
 congr 1
 ·congr 1
  apply List.filter_congr
  intro j hj
  have hj8 : j < 8 := List.mem_range.1 hj
  have := Nat.testBit_mod_two_pow (256 * y + b) 8 j
  rw [show (256 * y + b) % 2 ^ 8 = b by omega] at this
  rw [this]
  simp [hj8]
 ·rw [List.filter_map, List.length_map]
  congr 1
  apply List.filter_congr
  intro j hj
  have : ((256 * y + b) / 2 ^ 8).testBit j = (256 * y + b).testBit (j + 8) := Nat.testBit_div_two_pow _ _
  rw [show (256 * y + b) / 2 ^ 8 = y by omega] at this
  simp only [Function.comp]
  rw [this, Nat.add_comm 8 j]
theorem popc8 (b : Nat) (hb : b < 256) : popc 8 b ≤ 8 := by
 have := f4 ⟨b, hb⟩
 simp only at this
 unfold popc
 omega
theorem dv8 {x h p : Nat} (e : x = 256 * h + p) (hp : p < 256) : x / 256 = h := by omega
theorem ad8 {x y a b p q : Nat} (hx : x = 256 * a + p) (hy : y = 256 * b + q) : x + y = 256 * (a + b) + (p + q) := by omega
theorem bd8 {x h p B : Nat} (e : x = 256 * h + p) (hh : h ≤ B) (hp : p ≤ 8) : x ≤ 256 * B + 8 := by omega
theorem md8 {u a p : Nat} (e : u = 256 * a + p) (hp : p < 128) : u % 128 = p := by omega
theorem up4 (p0 p1 p2 p3 p4 p5 p6 p7 : Nat) : p0 + p1 + (p2 + p3) + (p4 + p5 + (p6 + p7)) = p0 + p1 + p2 + p3 + p4 + p5 + p6 + p7 := by omega
theorem sum8 (p0 p1 p2 p3 p4 p5 p6 p7 : Nat) (a0 : p0 ≤ 8) (a1 : p1 ≤ 8) (a2 : p2 ≤ 8) (a3 : p3 ≤ 8) (a4 : p4 ≤ 8) (a5 : p5 ≤ 8) (a6 : p6 ≤ 8) (a7 : p7 ≤ 8) (h0 : Nat)
  (hx : h0 = 256 * (256 * (256 * (256 * (256 * (256 * (256 * p7 + p6) + p5) + p4) + p3) + p2) + p1) + p0) :
  ∀ y z u : Nat, y = h0 + h0 / 256 → z = y + y / 65536 → u = z + z / 4294967296 → y < 18446744073709551616 ∧ z < 18446744073709551616 ∧ u < 18446744073709551616 ∧ u % 128 = p0 + p1 + p2 + p3 + p4 + p5 + p6 + p7 := by
 intro y z u hy hz hu
 obtain ⟨h7, e7⟩ : ∃ h, h = p7 := ⟨_, rfl⟩
 obtain ⟨h6, e6⟩ : ∃ h, h = 256 * h7 + p6 := ⟨_, rfl⟩
 obtain ⟨h5, e5⟩ : ∃ h, h = 256 * h6 + p5 := ⟨_, rfl⟩
 obtain ⟨h4, e4⟩ : ∃ h, h = 256 * h5 + p4 := ⟨_, rfl⟩
 obtain ⟨h3, e3⟩ : ∃ h, h = 256 * h4 + p3 := ⟨_, rfl⟩
 obtain ⟨h2, e2⟩ : ∃ h, h = 256 * h3 + p2 := ⟨_, rfl⟩
 obtain ⟨h1, e1⟩ : ∃ h, h = 256 * h2 + p1 := ⟨_, rfl⟩
 have e0 : h0 = 256 * h1 + p0 := by rw [hx, e1, e2, e3, e4, e5, e6, e7]
 have e7' : h7 = 256 * 0 + p7 := by rw [e7, Nat.mul_zero, Nat.zero_add]
 clear hx
 have l7 : h7 ≤ 8 := by rw [e7]; exact a7
 have l6 := bd8 e6 l7 a6
 have l5 := bd8 e5 l6 a5
 have l4 := bd8 e4 l5 a4
 have l3 := bd8 e3 l4 a3
 have l2 := bd8 e2 l3 a2
 have l1 := bd8 e1 l2 a1
 have l0 := bd8 e0 l1 a0
 have le2 : ∀ {a b : Nat}, a ≤ 8 → b ≤ 8 → a + b ≤ 16 := fun h k => Nat.add_le_add h k
 have lt4 : ∀ {a b : Nat}, a ≤ 16 → b ≤ 16 → a + b < 256 := fun h k => Nat.lt_of_le_of_lt (Nat.add_le_add h k) (by decide)
 have lt2 : ∀ {a : Nat}, a ≤ 16 → a < 256 := fun h => Nat.lt_of_le_of_lt h (by decide)
 have m01 := ad8 e0 e1
 have m12 := ad8 e1 e2
 have m23 := ad8 e2 e3
 have m34 := ad8 e3 e4
 have m45 := ad8 e4 e5
 have m56 := ad8 e5 e6
 have m67 := ad8 e6 e7'
 have y1 : y = h0 + h1 := by rw [hy, dv8 e0 (lt2 (Nat.le_trans a0 (by decide)))]
 have y2 : y / 65536 = h2 + h3 := by
  rw [show (65536 : Nat) = 256 * 256 from rfl, ← Nat.div_div_eq_div_mul, y1, dv8 m01 (lt2 (le2 a0 a1)), dv8 m12 (lt2 (le2 a1 a2))]
 have z1 : z = h0 + h1 + (h2 + h3) := by rw [hz, y2, y1]
 have q0 := ad8 m01 m23
 have q1 := ad8 m12 m34
 have q2 := ad8 m23 m45
 have q3 := ad8 m34 m56
 have z2 : z / 4294967296 = h4 + h5 + (h6 + h7) := by
  rw [show (4294967296 : Nat) = 256 * 256 * 256 * 256 from rfl, ← Nat.div_div_eq_div_mul, ← Nat.div_div_eq_div_mul, ← Nat.div_div_eq_div_mul, z1,
   dv8 q0 (lt4 (le2 a0 a1) (le2 a2 a3)), dv8 q1 (lt4 (le2 a1 a2) (le2 a3 a4)), dv8 q2 (lt4 (le2 a2 a3) (le2 a4 a5)), dv8 q3 (lt4 (le2 a3 a4) (le2 a5 a6))]
 have u1 : u = h0 + h1 + (h2 + h3) + (h4 + h5 + (h6 + h7)) := by rw [hu, z2, z1]
 have q := ad8 q0 (ad8 m45 m67)
 rw [← u1] at q
 refine ⟨?_, ?_, ?_, ?_⟩
 ·rw [y1]; exact Nat.lt_of_le_of_lt (Nat.add_le_add l0 l1) (by decide)
 ·rw [z1]; exact Nat.lt_of_le_of_lt (Nat.add_le_add (Nat.add_le_add l0 l1) (Nat.add_le_add l2 l3)) (by decide)
 ·rw [u1]; exact Nat.lt_of_le_of_lt (Nat.add_le_add (Nat.add_le_add (Nat.add_le_add l0 l1) (Nat.add_le_add l2 l3)) (Nat.add_le_add (Nat.add_le_add l4 l5) (Nat.add_le_add l6 l7))) (by decide)
 ·rw [md8 q (Nat.lt_of_le_of_lt (Nat.add_le_add (Nat.add_le_add (le2 a0 a1) (le2 a2 a3)) (Nat.add_le_add (le2 a4 a5) (le2 a6 a7))) (by decide))]
  exact up4 _ _ _ _ _ _ _ _
theorem sum64 (x : Nat) (hx : x < 18446744073709551616) (y z u : Nat) (hy : y = S 8 x + S 8 x / 256) (hz : z = y + y / 65536) (hu : u = z + z / 4294967296) :
  y < 18446744073709551616 ∧ z < 18446744073709551616 ∧ u < 18446744073709551616 ∧ u % 128 = popc 64 x := by
 have key : ∀ n x, ∃ b y, b < 256 ∧ x = 256 * y + b ∧ S (n + 1) x = 256 * S n y + popc 8 b ∧ popc (8 + 8 * n) x = popc 8 b + popc (8 * n) y := by
  intro n x
  have hb : x % 256 < 256 := Nat.mod_lt _ (by omega)
  have e : x = 256 * (x / 256) + x % 256 := by omega
  generalize x % 256 = b at hb e
  generalize x / 256 = y at e
  subst e
  exact ⟨b, y, hb, rfl, S_step n y b hb, popc_byte (8 * n) y b hb⟩
 obtain ⟨b0, x1, l0, e0, s0, c0⟩ := key 7 x
 obtain ⟨b1, x2, l1, e1, s1, c1⟩ := key 6 x1
 obtain ⟨b2, x3, l2, e2, s2, c2⟩ := key 5 x2
 obtain ⟨b3, x4, l3, e3, s3, c3⟩ := key 4 x3
 obtain ⟨b4, x5, l4, e4, s4, c4⟩ := key 3 x4
 obtain ⟨b5, x6, l5, e5, s5, c5⟩ := key 2 x5
 obtain ⟨b6, x7, l6, e6, s6, c6⟩ := key 1 x6
 obtain ⟨b7, x8, l7, e7, s7, c7⟩ := key 0 x7
 have z0 : S 0 x8 = 0 := by simp [S, S3, rep]
 have z1 : popc (8 * 0) x8 = 0 := rfl
 have hS : S 8 x = 256 * (256 * (256 * (256 * (256 * (256 * (256 * popc 8 b7 + popc 8 b6) + popc 8 b5) + popc 8 b4) + popc 8 b3) + popc 8 b2) + popc 8 b1) + popc 8 b0 := by
  simp only [Nat.reduceAdd] at s0 s1 s2 s3 s4 s5 s6 s7
  rw [s0, s1, s2, s3, s4, s5, s6, s7, z0, Nat.mul_zero, Nat.zero_add]
 have hP : popc 64 x = popc 8 b0 + popc 8 b1 + popc 8 b2 + popc 8 b3 + popc 8 b4 + popc 8 b5 + popc 8 b6 + popc 8 b7 := by
  simp only [Nat.reduceAdd, Nat.reduceMul] at c0 c1 c2 c3 c4 c5 c6 c7 z1
  rw [c0, c1, c2, c3, c4, c5, c6, c7, z1]
  omega
 have := sum8 _ _ _ _ _ _ _ _ (popc8 b0 l0) (popc8 b1 l1) (popc8 b2 l2) (popc8 b3 l3) (popc8 b4 l4) (popc8 b5 l5) (popc8 b6 l6) (popc8 b7 l7) _ hS y z u hy hz hu
 rw [hP]
 exact this
end Go.Proofs.YteadghoojeehlaaGreatDoor
