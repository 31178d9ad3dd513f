/-
  What the document's answer to byteset (Has, Of, Where, Range, List, Or, And, Not, SetLess) answers and leaves. No statement is proved here.
-/
import Derived.Test.YtaobeconjdeenaaDoorProg
import Derived.Test.YtaobeconjdeenaaDoorOwnS
import Derived.Test.YtaobeconjdeenaaDoorReg
import Derived.StillTailTactics
import Derived.Deep.QuietTactic
import Derived.BigQuiet
namespace Go.Proofs.YtaobeconjdeenaaDoor
open Go.RowKit
set_option linter.unusedSimpArgs false
set_option linter.unusedVariables false

theorem size_set (p : Nat → Bool) : (Tryd.prog.info? 24).map (·.size) = some (wds p).length := by
  rw [wds_length]
  kernel_rfl
theorem info_set : ∃ i : TypeInfo, Tryd.prog.info? 24 = some i ∧ i.zero = some (.agg (wds fun _ => false).toArray) := by
  have h : ((Tryd.prog.info? 24).map (·.zero)) = some (some (.agg (wds fun _ => false).toArray)) := by kernel_rfl
  cases hi : Tryd.prog.info? 24 with
  | none => rw [hi] at h; cases h
  | some i =>
    rw [hi] at h
    exact ⟨i, rfl, by simpa using h⟩

theorem has_bit (x k : Nat) : (((x : Int) / 2 ^ k).tmod 2 == 1) = decide (x / 2 ^ k % 2 = 1) := by
  have e : (2 ^ k : Int) = ((2 ^ k : Nat) : Int) := by rw [Int.natCast_pow]; rfl
  rw [e, ← Int.natCast_ediv]
  generalize x / 2 ^ k = y
  rw [Int.tmod_eq_emod_of_nonneg (by omega), Bool.eq_iff_iff, beq_iff_eq, decide_eq_true_iff]
  omega
set_option maxHeartbeats 1000000 in
theorem refHas_any (p : Nat → Bool) (b : Nat) (hb : b < 256) (w : World) :
    Calls Tryd.prog 27 #[.agg (wds p).toArray, .int .u8 (b : Int)] w fun e w' => e = .returned (.bool (p b)) ∧ Below w.heap.size w w' := by
  obtain ⟨x, hx⟩ : ∃ x, x = word p (b / 64) := ⟨_, rfl⟩
  have hlt := word_lt p (b / 64)
  have hsh := word_shift p b
  rw [← hx] at hlt hsh
  have HX := Lib.hid hx
  have HSH := Lib.hid hsh
  clear hx hsh
  go_enter Tryd.func27, Tryd.ntmps27
  go_wp2_with ((with_reducible refine atDst 2 ?_); refine wpList_box rfl 24 _ rfl (wds p) rfl (Below.refl w.heap.size w) (Nat.le_refl _) ?_; intro w1 hk1 hb1 hs1 _; have c1 := hk1.cell (b / 64); rw [wds_get p (b / 64) (by omega), ← HX.out] at c1; have B1 := Lib.hid hb1; clear hk1 hb1 hs1)
  go_ret
  refine ⟨?_, B1.out⟩
  rw [← HSH.out]
  refine congrArg (fun b => Ending.returned (.bool b)) ?_
  exact has_bit x _

/-! ### Of -/
theorem shl_bit (c : Nat) (hc : c < 64) : IntKind.u64.wrap (2 ^ c : Int) = ((2 ^ c : Nat) : Int) := by
  have h : 2 ^ c < 2 ^ 64 := Nat.pow_lt_pow_right (by omega) hc
  have e : (2 ^ c : Int) = ((2 ^ c : Nat) : Int) := by rw [Int.natCast_pow]; rfl
  rw [e]
  generalize 2 ^ c = y at h
  exact IntWalk.u64_in _ (by omega)

theorem of_bits {x k : Nat} (hx : x < 18446744073709551616) (hk : k < 64) : bits .or .u64 (x : Int) (2 ^ k : Int) = ((x ||| 2 ^ k : Nat) : Int) := by
  have h : 2 ^ k < 2 ^ 64 := Nat.pow_lt_pow_right (by omega) hk
  have e : (2 ^ k : Int) = ((2 ^ k : Nat) : Int) := by rw [Int.natCast_pow]; rfl
  rw [e]
  exact u64_or_nat x (2 ^ k) hx h
theorem mem_next (b : Nat) (c : UInt8) (n : Nat) (hb : b < 256) (hn : n = c.toNat) (l : List UInt8) : decide (UInt8.ofNat b ∈ l ++ [c]) = (decide (UInt8.ofNat b ∈ l) || decide (b = n)) := by
  have h : UInt8.ofNat b = c ↔ b = n := by
    rw [hn]
    constructor
    · rintro rfl
      rw [UInt8.toNat_ofNat']
      exact (Nat.mod_eq_of_lt hb).symm
    · rintro rfl
      simp
  rw [Bool.eq_iff_iff, Bool.or_eq_true, decide_eq_true_iff, decide_eq_true_iff, decide_eq_true_iff, List.mem_append, List.mem_singleton, h]
set_option maxHeartbeats 2000000 in
set_option maxRecDepth 100000 in
theorem refOf_any (v : Value) (l : List UInt8) (w : World) (hr : Row w v (bvs l)) (hl : l.length ≤ 1048576) :
    Calls Tryd.prog 12 #[v] w fun e w' => e = .returned (.agg (wds fun b => decide (UInt8.ofNat b ∈ l)).toArray) ∧ Below w.heap.size w w' := by
  have R0 := Lib.hid hr
  obtain ⟨A, cap, rfl, a1, a2, a0, a3⟩ := hr
  rw [bvs_length] at a1 R0 ⊢
  clear a3 a0 a2
  obtain ⟨i0, hi0, hz0⟩ := info_set
  obtain ⟨z, hz⟩ : ∃ z : Nat → Bool, z = fun _ => false := ⟨_, rfl⟩
  rw [← hz] at hz0
  have HZ := Lib.hid hz
  clear hz
  go_enter Tryd.func12, Tryd.ntmps12
  go_wp2_with (first
    | ((with_reducible refine atDst 2 ?_); refine wpList_new rfl 24 rfl i0 _ (wds z) hi0 hz0 rfl (Below.refl w.heap.size w) (Nat.le_refl _) ?_; intro w1 hk1 hb1 hs1 _; have K1 := Lib.hid hk1; have B1 := Lib.hid hb1; have S1 := Lib.hid hs1; clear hk1 hb1 hs1)
    | ((with_reducible refine atDst 3 ?_); refine wpList_new rfl 24 rfl i0 _ (wds z) hi0 hz0 rfl (Below.refl w1.heap.size w1) (Nat.le_refl _) ?_; intro w2 hk2 hb2 hs2 ho2; have K2 := Lib.hid hk2; have B2 := Lib.hid hb2; clear hk2 hb2 hs2 ho2))
  go_loopw [4] (fun i wl => ∃ j : Nat, j ≤ l.length ∧ i = .int .i64 (j : Int) ∧ Blk wl w1.heap.size 24 (wds fun b => decide (UInt8.ofNat b ∈ l.take j)) ∧ Below w1.heap.size w1 wl) (fun i _ => l.length - (intOf i).toNat)
  case atStart => exact ⟨0, by omega, by simp, by simpa [HZ.out] using K2.out, B2.out⟩
  case round =>
    obtain ⟨j, hj, rfl, hk, hb⟩ := hrel
    have KR := Lib.hid hk
    have BR := Lib.hid hb
    clear hk hb
    by_cases hjl : j < l.length
    · have i1 : (j : Int) < (l.length : Int) := by omega
      obtain ⟨b0, off, rfl, hb0, hcell⟩ := (R0.out.below (B1.out.trans (BR.out.mono B1.out.size))).at_ (by rw [bvs_length]; omega)
      have hcj := hcell j _ (bvs_get l j l[j] (List.getElem?_eq_getElem hjl))
      obtain ⟨c, hc⟩ : ∃ c : UInt8, c = l[j] := ⟨_, rfl⟩
      rw [← hc] at hcj
      have HC := Lib.hid hc
      have hlt := c.toNat_lt
      obtain ⟨n, hn⟩ : ∃ n, n = c.toNat := ⟨_, rfl⟩
      have hcj' : wr.cell? ⟨b0, off + j, none⟩ = some (.int .u8 (n : Int)) := by rw [hn]; exact hcj
      rw [← hn] at hlt
      have HN := Lib.hid hn
      have hgc := KR.out.cell (n / 64)
      rw [wds_get _ (n / 64) (by omega)] at hgc
      obtain ⟨x, hx⟩ : ∃ x, x = word (fun b => decide (UInt8.ofNat b ∈ l.take j)) (n / 64) := ⟨_, rfl⟩
      rw [← hx] at hgc
      have hfz := KR.out.frozen (n / 64)
      have HX := Lib.hid hx
      have hlx : x < 18446744073709551616 := by rw [hx]; exact word_lt _ _
      have hsh := shl_bit (n % 64) (Nat.mod_lt _ (by omega))
      clear hcell hc hcj hn hx
      have hq1 : IntKind.u8.wrap ((n : Int) / 64) = ((n / 64 : Nat) : Int) := IntWalk.u8_in _ (by omega)
      have hq2 : ((n : Int).tmod 64) = ((n % 64 : Nat) : Int) := by rw [Int.tmod_eq_emod_of_nonneg (by omega)]; rfl
      have hq3 : (n : Int) / 64 < 4 := by omega
      have hq4 : 0 ≤ (n : Int) / 64 := by omega
      have hq5 : ((n : Int) / 64).toNat = n / 64 := by omega
      go_wp2_with fail
      go_still_tail 15, (by kernel_rfl)
      change wpList _ _ _ _ _ wr.drew
      go_wp2_with fail
      refine ⟨⟨j + 1, by omega, by congr 1, ?_, (BR.out.setCell (p := ⟨w1.heap.size, n / 64, none⟩) (Nat.le_refl _) _).drew⟩, by simp [intOf] <;> omega⟩
      rw [of_bits hlx (Nat.mod_lt n (by omega))]
      have hk := KR.out.set (n / 64) (.int .u64 ((x ||| 2 ^ (n % 64) : Nat) : Int))
      rw [HX.out, wds_put _ n (by omega)] at hk
      rw [HX.out]
      refine Blk.drew ?_
      rw [wds_congr (q := fun b => decide (UInt8.ofNat b ∈ l.take j) || decide (b = n)) (fun b hb => ?_)]
      · exact hk
      · rw [List.take_succ_eq_append_getElem hjl, ← HC.out]
        exact mem_next b c n hb HN.out _
    · obtain rfl : j = l.length := by omega
      have i1 : ¬ ((l.length : Int) < (l.length : Int)) := by omega
      have k9 := KR.out
      rw [List.take_length] at k9
      obtain ⟨q, hq⟩ : ∃ q : Nat → Bool, q = fun b => decide (UInt8.ofNat b ∈ l) := ⟨_, rfl⟩
      rw [← hq] at k9
      have K9 := Lib.hid k9
      have HQ := Lib.hid hq
      have KA := Lib.hid (K1.out.below BR.out K1.out.lt)
      have B9 := Lib.hid (B1.out.trans (BR.out.mono B1.out.size))
      clear k9 hq KR
      go_wp2_with (first
        | ((with_reducible refine atDst 26 ?_); refine wpList_ldArr rfl 24 _ rfl w1.heap.size rfl 24 _ _ K9.out Tryd.underlying24 rfl (size_set q) ?_)
        | ((with_reducible refine atStore 24 2 26 ?_); refine wpList_stBlk rfl 24 _ _ rfl w.heap.size (wds q) rfl rfl 24 _ KA.out (size_set q) rfl (wds_all _) B9.out (Nat.le_refl _) ?_; intro w3 hk3 hb3 hs3 _; have K3 := Lib.hid hk3; have B3 := Lib.hid hb3; clear hk3 hb3))
      refine bodyPost_ret (results_blk rfl _ _ w.heap.size 24 _ _ rfl K3.out Tryd.underlying24 rfl (size_set q)) rfl ?_
      exact ⟨by rw [HQ.out], B3.out⟩

/-! ### Where -/
theorem inf_u8 : (Tryd.prog.info? 5).map (fun i => (i.zero, i.size, i.bytes)) = some (some (.int .u8 0), 1, 1) := by kernel_rfl
theorem size_tab {l : List Bool} (h : l.length = 256) : (Tryd.prog.info? 43).map (·.size) = some (bools l).length := by
  rw [bools_length, h]
  kernel_rfl
theorem bools_all (l : List Bool) : (bools l).all (·.oneCell') = true := by
  rw [List.all_eq_true]
  exact bools_one l

set_option maxHeartbeats 2000000 in
set_option maxRecDepth 100000 in
theorem refWhere_any (tb : List Bool) (ht : tb.length = 256) (w : World) :
    Calls Tryd.prog 31 #[.agg (bools tb).toArray] w fun e w' => e = .returned (.agg (wds fun b => tb.getD b false).toArray) ∧ Below w.heap.size w w' := by
  have HTL := Lib.hid ht
  obtain ⟨p, hp⟩ : ∃ p : Nat → Bool, p = fun b => tb.getD b false := ⟨_, rfl⟩
  rw [← hp]
  have HP := Lib.hid hp
  clear hp ht
  obtain ⟨i0, hi0, hz0⟩ := info_set
  obtain ⟨i1, hi1, hy0, hy1, hy2⟩ := infoP inf_u8
  obtain ⟨z, hz⟩ : ∃ z : Nat → Bool, z = fun _ => false := ⟨_, rfl⟩
  rw [← hz] at hz0
  clear hz
  go_enter Tryd.func31, Tryd.ntmps31
  go_wp2_with (first
    | ((with_reducible refine atDst 1 ?_); refine wpList_box rfl 43 _ rfl (bools tb) rfl (Below.refl w.heap.size w) (Nat.le_refl _) ?_; intro w1 hk1 hb1 hs1 _; have K1 := Lib.hid hk1; have B1 := Lib.hid hb1; clear hk1 hb1 hs1)
    | ((with_reducible refine atDst 2 ?_); refine wpList_new rfl 24 rfl i0 _ (wds z) hi0 hz0 rfl B1.out B1.out.size ?_; intro w2 hk2 hb2 hs2 ho2; have K2 := Lib.hid hk2; have B2 := Lib.hid hb2; have K1a := Lib.hid (show Blk w2 w.heap.size 43 (bools tb) from (ho2 _ K1.out.lt).trans K1.out); clear hk2 hb2 hs2 ho2))
  go_loopw [3, 4] (fun v i wl => ∃ j : Nat, j ≤ 256 ∧ i = .int .i64 (j : Int) ∧ wl.ownsRow w2.heap.size 5 1 v (memJ p j).length (bvs (memJ p j)) ∧ Below w2.heap.size w2 wl) (fun _ i _ => 256 - (intOf i).toNat)
  case atStart => exact ⟨0, by omega, by simp, ownN _ _ _, Below.refl _ _⟩
  case round =>
    obtain ⟨j, hj, rfl, ho, hb⟩ := hrel
    have HO := Lib.hid ho
    have HB := Lib.hid hb
    clear ho hb
    by_cases hjl : j < 256
    · have j1 : (j : Int) < 256 := by omega
      have hc := (K1a.out.below HB.out K1a.out.lt).cell j
      rw [bools_get _ _ (by rw [HTL.out]; exact hjl)] at hc
      obtain ⟨q, hq⟩ : ∃ q, q = tb[j]'(by rw [HTL.out]; exact hjl) := ⟨_, rfl⟩
      rw [← hq] at hc
      have hqp : p j = q := by rw [hq, HP.out]; simp [List.getD, HTL.out, hjl]
      have hms := memJ_succ p j
      rw [hqp] at hms
      have HM := Lib.hid hms
      have hln := memJ_len p j
      have HLN := Lib.hid hln
      clear hq hms hqp hln
      cases q with
      | true =>
        have hw8 : IntKind.u8.wrap (j : Int) = (j : Int) := IntWalk.u8_in _ (by omega)
        have R1 := Lib.hid (rowB (n := 1) (show Blk (wr.alloc (.cells #[.int .u8 (j : Int)] 5)) wr.heap.size 5 (bvs [UInt8.ofNat j]) by
          have := Blk.new wr 5 (bvs [UInt8.ofNat j])
          rw [show bvs [UInt8.ofNat j] = [.int .u8 (j : Int)] from congrArg (fun x => [x]) (bv_ofNat hjl)] at this ⊢
          exact this) rfl (by omega))
        go_wp2_with ((with_reducible refine atDst 16 ?_); refine wpList_appR (w0 := w2) rfl (.tmp 12) (.tmp 15) 25 rfl 5 i1 (.int .u8 0) 1 Tryd.underlying25 hi1 hy0 hy1 hy2 rfl _ _ _ rfl (HO.out.alloc _) _ (bvs [UInt8.ofNat j]) rfl R1.out (bvs_one _) (by have := HLN.out; rw [bvs_length]; simp; omega) (by omega) (HB.out.alloc HB.out.size _) ?_; intro v3 w3 ho3 _ hb3 _; have O3 := Lib.hid ho3; have B3 := Lib.hid hb3; clear ho3 hb3)
        refine ⟨⟨j + 1, by omega, by congr 1, ?_, B3.out⟩, by simp [intOf] <;> omega⟩
        rw [HM.out, if_pos rfl, bvs_append, List.length_append]
        exact O3.out
      | false =>
        go_wp2_with fail
        refine ⟨⟨j + 1, by omega, by congr 1, ?_, HB.out⟩, by simp [intOf] <;> omega⟩
        rw [HM.out]
        exact HO.out
    · obtain rfl : j = 256 := by omega
      have j1 : ¬ ((256 : Int) < 256) := by omega
      have hr := Row.of_own HO.out
      have HR := Lib.hid hr
      have HLN := Lib.hid (memJ_len p 256)
      have K9 := Lib.hid (K2.out.below HB.out K2.out.lt)
      have B9 := Lib.hid (B2.out.trans (HB.out.mono B2.out.size))
      have HWM := Lib.hid (wds_mem p)
      clear hr HO
      go_wp2_with fail
      refine (refOf_any _ (memJ p 256) wr HR.out (by have := HLN.out; omega)).mono ?_
      rintro e w4 ⟨rfl, hb4⟩
      rw [HWM.out]
      have K10 := Lib.hid (K9.out.below hb4 K9.out.lt)
      have B10 := Lib.hid (B9.out.trans (hb4.mono B9.out.size))
      clear hb4
      go_wp2_with ((with_reducible refine atStore 24 2 18 ?_); refine wpList_stBlk rfl 24 _ _ rfl w1.heap.size (wds p) rfl rfl 24 _ K10.out (size_set p) rfl (wds_all _) B10.out B1.out.size ?_; intro w5 hk5 hb5 hs5 _; have K5 := Lib.hid hk5; have B5 := Lib.hid hb5; clear hk5 hb5)
      refine bodyPost_ret (results_blk rfl _ _ w1.heap.size 24 _ _ rfl K5.out Tryd.underlying24 rfl (size_set p)) rfl ?_
      exact ⟨rfl, B5.out⟩
end Go.Proofs.YtaobeconjdeenaaDoor
