/-
  Texts of this proof, put together: SetA, SetB, SetC, SetS. No statement is proved here.
-/
import Derived.Test.YtmcpfaaakmehdaaProg
import Derived.Test.YtmcpfaaakmehdaaRA
import Derived.StillTailTactics
import Derived.Deep.QuietTactic
import Derived.BigQuiet
import Derived.Laws.MakeOwn
import Derived.Laws.IdiomCopy
namespace Go.Proofs.Ytmcpfaaakmehdaa
open Go.RowKit
set_option linter.unusedSimpArgs false
set_option linter.unusedVariables false
theorem size_set (p : Nat → Bool) : (Try.prog.info? 37).map (·.size) = some (wds p).length := by
 rw [wds_length]
 kernel_rfl
theorem info_set : ∃ i : TypeInfo, Try.prog.info? 37 = some i ∧ i.zero = some (.agg (wds fun _ => false).toArray) := by
 have h : ((Try.prog.info? 37).map (·.zero)) = some (some (.agg (wds fun _ => false).toArray)) := by kernel_rfl
 cases hi : Try.prog.info? 37 with
 | none => rw [hi] at h; cases h
 | some i =>
  rw [hi] at h
  exact ⟨i, rfl, by simpa using h⟩
theorem has_bit (x k : Nat) : (((x : Int) / 2 ^ k).tmod 2 == 1) = decide (x / 2 ^ k % 2 = 1) := by
 have e : (2 ^ k : Int) = ((2 ^ k : Nat) : Int) := by rw [Int.natCast_pow]; rfl
 rw [e, ← Int.natCast_ediv]
 generalize x / 2 ^ k = y
 rw [Int.tmod_eq_emod_of_nonneg (by omega), Bool.eq_iff_iff, beq_iff_eq, decide_eq_true_iff]
 omega
set_option maxHeartbeats 1000000 in
theorem refHas_any (p : Nat → Bool) (b : Nat) (hb : b < 256) (w : World) :
  Calls Try.prog 43 #[.agg (wds p).toArray, .int .u8 (b : Int)] w fun e w' => e = .returned (.bool (p b)) ∧ Below w.heap.size w w' := by
 obtain ⟨x, hx⟩ : ∃ x, x = word p (b / 64) := ⟨_, rfl⟩
 have hlt := word_lt p (b / 64)
 have hsh := word_shift p b
 rw [← hx] at hlt hsh
 have HX := qH hx
 have HSH := qH hsh
 clear hx hsh
 go_enter Try.func43, Try.ntmps43
 go_wp2_with ((with_reducible refine atDst 2 ?_); refine wpList_box rfl 37 _ rfl (wds p) rfl (Below.refl w.heap.size w) (Nat.le_refl _) ?_; intro w1 hk1 hb1 hs1 _; have c1 := hk1.cell (b / 64); rw [wds_get p (b / 64) (by omega), ← HX.out] at c1; have B1 := qH hb1; clear hk1 hb1 hs1)
 go_ret
 refine ⟨?_, B1.out⟩
 rw [← HSH.out]
 refine congrArg (fun b => Ending.returned (.bool b)) ?_
 exact has_bit x _
/-! ### Of -/
theorem shl_bit (c : Nat) (hc : c < 64) : IntKind.u64.wrap (2 ^ c : Int) = ((2 ^ c : Nat) : Int) := by
 have h : 2 ^ c < 2 ^ 64 := Nat.pow_lt_pow_right (by omega) hc
 have e : (2 ^ c : Int) = ((2 ^ c : Nat) : Int) := by rw [Int.natCast_pow]; rfl
 rw [e]
 generalize 2 ^ c = y at h
 exact IntWalk.u64_in _ (by omega)
theorem of_bits {x k : Nat} (hx : x < 18446744073709551616) (hk : k < 64) : bits .or .u64 (x : Int) (2 ^ k : Int) = ((x ||| 2 ^ k : Nat) : Int) := by
 have h : 2 ^ k < 2 ^ 64 := Nat.pow_lt_pow_right (by omega) hk
 have e : (2 ^ k : Int) = ((2 ^ k : Nat) : Int) := by rw [Int.natCast_pow]; rfl
 rw [e]
 exact u64_or_nat x (2 ^ k) hx h
theorem mem_next (b : Nat) (c : UInt8) (n : Nat) (hb : b < 256) (hn : n = c.toNat) (l : List UInt8) : decide (UInt8.ofNat b ∈ l ++ [c]) = (decide (UInt8.ofNat b ∈ l) || decide (b = n)) := by
 have h : UInt8.ofNat b = c ↔ b = n := by
  rw [hn]
  constructor
  ·rintro rfl
   rw [UInt8.toNat_ofNat']
   exact (Nat.mod_eq_of_lt hb).symm
  ·rintro rfl
   simp
 rw [Bool.eq_iff_iff, Bool.or_eq_true, decide_eq_true_iff, decide_eq_true_iff, decide_eq_true_iff, List.mem_append, List.mem_singleton, h]
set_option maxHeartbeats 2000000 in
set_option maxRecDepth 100000 in
theorem refOf_any (v : Value) (l : List UInt8) (w : World) (hr : Row w v (bvs l)) (hl : l.length ≤ 1048576) :
  Calls Try.prog 33 #[v] w fun e w' => e = .returned (.agg (wds fun b => decide (UInt8.ofNat b ∈ l)).toArray) ∧ Below w.heap.size w w' := by
 have R0 := qH hr
 obtain ⟨A, cap, rfl, a1, a2, a0, a3⟩ := hr
 rw [bvs_length] at a1 R0 ⊢
 clear a3 a0 a2
 obtain ⟨i0, hi0, hz0⟩ := info_set
 obtain ⟨z, hz⟩ : ∃ z : Nat → Bool, z = fun _ => false := ⟨_, rfl⟩
 rw [← hz] at hz0
 have HZ := qH hz
 clear hz
 go_enter Try.func33, Try.ntmps33
 go_wp2_with (first
  | ((with_reducible refine atDst 2 ?_); refine wpList_new rfl 37 rfl i0 _ (wds z) hi0 hz0 rfl (Below.refl w.heap.size w) (Nat.le_refl _) ?_; intro w1 hk1 hb1 hs1 _; have K1 := qH hk1; have B1 := qH hb1; have S1 := qH hs1; clear hk1 hb1 hs1)
  | ((with_reducible refine atDst 3 ?_); refine wpList_new rfl 37 rfl i0 _ (wds z) hi0 hz0 rfl (Below.refl w1.heap.size w1) (Nat.le_refl _) ?_; intro w2 hk2 hb2 hs2 ho2; have K2 := qH hk2; have B2 := qH hb2; clear hk2 hb2 hs2 ho2))
 go_loopw [4] (fun i wl => ∃ j : Nat, j ≤ l.length ∧ i = .int .i64 (j : Int) ∧ Blk wl w1.heap.size 37 (wds fun b => decide (UInt8.ofNat b ∈ l.take j)) ∧ Below w1.heap.size w1 wl) (fun i _ => l.length - (intOf i).toNat)
 case atStart => exact ⟨0, by omega, by simp, by simpa [HZ.out] using K2.out, B2.out⟩
 case round =>
  obtain ⟨j, hj, rfl, hk, hb⟩ := hrel
  have KR := qH hk
  have BR := qH hb
  clear hk hb
  by_cases hjl : j < l.length
  ·have i1 : (j : Int) < (l.length : Int) := by omega
   obtain ⟨b0, off, rfl, hb0, hcell⟩ := (R0.out.below (B1.out.trans (BR.out.mono B1.out.size))).at_ (by rw [bvs_length]; omega)
   have hcj := hcell j _ (bvs_get l j l[j] (List.getElem?_eq_getElem hjl))
   obtain ⟨c, hc⟩ : ∃ c : UInt8, c = l[j] := ⟨_, rfl⟩
   rw [← hc] at hcj
   have HC := qH hc
   have hlt := c.toNat_lt
   obtain ⟨n, hn⟩ : ∃ n, n = c.toNat := ⟨_, rfl⟩
   have hcj' : wr.cell? ⟨b0, off + j, none⟩ = some (.int .u8 (n : Int)) := by rw [hn]; exact hcj
   rw [← hn] at hlt
   have HN := qH hn
   have hgc := KR.out.cell (n / 64)
   rw [wds_get _ (n / 64) (by omega)] at hgc
   obtain ⟨x, hx⟩ : ∃ x, x = word (fun b => decide (UInt8.ofNat b ∈ l.take j)) (n / 64) := ⟨_, rfl⟩
   rw [← hx] at hgc
   have hfz := KR.out.frozen (n / 64)
   have HX := qH hx
   have hlx : x < 18446744073709551616 := by rw [hx]; exact word_lt _ _
   have hsh := shl_bit (n % 64) (Nat.mod_lt _ (by omega))
   clear hcell hc hcj hn hx
   have hq1 : IntKind.u8.wrap ((n : Int) / 64) = ((n / 64 : Nat) : Int) := IntWalk.u8_in _ (by omega)
   have hq2 : ((n : Int).tmod 64) = ((n % 64 : Nat) : Int) := by rw [Int.tmod_eq_emod_of_nonneg (by omega)]; rfl
   have hq3 : (n : Int) / 64 < 4 := by omega
   have hq4 : 0 ≤ (n : Int) / 64 := by omega
   have hq5 : ((n : Int) / 64).toNat = n / 64 := by omega
   go_wp2_with fail
   go_still_tail 15, (by kernel_rfl)
   change wpList _ _ _ _ _ wr.drew
   go_wp2_with fail
   refine ⟨⟨j + 1, by omega, by congr 1, ?_, (BR.out.setCell (p := ⟨w1.heap.size, n / 64, none⟩) (Nat.le_refl _) _).drew⟩, by simp [intOf] <;> omega⟩
   rw [of_bits hlx (Nat.mod_lt n (by omega))]
   have hk := KR.out.set (n / 64) (.int .u64 ((x ||| 2 ^ (n % 64) : Nat) : Int))
   rw [HX.out, wds_put _ n (by omega)] at hk
   rw [HX.out]
   refine Blk.drew ?_
   rw [wds_congr (q := fun b => decide (UInt8.ofNat b ∈ l.take j) || decide (b = n)) (fun b hb => ?_)]
   ·exact hk
   ·rw [List.take_succ_eq_append_getElem hjl, ← HC.out]
    exact mem_next b c n hb HN.out _
  ·obtain rfl : j = l.length := by omega
   have i1 : ¬ ((l.length : Int) < (l.length : Int)) := by omega
   have k9 := KR.out
   rw [List.take_length] at k9
   obtain ⟨q, hq⟩ : ∃ q : Nat → Bool, q = fun b => decide (UInt8.ofNat b ∈ l) := ⟨_, rfl⟩
   rw [← hq] at k9
   have K9 := qH k9
   have HQ := qH hq
   have KA := qH (K1.out.below BR.out K1.out.lt)
   have B9 := qH (B1.out.trans (BR.out.mono B1.out.size))
   clear k9 hq KR
   go_wp2_with (first
    | ((with_reducible refine atDst 26 ?_); refine wpList_ldArr rfl 37 _ rfl w1.heap.size rfl 37 _ _ K9.out Try.underlying37 rfl (size_set q) ?_)
    | ((with_reducible refine atStore 37 2 26 ?_); refine wpList_stBlk rfl 37 _ _ rfl w.heap.size (wds q) rfl rfl 37 _ KA.out (size_set q) rfl (wds_all _) B9.out (Nat.le_refl _) ?_; intro w3 hk3 hb3 hs3 _; have K3 := qH hk3; have B3 := qH hb3; clear hk3 hb3))
   refine bodyPost_ret (results_blk rfl _ _ w.heap.size 37 _ _ rfl K3.out Try.underlying37 rfl (size_set q)) rfl ?_
   exact ⟨by rw [HQ.out], B3.out⟩
/-! ### Where -/
theorem inf_u8 : (Try.prog.info? 5).map (fun i => (i.zero, i.size, i.bytes)) = some (some (.int .u8 0), 1, 1) := by kernel_rfl
theorem size_tab {l : List Bool} (h : l.length = 256) : (Try.prog.info? 117).map (·.size) = some (bools l).length := by
 rw [bools_length, h]
 kernel_rfl
set_option maxHeartbeats 2000000 in
set_option maxRecDepth 100000 in
theorem refWhere_any (tb : List Bool) (ht : tb.length = 256) (w : World) :
  Calls Try.prog 93 #[.agg (bools tb).toArray] w fun e w' => e = .returned (.agg (wds fun b => tb.getD b false).toArray) ∧ Below w.heap.size w w' := by
 have HTL := qH ht
 obtain ⟨p, hp⟩ : ∃ p : Nat → Bool, p = fun b => tb.getD b false := ⟨_, rfl⟩
 rw [← hp]
 have HP := qH hp
 clear hp ht
 obtain ⟨i0, hi0, hz0⟩ := info_set
 obtain ⟨i1, hi1, hy0, hy1, hy2⟩ := infoP inf_u8
 obtain ⟨z, hz⟩ : ∃ z : Nat → Bool, z = fun _ => false := ⟨_, rfl⟩
 rw [← hz] at hz0
 clear hz
 go_enter Try.func93, Try.ntmps93
 go_wp2_with (first
  | ((with_reducible refine atDst 1 ?_); refine wpList_box rfl 117 _ rfl (bools tb) rfl (Below.refl w.heap.size w) (Nat.le_refl _) ?_; intro w1 hk1 hb1 hs1 _; have K1 := qH hk1; have B1 := qH hb1; clear hk1 hb1 hs1)
  | ((with_reducible refine atDst 2 ?_); refine wpList_new rfl 37 rfl i0 _ (wds z) hi0 hz0 rfl B1.out B1.out.size ?_; intro w2 hk2 hb2 hs2 ho2; have K2 := qH hk2; have B2 := qH hb2; have K1a := qH (show Blk w2 w.heap.size 117 (bools tb) from (ho2 _ K1.out.lt).trans K1.out); clear hk2 hb2 hs2 ho2))
 go_loopw [3, 4] (fun v i wl => ∃ j : Nat, j ≤ 256 ∧ i = .int .i64 (j : Int) ∧ wl.ownsRow w2.heap.size 5 1 v (memJ p j).length (bvs (memJ p j)) ∧ Below w2.heap.size w2 wl) (fun _ i _ => 256 - (intOf i).toNat)
 case atStart => exact ⟨0, by omega, by simp, ownN _ _ _, Below.refl _ _⟩
 case round =>
  obtain ⟨j, hj, rfl, ho, hb⟩ := hrel
  have HO := qH ho
  have HB := qH hb
  clear ho hb
  by_cases hjl : j < 256
  ·have j1 : (j : Int) < 256 := by omega
   have hc := (K1a.out.below HB.out K1a.out.lt).cell j
   rw [bools_get _ _ (by rw [HTL.out]; exact hjl)] at hc
   obtain ⟨q, hq⟩ : ∃ q, q = tb[j]'(by rw [HTL.out]; exact hjl) := ⟨_, rfl⟩
   rw [← hq] at hc
   have hqp : p j = q := by rw [hq, HP.out]; simp [List.getD, HTL.out, hjl]
   have hms := memJ_succ p j
   rw [hqp] at hms
   have HM := qH hms
   have hln := memJ_len p j
   have HLN := qH hln
   clear hq hms hqp hln
   cases q with
   | true =>
    have hw8 : IntKind.u8.wrap (j : Int) = (j : Int) := IntWalk.u8_in _ (by omega)
    have R1 := qH (rowB (n := 1) (show Blk (wr.alloc (.cells #[.int .u8 (j : Int)] 5)) wr.heap.size 5 (bvs [UInt8.ofNat j]) by
     have := Blk.new wr 5 (bvs [UInt8.ofNat j])
     rw [show bvs [UInt8.ofNat j] = [.int .u8 (j : Int)] from congrArg (fun x => [x]) (bv_ofNat hjl)] at this ⊢
     exact this) rfl (by omega))
    go_wp2_with ((with_reducible refine atDst 16 ?_); refine wpList_appR (w0 := w2) rfl (.tmp 12) (.tmp 15) 26 rfl 5 i1 (.int .u8 0) 1 Try.underlying26 hi1 hy0 hy1 hy2 rfl _ _ _ rfl (HO.out.alloc _) _ (bvs [UInt8.ofNat j]) rfl R1.out (bvs_one _) (by have := HLN.out; rw [bvs_length]; simp; omega) (by omega) (HB.out.alloc HB.out.size _) ?_; intro v3 w3 ho3 _ hb3 _; have O3 := qH ho3; have B3 := qH hb3; clear ho3 hb3)
    refine ⟨⟨j + 1, by omega, by congr 1, ?_, B3.out⟩, by simp [intOf] <;> omega⟩
    rw [HM.out, if_pos rfl, bvs_append, List.length_append]
    exact O3.out
   | false =>
    go_wp2_with fail
    refine ⟨⟨j + 1, by omega, by congr 1, ?_, HB.out⟩, by simp [intOf] <;> omega⟩
    rw [HM.out]
    exact HO.out
  ·obtain rfl : j = 256 := by omega
   have j1 : ¬ ((256 : Int) < 256) := by omega
   have hr := Row.of_own HO.out
   have HR := qH hr
   have HLN := qH (memJ_len p 256)
   have K9 := qH (K2.out.below HB.out K2.out.lt)
   have B9 := qH (B2.out.trans (HB.out.mono B2.out.size))
   have HWM := qH (wds_mem p)
   clear hr HO
   go_wp2_with fail
   refine (refOf_any _ (memJ p 256) wr HR.out (by have := HLN.out; omega)).mono ?_
   rintro e w4 ⟨rfl, hb4⟩
   rw [HWM.out]
   have K10 := qH (K9.out.below hb4 K9.out.lt)
   have B10 := qH (B9.out.trans (hb4.mono B9.out.size))
   clear hb4
   go_wp2_with ((with_reducible refine atStore 37 2 18 ?_); refine wpList_stBlk rfl 37 _ _ rfl w1.heap.size (wds p) rfl rfl 37 _ K10.out (size_set p) rfl (wds_all _) B10.out B1.out.size ?_; intro w5 hk5 hb5 hs5 _; have K5 := qH hk5; have B5 := qH hb5; clear hk5 hb5)
   refine bodyPost_ret (results_blk rfl _ _ w1.heap.size 37 _ _ rfl K5.out Try.underlying37 rfl (size_set p)) rfl ?_
   exact ⟨rfl, B5.out⟩
def tab (p : Nat → Bool) : List Bool := (List.range 256).map p
theorem tab_length (p : Nat → Bool) : (tab p).length = 256 := by simp [tab]
theorem tab_set (p : Nat → Bool) (j : Nat) (x : Bool) (hj : j < 256) : (bools (tab p)).set j (.bool x) = bools (tab fun b => if b = j then x else p b) := by
 apply List.ext_getElem
 ·simp [bools, tab]
 ·intro i h1 h2
  have hi : i < 256 := by simpa [bools, tab] using h1
  simp only [bools, tab, List.getElem_set, List.getElem_map, List.getElem_range]
  by_cases h : j = i
  ·subst h
   simp
  ·rw [if_neg h, if_neg (fun e => h e.symm)]
theorem tab_congr {p q : Nat → Bool} (h : ∀ b, b < 256 → p b = q b) : tab p = tab q := by
 unfold tab
 exact List.map_congr_left fun b hb => h b (List.mem_range.1 hb)
theorem where_tab (p : Nat → Bool) (w : World) :
  Calls Try.prog 93 #[.agg (bools (tab p)).toArray] w fun e w' => e = .returned (.agg (wds p).toArray) ∧ Below w.heap.size w w' := by
 have := refWhere_any (tab p) (tab_length p) w
 rwa [wds_congr (q := p) fun b hb => by simp [List.getD, tab, hb]] at this
theorem tab_zero : ∃ i : TypeInfo, Try.prog.info? 117 = some i ∧ i.zero = some (.agg (bools (tab fun _ => false)).toArray) := by
 have h : ((Try.prog.info? 117).map (·.zero)) = some (some (.agg (bools (tab fun _ => false)).toArray)) := by kernel_rfl
 cases hi : Try.prog.info? 117 with
 | none => rw [hi] at h; cases h
 | some i =>
  rw [hi] at h
  exact ⟨i, rfl, by simpa using h⟩
theorem tab_round {w : World} {g j : Nat} {t : TypeId} {r : Nat → Bool} (h : Blk w g t (bools (tab fun b => decide (b < j) && r b))) (hj : j < 256) :
  Blk (w.setCell ⟨g, j, none⟩ (.bool (r j))) g t (bools (tab fun b => decide (b < j + 1) && r b)) := by
 have := h.set j (.bool (r j))
 rw [tab_set _ _ _ hj] at this
 rw [tab_congr (q := fun b => if b = j then r j else decide (b < j) && r b) (fun b hb => ?_)]
 ·exact this
 ·by_cases hbj : b = j
  ·rw [if_pos hbj, hbj, decide_eq_true (by omega), Bool.true_and]
  ·rw [if_neg hbj]
   congr 1
   exact decide_eq_decide.2 (by omega)
theorem tab_done {w : World} {g : Nat} {t : TypeId} {r : Nat → Bool} (h : Blk w g t (bools (tab fun b => decide (b < 256) && r b))) : Blk w g t (bools (tab r)) := by
 rwa [tab_congr (q := r) fun b hb => by rw [decide_eq_true hb, Bool.true_and]] at h
set_option maxHeartbeats 2000000 in
set_option maxRecDepth 100000 in
theorem refRange_any (f t : Nat) (hf : f < 256) (ht : t < 256) (w : World) :
  Calls Try.prog 76 #[.int .u8 (f : Int), .int .u8 (t : Int)] w fun e w' => e = .returned (.agg (wds fun b => decide (f ≤ b ∧ b ≤ t)).toArray) ∧ Below w.heap.size w w' := by
 obtain ⟨r, hr⟩ : ∃ r : Nat → Bool, r = fun b => decide (f ≤ b ∧ b ≤ t) := ⟨_, rfl⟩
 rw [← hr]
 have HR := qH hr
 clear hr
 obtain ⟨i0, hi0, hz0⟩ := info_set
 obtain ⟨i1, hi1, hy0⟩ := tab_zero
 obtain ⟨z, hz⟩ : ∃ z : Nat → Bool, z = fun _ => false := ⟨_, rfl⟩
 rw [← hz] at hz0 hy0
 have HZ := qH hz
 clear hz
 have hw1 : IntKind.i64.wrap (f : Int) = (f : Int) := IntWalk.i64_in _ (by omega)
 have hw2 : IntKind.i64.wrap (t : Int) = (t : Int) := IntWalk.i64_in _ (by omega)
 go_enter Try.func76, Try.ntmps76
 go_wp2_with (first
  | ((with_reducible refine atDst 4 ?_); refine wpList_new rfl 37 rfl i0 _ (wds z) hi0 hz0 rfl (Below.refl w.heap.size w) (Nat.le_refl _) ?_; intro w1 hk1 hb1 hs1 _; have K1 := qH hk1; have B1 := qH hb1; clear hk1 hb1 hs1)
  | ((with_reducible refine atDst 5 ?_); refine wpList_new rfl 117 rfl i1 _ (bools (tab z)) hi1 hy0 rfl (Below.refl w1.heap.size w1) (Nat.le_refl _) ?_; intro w2 hk2 hb2 hs2 ho2; have K2 := qH hk2; have B2 := qH hb2; clear hk2 hb2 hs2 ho2))
 go_loopw [6] (fun i wl => ∃ j : Nat, f ≤ j ∧ (j ≤ f ∨ j ≤ t + 1) ∧ i = .int .i64 (j : Int) ∧ Blk wl w1.heap.size 117 (bools (tab fun b => decide (f ≤ b ∧ b < j))) ∧ Below w1.heap.size w1 wl) (fun i _ => 256 - (intOf i).toNat)
 case atStart => exact ⟨f, by omega, by omega, by simp, by rw [tab_congr (q := z) (fun b hb => by rw [HZ.out]; exact decide_eq_false (by omega))]; exact K2.out, B2.out⟩
 case round =>
  obtain ⟨j, hfj, hj, rfl, hk, hb⟩ := hrel
  have HK := qH hk
  have HB := qH hb
  clear hk hb
  by_cases hjl : j ≤ t
  ·have j1 : (j : Int) ≤ (t : Int) := by omega
   have hc := HK.out.cell j
   rw [bools_get _ _ (by rw [tab_length]; omega)] at hc
   have hfz := HK.out.frozen j
   have j2 : (j : Int) < 256 := by omega
   go_wp2_with fail
   refine ⟨⟨j + 1, by omega, by omega, by congr 1, ?_, HB.out.setCell (p := ⟨w1.heap.size, j, none⟩) (Nat.le_refl _) _⟩, by simp [intOf] <;> omega⟩
   have := HK.out.set j (.bool true)
   rw [tab_set _ _ _ (by omega)] at this
   rw [tab_congr (q := fun b => if b = j then true else decide (f ≤ b ∧ b < j)) (fun b hb => ?_)]
   ·exact this
   ·by_cases hbj : b = j
    ·rw [if_pos hbj]; exact decide_eq_true (by omega)
    ·rw [if_neg hbj]; exact decide_eq_decide.2 (by omega)
  ·have j1 : ¬ ((j : Int) ≤ (t : Int)) := by omega
   have hk9 := HK.out
   rw [tab_congr (q := r) (fun b hb => by rw [HR.out]; exact decide_eq_decide.2 (by omega))] at hk9
   have K9 := qH hk9
   have KA := qH (K1.out.below HB.out K1.out.lt)
   have B9 := qH (B1.out.trans (HB.out.mono B1.out.size))
   clear hk9 HK
   go_wp2_with ((with_reducible refine atDst 17 ?_); refine wpList_ldArr rfl 117 _ rfl w1.heap.size rfl 117 _ _ K9.out Try.underlying117 rfl (size_tab (tab_length _)) ?_)
   refine (where_tab r wr).mono ?_
   rintro e w4 ⟨rfl, hb4⟩
   have K10 := qH (Blk.below KA.out hb4 (Blk.lt KA.out))
   have B10 := qH (B9.out.trans (hb4.mono B9.out.size))
   clear hb4
   go_wp2_with ((with_reducible refine atStore 37 4 18 ?_); refine wpList_stBlk rfl 37 _ _ rfl w.heap.size (wds r) rfl rfl 37 _ K10.out (size_set r) rfl (wds_all _) B10.out (Nat.le_refl _) ?_; intro w5 hk5 hb5 hs5 _; have K5 := qH hk5; have B5 := qH hb5; clear hk5 hb5)
   refine bodyPost_ret (results_blk rfl _ _ w.heap.size 37 _ _ rfl K5.out Try.underlying37 rfl (size_set r)) rfl ?_
   exact ⟨rfl, B5.out⟩
/-! ### List -/
set_option maxHeartbeats 2000000 in
set_option maxRecDepth 100000 in
theorem refList_any (p : Nat → Bool) (w : World) :
  Calls Try.prog 71 #[.agg (wds p).toArray] w fun e w' => ∃ v, e = .returned v ∧ w'.ownsRow w.heap.size 5 1 v (memJ p 256).length (bvs (memJ p 256)) ∧ Below w.heap.size w w' := by
 obtain ⟨i1, hi1, hy0, hy1, hy2⟩ := infoP inf_u8
 go_enter Try.func71, Try.ntmps71
 go_wp2_with ((with_reducible refine atDst 1 ?_); refine wpList_box rfl 37 _ rfl (wds p) rfl (Below.refl w.heap.size w) (Nat.le_refl _) ?_; intro w1 hk1 hb1 hs1 _; have K1 := qH hk1; have B1 := qH hb1; clear hk1 hb1 hs1)
 go_loopw [3, 4] (fun v i wl => ∃ j : Nat, j ≤ 256 ∧ i = .int .i64 (j : Int) ∧ wl.ownsRow w1.heap.size 5 1 v (memJ p j).length (bvs (memJ p j)) ∧ Below w1.heap.size w1 wl) (fun _ i _ => 256 - (intOf i).toNat)
 case atStart => exact ⟨0, by omega, by simp, ownN _ _ _, Below.refl _ _⟩
 case round =>
  obtain ⟨j, hj, rfl, ho, hb⟩ := hrel
  have HO := qH ho
  have HB := qH hb
  clear ho hb
  by_cases hjl : j < 256
  ·have j1 : (j : Int) < 256 := by omega
   have hw8 : IntKind.u8.wrap (j : Int) = (j : Int) := IntWalk.u8_in _ (by omega)
   have KR := qH (K1.out.below HB.out K1.out.lt)
   go_wp2_with ((with_reducible refine atDst 9 ?_); refine wpList_ldArr rfl 37 _ rfl w.heap.size rfl 37 _ _ KR.out Try.underlying37 rfl (size_set p) ?_)
   refine (refHas_any p j hjl wr).mono ?_
   rintro e w2 ⟨rfl, hb2⟩
   have B2 := qH (HB.out.trans (hb2.mono HB.out.size))
   have O2 := qH (ownBelow HO.out hb2 (Nat.le_refl _))
   clear hb2
   have HLN := qH (memJ_len p j)
   cases hq : p j with
   | true =>
    have HM := qH (show memJ p (j + 1) = memJ p j ++ [UInt8.ofNat j] by rw [memJ_succ, hq]; rfl)
    clear hq
    have R1 := qH (rowB (n := 1) (show Blk (w2.alloc (.cells #[.int .u8 (j : Int)] 5)) w2.heap.size 5 (bvs [UInt8.ofNat j]) by
     have := Blk.new w2 5 (bvs [UInt8.ofNat j])
     rw [show bvs [UInt8.ofNat j] = [.int .u8 (j : Int)] from congrArg (fun x => [x]) (bv_ofNat hjl)] at this ⊢
     exact this) rfl (by omega))
    go_wp2_with ((with_reducible refine atDst 17 ?_); refine wpList_appR (w0 := w1) rfl (.tmp 13) (.tmp 16) 26 rfl 5 i1 (.int .u8 0) 1 Try.underlying26 hi1 hy0 hy1 hy2 rfl _ _ _ rfl (O2.out.alloc _) _ (bvs [UInt8.ofNat j]) rfl R1.out (bvs_one _) (by have := HLN.out; rw [bvs_length]; simp; omega) (by omega) (B2.out.alloc B2.out.size _) ?_; intro v3 w3 ho3 _ hb3 _; have O3 := qH ho3; have B3 := qH hb3; clear ho3 hb3)
    refine ⟨⟨j + 1, by omega, by congr 1, ?_, B3.out⟩, by simp [intOf] <;> omega⟩
    rw [HM.out, bvs_append, List.length_append]
    exact O3.out
   | false =>
    have HM := qH (show memJ p (j + 1) = memJ p j by rw [memJ_succ, hq]; rfl)
    clear hq
    go_wp2_with fail
    refine ⟨⟨j + 1, by omega, by congr 1, ?_, B2.out⟩, by simp [intOf] <;> omega⟩
    rw [HM.out]
    exact O2.out
  ·obtain rfl : j = 256 := by omega
   have j1 : ¬ ((256 : Int) < 256) := by omega
   have HO2 := qH (ownMono HO.out B1.out.size)
   have B9 := qH (B1.out.trans (HB.out.mono B1.out.size))
   clear HO
   go_wp2_with fail
   go_ret
   exact ⟨_, rfl, HO2.out, B9.out⟩
/-! ### Not -/
set_option maxHeartbeats 2000000 in
set_option maxRecDepth 100000 in
theorem refNot_any (p : Nat → Bool) (w : World) :
  Calls Try.prog 77 #[.agg (wds p).toArray] w fun e w' => e = .returned (.agg (wds fun b => !p b).toArray) ∧ Below w.heap.size w w' := by
 obtain ⟨r, hr⟩ : ∃ r : Nat → Bool, r = fun b => !p b := ⟨_, rfl⟩
 rw [← hr]
 have HR := qH hr
 clear hr
 obtain ⟨i0, hi0, hz0⟩ := info_set
 obtain ⟨i1, hi1, hy0⟩ := tab_zero
 obtain ⟨z, hz⟩ : ∃ z : Nat → Bool, z = fun _ => false := ⟨_, rfl⟩
 rw [← hz] at hz0 hy0
 have HZ := qH hz
 clear hz
 go_enter Try.func77, Try.ntmps77
 go_wp2_with (first
  | ((with_reducible refine atDst 1 ?_); refine wpList_box rfl 37 _ rfl (wds p) rfl (Below.refl w.heap.size w) (Nat.le_refl _) ?_; intro w1 hk1 hb1 hs1 _; have K1 := qH hk1; have B1 := qH hb1; clear hk1 hb1 hs1)
  | ((with_reducible refine atDst 2 ?_); refine wpList_new rfl 37 rfl i0 _ (wds z) hi0 hz0 rfl B1.out B1.out.size ?_; intro w2 hk2 hb2 hs2 ho2; have K2 := qH hk2; have B2 := qH hb2; have K1a := qH (show Blk w2 w.heap.size 37 (wds p) from (ho2 _ K1.out.lt).trans K1.out); clear hk2 hb2 hs2 ho2)
  | ((with_reducible refine atDst 3 ?_); refine wpList_new rfl 117 rfl i1 _ (bools (tab z)) hi1 hy0 rfl (Below.refl w2.heap.size w2) (Nat.le_refl _) ?_; intro w3 hk3 hb3 hs3 ho3; have K3 := qH hk3; have B3 := qH hb3; clear hk3 hb3 hs3 ho3))
 go_loopw [4] (fun i wl => ∃ j : Nat, j ≤ 256 ∧ i = .int .i64 (j : Int) ∧ Blk wl w2.heap.size 117 (bools (tab fun b => decide (b < j) && r b)) ∧ Below w2.heap.size w2 wl) (fun i _ => 256 - (intOf i).toNat)
 case atStart => exact ⟨0, by omega, by simp, by rw [tab_congr (q := z) (fun b hb => by rw [HZ.out]; simp)]; exact K3.out, B3.out⟩
 case round =>
  obtain ⟨j, hj, rfl, hk, hb⟩ := hrel
  have HK := qH hk
  have HB := qH hb
  clear hk hb
  by_cases hjl : j < 256
  ·have j1 : (j : Int) < 256 := by omega
   have hw8 : IntKind.u8.wrap (j : Int) = (j : Int) := IntWalk.u8_in _ (by omega)
   have KR := qH (K1a.out.below HB.out K1a.out.lt)
   go_wp2_with ((with_reducible refine atDst 10 ?_); refine wpList_ldArr rfl 37 _ rfl w.heap.size rfl 37 _ _ KR.out Try.underlying37 rfl (size_set p) ?_)
   refine (refHas_any p j hjl wr).mono ?_
   rintro e w4 ⟨rfl, hb4⟩
   obtain ⟨q, hq⟩ : ∃ q, q = p j := ⟨_, rfl⟩
   rw [← hq]
   have HQ := qH (show (!q) = r j by rw [hq, HR.out])
   have K4 := qH (HK.out.below hb4 HK.out.lt)
   have B4 := qH (HB.out.trans (hb4.mono HB.out.size))
   have hc := K4.out.cell j
   rw [bools_get _ _ (by rw [tab_length]; omega)] at hc
   have hfz := K4.out.frozen j
   clear hb4 hq
   go_wp2_with fail
   refine ⟨⟨j + 1, by omega, by congr 1, ?_, B4.out.setCell (p := ⟨w2.heap.size, j, none⟩) (Nat.le_refl _) _⟩, by simp [intOf] <;> omega⟩
   rw [HQ.out]
   exact tab_round K4.out hjl
  ·obtain rfl : j = 256 := by omega
   have j1 : ¬ ((256 : Int) < 256) := by omega
   have K9 := qH (tab_done HK.out)
   have KA := qH (K2.out.below HB.out K2.out.lt)
   have B9 := qH (B2.out.trans (HB.out.mono B2.out.size))
   clear HK
   go_wp2_with ((with_reducible refine atDst 16 ?_); refine wpList_ldArr rfl 117 _ rfl w2.heap.size rfl 117 _ _ K9.out Try.underlying117 rfl (size_tab (tab_length _)) ?_)
   refine (where_tab r wr).mono ?_
   rintro e w4 ⟨rfl, hb4⟩
   have K10 := qH (Blk.below KA.out hb4 (Blk.lt KA.out))
   have B10 := qH (B9.out.trans (hb4.mono B9.out.size))
   clear hb4
   go_wp2_with ((with_reducible refine atStore 37 2 17 ?_); refine wpList_stBlk rfl 37 _ _ rfl w1.heap.size (wds r) rfl rfl 37 _ K10.out (size_set r) rfl (wds_all _) B10.out B1.out.size ?_; intro w5 hk5 hb5 hs5 _; have K5 := qH hk5; have B5 := qH hb5; clear hk5 hb5)
   refine bodyPost_ret (results_blk rfl _ _ w1.heap.size 37 _ _ rfl K5.out Try.underlying37 rfl (size_set r)) rfl ?_
   exact ⟨rfl, B5.out⟩
theorem ld_blk {P : Program} {a : Act} {oi : Oper} {B : Nat} {w0 : World} (ty : TypeId) (x : Operand) (ho : oi.op = .load ty x) (g : Nat) (hx : a.eval x = .pointer (some ⟨g, 0, none⟩)) (t : TypeId) (cs : List Value) (d : TypeDesc)
  (hg : Blk w0 g t cs) (hB : g < B) (hu : P.underlying ty = some d) (hd : (match d with | .struct _ | .array _ _ => true | _ => false) = true) (hi : (P.info? ty).map (·.size) = some cs.length) :
  ∀ W, Below B w0 W → (execOp a.eval oi).run P W = .ok (.value (.agg cs.toArray)) W := by
 intro W hW
 have hl := run_loadVar_row (P := P) W g t ty cs.toArray (0, 0) d (hg.below hW hB) hu hd (by simpa using hi)
 simp [execOp, ho, hx, Instr.loadAt, Instr.sureAddr, asAddr, hl]
/-! ### Or -/
theorem wds_or (p q : Nat → Bool) : (wds fun b => decide (UInt8.ofNat b ∈ memJ p 256 ++ memJ q 256)) = wds fun b => p b || q b := by
 refine wds_congr fun b hb => ?_
 have h1 := memJ_mem p b hb
 have h2 := memJ_mem q b hb
 rw [← h1, ← h2, Bool.eq_iff_iff, Bool.or_eq_true, decide_eq_true_iff, decide_eq_true_iff, decide_eq_true_iff, List.mem_append]
set_option maxHeartbeats 2000000 in
set_option maxRecDepth 100000 in
theorem refOr_any (p q : Nat → Bool) (w : World) :
  Calls Try.prog 55 #[.agg (wds p).toArray, .agg (wds q).toArray] w fun e w' => e = .returned (.agg (wds fun b => p b || q b).toArray) ∧ Below w.heap.size w w' := by
 obtain ⟨r, hr⟩ : ∃ r : Nat → Bool, r = fun b => p b || q b := ⟨_, rfl⟩
 have hor := wds_or p q
 rw [← hr] at hor ⊢
 have HR := qH hor
 clear hr hor
 obtain ⟨i0, hi0, hz0⟩ := info_set
 obtain ⟨i1, hi1, hy0, hy1, hy2⟩ := infoP inf_u8
 obtain ⟨z, hz⟩ : ∃ z : Nat → Bool, z = fun _ => false := ⟨_, rfl⟩
 rw [← hz] at hz0
 clear hz
 have LP := qH (memJ_len p 256)
 have LQ := qH (memJ_len q 256)
 go_enter Try.func55, Try.ntmps55
 go_wp2_with (first
  | ((with_reducible refine atDst 2 ?_); refine wpList_box rfl 37 _ rfl (wds p) rfl (Below.refl w.heap.size w) (Nat.le_refl _) ?_; intro w1 hk1 hb1 hs1 _; have K1 := qH hk1; have B1 := qH hb1; clear hk1 hb1 hs1)
  | ((with_reducible refine atDst 3 ?_); refine wpList_box rfl 37 _ rfl (wds q) rfl B1.out B1.out.size ?_; intro w2 hk2 hb2 hs2 ho2; have L2 := qH hk2; have B2 := qH hb2; have K2 := qH (show Blk w2 w.heap.size 37 (wds p) from (ho2 _ K1.out.lt).trans K1.out); clear hk2 hb2 hs2 ho2)
  | ((with_reducible refine atDst 4 ?_); refine wpList_new rfl 37 rfl i0 _ (wds z) hi0 hz0 rfl B2.out B2.out.size ?_; intro w3 hk3 hb3 hs3 ho3; have M3 := qH hk3; have B3 := qH hb3; have K3 := qH (show Blk w3 w.heap.size 37 (wds p) from (ho3 _ K2.out.lt).trans K2.out); have L3 := qH (show Blk w3 w1.heap.size 37 (wds q) from (ho3 _ L2.out.lt).trans L2.out); clear hk3 hb3 hs3 ho3))
 refine sx_startB (B := w2.heap.size) (w0 := w3) (by kernel_rfl) (Below.refl _ _) (fun wd hwd hX => ?_)
 have MD := qH (show Blk wd w2.heap.size 37 (wds z) by rw [hwd]; exact M3.out.drew)
 have SD := qH (Nat.le_trans (Nat.le_of_lt M3.out.lt) hX.size)
 have BD := qH (show Below w.heap.size w wd by rw [hwd]; exact B3.out.drew)
 clear hwd
 refine sx_take (i := 0) (oi := ⟨some 5, _, _, _, _, _⟩) (v := .agg (wds p).toArray) rfl (by kernel_rfl) (by kernel_rfl) (by kernel_rfl) (fun _ _ _ h => h) rfl hX (ld_blk 37 _ rfl w.heap.size rfl 37 _ _ K3.out K2.out.lt Try.underlying37 rfl (size_set p)) ?_
 simp only [Act.put, qA, qB, qC]
 refine sx_take (i := 2) (oi := ⟨some 7, _, _, _, _, _⟩) (v := .agg (wds q).toArray) rfl (by kernel_rfl) (by kernel_rfl) (by kernel_rfl) (fun _ _ _ h => h) rfl hX (ld_blk 37 _ rfl w1.heap.size rfl 37 _ _ L3.out L2.out.lt Try.underlying37 rfl (size_set q)) ?_
 simp only [Act.put, qA, qB, qC]
 refine sx_actB (i := 1) (o := ⟨some 6, _, _, _, _, _⟩) rfl (by kernel_rfl) rfl hX (fun K hK => ?_)
 go_wp2_with fail
 refine (refList_any p wd).mono ?_
 rintro e w5 ⟨v5, rfl, ho5, hb5⟩
 refine hK _ _ (hb5.mono SD.out) ?_
 clear hK K
 replace hX := hX.trans (hb5.mono SD.out)
 have O5 := qH ho5
 have M5 := qH (MD.out.below hb5 MD.out.lt)
 have S5 := qH (Nat.le_trans SD.out hb5.size)
 have BB5 := qH (BD.out.trans (hb5.mono BD.out.size))
 have D5 := qH hb5.size
 clear ho5 hb5
 refine sx_actB (i := 3) (o := ⟨some 8, _, _, _, _, _⟩) rfl (by kernel_rfl) rfl hX (fun K hK => ?_)
 go_wp2_with fail
 refine (refList_any q w5).mono ?_
 rintro e w6 ⟨v6, rfl, ho6, hb6⟩
 refine hK _ _ (hb6.mono S5.out) ?_
 clear hK K
 replace hX := hX.trans (hb6.mono S5.out)
 have O6 := qH (ownBelow O5.out hb6 (Nat.le_refl _))
 have R6 := qH (Row.of_own ho6)
 have M6 := qH (M5.out.below hb6 M5.out.lt)
 have S6 := qH (Nat.le_trans S5.out hb6.size)
 have BB6 := qH (BB5.out.trans (hb6.mono BB5.out.size))
 have D6 := qH (Nat.le_trans D5.out hb6.size)
 clear ho6 hb6
 refine sx_actB (i := 4) (o := ⟨some 9, _, _, _, _, _⟩) rfl (by kernel_rfl) rfl hX (fun K hK => ?_)
 refine wp_appG (base := wd.heap.size) (.tmp 6) (.tmp 8) 26 rfl 5 i1 (.int .u8 0) 1 Try.underlying26 hi1 hy0 hy1 hy2 rfl _ _ _ rfl O6.out _ (bvs (memJ q 256)) rfl R6.out (bvs_one _) (by have := LP.out; have := LQ.out; rw [bvs_length]; omega) (by omega) D6.out ?_
 intro v7 w7 ho7 hg7
 have hb7 : Below wd.heap.size w6 w7 := (Below.refl _ _).grown hg7 D6.out (own_above O6.out)
 refine hK _ _ (hb7.mono SD.out) ?_
 clear hK K
 replace hX := hX.trans (hb7.mono SD.out)
 have R7 := qH (Row.of_own ho7)
 have M7 := qH (M6.out.below hb7 MD.out.lt)
 have S7 := qH (Nat.le_trans S6.out hb7.size)
 have BB7 := qH (BB6.out.trans (hb7.mono BD.out.size))
 clear ho7 hg7 hb7
 refine sx_actB (i := 5) (o := ⟨some 10, _, _, _, _, _⟩) rfl (by kernel_rfl) rfl hX (fun K hK => ?_)
 go_wp2_with fail
 refine (refOf_any v7 (memJ p 256 ++ memJ q 256) w7 (by rw [bvs_append]; exact R7.out) (by have := LP.out; have := LQ.out; rw [List.length_append]; omega)).mono ?_
 rintro e w8 ⟨rfl, hb8⟩
 rw [HR.out]
 refine hK _ _ (hb8.mono S7.out) ?_
 clear hK K
 replace hX := hX.trans (hb8.mono S7.out)
 have M8 := qH (M7.out.below hb8 M7.out.lt)
 have BB8 := qH (BB7.out.trans (hb8.mono BB7.out.size))
 clear hb8
 refine sx_actB (i := 6) (o := ⟨none, _, _, _, _, _⟩) rfl (by kernel_rfl) rfl hX (fun K hK => ?_)
 refine wp_stBlk 37 _ _ rfl w2.heap.size (wds r) rfl rfl 37 _ M8.out (size_set r) rfl (wds_all _) BB8.out B2.out.size ?_
 intro w9 hk9 hb9 hs9 ho9 hbs9
 refine hK _ _ (hbs9 _ (Nat.le_refl _)) ?_
 clear hK K
 refine wpAnyH_done (by kernel_rfl) ?_ _
 go_wp2_with fail
 refine bodyPost_ret (results_blk rfl _ _ w2.heap.size 37 _ _ rfl hk9 Try.underlying37 rfl (size_set r)) rfl ?_
 exact ⟨rfl, hb9⟩
def lessS (p q : Nat → Bool) : Bool := match (List.range 256).find? fun b => p b != q b with
 | some b => p b
 | none => false
theorem lessS_at {p q : Nat → Bool} {j : Nat} (hj : j < 256) (h : ∀ b, b < j → p b = q b) (hne : p j ≠ q j) : lessS p q = p j := by
 have : (List.range 256).find? (fun b => p b != q b) = some j := by
  rw [List.find?_range_eq_some]
  exact ⟨by simpa using hne, List.mem_range.2 hj, fun b hb => by simp [h b hb]⟩
 unfold lessS
 rw [this]
theorem lessS_none {p q : Nat → Bool} (h : ∀ b, b < 256 → p b = q b) : lessS p q = false := by
 have : (List.range 256).find? (fun b => p b != q b) = none := by
  rw [List.find?_eq_none]
  intro b hb
  simp [h b (List.mem_range.1 hb)]
 unfold lessS
 rw [this]
set_option maxHeartbeats 2000000 in
set_option maxRecDepth 100000 in
theorem refSetLess_any (p q : Nat → Bool) (w : World) :
  Calls Try.prog 81 #[.agg (wds p).toArray, .agg (wds q).toArray] w fun e w' => e = .returned (.bool (lessS p q)) ∧ Below w.heap.size w w' := by
 go_enter Try.func81, Try.ntmps81
 go_wp2_with (first
  | ((with_reducible refine atDst 2 ?_); refine wpList_box rfl 37 _ rfl (wds p) rfl (Below.refl w.heap.size w) (Nat.le_refl _) ?_; intro w1 hk1 hb1 hs1 _; have K1 := qH hk1; have B1 := qH hb1; clear hk1 hb1 hs1)
  | ((with_reducible refine atDst 3 ?_); refine wpList_box rfl 37 _ rfl (wds q) rfl B1.out B1.out.size ?_; intro w2 hk2 hb2 hs2 ho2; have L2 := qH hk2; have B2 := qH hb2; have K2 := qH (show Blk w2 w.heap.size 37 (wds p) from (ho2 _ K1.out.lt).trans K1.out); clear hk2 hb2 hs2 ho2))
 go_loopw [5] (fun i wl => ∃ j : Nat, j ≤ 256 ∧ i = .int .i64 (j : Int) ∧ (∀ b, b < j → p b = q b) ∧ Below w2.heap.size w2 wl) (fun i _ => 256 - (intOf i).toNat)
 case atStart => exact ⟨0, by omega, by simp, fun b hb => by omega, Below.refl _ _⟩
 case round =>
  obtain ⟨j, hj, rfl, hpq, hb⟩ := hrel
  have HPQ := qH hpq
  have HB := qH hb
  clear hpq hb
  by_cases hjl : j < 256
  ·have j1 : (j : Int) < 256 := by omega
   have hw8 : IntKind.u8.wrap (j : Int) = (j : Int) := IntWalk.u8_in _ (by omega)
   have KR := qH (K2.out.below HB.out K2.out.lt)
   have LR := qH (L2.out.below HB.out L2.out.lt)
   have SR := qH HB.out.size
   go_wp2_with fail
   refine sx_startB (B := w2.heap.size) (w0 := wr) (by kernel_rfl) (Below.refl _ _) (fun wd hwd hX => ?_)
   have SD := qH (Nat.le_trans SR.out hX.size)
   clear hwd
   refine sx_take (i := 0) (oi := ⟨some 10, _, _, _, _, _⟩) (v := .agg (wds p).toArray) rfl (by kernel_rfl) (by kernel_rfl) (by kernel_rfl) (fun _ _ _ h => h) rfl hX (ld_blk 37 _ rfl w.heap.size rfl 37 _ _ KR.out K2.out.lt Try.underlying37 rfl (size_set p)) ?_
   simp only [Act.put, qA, qB, qC]
   refine sx_take (i := 4) (oi := ⟨some 14, _, _, _, _, _⟩) (v := .agg (wds q).toArray) rfl (by kernel_rfl) (by kernel_rfl) (by kernel_rfl) (fun _ _ _ h => h) rfl hX (ld_blk 37 _ rfl w1.heap.size rfl 37 _ _ LR.out L2.out.lt Try.underlying37 rfl (size_set q)) ?_
   simp only [Act.put, qA, qB, qC]
   refine sx_take (i := 1) (oi := ⟨some 11, _, _, _, _, _⟩) (v := ?_) rfl (by kernel_rfl) (by kernel_rfl) (by kernel_rfl) (fun _ _ _ h => h) rfl hX ?_ ?_; rotate_left; (intro W hW; go_simp; try with_reducible rfl); simp only [Act.put, qA, qB, qC]
   refine sx_take (i := 2) (oi := ⟨some 12, _, _, _, _, _⟩) (v := ?_) rfl (by kernel_rfl) (by kernel_rfl) (by kernel_rfl) (fun _ _ _ h => h) rfl hX ?_ ?_; rotate_left; (intro W hW; go_simp; try with_reducible rfl); simp only [Act.put, qA, qB, qC]
   refine sx_take (i := 5) (oi := ⟨some 15, _, _, _, _, _⟩) (v := ?_) rfl (by kernel_rfl) (by kernel_rfl) (by kernel_rfl) (fun _ _ _ h => h) rfl hX ?_ ?_; rotate_left; (intro W hW; go_simp; try with_reducible rfl); simp only [Act.put, qA, qB, qC]
   refine sx_take (i := 6) (oi := ⟨some 16, _, _, _, _, _⟩) (v := ?_) rfl (by kernel_rfl) (by kernel_rfl) (by kernel_rfl) (fun _ _ _ h => h) rfl hX ?_ ?_; rotate_left; (intro W hW; go_simp; try with_reducible rfl); simp only [Act.put, qA, qB, qC]
   refine sx_actB (i := 3) (o := ⟨some 13, _, _, _, _, _⟩) rfl (by kernel_rfl) rfl hX (fun K hK => ?_)
   go_wp2_with fail
   refine (refHas_any p j hjl wd).mono ?_
   rintro e w5 ⟨rfl, hb5⟩
   refine hK _ _ (hb5.mono SD.out) ?_
   clear hK K
   replace hX := hX.trans (hb5.mono SD.out)
   have S5 := qH (Nat.le_trans SD.out hb5.size)
   clear hb5
   refine sx_actB (i := 7) (o := ⟨some 17, _, _, _, _, _⟩) rfl (by kernel_rfl) rfl hX (fun K hK => ?_)
   go_wp2_with fail
   refine (refHas_any q j hjl w5).mono ?_
   rintro e w6 ⟨rfl, hb6⟩
   refine hK _ _ (hb6.mono S5.out) ?_
   clear hK K
   replace hX := hX.trans (hb6.mono S5.out)
   have K6 := qH (KR.out.below hX K2.out.lt)
   have B6 := qH (HB.out.trans hX)
   clear hb6
   obtain ⟨x, hx⟩ : ∃ x, x = p j := ⟨_, rfl⟩
   obtain ⟨y, hy⟩ : ∃ y, y = q j := ⟨_, rfl⟩
   rw [← hx, ← hy]
   have HXX := qH hx
   have HYY := qH hy
   clear hx hy
   by_cases hxy : x = y
   ·have hne : (x == y) = true := by simp [hxy]
    have HE := qH hxy
    clear hxy
    refine sx_take (i := 8) (oi := ⟨some 18, _, _, _, _, _⟩) (v := ?_) rfl (by kernel_rfl) (by kernel_rfl) (by kernel_rfl) (fun _ _ _ h => h) rfl hX ?_ ?_; rotate_left; (intro W hW; go_simp; try with_reducible rfl); simp only [Act.put, qA, qB, qC]
    refine wpAnyH_done (by kernel_rfl) ?_ _
    go_wp2_with fail
    refine ⟨⟨j + 1, by omega, by congr 1, fun b hb => ?_, B6.out⟩, by simp [intOf] <;> omega⟩
    rcases Nat.lt_or_ge b j with h | h
    ·exact HPQ.out b h
    ·obtain rfl : b = j := by omega
     rw [← HXX.out, ← HYY.out, HE.out]
   ·have hne : (x == y) = false := by simpa using hxy
    have HL := qH (lessS_at hjl HPQ.out (by rw [← HXX.out, ← HYY.out]; exact hxy))
    clear hxy
    refine sx_take (i := 8) (oi := ⟨some 18, _, _, _, _, _⟩) (v := ?_) rfl (by kernel_rfl) (by kernel_rfl) (by kernel_rfl) (fun _ _ _ h => h) rfl hX ?_ ?_; rotate_left; (intro W hW; go_simp; try with_reducible rfl); simp only [Act.put, qA, qB, qC]
    refine wpAnyH_done (by kernel_rfl) ?_ _
    go_wp2_with ((with_reducible refine atDst 19 ?_); refine wpList_ldArr rfl 37 _ rfl w.heap.size rfl 37 _ _ K6.out Try.underlying37 rfl (size_set p) ?_)
    refine (refHas_any p j hjl w6).mono ?_
    rintro e w7 ⟨rfl, hb7⟩
    have B7 := qH ((B2.out.trans (B6.out.mono B2.out.size)).trans (hb7.mono (Nat.le_trans (Nat.le_trans B2.out.size HB.out.size) hX.size)))
    clear hb7
    go_wp2_with fail
    go_ret
    rw [HL.out]
    exact ⟨rfl, B7.out⟩
  ·obtain rfl : j = 256 := by omega
   have j1 : ¬ ((256 : Int) < 256) := by omega
   have HL := qH (lessS_none HPQ.out)
   go_wp2_with fail
   go_ret
   rw [HL.out]
   exact ⟨rfl, B2.out.trans (HB.out.mono B2.out.size)⟩
def sets (qs : List (Nat → Bool)) : List Value := qs.flatMap wds
theorem sets_cons (q : Nat → Bool) (qs : List (Nat → Bool)) : sets (q :: qs) = wds q ++ sets qs := rfl
theorem sets_get : ∀ {qs : List (Nat → Bool)} {k : Nat} {q : Nat → Bool}, qs[k]? = some q → ∀ i, i < 4 → (sets qs)[k * 4 + i]? = (wds q)[i]?
 | [], k, q, h, _, _ => by simp at h
 | p :: r, 0, q, h, i, hi => by
  have : p = q := by simpa using h
  subst this
  rw [sets_cons, List.getElem?_append_left (by rw [wds_length]; omega), Nat.zero_mul, Nat.zero_add]
 | p :: r, k + 1, q, h, i, hi => by
  have h' : r[k]? = some q := by simpa using h
  rw [sets_cons, List.getElem?_append_right (by rw [wds_length]; omega), wds_length, show (k + 1) * 4 + i - 4 = k * 4 + i from by omega]
  exact sets_get h' i hi
theorem Blk.range {w : World} {g : Nat} {t : TypeId} {qs : List (Nat → Bool)} (h : Blk w g t (sets qs)) {k : Nat} {q : Nat → Bool} (hq : qs[k]? = some q) : w.rangeAt g (k * 4) (wds q) := by
 intro j v hv
 have hj : j < 4 := by
  have := (List.getElem?_eq_some_iff.1 hv).1
  rwa [wds_length] at this
 rw [h.cell, sets_get hq j hj, hv]
theorem Blk.there {w : World} {g o n : Nat} {t : TypeId} {cs : List Value} (h : Blk w g t cs) (ho : o + n ≤ cs.length) : w.there g o n := by
 intro j hj
 refine ⟨?_, h.frozen _⟩
 rw [h.cell, List.getElem?_eq_getElem (by omega)]
 rfl
theorem splice_cons {cs : List Value} {o : Nat} {v : Value} {r : List Value} (h : o + (r.length + 1) ≤ cs.length) : splice (cs.set o v) (o + 1) r = splice cs o (v :: r) := by
 unfold splice
 rw [List.take_set, List.drop_set, if_pos (by omega), List.length_cons]
 have ho : o < cs.length := by omega
 rw [List.take_succ_eq_append_getElem ho, List.set_append_right _ _ (by simp; omega)]
 simp only [List.length_take, Nat.min_eq_left (Nat.le_of_lt ho), Nat.sub_self, List.set_cons_zero, List.append_assoc, List.cons_append, List.nil_append]
 rw [show o + 1 + r.length = o + (r.length + 1) from by omega]
theorem Blk.setCells {g : Nat} {t : TypeId} : ∀ {vs : List Value} {w : World} {cs : List Value} {o : Nat}, Blk w g t cs → o + vs.length ≤ cs.length → Blk (w.setCells g o vs) g t (splice cs o vs)
 | [], w, cs, o, h, _ => by simpa [World.setCells, splice] using h
 | v :: r, w, cs, o, h, hl => by
  have hl' : o + (r.length + 1) ≤ cs.length := by simpa using hl
  have := Blk.setCells (vs := r) (o := o + 1) (h.set o v) (by rw [List.length_set]; omega)
  rw [splice_cons hl'] at this
  exact this
section
variable {P : Program} {w : World} {ops : Array Oper} {rest : List Oper} {o : Oper} {a : Act} {Q : Exit → Act → World → Prop}
end
end Go.Proofs.Ytmcpfaaakmehdaa
