/-
  Texts of this proof, put together: SbI, BsF, ScG, LayS, BsG, BsS, BsJ. No statement is proved here.
-/
import Derived.Test.YteadghoojeehlaaGreatDoorXR
import Derived.Test.YteadghoojeehlaaGreatDoorXP
import Derived.Test.YteadghoojeehlaaGreatDoorXC
import Derived.Test.YteadghoojeehlaaGreatDoorXQ
import Derived.Shelf.SlSortCmp.WholeK
import Derived.Test.YteadghoojeehlaaGreatDoorProg
import Derived.Test.YteadghoojeehlaaGreatDoorXE
import Derived.Lib.OwnBridge
namespace Go.Proofs.YteadghoojeehlaaGreatDoor
open Go.RowKit
set_option linter.unusedSimpArgs false
set_option linter.unusedVariables false
theorem run_ixByte (cl : List UInt8) (i : Nat) (c : UInt8) (hl : cl.length = 256) (hc : cl[i]? = some c) (w : World) : (Instr.index 27 (.agg (bvs cl).toArray) (.int .i64 (i : Int))).run Tryz.prog w = .ok (bv c) w := by
 have hi : i < 256 := by rw [← hl]; exact (List.getElem?_eq_some_iff.1 hc).1
 have h0 : (0 : Int) ≤ (i : Int) ∧ (i : Int) < ((256 : Nat) : Int) := by omega
 have hsz : (sizeOf 5).run Tryz.prog w = .ok 1 w := by
  have h : (Tryz.prog.info? 5).map (·.size) = some 1 := by kernel_rfl
  cases hi : Tryz.prog.info? 5 with
  | none => rw [hi] at h; cases h
  | some i =>
   rw [hi] at h
   have h' : i.size = 1 := by simpa using h
   simp [sizeOf, typeInfo, hi, h']
 have hag : (isAgg 5).run Tryz.prog w = .ok false w := by
  simp [isAgg, run_underlying Tryz.underlying5]
 have hg : (bvs cl)[i]? = some (bv c) := bvs_get cl i c hc
 have hx : (bvs cl).toArray[i]? = some (bv c) := by simpa using hg
 simp [Instr.index, asIntOf, run_underlying Tryz.underlying27, h0, hsz, part, hag, hi, hg, Result.andThen]
def fbB (ps : List (Nat → Bool)) (j : Nat) : List UInt8 := (firstJ ps j).map UInt8.ofNat
theorem fbB_len (ps : List (Nat → Bool)) (j : Nat) : (fbB ps j).length = (firstJ ps j).length := by simp [fbB]
theorem fbB_mem (ps : List (Nat → Bool)) {j b : Nat} (hj : j ≤ 256) (hb : b < 256) : UInt8.ofNat b ∈ fbB ps j ↔ b ∈ firstJ ps j := by
 unfold fbB
 rw [List.mem_map]
 constructor
 ·rintro ⟨c, hc, he⟩
  have hlt := firstJ_lt ps j c hc
  have := congrArg UInt8.toNat he
  rw [UInt8.toNat_ofNat', UInt8.toNat_ofNat', Nat.mod_eq_of_lt (by omega), Nat.mod_eq_of_lt (by omega)] at this
  rw [← this]
  exact hc
 ·intro h
  exact ⟨b, h, rfl⟩
theorem ctab_at (ps : List (Nat → Bool)) {j : Nat} (hj : j < 256) : (ctab ps 256)[j]? = some (UInt8.ofNat (clsOf ps j)) := by
 simp [ctab, hj]
theorem clsOf_256 (ps : List (Nat → Bool)) {j : Nat} (hj : j < 256) : clsOf ps j < 256 := Nat.lt_of_lt_of_le (clsOf_lt ps hj) (firstJ_len ps 256)
theorem wrap_256 (j : Nat) (h : j < 256) : IntKind.u8.wrap (j : Int) = (j : Int) := IntWalk.u8_in _ (by omega)
theorem wrap_256' (j : Nat) (h : j < 256) : wrap64 (j : Int) = (j : Int) := IntWalk.wrap64_in _ (by omega)
theorem wrap_256'' (j : Nat) (h : j < 256) : IntKind.i64.wrap (j : Int) = (j : Int) := IntWalk.i64_in _ (by omega)
set_option maxHeartbeats 4000000 in
set_option maxRecDepth 1000000 in
theorem leasts_any (ps : List (Nat → Bool)) (w : World) :
  Calls Tryz.prog 38 #[.agg (bvs (ctab ps 256)).toArray] w fun e w' => e = .returned (.agg (wds fun b => decide (b ∈ firstJ ps 256)).toArray) ∧ Below w.heap.size w w' := by
 obtain ⟨cl, hcl⟩ : ∃ cl, cl = ctab ps 256 := ⟨_, rfl⟩
 have HL := qH (show cl.length = 256 by rw [hcl]; exact ctab_length _ _)
 have HAT := qH (show ∀ j, j < 256 → cl[j]? = some (UInt8.ofNat (clsOf ps j)) by rw [hcl]; exact fun j hj => ctab_at ps hj)
 have HSZ := qH (show (Tryz.prog.info? 27).map (·.size) = some (bvs cl).length from size_ctab HL.out)
 rw [← hcl]
 clear hcl
 obtain ⟨i1, hi1, hy0, hy1, hy2⟩ := infoP inf_u8
 obtain ⟨i4, hi4, hz4, hs4, hy4⟩ := infoP inf_set
 obtain ⟨zs, hzs⟩ : ∃ z : Nat → Bool, z = fun _ => false := ⟨_, rfl⟩
 rw [← hzs] at hz4
 clear hzs
 go_enter Tryz.func38, Tryz.ntmps38
 go_wp2_with (first
  | ((with_reducible refine atDst 1 ?_); refine wpList_box rfl 27 _ rfl (bvs cl) rfl (Below.refl w.heap.size w) (Nat.le_refl _) ?_; intro w1 hk1 hb1 hs1 _; have K1 := qH hk1; have B1 := qH hb1; clear hk1 hb1 hs1; (try simp only [Act.put, qA, qB, qC]))
  | ((with_reducible refine atDst 2 ?_); refine wpList_new rfl 43 rfl i4 _ (wds zs) hi4 hz4 rfl (Below.refl w1.heap.size w1) (Nat.le_refl _) ?_; intro w2 hk2 hb2 hs2 _; have K2 := qH hk2; have B2 := qH (B1.out.trans (hb2.mono B1.out.size)); have C2 := qH (K1.out.below hb2 K1.out.lt); have S2 := qH (show w.heap.size ≤ w1.heap.size from B1.out.size); clear hk2 hb2 hs2; (try simp only [Act.put, qA, qB, qC]))
  | ((with_reducible refine atDst 6 ?_); refine wpList_ldArr rfl 27 _ rfl w.heap.size rfl 27 _ _ C2.out Tryz.underlying27 rfl HSZ.out ?_; (try simp only [Act.put, qA, qB, qC])))
 go_loopw [3, 7] (fun v i wl => ∃ j : Nat, j ≤ 256 ∧ i = .int .i64 (j : Int) ∧ wl.ownsRow w2.heap.size 5 1 v (firstJ ps j).length (bvs (fbB ps j)) ∧ Below w2.heap.size w2 wl) (fun _ i _ => 256 - (intOf i).toNat)
 case atStart => exact ⟨0, Nat.zero_le _, by simp, ownN _ _ _, Below.refl _ _⟩
 case round =>
  obtain ⟨j, hj, rfl, ho, hb⟩ := hrel
  have HO := qH ho
  have BR := qH hb
  clear ho hb
  obtain ⟨wq, hwq⟩ : ∃ v : World, v = wr := ⟨_, rfl⟩
  subst hwq
  by_cases hjl : j < 256
  ·have x1 : (j : Int) < 256 := by omega
   have HJ := qH hjl
   have HMN := qH (sub_next hjl)
   have e3 := wrap_one j (by omega)
   have e4 := wrap_one' j (by omega)
   have hix := run_ixByte cl j _ HL.out (HAT.out j hjl)
   obtain ⟨k, hk⟩ : ∃ k, k = clsOf ps j := ⟨_, rfl⟩
   have HK := qH hk
   have HK2 := qH (show k < 256 by rw [hk]; exact clsOf_256 ps hjl)
   rw [← hk, bv_ofNat HK2.out] at hix
   have w1' := wrap_256' k HK2.out
   have w2' := wrap_256'' k HK2.out
   obtain ⟨n, hn⟩ : ∃ n, n = (firstJ ps j).length := ⟨_, rfl⟩
   rw [← hn] at HO
   have HN := qH hn
   have HNL := qH (show n ≤ 256 by rw [hn]; have := firstJ_len ps j; omega)
   obtain ⟨Al, cp, rfl, _⟩ := Row.of_own HO.out
   rw [bvs_length, fbB_len, ← hn] at HO ⊢
   have wj := wrap_256 j hjl
   by_cases hkn : k = n
   ·have hb : ((k : Int) == (n : Int)) = true := by rw [hkn]; exact beq_self_eq_true _
    have HNX := qH (show firstJ ps (j + 1) = firstJ ps j ++ [j] from firstJ_new (by rw [← hk, hkn, hn]))
    clear hj hjl hk hn hkn
    have R1 := qH (rowB (n := 1) (show Blk (wq.alloc (.cells #[.int .u8 (j : Int)] 5)) wq.heap.size 5 (bvs [UInt8.ofNat j]) by
     have := Blk.new wq 5 (bvs [UInt8.ofNat j])
     rw [show bvs [UInt8.ofNat j] = [.int .u8 (j : Int)] from congrArg (fun x => [x]) (bv_ofNat HJ.out)] at this ⊢
     exact this) rfl (by omega))
    go_wp2_with ((with_reducible refine atDst 20 ?_); refine wpList_appG (base := w2.heap.size) rfl (.tmp 16) (.tmp 19) 38 rfl 5 i1 (.int .u8 0) 1 Tryz.underlying38 hi1 hy0 hy1 hy2 rfl _ _ _ rfl (HO.out.alloc _) _ (bvs [UInt8.ofNat j]) rfl R1.out (bvs_one _) (by have := HNL.out; rw [bvs_length]; simp only [List.length_singleton]; omega) (by omega) (by have := BR.out.size; simp; omega) ?_; intro v5 w5 ho5 hg5; have O5 := qH ho5; have B5 := qH (Below.grown (Below.alloc BR.out BR.out.size (.cells #[.int .u8 (j : Int)] 5)) hg5 (by have := BR.out.size; simp; omega) (own_above HO.out)); clear ho5 hg5)
    refine ⟨⟨j + 1, HJ.out, by congr 1, ?_, B5.out⟩, by simpa [intOf] using HMN.out⟩
    rw [HNX.out, List.length_append, ← HN.out]
    unfold fbB
    rw [HNX.out, List.map_append, bvs_append]
    exact O5.out
   ·have hb : ((k : Int) == (n : Int)) = false := by rw [beq_eq_false_iff_ne]; exact fun h => hkn (Int.ofNat_inj.1 h)
    have HNX := qH (show firstJ ps (j + 1) = firstJ ps j from firstJ_hit (by have := clsOf_le ps j; rw [← hk, ← hn] at this ⊢; omega))
    clear hj hjl hk hn hkn
    go_wp2_with fail
    refine ⟨⟨j + 1, HJ.out, by congr 1, ?_, BR.out⟩, by simpa [intOf] using HMN.out⟩
    rw [HNX.out, ← HN.out]
    unfold fbB
    rw [HNX.out]
    exact HO.out
  ·obtain rfl : j = 256 := by omega
   have x1 : ¬ ((256 : Int) < 256) := Int.lt_irrefl _
   have HF := qH (firstJ_len ps 256)
   have HR := qH (Row.of_own HO.out)
   obtain ⟨Al, cp, rfl, _⟩ := Row.of_own HO.out
   have C9 := qH (K2.out.below BR.out K2.out.lt)
   have B9 := qH (B2.out.trans (BR.out.mono (B2.out.size)))
   clear hj hjl HO
   obtain ⟨fl, hfl⟩ : ∃ fl, fl = fbB ps 256 := ⟨_, rfl⟩
   have HFL := qH hfl
   rw [← hfl] at HR ⊢
   have HLN := qH (show fl.length ≤ 1048576 by rw [hfl, fbB_len]; have := HF.out; omega)
   clear hfl
   go_wp2_with fail
   refine (bsOf_any _ fl wq HR.out HLN.out).mono ?_
   rintro e w8 ⟨rfl, hb⟩
   have CA := qH (C9.out.below hb C9.out.lt)
   have BA := qH (B9.out.trans (hb.mono B9.out.size))
   clear hb
   obtain ⟨q, hq⟩ : ∃ q : Nat → Bool, q = fun b => decide (UInt8.ofNat b ∈ fl) := ⟨_, rfl⟩
   rw [← hq]
   have HQ := qH (show wds q = wds fun b => decide (b ∈ firstJ ps 256) by
    rw [hq, HFL.out]
    exact wds_congr fun b hb => decide_eq_decide.2 (fbB_mem ps (Nat.le_refl _) hb))
   clear hq
   go_wp2_with ((with_reducible refine atStore 43 2 23 ?_); refine wpList_stBlk rfl 43 _ _ rfl w1.heap.size (wds q) rfl rfl 43 _ CA.out (size_set q) rfl (wds_all _) BA.out S2.out ?_; intro w3 hk3 hb3 hs3 _; have K3 := qH hk3; have B3 := qH hb3; clear hk3 hb3)
   refine bodyPost_ret (results_blk rfl _ _ w1.heap.size 43 _ _ rfl K3.out Tryz.underlying43 rfl (size_set q)) rfl ?_
   exact ⟨by rw [HQ.out], B3.out⟩
theorem wpList_mkOwn {P : Program} {w : World} {ops : Array Oper} {rest : List Oper} {o : Oper} {a : Act} {Q : Exit → Act → World → Prop} (hg : o.guard = none) (l c : Operand) (t : TypeId) (hop : o.op = Op.makeSlice t l c)
  (base : Nat) (e : TypeId) (i : TypeInfo) (z : Value) (size : Nat) (h1 : P.underlying t = some (.slice e)) (h2 : P.info? e = some i) (h3 : i.zero = some z) (h4 : i.size = size)
  (n : Nat) (hl : a.eval l = .int .i64 0) (hc : a.eval c = .int .i64 (n : Int)) (hn : n ≤ maxLen) (hby : i.bytes * n ≤ 281474976710656) (hb : base ≤ w.heap.size)
  (h : ∀ w', w'.ownsRow base e size (.slice (some ⟨w.heap.size, 0, none⟩) 0 n) 0 [] → w.grownBy w' none → wpList P ops Q rest (a.put o.dst (.slice (some ⟨w.heap.size, 0, none⟩) 0 n)) w') :
  wpList P ops Q (o :: rest) a w := by
 refine wpList_plain hg fun K hK' => ?_
 obtain ⟨w', hr, ho, hgw⟩ := run_make_own (P := P) w base t e i z size h1 h2 h3 h4 .i64 .i64 n hby hn hb
 unfold Oper.wp
 simp [execOp, hop, hl, hc, hr, Result.andThen]
 exact hK' _ _ (h _ ho hgw)
theorem jk_lt {j k : Nat} (hj : j < 4) (hk : k < 64) : 64 * j + k < 256 := by omega
theorem wrap8N (n : Nat) (h : n < 256) : IntKind.u8.wrap (n : Int) = (n : Int) := IntWalk.u8_in _ (by omega)
theorem pred_wrap (y : Nat) (h0 : y ≠ 0) (h : y < 18446744073709551616) : IntKind.u64.wrap ((y : Int) - 1) = ((y - 1 : Nat) : Int) := by
 rw [show (y : Int) - 1 = ((y - 1 : Nat) : Int) by omega]
 exact wrapN _ (by omega)
theorem wrap_j (j : Nat) (h : j < 4) : wrap64 ((j : Int) * 64) = (j : Int) * 64 := IntWalk.wrap64_in _ (by omega)
theorem wrap_jk (j k : Nat) (h : j < 4) (hk : k < 64) : wrap64 ((j : Int) * 64 + (k : Int)) = ((64 * j + k : Nat) : Int) := by
 rw [show (j : Int) * 64 + (k : Int) = ((64 * j + k : Nat) : Int) by omega]
 exact IntWalk.wrap64_in _ (by omega)
set_option maxHeartbeats 4000000 in
set_option maxRecDepth 100000 in
theorem bsList_own (p : Nat → Bool) (w : World) (hT : Tb w) :
  Calls Tryz.prog 31 #[.agg (wds p).toArray] w fun e w' => ∃ v, e = .returned v ∧ w'.ownsRow w.heap.size 5 1 v (memJ p 256).length (bvs (memJ p 256)) ∧ Below w.heap.size w w' := by
 have HT := qH hT
 clear hT
 obtain ⟨i1, hi1, hy0, hy1, hy2⟩ := infoP inf_u8
 obtain ⟨cs, hcs⟩ : ∃ cs, cs = wds p := ⟨_, rfl⟩
 have HCS := qH hcs
 have HSZ := qH (show (Tryz.prog.info? 43).map (·.size) = some cs.length by rw [hcs]; exact size_set p)
 have HG := qH (show ∀ (i : Nat) (_ : i < 4) (w : World), (Instr.index 43 (.agg cs.toArray) (.int .i64 (i : Int))).run Tryz.prog w = .ok (.int .u64 (word p i : Int)) w by rw [hcs]; exact idx_set p)
 rw [← hcs]
 clear hcs
 have HLEN := qH (memJ_len p 256)
 go_enter Tryz.func31, Tryz.ntmps31
 go_wp2_with (first
  | ((with_reducible refine atDst 1 ?_); refine wpList_box rfl 43 _ rfl cs rfl (Below.refl w.heap.size w) (Nat.le_refl _) ?_; intro w1 hk1 hb1 hs1 _; have K1 := qH hk1; have B1 := qH hb1; clear hk1 hb1 hs1)
  | ((with_reducible refine atDst 6 ?_); refine wpList_ldArr rfl 43 _ rfl w.heap.size rfl 43 _ _ K1.out Tryz.underlying43 rfl HSZ.out ?_))
 rw [HCS.out]
 refine (bsLen_any p w1).mono ?_
 rintro e w2 ⟨rfl, hb2⟩
 rw [← HCS.out]
 obtain ⟨n, hn⟩ : ∃ n, n = (memJ p 256).length := ⟨_, rfl⟩
 rw [← hn]
 have HN := qH (show n ≤ 256 by rw [hn]; exact HLEN.out)
 have K2 := qH (K1.out.below hb2 K1.out.lt)
 have B2 := qH (B1.out.trans (hb2.mono B1.out.size))
 clear hb2 hn
 go_wp2_with (first
  | ((with_reducible refine atDst 8 ?_); refine wpList_mkOwn rfl _ _ 38 rfl w2.heap.size 5 i1 (.int .u8 0) 1 Tryz.underlying38 hi1 hy0 hy1 n rfl rfl (by have := HN.out; unfold maxLen; omega) (by have := HN.out; rw [hy2]; omega) (Nat.le_refl _) ?_; intro w3 ho3 hg3; have O3 := qH ho3; have b3 := (Below.refl w2.heap.size w2).grown hg3 (Nat.le_refl _) (fun q hq => by cases hq); have K3 := qH (K2.out.below b3 K2.out.lt); have B3 := qH (B2.out.trans (b3.mono B2.out.size)); have S3 := qH b3.size; clear ho3 hg3 b3)
  | ((with_reducible refine atDst 9 ?_); refine wpList_ldArr rfl 43 _ rfl w.heap.size rfl 43 _ _ K3.out Tryz.underlying43 rfl HSZ.out ?_))
 go_loopw [3, 10] (fun v i wl => ∃ j : Nat, j ≤ 4 ∧ i = .int .i64 (j : Int) ∧ wl.ownsRow w2.heap.size 5 1 v (memJ p (64 * j)).length (bvs (memJ p (64 * j))) ∧ Below w2.heap.size w3 wl) (fun _ i _ => 4 - (intOf i).toNat)
 case atStart => exact ⟨0, by omega, by simp, O3.out, Below.refl _ _⟩
 case round =>
  obtain ⟨j, hj, rfl, ho, hb⟩ := hrel
  have HO := qH ho
  have HB := qH hb
  clear ho hb
  obtain ⟨wo, hwo⟩ : ∃ wo : World, wo = wr := ⟨_, rfl⟩
  subst hwo
  by_cases hjl : j < 4
  ·have j1 : (j : Int) < 4 := by omega
   have hix := HG.out j hjl
   obtain ⟨x, hx⟩ : ∃ x, x = word p j := ⟨_, rfl⟩
   rw [← hx] at hix
   have HX := qH (show x = left p j 0 by rw [hx, left_zero])
   clear hx
   go_wp2_with fail
   go_loopw [3, 5] (fun v y wl => ∃ c : Nat, c ≤ 64 ∧ y = .int .u64 (left p j c : Int) ∧ wl.ownsRow w2.heap.size 5 1 v (memJ p (64 * j + c)).length (bvs (memJ p (64 * j + c))) ∧ Below w2.heap.size w3 wl) (fun _ y _ => (intOf y).toNat)
   case atStart => exact ⟨0, by omega, by rw [HX.out], HO.out, HB.out⟩
   case round =>
    obtain ⟨c, hc, rfl, ho, hb⟩ := hrel
    have HO2 := qH ho
    have HB2 := qH hb
    have HC := qH hc
    clear ho hb hc HO HB
    have HLY := qH (left_lt p j c)
    have HN0 := qH (left_none p j c HC.out)
    have HNX := qH (left_next p j c)
    obtain ⟨y, hy⟩ : ∃ y, y = left p j c := ⟨_, rfl⟩
    rw [← hy] at HN0 HNX HLY ⊢
    have HY := qH hy
    clear hy
    by_cases hy0 : y = 0
    ·have hyb : ((y : Int) != 0) = false := by rw [hy0]; rfl
     have HM := qH (HN0.out hy0)
     clear hy0
     go_wp2_with fail
     refine ⟨⟨j + 1, by omega, by congr 1, ?_, HB2.out⟩, by simp [intOf] <;> omega⟩
     rw [← HM.out]
     exact HO2.out
    ·have hyb : ((y : Int) != 0) = true := by simpa using hy0
     obtain ⟨k, hk⟩ : ∃ k, k = Lib.ctz 64 y := ⟨_, rfl⟩
     obtain ⟨k1, k2, k3, k4⟩ := HNX.out k hy0 hk
     obtain ⟨y2, hy2'⟩ : ∃ y2, y2 = y &&& (y - 1) := ⟨_, rfl⟩
     rw [← hy2'] at k3 k4
     have HTZ := qH (tz_any y HLY.out hy0 wr (HT.out.belowG (B3.out.trans (HB2.out.mono B2.out.size)) HT.out.lt))
     rw [← hk] at HTZ
     have hly := HLY.out
     have hw1 : IntKind.u64.wrap ((y : Int) - 1) = ((y - 1 : Nat) : Int) := by
      exact pred_wrap y hy0 hly
     have hw2 : bits .and .u64 (y : Int) ((y - 1 : Nat) : Int) = (y2 : Int) := by
      rw [u64_and_nat y (y - 1) hly (Nat.lt_of_le_of_lt (Nat.sub_le _ _) hly), hy2']
     have hw3 : wrap64 ((j : Int) * 64) = (j : Int) * 64 := wrap_j j hjl
     have hw4 : wrap64 ((j : Int) * 64 + (k : Int)) = ((64 * j + k : Nat) : Int) := by
      exact wrap_jk j k hjl k1
     have hjk : 64 * j + k < 256 := jk_lt hjl k1
     have hw5 : IntKind.u8.wrap ((64 * j + k : Nat) : Int) = ((64 * j + k : Nat) : Int) := wrap8N _ hjk
     obtain ⟨b, hb⟩ : ∃ b, b = 64 * j + k := ⟨_, rfl⟩
     rw [← hb] at hw4 hw5 hjk k2
     have HK2 := qH k2
     have HK3 := qH k3
     have HK4 := qH k4
     have HK1 := qH k1
     have HML := qH (memJ_len p (64 * j + c))
     have HJC := qH (show 64 * j + c ≤ 256 by have := HC.out; omega)
     clear hk k1 k2 k3 k4 hy2' hb hly hy0
     have R1 := qH (rowB (n := 1) (show Blk (wr.alloc (.cells #[.int .u8 (b : Int)] 5)) wr.heap.size 5 (bvs [UInt8.ofNat b]) by
      have := Blk.new wr 5 (bvs [UInt8.ofNat b])
      rw [show bvs [UInt8.ofNat b] = [.int .u8 (b : Int)] from congrArg (fun x => [x]) (bv_ofNat hjk)] at this ⊢
      exact this) rfl (by omega))
     go_wp2_with fail
     refine HTZ.out.mono ?_
     rintro e w4 ⟨rfl, rfl⟩
     go_wp2_with ((with_reducible refine atDst 28 ?_); refine wpList_appG (base := w2.heap.size) rfl (.tmp 20) (.tmp 27) 38 rfl 5 i1 (.int .u8 0) 1 Tryz.underlying38 hi1 hy0 hy1 hy2 rfl _ _ _ rfl (HO2.out.alloc _) _ (bvs [UInt8.ofNat b]) rfl R1.out (bvs_one _) (by have := HML.out; have := HJC.out; rw [bvs_length]; simp; omega) (by omega) (by have := HB2.out.size; have := S3.out; simp; omega) ?_; intro v5 w5 ho5 hg5; have O5 := qH ho5; have B5 := qH (Below.grown (Below.alloc HB2.out (by have := HB2.out.size; have := S3.out; omega) (.cells #[.int .u8 (b : Int)] 5)) hg5 (by have := HB2.out.size; have := S3.out; simp; omega) (own_above HO2.out)); clear ho5 hg5)
     refine ⟨⟨k + 1, by have := HK1.out; omega, by rw [HK3.out], ?_, B5.out⟩, by have := HK4.out; simp [intOf] <;> omega⟩
     rw [HK2.out, bvs_append, List.length_append]
     exact O5.out
  ·obtain rfl : j = 4 := by omega
   have j1 : ¬ ((4 : Int) < 4) := by omega
   have R9 := qH (ownMono HO.out B2.out.size)
   have B9 := qH (B3.out.trans (HB.out.mono B2.out.size))
   clear HO
   go_wp2_with fail
   go_ret
   exact ⟨_, rfl, R9.out, B9.out⟩
def fF (cls : Nat → Nat) (N : Nat) : Nat → Nat → Nat
 | 0, _ => 0
 | d + 1, c => if cls (N - (d + 1)) = c then N - (d + 1) else fF cls N d c
theorem fF_spec (cls : Nat → Nat) (N c : Nat) : ∀ d, d ≤ N → (∃ b, N - d ≤ b ∧ b < N ∧ cls b = c) → cls (fF cls N d c) = c ∧ N - d ≤ fF cls N d c ∧ fF cls N d c < N ∧ ∀ b, N - d ≤ b → b < fF cls N d c → cls b ≠ c
 | 0, _, ⟨b, h1, h2, _⟩ => absurd h2 (by omega)
 | d + 1, hd, ⟨b, h1, h2, h3⟩ => by
  unfold fF
  by_cases he : cls (N - (d + 1)) = c
  ·rw [if_pos he]
   exact ⟨he, Nat.le_refl _, by omega, fun b' hb1 hb2 => by omega⟩
  ·rw [if_neg he]
   have hne : b ≠ N - (d + 1) := fun e => he (by rw [← e]; exact h3)
   obtain ⟨i1, i2, i3, i4⟩ := fF_spec cls N c d (by omega) ⟨b, by omega, h2, h3⟩
   refine ⟨i1, by omega, i3, fun b' hb1 hb2 => ?_⟩
   by_cases e : b' = N - (d + 1)
   ·rw [e]; exact he
   ·exact i4 b' (by omega) hb2
def crow (cls : Nat → Nat) (N k d : Nat) : List Value := (List.range k).map fun c => .int .u8 (fF cls N d c : Int)
theorem crow_len (cls : Nat → Nat) (N k d : Nat) : (crow cls N k d).length = k := by simp [crow]
theorem crow_zero (cls : Nat → Nat) (N k : Nat) : List.replicate k (Value.int .u8 0) = crow cls N k 0 := by
 unfold crow fF
 rw [List.map_const']
 simp
theorem crow_set (cls : Nat → Nat) {N k d p : Nat} (hp : p = N - (d + 1)) : (crow cls N k d).set (cls p) (.int .u8 (p : Int)) = crow cls N k (d + 1) := by
 apply List.ext_getElem?
 intro i
 unfold crow
 by_cases hi : i < k
 ·by_cases hc : cls p = i
  ·rw [hc, List.getElem?_set_self (by simp [hi])]
   simp only [List.getElem?_map, List.getElem?_range hi, Option.map_some, fF]
   rw [← hp, if_pos hc]
  ·rw [List.getElem?_set_ne hc]
   simp only [List.getElem?_map, List.getElem?_range hi, Option.map_some, fF]
   rw [← hp, if_neg hc]
 ·rw [List.getElem?_eq_none (by rw [List.length_set]; simp; omega), List.getElem?_eq_none (by simp; omega)]
theorem fF_first (ps : List (Nat → Bool)) (N k : Nat) {f : Nat} (hf : (firstJ ps N)[k]? = some f) : fF (clsOf ps) N N k = f := by
 obtain ⟨hk, hfe⟩ := List.getElem?_eq_some_iff.1 hf
 have hm : f ∈ firstJ ps N := List.mem_of_getElem? hf
 have hfN := firstJ_lt ps N f hm
 have h1 : clsOf ps f = k := (clsOf_is ps N f hfN k hk).2 (by rw [hfe]; exact alikeS_refl _ _)
 have h2 : ∀ b, b < f → clsOf ps b ≠ k := fun b hb e => by
  have h3 := (clsOf_is ps N b (by omega) k hk).1 e
  rw [hfe, (firstJ_facts ps N).2.1 f hm b hb] at h3
  cases h3
 obtain ⟨i1, _, i3, i4⟩ := fF_spec (clsOf ps) N k N (Nat.le_refl _) ⟨f, by omega, hfN, h1⟩
 rcases Nat.lt_trichotomy (fF (clsOf ps) N N k) f with h | h | h
 ·exact absurd i1 (h2 _ h)
 ·exact h
 ·exact absurd h1 (i4 f (by omega) h)
theorem crow_all (ps : List (Nat → Bool)) (N k : Nat) (hN : N ≤ 256) (hk : k = (firstJ ps N).length) : crow (clsOf ps) N k N = bvs (fbB ps N) := by
 apply List.ext_getElem?
 intro i
 unfold crow
 by_cases hi : i < k
 ·obtain ⟨f, hf⟩ : ∃ f, (firstJ ps N)[i]? = some f := ⟨_, List.getElem?_eq_getElem (by rw [← hk]; exact hi)⟩
  have hlt := firstJ_lt ps N f (List.mem_of_getElem? hf)
  rw [List.getElem?_map, List.getElem?_range hi, Option.map_some, fF_first ps N i hf]
  rw [bvs_get _ i (UInt8.ofNat f) (by unfold fbB; rw [List.getElem?_map, hf]; rfl)]
  unfold bv
  rw [UInt8.toNat_ofNat', Nat.mod_eq_of_lt (by omega)]
 ·rw [List.getElem?_eq_none (by simp; omega), List.getElem?_eq_none (by rw [bvs_length, fbB_len]; omega)]
theorem le_k256 {k : Nat} (h : k ≤ 256) : k ≤ 9223372036854775807 := by omega
set_option maxHeartbeats 4000000 in
set_option maxRecDepth 1000000 in
theorem refFirst9_any (ps : List (Nat → Bool)) (cl : List UInt8) (hcl : cl = ctab ps 256) (k : Nat) (hk : k = (firstJ ps 256).length) (w : World) :
  Calls Tryz.prog 24 #[.agg (bvs cl).toArray, .int .i64 (k : Int)] w fun e w' => ∃ v, e = .returned v ∧ Row w' v (bvs (fbB ps 256)) ∧ Below w.heap.size w w' := by
 obtain ⟨N, hN⟩ : ∃ N, N = 256 := ⟨_, rfl⟩
 have HNN := qH hN
 have HCL := qH (show ∀ b, b < 256 → cl[b]? = some (UInt8.ofNat (clsOf ps b)) by rw [hcl]; exact fun b hb => ctab_at ps hb)
 have HLT := qH (show ∀ b, b < 256 → clsOf ps b < k by rw [hk]; exact fun b hb => clsOf_lt ps hb)
 have HL := qH (show cl.length = 256 by rw [hcl]; exact ctab_length _ _)
 have HK := qH (show k ≤ 256 by rw [hk]; exact firstJ_len ps 256)
 have HFB := qH (show crow (clsOf ps) N k N = bvs (fbB ps 256) by rw [← hN] at hk ⊢; exact crow_all ps N k (by omega) hk)
 obtain ⟨fb, hfb⟩ : ∃ l, l = bvs (fbB ps 256) := ⟨_, rfl⟩
 obtain ⟨cls, hcls⟩ : ∃ cls, cls = clsOf ps := ⟨_, rfl⟩
 rw [← hfb, ← hcls] at HFB
 rw [← hcls] at HCL HLT
 rw [← hfb]
 clear hcl hk hN hfb hcls
 obtain ⟨i1, hi1, hy0, hy1, hy2⟩ := infoP inf_u8
 have HY2 := qH (show i1.bytes * k ≤ 281474976710656 by have := HK.out; rw [hy2]; omega)
 have HK3 := qH (le_k256 HK.out)
 clear hy2
 go_enter Tryz.func24, Tryz.ntmps24
 go_wp2_with (first
  | ((with_reducible refine atDst 2 ?_); refine wpList_box rfl 27 _ rfl (bvs cl) rfl (Below.refl w.heap.size w) (Nat.le_refl _) ?_; intro w1 hk1 hb1 hs1 _; have K1 := qH hk1; have B1 := qH hb1; clear hk1 hb1 hs1; (try simp only [Act.put, qA, qB, qC]))
  | ((with_reducible refine atDst 8 ?_); refine wpList_mk w1 rfl (.tmp 7) (.tmp 7) 38 rfl 5 i1 (.int .u8 0) Tryz.underlying38 hi1 hy0 hy1 rfl k .i64 .i64 _ _ rfl rfl rfl rfl HY2.out HK3.out ?_; intro w2 hk hb hs; have K2 := qH hk; have B2 := qH hb; clear hk hb hs; (try simp only [Act.put, qA, qB, qC])))
 go_loopw [6] (fun iv wl => ∃ (d : Nat) (x : Int), d ≤ 256 ∧ iv = .int .i64 x ∧ x = 255 - (d : Int) ∧ Blk wl w1.heap.size 5 (crow cls N k d) ∧ Below w1.heap.size w1 wl) (fun iv _ => (intOf iv + 1).toNat)
 case atStart => exact ⟨0, 255, Nat.zero_le _, rfl, by omega, by rw [← crow_zero]; exact K2.out, B2.out⟩
 clear K2 B2
 obtain ⟨d, x, hd, rfl, hx, ht, hb⟩ := hrel
 have TQ := qH ht
 have BQ := qH hb
 have KQ := qH (K1.out.below hb K1.out.lt)
 clear ht hb
 by_cases hdn : d < 256
 ·obtain ⟨p, hp⟩ : ∃ p : Nat, p = 255 - d := ⟨_, rfl⟩
  have hxp : x = (p : Int) := by omega
  have hp256 : p < 256 := by omega
  have HD := qH hdn
  have HNX := qH (show (p : Int) - 1 = 255 - ((d + 1 : Nat) : Int) by omega)
  have HMD := qH (show ((p : Int) - 1 + 1).toNat < ((p : Int) + 1).toNat by omega)
  have HPN := qH (show p = N - (d + 1) by have := HNN.out; omega)
  subst hxp
  obtain ⟨q, hq⟩ : ∃ q, q = cls p := ⟨_, rfl⟩
  have hqk : q < k := by rw [hq]; exact HLT.out p hp256
  have p1 : (p : Int) < 256 := Int.ofNat_lt.2 hp256
  have p2 : decide ((0 : Int) ≤ (p : Int)) = true := decide_eq_true (Int.natCast_nonneg p)
  have q1 : (q : Int) < (k : Int) := Int.ofNat_lt.2 hqk
  have e1 : wrap64 ((p : Int) - 1) = (p : Int) - 1 := IntWalk.wrap64_in _ (by omega)
  have e2 : IntKind.i64.wrap ((p : Int) - 1) = (p : Int) - 1 := IntWalk.i64_in _ (by omega)
  have e3 := wrap_256 p hp256
  have e4 := wrap_256' p hp256
  have e5 := wrap_256'' p hp256
  have hcq : wr.cell? ⟨w.heap.size, p, none⟩ = some (.int .u8 (q : Int)) := by
   rw [KQ.out.cell p, bvs_get _ _ _ (HCL.out p hp256), ← hq]
   exact congrArg some (bv_ofNat (Nat.lt_of_lt_of_le hqk HK.out))
  have hfz := TQ.out.frozen q
  obtain ⟨u, hu⟩ : ∃ u, (crow cls N k d)[q]? = some u := ⟨_, List.getElem?_eq_getElem (by rw [crow_len]; exact hqk)⟩
  have hcu := TQ.out.cell q
  rw [hu] at hcu
  have TE := qH (show Blk (wr.setCell ⟨w1.heap.size, q, none⟩ (.int .u8 (p : Int))) w1.heap.size 5 (crow cls N k (d + 1)) by
   have := TQ.out.set q (.int .u8 (p : Int))
   rw [hq, crow_set cls HPN.out, ← hq] at this
   exact this)
  have BE := qH (BQ.out.setCell (p := ⟨w1.heap.size, q, none⟩) (Nat.le_refl _) (Value.int .u8 (p : Int)))
  clear hd hdn hx hp hp256 hq hqk hu
  go_wp2_with fail
  exact ⟨⟨d + 1, _, HD.out, rfl, HNX.out, TE.out, BE.out⟩, by simp [intOf]⟩
 ·obtain rfl : d = 256 := by omega
  have hx1 : x = -1 := by omega
  subst hx1
  have RE := qH (show Row wr (.slice (some ⟨w1.heap.size, 0, none⟩) k k) fb by
   rw [← HFB.out]
   have h := TQ.out
   rw [← HNN.out] at h
   exact rowB h (crow_len _ _ _ _) (Nat.le_trans HK.out (by decide)))
  have BE := qH (B1.out.trans (BQ.out.mono B1.out.size))
  clear hd hdn hx TQ
  go_wp2_with fail
  go_ret
  exact ⟨_, rfl, RE.out, BE.out⟩
end Go.Proofs.YteadghoojeehlaaGreatDoor
namespace Go.Proofs
open Go.Shelf
def Tryz.sortS_ren : Go.Shelf.Ren := ⟨fun | 6 => 49 | 15 => 74 | 14 => 73 | 28 => 95 | 29 => 96 | 20 => 87 | 21 => 88 | 22 => 89 | 23 => 90 | 24 => 91 | 25 => 92 | 26 => 93 | 27 => 94 | 46 => 103 | 47 => 104 | 48 => 105 | 49 => 106 | 50 => 107 | 57 => 120 | n => n, fun | 22 => 76 | 24 => 43 | 25 => 103 | 3 => 3 | 39 => 125 | 0 => 0 | 53 => 144 | 55 => 41 | 4 => 4 | 46 => 138 | 45 => 137 | 50 => 91 | 5 => 5 | 9 => 9 | 66 => 149 | 70 => 153 | 76 => 162 | 77 => 84 | n => n, fun | n => n⟩
theorem Tryz.sortS : Go.Proofs.SlLaysF0.n6 Tryz.prog Tryz.sortS_ren := {
 mixed := by kernel_rfl
 f6 := ⟨Tryz.f49.name, by decide, Tryz.func49.trans (congrArg some (by kernel_rfl))⟩
 f14 := ⟨Tryz.f73.name, by decide, Tryz.func73.trans (congrArg some (by kernel_rfl))⟩
 f15 := Tryz.func74.trans (congrArg some (by kernel_rfl))
 f20 := ⟨Tryz.f87.name, by decide, Tryz.func87.trans (congrArg some (by kernel_rfl))⟩
 f21 := ⟨Tryz.f88.name, by decide, Tryz.func88.trans (congrArg some (by kernel_rfl))⟩
 f22 := ⟨Tryz.f89.name, by decide, Tryz.func89.trans (congrArg some (by kernel_rfl))⟩
 f23 := ⟨Tryz.f90.name, by decide, Tryz.func90.trans (congrArg some (by kernel_rfl))⟩
 f24 := ⟨Tryz.f91.name, by decide, Tryz.func91.trans (congrArg some (by kernel_rfl))⟩
 f25 := ⟨Tryz.f92.name, by decide, Tryz.func92.trans (congrArg some (by kernel_rfl))⟩
 f26 := ⟨Tryz.f93.name, by decide, Tryz.func93.trans (congrArg some (by kernel_rfl))⟩
 f27 := ⟨Tryz.f94.name, by decide, Tryz.func94.trans (congrArg some (by kernel_rfl))⟩
 f28 := Tryz.func95.trans (congrArg some (by kernel_rfl))
 f29 := Tryz.func96.trans (congrArg some (by kernel_rfl))
 f46 := ⟨Tryz.f103.name, by decide, Tryz.func103.trans (congrArg some (by kernel_rfl))⟩
 f47 := Tryz.func104.trans (congrArg some (by kernel_rfl))
 f48 := Tryz.func105.trans (congrArg some (by kernel_rfl))
 f49 := ⟨Tryz.f106.name, by decide, Tryz.func106.trans (congrArg some (by kernel_rfl))⟩
 f50 := ⟨Tryz.f107.name, by decide, Tryz.func107.trans (congrArg some (by kernel_rfl))⟩
 f57 := ⟨Tryz.f120.name, by decide, Tryz.func120.trans (congrArg some (by kernel_rfl))⟩
 t0 := Tryz.underlying0
 a0 := Tryz.isAgg0
 z0 := Tryz.sizeOf0
 v0 := Tryz.zeroValue0
 t3 := Tryz.underlying3
 a3 := Tryz.isAgg3
 z3 := Tryz.sizeOf3
 v3 := Tryz.zeroValue3
 t4 := Tryz.underlying4
 a4 := Tryz.isAgg4
 z4 := Tryz.sizeOf4
 v4 := Tryz.zeroValue4
 t5 := Tryz.underlying5
 a5 := Tryz.isAgg5
 z5 := Tryz.sizeOf5
 v5 := Tryz.zeroValue5
 t9 := Tryz.underlying9
 a9 := Tryz.isAgg9
 z9 := Tryz.sizeOf9
 v9 := Tryz.zeroValue9
 t22 := Tryz.underlying76
 a22 := Tryz.isAgg76
 z22 := Tryz.sizeOf76
 v22 := Tryz.zeroValue76
 t25 := Tryz.underlying103
 a25 := Tryz.isAgg103
 z25 := Tryz.sizeOf103
 v25 := Tryz.zeroValue103
 t39 := Tryz.underlying125
 a39 := Tryz.isAgg125
 z39 := Tryz.sizeOf125
 v39 := Tryz.zeroValue125
 t45 := Tryz.underlying137
 a45 := Tryz.isAgg137
 z45 := Tryz.sizeOf137
 v45 := Tryz.zeroValue137
 t46 := Tryz.underlying138
 a46 := Tryz.isAgg138
 z46 := Tryz.sizeOf138
 v46 := Tryz.zeroValue138
 t50 := Tryz.underlying91
 a50 := Tryz.isAgg91
 z50 := Tryz.sizeOf91
 v50 := Tryz.zeroValue91
 t53 := Tryz.underlying144
 a53 := Tryz.isAgg144
 z53 := Tryz.sizeOf144
 v53 := Tryz.zeroValue144
 t55 := Tryz.underlying41
 a55 := Tryz.isAgg41
 z55 := Tryz.sizeOf41
 v55 := Tryz.zeroValue41
 t66 := Tryz.underlying149
 a66 := Tryz.isAgg149
 z66 := Tryz.sizeOf149
 v66 := Tryz.zeroValue149
 t70 := Tryz.underlying153
 a70 := Tryz.isAgg153
 z70 := Tryz.sizeOf153
 v70 := Tryz.zeroValue153
 t76 := Tryz.underlying162
 a76 := Tryz.isAgg162
 z76 := Tryz.sizeOf162
 v76 := Tryz.zeroValue162
 t77 := Tryz.underlying84
 a77 := Tryz.isAgg84
 z77 := Tryz.sizeOf84
 v77 := Tryz.zeroValue84 }
end Go.Proofs
namespace Go.Proofs.YteadghoojeehlaaGreatDoor
open Go.RowKit
set_option linter.unusedSimpArgs false
set_option linter.unusedVariables false
def ordS (p q : Nat → Bool) : Int := if lessS p q then -1 else if lessS q p then 1 else 0
set_option maxHeartbeats 4000000 in
set_option maxRecDepth 100000 in
theorem bsOrder_gr (p q : Nat → Bool) (w : World) :
  Calls Tryz.prog 50 #[.agg (wds p).toArray, .agg (wds q).toArray] w fun e w' => e = .returned (.int .i64 (ordS p q)) ∧ Gr w w' := by
 go_enter Tryz.func50, Tryz.ntmps50
 go_wp2_with (first
  | ((with_reducible refine atDst 2 ?_); refine wpList_boxE rfl 43 _ rfl (wds p) rfl ?_; intro w1 hk1 hb1 hs1 _; have K1 := qH hk1; have G1 := qH hb1; clear hk1 hb1 hs1)
  | ((with_reducible refine atDst 3 ?_); refine wpList_boxE rfl 43 _ rfl (wds q) rfl ?_; intro w2 hk2 hb2 hs2 ho2; have L2 := qH hk2; have G2 := qH (G1.out.trans hb2); have K2 := qH (show Blk w2 w.heap.size 43 (wds p) from (ho2 _ K1.out.lt).trans K1.out); clear hk2 hb2 hs2 ho2)
  | ((with_reducible refine atDst 6 ?_); refine wpList_ldArr rfl 43 _ rfl w.heap.size rfl 43 _ _ K2.out Tryz.underlying43 rfl (size_set p) ?_)
  | ((with_reducible refine atDst 7 ?_); refine wpList_ldArr rfl 43 _ rfl w1.heap.size rfl 43 _ _ L2.out Tryz.underlying43 rfl (size_set q) ?_))
 refine (bsLess_gr p q w2).mono ?_
 rintro e w3 ⟨rfl, hb3⟩
 have G3 := qH (G2.out.trans hb3)
 have K3 := qH (K2.out.below hb3.below K2.out.lt)
 have L3 := qH (L2.out.below hb3.below L2.out.lt)
 clear hb3
 cases h1 : lessS p q with
 | true =>
  have HR := qH (show ordS p q = -1 by unfold ordS; rw [h1]; rfl)
  clear h1
  go_wp2_with fail
  go_ret
  rw [HR.out]
  exact ⟨rfl, G3.out⟩
 | false =>
  have H1 := qH h1
  clear h1
  go_wp2_with (first
   | ((with_reducible refine atDst 10 ?_); refine wpList_ldArr rfl 43 _ rfl w1.heap.size rfl 43 _ _ L3.out Tryz.underlying43 rfl (size_set q) ?_)
   | ((with_reducible refine atDst 11 ?_); refine wpList_ldArr rfl 43 _ rfl w.heap.size rfl 43 _ _ K3.out Tryz.underlying43 rfl (size_set p) ?_))
  refine (bsLess_gr q p w3).mono ?_
  rintro e w4 ⟨rfl, hb4⟩
  have G4 := qH (G3.out.trans hb4)
  clear hb4
  cases h2 : lessS q p with
  | true =>
   have HR := qH (show ordS p q = 1 by unfold ordS; rw [H1.out, h2]; rfl)
   clear h2
   go_wp2_with fail
   go_ret
   rw [HR.out]
   exact ⟨rfl, G4.out⟩
  | false =>
   have HR := qH (show ordS p q = 0 by unfold ordS; rw [H1.out, h2]; rfl)
   clear h2
   go_wp2_with fail
   go_ret
   rw [HR.out]
   exact ⟨rfl, G4.out⟩
theorem ord_lt (p q : Nat → Bool) : ltOf ordS p q = lessS p q := by
 unfold ltOf ordS
 cases h : lessS p q with
 | true => simp
 | false => cases h2 : lessS q p <;> simp
theorem swoS : Sort.SWO (ltOf ordS) where
 irrefl p := by rw [ord_lt]; exact lessS_irrefl p
 trans p q r h k := by rw [ord_lt] at *; exact lessS_trans h k
 ntrans p q r h k := by
  rw [ord_lt] at *
  cases hpr : lessS p r with
  | false => rfl
  | true =>
   have e1 := lessS_not h
   have e2 := lessS_not k
   cases hqp : lessS q p with
   | true => rw [lessS_trans hqp hpr] at k; cases k
   | false =>
    rw [hqp, Bool.not_false] at e1
    have := (eqS_iff p q).1 e1
    rw [lessS_congr this (fun _ _ => rfl)] at hpr
    rw [hpr] at k; cases k
theorem flat_sets (ps : List (Nat → Bool)) : Sort.flatK wds 4 ps.toArray = (sets ps).toArray := by
 apply Array.ext
 ·simp [sets_length]
 ·intro t h1 h2
  have ht : t < ps.length * 4 := by simpa using h1
  have hk : t / 4 < ps.length := by omega
  have hg := sets_get (qs := ps) (k := t / 4) (q := ps[t / 4]) (List.getElem?_eq_getElem hk) (t % 4) (Nat.mod_lt _ (by omega))
  rw [show t / 4 * 4 + t % 4 = t by omega, List.getElem?_eq_getElem (by rw [sets_length]; exact ht), List.getElem?_eq_getElem (by rw [wds_length]; exact Nat.mod_lt _ (by omega))] at hg
  have e := Option.some.inj hg
  simp only [Sort.flatK, Array.getElem_map, Array.getElem_range, List.getElem_toArray, e]
  rw [getElem!_pos (ps.toArray) (t / 4) (by simpa using hk), List.getElem_toArray, getElem!_pos _ (t % 4) (by rw [wds_length]; exact Nat.mod_lt _ (by omega))]
theorem holds_sets {w : World} {base : Nat} {e : TypeId} {v : Value} {ps : List (Nat → Bool)} (h : w.ownsRow base e 4 v ps.length (sets ps)) (hne : 0 < ps.length) :
  ∃ g cap, v = .slice (some ⟨g, 0, none⟩) ps.length cap ∧ base ≤ g ∧ g < w.heap.size ∧ ps.length ≤ cap ∧ cap ≤ maxLen ∧ Sort.HoldsK wds 4 w g 0 ps.toArray := by
 rcases h.2 with ⟨_, h0⟩ | ⟨g, cap, cur, rfl, hb, hg, hn, hm, hs, ht⟩
 ·omega
 ·have hlt : g < w.heap.size := (Array.getElem?_eq_some_iff.1 hg).1
  refine ⟨g, cap, rfl, hb, hlt, hn, hm, ?_⟩
  unfold Sort.HoldsK
  rw [flat_sets]
  intro j hj
  have hj' : j < ps.length * 4 := by simpa [sets_length] using hj
  refine ⟨?_, by simp [World.frozen?, hg]⟩
  have e1 : (cur.toList.take (ps.length * 4))[j]? = (sets ps)[j]? := by rw [ht]
  rw [List.getElem?_take, if_pos hj', Array.getElem?_toList] at e1
  rw [cell_of_row w g (0 + j) cur e (0, 0) hg, Nat.zero_add, e1, List.getElem?_eq_getElem (by rw [sets_length]; exact hj'), getElem!_pos _ j hj]
  simp
theorem rowS_holds {w : World} {g cap : Nat} {d : Array (Nat → Bool)} (h : Sort.HoldsK wds 4 w g 0 d) (hlt : g < w.heap.size) (hc : d.size ≤ cap) (hm : cap ≤ maxLen) : RowS w (.slice (some ⟨g, 0, none⟩) d.size cap) d.toList := by
 refine ⟨_, cap, by simp, by simpa using hc, hm, (fun h => by cases h), fun _ => ⟨g, 0, rfl, hlt, fun i p hp j v hv => ?_⟩⟩
 have hi : i < d.size := by simpa using (List.getElem?_eq_some_iff.1 hp).1
 have hj : j < 4 := by simpa [wds_length] using (List.getElem?_eq_some_iff.1 hv).1
 have e := (h.cell hi hj).1
 have ep : d[i]! = p := by
  rw [getElem!_pos d i hi]
  have : d.toList[i]? = some d[i] := by simp [hi]
  rw [this] at hp
  exact Option.some.inj hp
 rw [ep, getElem!_pos (wds p) j (by rw [wds_length]; exact hj)] at e
 rw [List.getElem?_eq_getElem (by rw [wds_length]; exact hj)] at hv
 rw [e, hv]
theorem below_grow {B : Nat} {w0 w : World} (h : Below B w0 w) (os : Array Obj) (hB : B ≤ w.heap.size) : Below B w0 (Sort.grow w os) :=
 ⟨h.os, h.tape, h.output, by have := h.size; simp [Sort.grow]; omega, fun k hk => by
  show (w.heap ++ os)[k]? = _
  rw [Array.getElem?_append_left (by omega)]
  exact h.block k hk⟩
theorem cmpS (blk off size : Nat) (w : World) : CmpLays Tryz.prog 50 #[] wds 4 ordS blk off size w :=
 fun _ _ _ _ p q => (bsOrder_gr p q _).mono fun _ _ h => h
theorem size_of_set : ∀ w, (Go.sizeOf 43).run Tryz.prog w = .ok 4 w := by
 intro w
 have h : (Tryz.prog.info? 43).map (·.size) = some 4 := by kernel_rfl
 cases hi : Tryz.prog.info? 43 with
 | none => rw [hi] at h; cases h
 | some i =>
  rw [hi] at h
  have h' : i.size = 4 := by simpa using h
  simp [Go.sizeOf, typeInfo, hi, h']
theorem isAgg_set : ∀ w, (isAgg 43).run Tryz.prog w = .ok true w := Tryz.isAgg43
theorem sort_any (base : Nat) (v : Value) (ps : List (Nat → Bool)) (w : World) (h : w.ownsRow base 43 4 v ps.length (sets ps)) (hne : 0 < ps.length) (hl : ps.length ≤ 1048576) :
  Calls Tryz.prog 49 #[v, .func (.func 50) #[] #[]] w fun e w' =>
   e = .returned (.tuple #[]) ∧ ∃ qs, qs.Perm ps ∧ qs.Pairwise (fun p q => lessS q p = false) ∧ RowS w' v qs ∧ Below base w w' := by
 obtain ⟨g, cap, rfl, hb, hlt, hc, hm, hH⟩ := holds_sets h hne
 have eg : ∀ args w, (callFunc 50 args).run Tryz.prog w = .ok (.enter 50 args) w := enters_of Tryz.func50 (by kernel_rfl) rfl
 have hcon := AnyQ.slices_SortFunc Tryz.sortS 4 isAgg_set size_of_set wds (fun _ => rfl) (fun p v hv => List.all_eq_true.1 (wds_all p) v hv) ordS swoS 50 #[] g 0 cap ps.toArray w eg (cmpS g 0 ps.toArray.size w) hH hlt (by simp; omega)
 have hsz : ps.toArray.size = ps.length := by simp
 rw [hsz] at hcon
 refine Calls.mono hcon fun e w' hp => ?_
 obtain ⟨he, d', n, os, hperm, hsort, rfl⟩ := hp
 have hs' : d'.size = ps.length := by rw [hperm.1, hsz]
 refine ⟨he, d'.toList, ?_, ?_, ?_, ?_⟩
 ·have := hperm.2.2
  rw [show d'.extract 0 ps.length = d' by rw [← hs']; simp, show ps.toArray.extract 0 ps.length = ps.toArray by rw [← hsz]; simp] at this
  simpa using this
 ·rw [List.pairwise_iff_getElem]
  intro i j hi hj hij
  have hi' : i < d'.size := by simpa using hi
  have hj' : j < d'.size := by simpa using hj
  have := hsort i j (Nat.zero_le _) hij (by omega)
  rw [ord_lt, getElem!_pos d' j hj', getElem!_pos d' i hi'] at this
  simpa using this
 ·have hK := holdsK_sortWorldK_c wds 4 w g 0 ps.toArray d' n os hH hlt (by rw [hs', hsz])
  have hz := size_sortWorldK_c wds 4 w g 0 n d' os
  have := rowS_holds hK (Nat.lt_of_lt_of_le hlt hz) (by rw [hs']; exact hc) hm
  rw [hs'] at this
  exact this
 ·exact below_grow (Lib.below_putRow (Below.refl base w) hb) os (by simp [Sort.putRow, Sort.mapBlock, Sort.ahead]; omega)
theorem own4Mono {w : World} {base base' n k : Nat} {e : TypeId} {v : Value} {xs : List Value} (h : w.ownsRow base e k v n xs) (hb : base' ≤ base) : w.ownsRow base' e k v n xs := by
 refine ⟨h.1, ?_⟩
 rcases h.2 with h0 | ⟨g, cap, cur, rfl, hb2, h3⟩
 ·exact .inl h0
 ·exact .inr ⟨g, cap, cur, rfl, Nat.le_trans hb hb2, h3⟩
theorem own4_blk {w : World} {g base : Nat} {e : TypeId} {q : Nat → Bool} (h : Blk w g e (sets [q])) (hb : base ≤ g) : w.ownsRow base e 4 (.slice (some ⟨g, 0, none⟩) 1 1) [q].length (sets [q]) :=
 ⟨by simp [sets_length], .inr ⟨g, 1, (sets [q]).toArray, rfl, hb, h, Nat.le_refl _, by unfold maxLen; omega, by simp [sets_length], by simp [sets, wds]⟩⟩
theorem rowS_norm {w : World} {v : Value} {qs rs : List (Nat → Bool)} (h : RowS w v qs) (he : qs.map norm = rs.map norm) : RowS w v rs := by
 have hl : qs.length = rs.length := by have := congrArg List.length he; simpa using this
 obtain ⟨A, cap, hv, h1, h2, h0, h3⟩ := h
 refine ⟨A, cap, by rw [← hl]; exact hv, by rw [← hl]; exact h1, h2, h0, fun hne => ?_⟩
 obtain ⟨b, off, hA, hlt, hc⟩ := h3 (by rintro rfl; rw [List.length_nil] at hl; exact hne (List.eq_nil_of_length_eq_zero hl.symm))
 refine ⟨b, off, hA, hlt, fun i p hp => ?_⟩
 have hi : i < rs.length := (List.getElem?_eq_some_iff.1 hp).1
 have h4 := hc i qs[i] (List.getElem?_eq_getElem (by omega))
 have e1 : (qs.map norm)[i]? = (rs.map norm)[i]? := by rw [he]
 rw [List.getElem?_map, List.getElem?_map, hp, List.getElem?_eq_getElem (by omega)] at e1
 have e2 : norm qs[i] = norm p := by simpa using e1
 rw [← wds_norm p, ← e2, wds_norm]
 exact h4
set_option maxHeartbeats 8000000 in
set_option maxRecDepth 100000 in
theorem bsParts_own (v : Value) (ps : List (Nat → Bool)) (w : World) (hr : RowS w v ps) (hl : ps.length ≤ 2000) :
  Calls Tryz.prog 29 #[v] w fun e w' => ∃ v', e = .returned v' ∧ RowS w' v' (parts ps) ∧ (∀ k, v'.ownBlock = some k → w.heap.size ≤ k) ∧ Below w.heap.size w w' := by
 have R0 := qH hr
 obtain ⟨A, cap, rfl, a1, a2, a0, a3⟩ := hr
 clear a3 a0 a2
 obtain ⟨i0, hi0, hz0⟩ := info_set
 obtain ⟨i1, hi1, hy0, hy1, hy2⟩ := infoP inf_set
 obtain ⟨z, hz⟩ : ∃ z : Nat → Bool, z = fun _ => false := ⟨_, rfl⟩
 rw [← hz] at hz0
 have HZB := qH (show Tryz.prog.built 43 [] = some (wds z).toArray by rw [hz]; exact zeroB)
 obtain ⟨u, hu⟩ : ∃ u : Nat → Bool, u = fun b => !z b := ⟨_, rfl⟩
 have HCU := qH (show curS [] = [u] by rw [hu, hz]; rfl)
 have HU := qH hu
 clear hz hu
 go_enter Tryz.func29, Tryz.ntmps29
 go_wp2_with ((with_reducible refine atDst 6 ?_); refine wpList_bld rfl 43 #[] rfl (wds z) HZB.out ?_)
 refine (bsNot_any z w).mono ?_
 rintro e w1 ⟨rfl, hb1⟩
 rw [← HU.out]
 have B1 := qH hb1
 clear hb1
 go_wp2_with ((with_reducible refine atDst 8 ?_); refine wpList_bldSet1 rfl 76 43 (.tmp 7) rfl i1 Tryz.underlying76 hi1 hy0 hy1 u rfl ?_; intro w2 hk2 hb2; have O2 := qH (show w2.ownsRow w.heap.size 43 4 _ _ _ from own4_blk hk2 B1.out.size); have B2 := qH (B1.out.trans (hb2.mono B1.out.size)); clear hk2 hb2)
 go_loopw [3, 11] (fun v i wl => ∃ j : Nat, j ≤ ps.length ∧ i = .int .i64 (j : Int) ∧ wl.ownsRow w.heap.size 43 4 v (curS (ps.take j)).length (sets (curS (ps.take j))) ∧ Below w.heap.size w wl) (fun _ i _ => ps.length - (intOf i).toNat)
 case atStart => exact ⟨0, by omega, by simp, by rw [List.take_zero, HCU.out]; exact O2.out, B2.out⟩
 case round =>
  obtain ⟨j, hj, rfl, ho, hb⟩ := hrel
  have HO := qH ho
  have HB := qH hb
  clear ho hb
  by_cases hjl : j < ps.length
  ·have j1 : (j : Int) < (ps.length : Int) := by omega
   obtain ⟨b0, off, rfl, hb0, hrng⟩ := (R0.out.below HB.out).at_ (by omega)
   obtain ⟨p, hp⟩ : ∃ p, p = ps[j] := ⟨_, rfl⟩
   have HRG := qH (hrng j p (by rw [hp]; exact List.getElem?_eq_getElem hjl))
   have HNX := qH (show curS (ps.take (j + 1)) = splitS (curS (ps.take j)) p by rw [List.take_succ_eq_append_getElem hjl, curS_more, hp])
   have HCL := qH (curS_le (ps.take j))
   obtain ⟨cur, hcur⟩ : ∃ cur, cur = curS (ps.take j) := ⟨_, rfl⟩
   rw [← hcur] at HO HNX HCL
   clear hp hrng hcur
   go_wp2_with (first
    | ((with_reducible refine atDst 14 ?_); refine wpList_ldMid rfl 43 _ rfl b0 (off + j * 4) rfl (wds p) _ HRG.out Tryz.underlying43 rfl (size_set p) ?_)
    | ((with_reducible refine atDst 5 ?_); refine wpList_new rfl 43 rfl i0 _ (wds z) hi0 hz0 rfl (Below.refl wr.heap.size wr) (Nat.le_refl _) ?_; intro w3 hk3 hb3 hs3 ho3; have K3 := qH hk3; have B3 := qH hb3; clear hk3 hb3 hs3 ho3)
    | ((with_reducible refine atStore 43 5 14 ?_); refine wpList_stBlk rfl 43 _ _ rfl wr.heap.size (wds p) rfl rfl 43 _ K3.out (size_set p) rfl (wds_all _) B3.out (Nat.le_refl _) ?_; intro w4 hk4 hb4 hs4 _; have K4 := qH hk4; have B4 := qH hb4; have BB4 := qH (HB.out.trans (hb4.mono HB.out.size)); have O4 := qH (own4Below HO.out hb4 (Nat.le_refl _)); clear hk4 hb4 hs4)
    | ((with_reducible refine atDst 16 ?_); refine wpList_ldArr rfl 43 _ rfl wr.heap.size rfl 43 _ _ K4.out Tryz.underlying43 rfl (size_set p) ?_))
   refine (bsSplit_any _ cur p w4 (own4_row O4.out) HCL.out).mono ?_
   rintro e w5 ⟨v5, rfl, ho5, hb5⟩
   have O5 := qH (own4Mono ho5 BB4.out.size)
   have B5 := qH (BB4.out.trans (hb5.mono BB4.out.size))
   clear ho5 hb5
   go_wp2_with fail
   refine ⟨⟨j + 1, by omega, by congr 1, ?_, B5.out⟩, by simp [intOf] <;> omega⟩
   rw [HNX.out]
   exact O5.out
  ·obtain rfl : j = ps.length := by omega
   have j1 : ¬ ((ps.length : Int) < (ps.length : Int)) := by omega
   have o9 := HO.out
   rw [List.take_length] at o9
   have O9 := qH o9
   clear o9 HO
   go_wp2_with fail
   have HAB := qH (own4_above O9.out)
   refine (sort_any w.heap.size _ (curS ps) wr O9.out (curS_pos ps) (Nat.le_trans (curS_le ps) (by omega))).mono ?_
   rintro e w6 ⟨rfl, qs, hperm, hpw, hrow, hb6⟩
   have R6 := qH (rowS_norm hrow (sorted_parts (cut_cur ps) hperm hpw))
   have B6 := qH (HB.out.trans hb6)
   clear hperm hpw hrow hb6
   go_wp2_with fail
   go_ret
   exact ⟨_, rfl, R6.out, HAB.out, B6.out⟩
end Go.Proofs.YteadghoojeehlaaGreatDoor
