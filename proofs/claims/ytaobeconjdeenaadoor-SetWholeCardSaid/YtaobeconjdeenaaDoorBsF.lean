/-
  What package byteset (List) answers and leaves, where the table of bits lies as its initialiser lays it. No statement is proved here.
-/
import Derived.Test.YtaobeconjdeenaaDoorBsE
namespace Go.Proofs.YtaobeconjdeenaaDoor
open Go.RowKit
set_option linter.unusedSimpArgs false
set_option linter.unusedVariables false

/-- 'make([]T, 0, c)', T of one cell: a row of the call's own. -/
theorem wpList_mkOwn {P : Program} {w : World} {ops : Array Oper} {rest : List Oper} {o : Oper} {a : Act} {Q : Exit → Act → World → Prop} (hg : o.guard = none) (l c : Operand) (t : TypeId) (hop : o.op = Op.makeSlice t l c)
    (base : Nat) (e : TypeId) (i : TypeInfo) (z : Value) (size : Nat) (h1 : P.underlying t = some (.slice e)) (h2 : P.info? e = some i) (h3 : i.zero = some z) (h4 : i.size = size)
    (n : Nat) (hl : a.eval l = .int .i64 0) (hc : a.eval c = .int .i64 (n : Int)) (hn : n ≤ maxLen) (hby : i.bytes * n ≤ 281474976710656) (hb : base ≤ w.heap.size)
    (h : ∀ w', w'.ownsRow base e size (.slice (some ⟨w.heap.size, 0, none⟩) 0 n) 0 [] → w.grownBy w' none → wpList P ops Q rest (a.put o.dst (.slice (some ⟨w.heap.size, 0, none⟩) 0 n)) w') :
    wpList P ops Q (o :: rest) a w := by
  refine wpList_plain hg fun K hK' => ?_
  obtain ⟨w', hr, ho, hgw⟩ := run_make_own (P := P) w base t e i z size h1 h2 h3 h4 .i64 .i64 n hby hn hb
  unfold Oper.wp
  simp [execOp, hop, hl, hc, hr, Result.andThen]
  exact hK' _ _ (h _ ho hgw)

theorem jk_lt {j k : Nat} (hj : j < 4) (hk : k < 64) : 64 * j + k < 256 := by omega
theorem wrap8N (n : Nat) (h : n < 256) : IntKind.u8.wrap (n : Int) = (n : Int) := IntWalk.u8_in _ (by omega)
theorem pred_wrap (y : Nat) (h0 : y ≠ 0) (h : y < 18446744073709551616) : IntKind.u64.wrap ((y : Int) - 1) = ((y - 1 : Nat) : Int) := by
  rw [show (y : Int) - 1 = ((y - 1 : Nat) : Int) by omega]
  exact wrapN _ (by omega)
theorem wrap_j (j : Nat) (h : j < 4) : wrap64 ((j : Int) * 64) = (j : Int) * 64 := IntWalk.wrap64_in _ (by omega)
theorem wrap_jk (j k : Nat) (h : j < 4) (hk : k < 64) : wrap64 ((j : Int) * 64 + (k : Int)) = ((64 * j + k : Nat) : Int) := by
  rw [show (j : Int) * 64 + (k : Int) = ((64 * j + k : Nat) : Int) by omega]
  exact IntWalk.wrap64_in _ (by omega)
set_option maxHeartbeats 4000000 in
set_option maxRecDepth 100000 in
theorem bsList_any (p : Nat → Bool) (w : World) (hT : Tb w) :
    Calls Tryd.prog 21 #[.agg (wds p).toArray] w fun e w' => ∃ v, e = .returned v ∧ Row w' v (bvs (memJ p 256)) ∧ Below w.heap.size w w' := by
  have HT := Lib.hid hT
  clear hT
  obtain ⟨i1, hi1, hy0, hy1, hy2⟩ := infoP inf_u8
  obtain ⟨cs, hcs⟩ : ∃ cs, cs = wds p := ⟨_, rfl⟩
  have HCS := Lib.hid hcs
  have HSZ := Lib.hid (show (Tryd.prog.info? 24).map (·.size) = some cs.length by rw [hcs]; exact size_set p)
  have HG := Lib.hid (show ∀ (i : Nat) (_ : i < 4) (w : World), (Instr.index 24 (.agg cs.toArray) (.int .i64 (i : Int))).run Tryd.prog w = .ok (.int .u64 (word p i : Int)) w by rw [hcs]; exact idx_set p)
  rw [← hcs]
  clear hcs
  have HLEN := Lib.hid (memJ_len p 256)
  go_enter Tryd.func21, Tryd.ntmps21
  go_wp2_with (first
    | ((with_reducible refine atDst 1 ?_); refine wpList_box rfl 24 _ rfl cs rfl (Below.refl w.heap.size w) (Nat.le_refl _) ?_; intro w1 hk1 hb1 hs1 _; have K1 := Lib.hid hk1; have B1 := Lib.hid hb1; clear hk1 hb1 hs1)
    | ((with_reducible refine atDst 6 ?_); refine wpList_ldArr rfl 24 _ rfl w.heap.size rfl 24 _ _ K1.out Tryd.underlying24 rfl HSZ.out ?_))
  rw [HCS.out]
  refine (bsLen_any p w1).mono ?_
  rintro e w2 ⟨rfl, hb2⟩
  rw [← HCS.out]
  obtain ⟨n, hn⟩ : ∃ n, n = (memJ p 256).length := ⟨_, rfl⟩
  rw [← hn]
  have HN := Lib.hid (show n ≤ 256 by rw [hn]; exact HLEN.out)
  have K2 := Lib.hid (K1.out.below hb2 K1.out.lt)
  have B2 := Lib.hid (B1.out.trans (hb2.mono B1.out.size))
  clear hb2 hn
  go_wp2_with (first
    | ((with_reducible refine atDst 8 ?_); refine wpList_mkOwn rfl _ _ 25 rfl w2.heap.size 5 i1 (.int .u8 0) 1 Tryd.underlying25 hi1 hy0 hy1 n rfl rfl (by have := HN.out; unfold maxLen; omega) (by have := HN.out; rw [hy2]; omega) (Nat.le_refl _) ?_; intro w3 ho3 hg3; have O3 := Lib.hid ho3; have b3 := (Below.refl w2.heap.size w2).grown hg3 (Nat.le_refl _) (fun q hq => by cases hq); have K3 := Lib.hid (K2.out.below b3 K2.out.lt); have B3 := Lib.hid (B2.out.trans (b3.mono B2.out.size)); have S3 := Lib.hid b3.size; clear ho3 hg3 b3)
    | ((with_reducible refine atDst 9 ?_); refine wpList_ldArr rfl 24 _ rfl w.heap.size rfl 24 _ _ K3.out Tryd.underlying24 rfl HSZ.out ?_))
  go_loopw [3, 10] (fun v i wl => ∃ j : Nat, j ≤ 4 ∧ i = .int .i64 (j : Int) ∧ wl.ownsRow w2.heap.size 5 1 v (memJ p (64 * j)).length (bvs (memJ p (64 * j))) ∧ Below w2.heap.size w3 wl) (fun _ i _ => 4 - (intOf i).toNat)
  case atStart => exact ⟨0, by omega, by simp, O3.out, Below.refl _ _⟩
  case round =>
    obtain ⟨j, hj, rfl, ho, hb⟩ := hrel
    have HO := Lib.hid ho
    have HB := Lib.hid hb
    clear ho hb
    obtain ⟨wo, hwo⟩ : ∃ wo : World, wo = wr := ⟨_, rfl⟩
    subst hwo
    by_cases hjl : j < 4
    · have j1 : (j : Int) < 4 := by omega
      have hix := HG.out j hjl
      obtain ⟨x, hx⟩ : ∃ x, x = word p j := ⟨_, rfl⟩
      rw [← hx] at hix
      have HX := Lib.hid (show x = left p j 0 by rw [hx, left_zero])
      clear hx
      go_wp2_with fail
      go_loopw [3, 5] (fun v y wl => ∃ c : Nat, c ≤ 64 ∧ y = .int .u64 (left p j c : Int) ∧ wl.ownsRow w2.heap.size 5 1 v (memJ p (64 * j + c)).length (bvs (memJ p (64 * j + c))) ∧ Below w2.heap.size w3 wl) (fun _ y _ => (intOf y).toNat)
      case atStart => exact ⟨0, by omega, by rw [HX.out], HO.out, HB.out⟩
      case round =>
        obtain ⟨c, hc, rfl, ho, hb⟩ := hrel
        have HO2 := Lib.hid ho
        have HB2 := Lib.hid hb
        have HC := Lib.hid hc
        clear ho hb hc HO HB
        have HLY := Lib.hid (left_lt p j c)
        have HN0 := Lib.hid (left_none p j c HC.out)
        have HNX := Lib.hid (left_next p j c)
        obtain ⟨y, hy⟩ : ∃ y, y = left p j c := ⟨_, rfl⟩
        rw [← hy] at HN0 HNX HLY ⊢
        have HY := Lib.hid hy
        clear hy
        by_cases hy0 : y = 0
        · have hyb : ((y : Int) != 0) = false := by rw [hy0]; rfl
          have HM := Lib.hid (HN0.out hy0)
          clear hy0
          go_wp2_with fail
          refine ⟨⟨j + 1, by omega, by congr 1, ?_, HB2.out⟩, by simp [intOf] <;> omega⟩
          rw [← HM.out]
          exact HO2.out
        · have hyb : ((y : Int) != 0) = true := by simpa using hy0
          obtain ⟨k, hk⟩ : ∃ k, k = Lib.ctz 64 y := ⟨_, rfl⟩
          obtain ⟨k1, k2, k3, k4⟩ := HNX.out k hy0 hk
          obtain ⟨y2, hy2'⟩ : ∃ y2, y2 = y &&& (y - 1) := ⟨_, rfl⟩
          rw [← hy2'] at k3 k4
          have HTZ := Lib.hid (tz_any y HLY.out hy0 wr (HT.out.belowG (B3.out.trans (HB2.out.mono B2.out.size)) HT.out.lt))
          rw [← hk] at HTZ
          have hly := HLY.out
          have hw1 : IntKind.u64.wrap ((y : Int) - 1) = ((y - 1 : Nat) : Int) := by
            exact pred_wrap y hy0 hly
          have hw2 : bits .and .u64 (y : Int) ((y - 1 : Nat) : Int) = (y2 : Int) := by
            rw [u64_and_nat y (y - 1) hly (Nat.lt_of_le_of_lt (Nat.sub_le _ _) hly), hy2']
          have hw3 : wrap64 ((j : Int) * 64) = (j : Int) * 64 := wrap_j j hjl
          have hw4 : wrap64 ((j : Int) * 64 + (k : Int)) = ((64 * j + k : Nat) : Int) := by
            exact wrap_jk j k hjl k1
          have hjk : 64 * j + k < 256 := jk_lt hjl k1
          have hw5 : IntKind.u8.wrap ((64 * j + k : Nat) : Int) = ((64 * j + k : Nat) : Int) := wrap8N _ hjk
          obtain ⟨b, hb⟩ : ∃ b, b = 64 * j + k := ⟨_, rfl⟩
          rw [← hb] at hw4 hw5 hjk k2
          have HK2 := Lib.hid k2
          have HK3 := Lib.hid k3
          have HK4 := Lib.hid k4
          have HK1 := Lib.hid k1
          have HML := Lib.hid (memJ_len p (64 * j + c))
          have HJC := Lib.hid (show 64 * j + c ≤ 256 by have := HC.out; omega)
          clear hk k1 k2 k3 k4 hy2' hb hly hy0
          have R1 := Lib.hid (rowB (n := 1) (show Blk (wr.alloc (.cells #[.int .u8 (b : Int)] 5)) wr.heap.size 5 (bvs [UInt8.ofNat b]) by
            have := Blk.new wr 5 (bvs [UInt8.ofNat b])
            rw [show bvs [UInt8.ofNat b] = [.int .u8 (b : Int)] from congrArg (fun x => [x]) (bv_ofNat hjk)] at this ⊢
            exact this) rfl (by omega))
          go_wp2_with fail
          refine HTZ.out.mono ?_
          rintro e w4 ⟨rfl, rfl⟩
          go_wp2_with ((with_reducible refine atDst 28 ?_); refine wpList_appG (base := w2.heap.size) rfl (.tmp 20) (.tmp 27) 25 rfl 5 i1 (.int .u8 0) 1 Tryd.underlying25 hi1 hy0 hy1 hy2 rfl _ _ _ rfl (HO2.out.alloc _) _ (bvs [UInt8.ofNat b]) rfl R1.out (bvs_one _) (by have := HML.out; have := HJC.out; rw [bvs_length]; simp; omega) (by omega) (by have := HB2.out.size; have := S3.out; simp; omega) ?_; intro v5 w5 ho5 hg5; have O5 := Lib.hid ho5; have B5 := Lib.hid (Below.grown (Below.alloc HB2.out (by have := HB2.out.size; have := S3.out; omega) (.cells #[.int .u8 (b : Int)] 5)) hg5 (by have := HB2.out.size; have := S3.out; simp; omega) (own_above HO2.out)); clear ho5 hg5)
          refine ⟨⟨k + 1, by have := HK1.out; omega, by rw [HK3.out], ?_, B5.out⟩, by have := HK4.out; simp [intOf] <;> omega⟩
          rw [HK2.out, bvs_append, List.length_append]
          exact O5.out
    · obtain rfl : j = 4 := by omega
      have j1 : ¬ ((4 : Int) < 4) := by omega
      have R9 := Lib.hid (Row.of_own HO.out)
      have B9 := Lib.hid (B3.out.trans (HB.out.mono B2.out.size))
      clear HO
      go_wp2_with fail
      go_ret
      exact ⟨_, rfl, R9.out, B9.out⟩
end Go.Proofs.YtaobeconjdeenaaDoor
