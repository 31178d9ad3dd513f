/-
  Texts of this proof, put together: SpF, SpG. No statement is proved here.
-/
import Derived.Test.YtmcpfaaakmehdaaRBF
namespace Go.Proofs.Ytmcpfaaakmehdaa
open Go.RowKit
set_option linter.unusedSimpArgs false
set_option linter.unusedVariables false
def stR (u : Nat → Nat → Bool) (n i : Nat) (r : Nat → Bool) (p q : Nat) : Bool := if p < i then stJ u p n q else if p = i then r q else false
def stK (u : Nat → Nat → Bool) (i j k q : Nat) : Bool := if q < k then stJ u i (j + 1) q else stJ u i j q
theorem stK_start {u : Nat → Nat → Bool} {i j : Nat} : stK u i j (j + 1) = stJ u i j := by
 funext q
 unfold stK
 by_cases h : q < j + 1
 ·rw [if_pos h, stJ_low (by omega)]
 ·rw [if_neg h]
theorem stK_at (u : Nat → Nat → Bool) (i j k : Nat) : stK u i j k k = stJ u i j k := by unfold stK; rw [if_neg (by omega)]
theorem stK_low {u : Nat → Nat → Bool} {i j k : Nat} (h : j < k) : stK u i j k j = stJ u i j j := by unfold stK; rw [if_pos h, stJ_low (Nat.le_refl _)]
theorem stK_put {u : Nat → Nat → Bool} {i j k : Nat} (hi : i ≤ j) (hj : j < k) (h : stJ u i j j = true) : updB (stK u i j k) k (stJ u i j k || u j k) = stK u i j (k + 1) := by
 funext q
 unfold updB stK
 by_cases hq : q = k
 ·subst hq
  rw [if_pos rfl, if_pos (by omega), stJ_at hi hj h]
 ·rw [if_neg hq]
  by_cases h2 : q < k
  ·rw [if_pos h2, if_pos (by omega)]
  ·rw [if_neg h2, if_neg (by omega)]
theorem stR_at (u : Nat → Nat → Bool) (n i : Nat) (r : Nat → Bool) : stR u n i r i = r := by funext q; unfold stR; rw [if_neg (by omega), if_pos rfl]
theorem stR_put (u : Nat → Nat → Bool) (n i : Nat) (r : Nat → Bool) (q : Nat) (b : Bool) : upd2 (stR u n i r) i q b = stR u n i (updB r q b) := by
 funext p q'
 unfold upd2
 by_cases hp : p = i
 ·subst hp
  rw [if_pos rfl, stR_at, stR_at]
 ·rw [if_neg hp]
  unfold stR
  by_cases h : p < i
  ·rw [if_pos h, if_pos h]
  ·rw [if_neg h, if_neg h, if_neg hp, if_neg hp]
theorem stR_zero (u : Nat → Nat → Bool) (n : Nat) : stR u n 0 (fun _ => false) = fun _ _ => false := by
 funext p q
 unfold stR
 rw [if_neg (by omega)]
 split <;> rfl
theorem stR_one (u : Nat → Nat → Bool) (n i : Nat) : stR u n i (updB (fun _ => false) i true) = stR u n i (stJ u i i) := by
 congr 1
 funext q
 rw [stJ_start]
 unfold updB
 by_cases h : q = i
 ·rw [if_pos h]; exact (decide_eq_true h).symm
 ·rw [if_neg h]; exact (decide_eq_false h).symm
theorem stR_next {u : Nat → Nat → Bool} {n i p q : Nat} (hp : p < n) (hq : q < n) : stR u n i (stJ u i n) p q = stR u n (i + 1) (fun _ => false) p q := by
 unfold stR
 by_cases h : p < i
 ·rw [if_pos h, if_pos (by omega)]
 ·rw [if_neg h]
  by_cases h2 : p = i
  ·subst h2; rw [if_pos rfl, if_pos (by omega)]
  ·rw [if_neg h2, if_neg (by omega)]
   split <;> rfl
theorem stR_all {u : Nat → Nat → Bool} {n p q : Nat} (hp : p < n) (r : Nat → Bool) : stR u n n r p q = stJ u p n q := by unfold stR; rw [if_pos hp]
theorem stK_all {u : Nat → Nat → Bool} {n i j p q : Nat} (hq : q < n) : stR u n i (stK u i j n) p q = stR u n i (stJ u i (j + 1)) p q := by
 unfold stR stK
 rw [if_pos hq]
theorem stJ_no (i : Nat) : ∀ j, stJ (fun _ _ => false) i j = fun q => decide (q = i)
 | 0 => rfl
 | j + 1 => by
  funext q
  rw [stJ, stJ_no i j]
  simp
-- the row's own place
set_option maxHeartbeats 4000000 in
set_option maxRecDepth 1000000 in
theorem spans_k60 (s : Nat → Bool) (l : List T) (hl1 : l.length ≠ 1) (W : List UInt8) (hW : W.length ≤ 200) (V : Value) (cs : List Value) (w : World) (hr : Row w V (bvs W)) (hv : RxV w.heap.size w cs (.node 6 s l)) :
  Calls Try.prog 50 #[.agg cs.toArray, V] w (spPost (.node 6 s l) W w) := by
 have HL1 := qH hl1
 obtain ⟨u, hu⟩ : ∃ u : Nat → Nat → Bool, u = fun _ _ => false := ⟨_, rfl⟩
 have HU := qH hu
 clear hl1 hu
 have V0 := qH hv
 obtain ⟨A, cap, f, rfl, h1, h2, h0, h3, h4⟩ := hv.opened
 have H3 := qH h3
 have H4 := qH h4
 have HCL := qH h1
 have HCM := qH h2
 have RW := qH hr
 obtain ⟨AW, capW, rfl, _⟩ := hr
 have hbw : (bvs W).length = W.length := bvs_length W
 rw [hbw] at RW ⊢
 obtain ⟨cs, hcs⟩ : ∃ cs, cs = Value.int .i64 6 :: (wds s ++ [.slice A l.length cap]) := ⟨_, rfl⟩
 have HC0 := qH (show cs[0]? = some (.int .i64 6) by rw [hcs]; rfl)
 have HC5 := qH (show cs[5]? = some (.slice A l.length cap) by rw [hcs]; rfl)
 have HCS := qH hcs
 rw [← hcs] at V0 ⊢
 obtain ⟨n, hn⟩ : ∃ n, n = W.length + 1 := ⟨_, rfl⟩
 have HNW := qH hn
 have HN2 := qH (show n ≤ 201 by omega)
 have m1 : wrap64 ((W.length : Int) + 1) = (n : Int) := by rw [hn]; exact wrap_one _ (by omega)
 have m2 : IntKind.i64.wrap ((W.length : Int) + 1) = (n : Int) := by rw [hn]; exact wrap_one' _ (by omega)
 obtain ⟨i1, hi1, hz1, hs1, hy1⟩ := infoP inf_bools
 obtain ⟨i2, hi2, hz2, hs2, hy2⟩ := infoP inf_bool
 have HY1 := qH (show i1.bytes * n ≤ 281474976710656 by rw [hy1]; omega)
 have HY2 := qH (show i2.bytes * n ≤ 281474976710656 by rw [hy2]; omega)
 have HN3 := qH (show n ≤ 9223372036854775807 by omega)
 clear hv h1 h2 h0 h3 h4 hcs hn hW hy1 hy2 hbw
 have z1 : ((l.length : Int) == 1) = false := by have := HL1.out; simp; omega
 go_enter Try.func50, Try.ntmps50
 go_wp2_with (first
  | ((with_reducible refine atDst 2 ?_); refine wpList_box rfl 40 _ rfl cs rfl (Below.refl w.heap.size w) (Nat.le_refl _) ?_; intro w1 hk1 hb1 hs1 _; have K1 := qH hk1; have B1 := qH hb1; clear hk1 hb1 hs1; (try simp only [Act.put, qA, qB, qC]))
  | ((with_reducible refine atDst 21 ?_); refine wpList_mk _ rfl _ _ 81 rfl 66 i1 (.slice none 0 0) Try.underlying81 hi1 hz1 hs1 rfl n _ _ _ _ rfl rfl rfl rfl HY1.out HN3.out ?_; intro w2 hk hb hs; have T2 := qH (Tbl.new (B := w1.heap.size) hk (Nat.le_refl _) (fun _ => 0) (fun _ _ => false)); have B2 := qH hb; clear hk hb hs; (try simp only [Act.put, qA, qB, qC])))
 go_loopw [7] (fun iv wl => ∃ (i : Nat) (bs : Nat → Nat), i ≤ n ∧ iv = .int .i64 (i : Int) ∧ Tbl wl w1.heap.size w1.heap.size bs n i (fun _ _ => false) ∧ Below w1.heap.size w1 wl) (fun iv _ => n - (intOf iv).toNat)
 case atStart => exact ⟨0, _, Nat.zero_le _, by simp, T2.out, B2.out⟩
 obtain ⟨i, bs, hi, rfl, hT, hB⟩ := hrel
 have TQ := qH hT
 have BQ := qH hB
 clear hT hB
 by_cases hin : i < n
 ·have x1 : (i : Int) < (n : Int) := Int.ofNat_lt.2 hin
  have HI := qH hin
  have HMI := qH (sub_next hin)
  have e3 := wrap_one i (lt_big HI.out HN2.out)
  have e4 := wrap_one' i (lt_big HI.out HN2.out)
  clear hi hin
  go_wp2_with ((with_reducible refine atDst 30 ?_); refine wpList_mk _ rfl _ _ 66 rfl 4 i2 (.bool false) Try.underlying66 hi2 hz2 hs2 rfl n _ _ _ _ rfl rfl rfl rfl HY2.out HN3.out ?_; intro w3 hk hb hs; have hfz := (TQ.out.below hb).tfrozen i; have hcr := (TQ.out.below hb).nil_ HI.out (Nat.lt_irrefl i); have TM := qH (TQ.out.more hb hk (fun _ => rfl)); have BM := qH (BQ.out.trans (hb.mono BQ.out.size)); clear hk hb hs; (try simp only [Act.put, qA, qB, qC]))
  exact ⟨⟨i + 1, _, HI.out, by congr 1, TM.out, BM.out.setCell (p := ⟨w1.heap.size, i, none⟩) (Nat.le_refl _) _⟩, by simpa [intOf] using HMI.out⟩
 obtain rfl : i = n := by omega
 have x1 : ¬ ((i : Int) < (i : Int)) := by omega
 obtain ⟨wq, hwq⟩ : ∃ v : World, v = wr := ⟨_, rfl⟩
 subst hwq
 have KQ := qH (K1.out.below BQ.out K1.out.lt)
 have c0 := KQ.out.cell 0
 rw [HC0.out] at c0
 clear hi hin
 have c5 := KQ.out.cell 5
 rw [HC5.out] at c5
 have HY3 := qH (show i1.bytes * i ≤ 281474976710656 from HY1.out)
 go_wp2_with ((with_reducible refine atDst 119 ?_); refine wpList_mk _ rfl _ _ 81 rfl 66 i1 (.slice none 0 0) Try.underlying81 hi1 hz1 hs1 rfl i _ _ _ _ rfl rfl rfl rfl HY3.out HN3.out ?_; intro w5 hk hb hs; have E5 := qH (Tbl.new (B := wq.heap.size) hk (Nat.le_refl _) (fun _ => 0) (fun _ _ => false)); have T5 := qH (TQ.out.below hb); have B5 := qH (BQ.out.trans (hb.mono BQ.out.size)); have hw5 := (K1.out.below B5.out K1.out.lt).cell 5; rw [HC5.out] at hw5; clear hk hb hs; (try simp only [Act.put, qA, qB, qC]))
 go_loopw [14] (fun pv wl => ∃ (p : Nat), p ≤ i ∧ pv = .int .i64 (p : Int) ∧ Tbl wl w1.heap.size w1.heap.size bs i i (stR u i p (fun _ => false)) ∧ Tbl wl wq.heap.size wq.heap.size (fun _ => 0) i 0 (fun _ _ => false) ∧ Below w1.heap.size w1 wl) (fun pv _ => i - (intOf pv).toNat)
 case atStart => exact ⟨0, Nat.zero_le _, by simp, by rw [stR_zero]; exact T5.out, E5.out, B5.out⟩
 obtain ⟨p, hp, rfl, hT, hE, hB⟩ := hrel
 have TP := qH hT
 have EP := qH hE
 have BP := qH hB
 clear hT hE hB
 by_cases hpi : p < i
 ·have y1 : (p : Int) < (i : Int) := Int.ofNat_lt.2 hpi
  have HP := qH hpi
  have HMP := qH (sub_next hpi)
  have f3 := wrap_one p (lt_big HP.out HN2.out)
  have f4 := wrap_one' p (lt_big HP.out HN2.out)
  have hc1 := TP.out.at_ HP.out HP.out
  have hc2 := TP.out.cell HP.out HP.out
  have hfz := TP.out.frozen HP.out p
  have TO := qH (show Tbl _ w1.heap.size w1.heap.size bs i i (stR u i p (stJ u p p)) by rw [← stR_one, ← stR_put]; exact TP.out.put HP.out p true)
  have BO := qH (BP.out.setCell (p := ⟨bs p, p, none⟩) (TP.out.bbase p HP.out) (Value.bool true))
  clear hp hpi
  have EO := qH (TP.out.apart EP.out HP.out (TQ.out.row p HP.out).lt p true)
  go_wp2_with fail
  go_loopw [15] (fun jv wl => ∃ (j : Nat), p ≤ j ∧ j ≤ i ∧ jv = .int .i64 (j : Int) ∧ Tbl wl w1.heap.size w1.heap.size bs i i (stR u i p (stJ u p p)) ∧ Tbl wl wq.heap.size wq.heap.size (fun _ => 0) i 0 (fun _ _ => false) ∧ Below w1.heap.size w1 wl) (fun jv _ => i - (intOf jv).toNat)
  case atStart => exact ⟨p, Nat.le_refl _, Nat.le_of_lt HP.out, rfl, TO.out, EO.out, BO.out⟩
  clear hc1 hc2 hfz TP EP BP TO BO EO
  obtain ⟨j, hpj, hj, rfl, hT, hE, hB⟩ := hrel
  have TJ := qH hT
  have EJ := qH hE
  have BJ := qH hB
  clear hT hE hB
  by_cases hji : j < i
  ·have y2 : (j : Int) < (i : Int) := Int.ofNat_lt.2 hji
   have HJ := qH hji
   have HPJ := qH hpj
   have HMJ := qH (sub_next hji)
   have g3 := wrap_one j (lt_big HJ.out HN2.out)
   have g4 := wrap_one' j (lt_big HJ.out HN2.out)
   clear hj hpj hji
   obtain ⟨wj, hwj⟩ : ∃ v : World, v = wr := ⟨_, rfl⟩
   subst hwj
   have ht1 := TJ.out.at_ HP.out HP.out
   have ht2 := TJ.out.cell HP.out HJ.out
   have ht3 := EJ.out.nil_ HJ.out (Nat.not_lt_zero j)
   rw [stR_at] at ht2
   obtain ⟨c, hc⟩ : ∃ c, stJ u p p j = c := ⟨_, rfl⟩
   rw [hc] at ht2
   clear hc
   go_wp2_with fail
   go_loopw [16] (fun kv wl => kv = .int .i64 ((j + 1 : Nat) : Int) ∧ wl = wj) (fun kv _ => 0)
   case atStart => exact ⟨rfl, rfl⟩
   obtain ⟨rfl, rfl⟩ := hrel
   by_cases hk : j + 1 < i
   ·have y3 : ((j + 1 : Nat) : Int) < (i : Int) := Int.ofNat_lt.2 hk
    clear hk
    cases c with
    | true =>
     go_wp2_with fail
     exact ⟨⟨j + 1, Nat.le_succ_of_le HPJ.out, HJ.out, by congr 1, TJ.out, EJ.out, BJ.out⟩, by simpa [intOf] using HMJ.out⟩
    | false =>
     go_wp2_with fail
     exact ⟨⟨j + 1, Nat.le_succ_of_le HPJ.out, HJ.out, by congr 1, TJ.out, EJ.out, BJ.out⟩, by simpa [intOf] using HMJ.out⟩
   ·have y3 : ¬ (((j + 1 : Nat) : Int) < (i : Int)) := fun h => hk (Int.ofNat_lt.1 h)
    clear hk
    go_wp2_with fail
    exact ⟨⟨j + 1, Nat.le_succ_of_le HPJ.out, HJ.out, by congr 1, TJ.out, EJ.out, BJ.out⟩, by simpa [intOf] using HMJ.out⟩
  obtain rfl : j = i := by omega
  have y2 : ¬ ((j : Int) < (j : Int)) := by omega
  have HSS := qH (show stJ u p p = stJ u p j by rw [HU.out, stJ_no, stJ_no])
  go_wp2_with fail
  refine ⟨⟨p + 1, HP.out, by congr 1, ?_, EJ.out, BJ.out⟩, by simpa [intOf] using HMP.out⟩
  have h9 := TJ.out
  rw [HSS.out] at h9
  exact h9.congr fun p q hp hq => stR_next hp hq
 obtain rfl : p = i := by omega
 have y1 : ¬ ((p : Int) < (p : Int)) := by omega
 go_wp2_with fail
 go_ret
 exact spPost_of HNW.out B1.out TP.out BP.out fun a b ha hb => by rw [stR_all (by have := HNW.out; omega), HU.out, stJ_no, sp_star0 s l HL1.out hb]; exact decide_eq_decide.2 ⟨Eq.symm, Eq.symm⟩
set_option maxHeartbeats 4000000 in
set_option maxRecDepth 1000000 in
theorem spans_k61 (N : Nat) (ih : SpansC N) (s : Nat → Bool) (x : T) (hx : x.nodes ≤ N) (hxm : x.nodes ≤ 1099511627776) (W : List UInt8) (hW : W.length ≤ 200) (V : Value) (cs : List Value) (w : World) (hr : Row w V (bvs W)) (hv : RxV w.heap.size w cs (.node 6 s [x])) :
  Calls Try.prog 50 #[.agg cs.toArray, V] w (spPost (.node 6 s [x]) W w) := by
 have IH := qH ih
 have HXN := qH hx
 have HXM := qH hxm
 have HW := qH hW
 clear ih hx hxm
 obtain ⟨l, hl⟩ : ∃ l, l = [x] := ⟨_, rfl⟩
 have HLX := qH hl
 have HL1 := qH (show l.length = 1 by rw [hl]; rfl)
 have HX0 := qH (show l[0]? = some x by rw [hl]; rfl)
 rw [← hl] at hv ⊢
 clear hl
 obtain ⟨u, hu⟩ : ∃ u : Nat → Nat → Bool, u = spB (Lg x) W := ⟨_, rfl⟩
 have HU := qH hu
 clear hu
 have V0 := qH hv
 obtain ⟨A, cap, f, rfl, h1, h2, h0, h3, h4⟩ := hv.opened
 have H3 := qH h3
 have H4 := qH h4
 have HCL := qH h1
 have HCM := qH h2
 have RW := qH hr
 obtain ⟨AW, capW, rfl, _⟩ := hr
 have hbw : (bvs W).length = W.length := bvs_length W
 rw [hbw] at RW ⊢
 obtain ⟨cs, hcs⟩ : ∃ cs, cs = Value.int .i64 6 :: (wds s ++ [.slice A l.length cap]) := ⟨_, rfl⟩
 have HC0 := qH (show cs[0]? = some (.int .i64 6) by rw [hcs]; rfl)
 have HC5 := qH (show cs[5]? = some (.slice A l.length cap) by rw [hcs]; rfl)
 have HCS := qH hcs
 rw [← hcs] at V0 ⊢
 obtain ⟨n, hn⟩ : ∃ n, n = W.length + 1 := ⟨_, rfl⟩
 have HNW := qH hn
 have HN2 := qH (show n ≤ 201 by omega)
 have m1 : wrap64 ((W.length : Int) + 1) = (n : Int) := by rw [hn]; exact wrap_one _ (by omega)
 have m2 : IntKind.i64.wrap ((W.length : Int) + 1) = (n : Int) := by rw [hn]; exact wrap_one' _ (by omega)
 obtain ⟨i1, hi1, hz1, hs1, hy1⟩ := infoP inf_bools
 obtain ⟨i2, hi2, hz2, hs2, hy2⟩ := infoP inf_bool
 have HY1 := qH (show i1.bytes * n ≤ 281474976710656 by rw [hy1]; omega)
 have HY2 := qH (show i2.bytes * n ≤ 281474976710656 by rw [hy2]; omega)
 have HN3 := qH (show n ≤ 9223372036854775807 by omega)
 clear hv h1 h2 h0 h3 h4 hcs hn hW hy1 hy2 hbw
 obtain ⟨b, off, rfl, hb, hrng⟩ := H3.out (by intro h; have := HL1.out; rw [h] at this; cases this)
 have HV := qH (H4.out 0 x HX0.out)
 have HRG := qH (hrng 0 (by rw [HL1.out]; exact Nat.one_pos))
 have HBB := qH hb
 have z1 : ((l.length : Int) == 1) = true := by rw [HL1.out]; rfl
 have z3 : (0 : Int) < (l.length : Int) := by rw [HL1.out]; exact Int.one_pos
 clear hb hrng
 go_enter Try.func50, Try.ntmps50
 go_wp2_with (first
  | ((with_reducible refine atDst 2 ?_); refine wpList_box rfl 40 _ rfl cs rfl (Below.refl w.heap.size w) (Nat.le_refl _) ?_; intro w1 hk1 hb1 hs1 _; have K1 := qH hk1; have B1 := qH hb1; clear hk1 hb1 hs1; (try simp only [Act.put, qA, qB, qC]))
  | ((with_reducible refine atDst 21 ?_); refine wpList_mk _ rfl _ _ 81 rfl 66 i1 (.slice none 0 0) Try.underlying81 hi1 hz1 hs1 rfl n _ _ _ _ rfl rfl rfl rfl HY1.out HN3.out ?_; intro w2 hk hb hs; have T2 := qH (Tbl.new (B := w1.heap.size) hk (Nat.le_refl _) (fun _ => 0) (fun _ _ => false)); have B2 := qH hb; clear hk hb hs; (try simp only [Act.put, qA, qB, qC])))
 go_loopw [7] (fun iv wl => ∃ (i : Nat) (bs : Nat → Nat), i ≤ n ∧ iv = .int .i64 (i : Int) ∧ Tbl wl w1.heap.size w1.heap.size bs n i (fun _ _ => false) ∧ Below w1.heap.size w1 wl) (fun iv _ => n - (intOf iv).toNat)
 case atStart => exact ⟨0, _, Nat.zero_le _, by simp, T2.out, B2.out⟩
 obtain ⟨i, bs, hi, rfl, hT, hB⟩ := hrel
 have TQ := qH hT
 have BQ := qH hB
 clear hT hB
 by_cases hin : i < n
 ·have x1 : (i : Int) < (n : Int) := Int.ofNat_lt.2 hin
  have HI := qH hin
  have HMI := qH (sub_next hin)
  have e3 := wrap_one i (lt_big HI.out HN2.out)
  have e4 := wrap_one' i (lt_big HI.out HN2.out)
  clear hi hin
  go_wp2_with ((with_reducible refine atDst 30 ?_); refine wpList_mk _ rfl _ _ 66 rfl 4 i2 (.bool false) Try.underlying66 hi2 hz2 hs2 rfl n _ _ _ _ rfl rfl rfl rfl HY2.out HN3.out ?_; intro w3 hk hb hs; have hfz := (TQ.out.below hb).tfrozen i; have hcr := (TQ.out.below hb).nil_ HI.out (Nat.lt_irrefl i); have TM := qH (TQ.out.more hb hk (fun _ => rfl)); have BM := qH (BQ.out.trans (hb.mono BQ.out.size)); clear hk hb hs; (try simp only [Act.put, qA, qB, qC]))
  exact ⟨⟨i + 1, _, HI.out, by congr 1, TM.out, BM.out.setCell (p := ⟨w1.heap.size, i, none⟩) (Nat.le_refl _) _⟩, by simpa [intOf] using HMI.out⟩
 obtain rfl : i = n := by omega
 have x1 : ¬ ((i : Int) < (i : Int)) := by omega
 obtain ⟨wq, hwq⟩ : ∃ v : World, v = wr := ⟨_, rfl⟩
 subst hwq
 have KQ := qH (K1.out.below BQ.out K1.out.lt)
 have c0 := KQ.out.cell 0
 rw [HC0.out] at c0
 clear hi hin
 have c5 := KQ.out.cell 5
 rw [HC5.out] at c5
 have HY3 := qH (show i1.bytes * i ≤ 281474976710656 from HY1.out)
 go_wp2_with (first
  | ((with_reducible refine atDst 119 ?_); refine wpList_mk _ rfl _ _ 81 rfl 66 i1 (.slice none 0 0) Try.underlying81 hi1 hz1 hs1 rfl i _ _ _ _ rfl rfl rfl rfl HY3.out HN3.out ?_; intro w5 hk hb hs; have T5 := qH (TQ.out.below hb); have B5 := qH (BQ.out.trans (hb.mono BQ.out.size)); have BW5 := qH (B1.out.trans (B5.out.mono B1.out.size)); have RX := qH (RW.out.below BW5.out); have S5 := qH (hb.size); have hw5 := (K1.out.below B5.out K1.out.lt).cell 5; rw [HC5.out] at hw5; clear hk hb hs; (try simp only [Act.put, qA, qB, qC]))
  | ((with_reducible refine atDst 127 ?_); refine wpList_load_mid rfl 40 _ rfl b (off + 0 * 6) rfl (f 0) _ (range_below HRG.out BW5.out HBB.out) Try.underlying40 rfl (size_rx HV.out.length) ?_; (try simp only [Act.put, qA, qB, qC])))
 have HV5 := qH (RxV.part H4.out BW5.out BW5.out.size HX0.out)
 refine (IH.out x HXN.out HXM.out W HW.out _ (f 0) w5 RX.out HV5.out).mono ?_
 rintro e w6 ⟨g2, bs2, rfl, hT2, hb2⟩
 rw [← HNW.out, ← HU.out] at hT2
 rw [← HNW.out]
 have U6 := qH hT2
 have T6 := qH (T5.out.below hb2)
 have B6 := qH (B5.out.trans (hb2.mono B5.out.size))
 have HBS := qH (fun p (hp : p < i) => (T5.out.row p hp).lt)
 clear hT2 hb2
 go_wp2_with fail
 go_loopw [14] (fun pv wl => ∃ (p : Nat), p ≤ i ∧ pv = .int .i64 (p : Int) ∧ Tbl wl w1.heap.size w1.heap.size bs i i (stR u i p (fun _ => false)) ∧ Tbl wl w5.heap.size g2 bs2 i i u ∧ Below w1.heap.size w1 wl) (fun pv _ => i - (intOf pv).toNat)
 case atStart => exact ⟨0, Nat.zero_le _, by simp, by rw [stR_zero]; exact T6.out, U6.out, B6.out⟩
 obtain ⟨p, hp, rfl, hT, hE, hB⟩ := hrel
 have TP := qH hT
 have UP := qH hE
 have BP := qH hB
 clear hT hE hB
 by_cases hpi : p < i
 ·have y1 : (p : Int) < (i : Int) := Int.ofNat_lt.2 hpi
  have HP := qH hpi
  have HMP := qH (sub_next hpi)
  have f3 := wrap_one p (lt_big HP.out HN2.out)
  have f4 := wrap_one' p (lt_big HP.out HN2.out)
  have hc1 := TP.out.at_ HP.out HP.out
  have hc2 := TP.out.cell HP.out HP.out
  have hfz := TP.out.frozen HP.out p
  have TO := qH (show Tbl _ w1.heap.size w1.heap.size bs i i (stR u i p (stJ u p p)) by rw [← stR_one, ← stR_put]; exact TP.out.put HP.out p true)
  have BO := qH (BP.out.setCell (p := ⟨bs p, p, none⟩) (TP.out.bbase p HP.out) (Value.bool true))
  clear hp hpi
  have UO := qH (TP.out.apart UP.out HP.out (HBS.out p HP.out) p true)
  have y0 : (0 : Int) < (i : Int) := Int.ofNat_lt.2 (Nat.lt_of_le_of_lt (Nat.zero_le _) HP.out)
  go_wp2_with fail
  go_loopw [15] (fun jv wl => ∃ (j : Nat), p ≤ j ∧ j ≤ i ∧ jv = .int .i64 (j : Int) ∧ Tbl wl w1.heap.size w1.heap.size bs i i (stR u i p (stJ u p j)) ∧ Tbl wl w5.heap.size g2 bs2 i i u ∧ Below w1.heap.size w1 wl) (fun jv _ => i - (intOf jv).toNat)
  case atStart => exact ⟨p, Nat.le_refl _, Nat.le_of_lt HP.out, rfl, TO.out, UO.out, BO.out⟩
  clear hc1 hc2 hfz TP UP BP TO BO UO
  obtain ⟨j, hpj, hj, rfl, hT, hE, hB⟩ := hrel
  have TJ := qH hT
  have UJ := qH hE
  have BJ := qH hB
  clear hT hE hB
  by_cases hji : j < i
  ·have y2 : (j : Int) < (i : Int) := Int.ofNat_lt.2 hji
   have HJ := qH hji
   have HPJ := qH hpj
   have HMJ := qH (sub_next hji)
   have g3 := wrap_one j (lt_big HJ.out HN2.out)
   have g4 := wrap_one' j (lt_big HJ.out HN2.out)
   clear hj hpj hji
   obtain ⟨wj, hwj⟩ : ∃ v : World, v = wr := ⟨_, rfl⟩
   subst hwj
   obtain ⟨c, hc⟩ : ∃ c, stJ u p j j = c := ⟨_, rfl⟩
   cases c with
   | false =>
    have ht1 := TJ.out.at_ HP.out HP.out
    have ht2 := TJ.out.cell HP.out HJ.out
    rw [stR_at, hc] at ht2
    have HFJ := qH hc
    clear hc
    go_wp2_with fail
    go_loopw [16] (fun kv wl => kv = .int .i64 ((j + 1 : Nat) : Int) ∧ wl = wj) (fun kv _ => 0)
    case atStart => exact ⟨rfl, rfl⟩
    obtain ⟨rfl, rfl⟩ := hrel
    by_cases hk : j + 1 < i
    ·have y3 : ((j + 1 : Nat) : Int) < (i : Int) := Int.ofNat_lt.2 hk
     clear hk
     go_wp2_with fail
     exact ⟨⟨j + 1, Nat.le_succ_of_le HPJ.out, HJ.out, by congr 1, by rw [stJ_not HFJ.out]; exact TJ.out, UJ.out, BJ.out⟩, by simpa [intOf] using HMJ.out⟩
    ·have y3 : ¬ (((j + 1 : Nat) : Int) < (i : Int)) := fun h => hk (Int.ofNat_lt.1 h)
     clear hk
     go_wp2_with fail
     exact ⟨⟨j + 1, Nat.le_succ_of_le HPJ.out, HJ.out, by congr 1, by rw [stJ_not HFJ.out]; exact TJ.out, UJ.out, BJ.out⟩, by simpa [intOf] using HMJ.out⟩
   | true =>
    have HFJ := qH hc
    clear hc
    go_wp2_with fail
    go_loopw [16] (fun kv wl => ∃ (k : Nat), j + 1 ≤ k ∧ k ≤ i ∧ kv = .int .i64 (k : Int) ∧ Tbl wl w1.heap.size w1.heap.size bs i i (stR u i p (stK u p j k)) ∧ Tbl wl w5.heap.size g2 bs2 i i u ∧ Below w1.heap.size w1 wl) (fun kv _ => i - (intOf kv).toNat)
    case atStart => exact ⟨j + 1, Nat.le_refl _, HJ.out, rfl, by rw [stK_start]; exact TJ.out, UJ.out, BJ.out⟩
    clear TJ UJ BJ
    obtain ⟨k, hjk, hk, rfl, hT, hE, hB⟩ := hrel
    have TR := qH hT
    have UR := qH hE
    have BR := qH hB
    clear hT hE hB
    by_cases hki : k < i
    ·have y3 : (k : Int) < (i : Int) := Int.ofNat_lt.2 hki
     have HK := qH hki
     have HJK := qH (show j < k from hjk)
     have HJK1 := qH (Nat.le_succ_of_le hjk)
     have HMK := qH (sub_next hki)
     have q3 := wrap_one k (lt_big HK.out HN2.out)
     have q4 := wrap_one' k (lt_big HK.out HN2.out)
     have ht1 := TR.out.at_ HP.out HP.out
     have ht2 := TR.out.cell HP.out HJ.out
     have ht3 := UR.out.at_ HJ.out HJ.out
     rw [stR_at, stK_low HJK.out, HFJ.out] at ht2
     clear hk hjk hki
     obtain ⟨c, hc⟩ : ∃ c, stJ u p j k = c := ⟨_, rfl⟩
     obtain ⟨v, hv⟩ : ∃ c, u j k = c := ⟨_, rfl⟩
     have HUV := qH hv
     clear hv
     cases c with
     | true =>
      have HC := qH hc
      clear hc
      go_wp2_with fail
      refine sg_start (S := fun V => wr.grownBy V (some (bs p))) (by kernel_rfl) (grown_start _ _) (fun wd hwd => ?_)
      have hX : wr.grownBy wd (some (bs p)) := by rw [hwd]; exact grown_start _ _
      have TD := qH (show Tbl wd w1.heap.size w1.heap.size bs i i (stR u i p (stK u p j k)) by rw [hwd]; exact TR.out.drew)
      have UD := qH (show Tbl wd w5.heap.size g2 bs2 i i u by rw [hwd]; exact UR.out.drew)
      have BD := qH (show Below w1.heap.size w1 wd by rw [hwd]; exact BR.out.drew)
      clear hwd
      have HT1 := qH (TR.out.at_ HP.out HP.out)
      have HU1 := qH (UR.out.at_ HJ.out HJ.out)
      have HU2 := qH (UR.out.cell HJ.out HK.out)
      have HT2 := qH (show wd.cell? ⟨bs p, k, none⟩ = some (.bool true) by rw [TD.out.cell HP.out HK.out, stR_at, stK_at, HC.out])
      have HL1 := qH TR.out.top.lt
      have HL3 := qH UR.out.top.lt
      have HL4 := qH (UR.out.row j HJ.out).lt
      have HE1 := qH (show some w1.heap.size ≠ some (bs p) from fun h => TR.out.ne p HP.out (Option.some.inj h).symm)
      have HE3 := qH (show some g2 ≠ some (bs p) from fun h => by have h1 := Option.some.inj h; have h2 := HBS.out p HP.out; have h3 := UR.out.base; omega)
      have HE4 := qH (show some (bs2 j) ≠ some (bs p) from fun h => by have h1 := Option.some.inj h; have h2 := HBS.out p HP.out; have h3 := UR.out.bbase j HJ.out; omega)
      refine sg_take (i := 0) (oi := ⟨some 171, _, _, _, _, _⟩) (v := ?_) rfl (by kernel_rfl) (by kernel_rfl) (by kernel_rfl) (fun _ _ _ h => h) rfl hX ?_ ?_; rotate_left; (intro W hW; go_simp; try with_reducible rfl); simp only [Act.put, qA, qB, qC]
      refine sg_take (i := 1) (oi := ⟨some 172, _, _, _, _, _⟩) (v := ?_) rfl (by kernel_rfl) (by kernel_rfl) (by kernel_rfl) (fun _ _ _ h => h) rfl hX ?_ ?_; rotate_left; (intro W hW; go_simp; try with_reducible rfl); simp only [Act.put, qA, qB, qC]
      refine sg_take (i := 2) (oi := ⟨some 173, _, _, _, _, _⟩) (v := ?_) rfl (by kernel_rfl) (by kernel_rfl) (by kernel_rfl) (fun _ _ _ h => h) rfl hX ?_ ?_; rotate_left; (intro W hW; go_simp; try with_reducible rfl); simp only [Act.put, qA, qB, qC]
      refine sg_take (i := 3) (oi := ⟨some 174, _, _, _, _, _⟩) (v := .slice (some ⟨bs p, 0, none⟩) i i) rfl (by kernel_rfl) (by kernel_rfl) (by kernel_rfl) (fun _ _ _ h => h) rfl hX (fun V hV => ld_bs (.tmp 173) rfl rfl (grown_cell hV HL1.out HE1.out HT1.out)) ?_; simp only [Act.put, qA, qB, qC]
      refine sg_take (i := 4) (oi := ⟨some 175, _, _, _, _, _⟩) (v := ?_) rfl (by kernel_rfl) (by kernel_rfl) (by kernel_rfl) (fun _ _ _ h => h) rfl hX ?_ ?_; rotate_left; (intro W hW; go_simp; try with_reducible rfl); simp only [Act.put, qA, qB, qC]
      refine sg_take (i := 5) (oi := ⟨some 176, _, _, _, _, _⟩) (v := ?_) rfl (by kernel_rfl) (by kernel_rfl) (by kernel_rfl) (fun _ _ _ h => h) rfl hX ?_ ?_; rotate_left; (intro W hW; go_simp; try with_reducible rfl); simp only [Act.put, qA, qB, qC]
      refine sg_take (i := 6) (oi := ⟨some 177, _, _, _, _, _⟩) (v := ?_) rfl (by kernel_rfl) (by kernel_rfl) (by kernel_rfl) (fun _ _ _ h => h) rfl hX ?_ ?_; rotate_left; (intro W hW; go_simp; try with_reducible rfl); simp only [Act.put, qA, qB, qC]
      refine sg_take (i := 7) (oi := ⟨some 178, _, _, _, _, _⟩) (v := ?_) rfl (by kernel_rfl) (by kernel_rfl) (by kernel_rfl) (fun _ _ _ h => h) rfl hX ?_ ?_; rotate_left; (intro W hW; go_simp; try with_reducible rfl); simp only [Act.put, qA, qB, qC]
      refine sg_take (i := 8) (oi := ⟨some 179, _, _, _, _, _⟩) (v := .slice (some ⟨bs p, 0, none⟩) i i) rfl (by kernel_rfl) (by kernel_rfl) (by kernel_rfl) (fun _ _ _ h => h) rfl hX (fun V hV => ld_bs (.tmp 178) rfl rfl (grown_cell hV HL1.out HE1.out HT1.out)) ?_; simp only [Act.put, qA, qB, qC]
      refine sg_take (i := 9) (oi := ⟨some 180, _, _, _, _, _⟩) (v := ?_) rfl (by kernel_rfl) (by kernel_rfl) (by kernel_rfl) (fun _ _ _ h => h) rfl hX ?_ ?_; rotate_left; (intro W hW; go_simp; try with_reducible rfl); simp only [Act.put, qA, qB, qC]
      refine sg_take (i := 10) (oi := ⟨some 181, _, _, _, _, _⟩) (v := ?_) rfl (by kernel_rfl) (by kernel_rfl) (by kernel_rfl) (fun _ _ _ h => h) rfl hX ?_ ?_; rotate_left; (intro W hW; go_simp; try with_reducible rfl); simp only [Act.put, qA, qB, qC]
      refine sg_actB (i := 11) (o := ⟨some 182, _, _, _, _, _⟩) rfl (by kernel_rfl) rfl hX (fun K hK => ?_)
      refine wp_ldB (.tmp 181) rfl rfl HT2.out ?_
      refine hK _ _ hX ?_
      clear hK K
      (try simp only [Act.put, qA, qB, qC])
      refine sg_take (i := 12) (oi := ⟨some 183, _, _, _, _, _⟩) (v := ?_) rfl (by kernel_rfl) (by kernel_rfl) (by kernel_rfl) (fun _ _ _ h => h) rfl hX ?_ ?_; rotate_left; (intro W hW; go_simp; try with_reducible rfl); simp only [Act.put, qA, qB, qC]
      refine sg_skip (i := 13) (oi := ⟨some 184, _, _, _, _, _⟩) rfl (by kernel_rfl) (by kernel_rfl) (by kernel_rfl) (fun _ _ _ h => h) rfl hX ?_; simp only [Act.put, qA, qB, qC]
      refine sg_skip (i := 14) (oi := ⟨some 185, _, _, _, _, _⟩) rfl (by kernel_rfl) (by kernel_rfl) (by kernel_rfl) (fun _ _ _ h => h) rfl hX ?_; simp only [Act.put, qA, qB, qC]
      refine sg_skip (i := 15) (oi := ⟨some 186, _, _, _, _, _⟩) rfl (by kernel_rfl) (by kernel_rfl) (by kernel_rfl) (fun _ _ _ h => h) rfl hX ?_; simp only [Act.put, qA, qB, qC]
      refine sg_skip (i := 16) (oi := ⟨some 187, _, _, _, _, _⟩) rfl (by kernel_rfl) (by kernel_rfl) (by kernel_rfl) (fun _ _ _ h => h) rfl hX ?_; simp only [Act.put, qA, qB, qC]
      refine sg_skip (i := 17) (oi := ⟨some 188, _, _, _, _, _⟩) rfl (by kernel_rfl) (by kernel_rfl) (by kernel_rfl) (fun _ _ _ h => h) rfl hX ?_; simp only [Act.put, qA, qB, qC]
      refine sg_skip (i := 18) (oi := ⟨some 189, _, _, _, _, _⟩) rfl (by kernel_rfl) (by kernel_rfl) (by kernel_rfl) (fun _ _ _ h => h) rfl hX ?_; simp only [Act.put, qA, qB, qC]
      refine sg_skip (i := 19) (oi := ⟨some 190, _, _, _, _, _⟩) rfl (by kernel_rfl) (by kernel_rfl) (by kernel_rfl) (fun _ _ _ h => h) rfl hX ?_; simp only [Act.put, qA, qB, qC]
      refine sg_take (i := 20) (oi := ⟨some 191, _, _, _, _, _⟩) (v := ?_) rfl (by kernel_rfl) (by kernel_rfl) (by kernel_rfl) (fun _ _ _ h => h) rfl hX ?_ ?_; rotate_left; (intro W hW; go_simp; try with_reducible rfl); simp only [Act.put, qA, qB, qC]
      refine sg_take (i := 21) (oi := ⟨some 192, _, _, _, _, _⟩) (v := ?_) rfl (by kernel_rfl) (by kernel_rfl) (by kernel_rfl) (fun _ _ _ h => h) rfl hX ?_ ?_; rotate_left; (intro W hW; go_simp; try with_reducible rfl); simp only [Act.put, qA, qB, qC]
      refine sg_actB (i := 22) (o := ⟨none, _, _, _, _, _⟩) rfl (by kernel_rfl) rfl hX (fun K hK => ?_)
      refine wp_stB (.tmp 192) (.tmp 191) rfl (bs p) k rfl true rfl _ HT2.out (TD.out.frozen HP.out k) ?_
      refine hK _ _ (grown_set hX k _) ?_
      clear hK K
      refine wpAnyH_done (by kernel_rfl) ?_ _
      have TE := qH (TD.out.put HP.out k true)
      have UE := qH (TD.out.apart UD.out HP.out (HBS.out p HP.out) k true)
      have BE := qH (BD.out.setCell (p := ⟨bs p, k, none⟩) (TR.out.bbase p HP.out) (Value.bool true))
      have HV := qH (show (true : Bool) = (stJ u p j k || u j k) by rw [HC.out, HUV.out]; rfl)
      clear hX
      go_wp2_with fail
      refine ⟨⟨k + 1, HJK1.out, HK.out, by congr 1, ?_, UE.out, BE.out⟩, by simpa [intOf] using HMK.out⟩
      rw [← stK_put HPJ.out HJK.out HFJ.out, ← stR_put, ← HV.out]
      exact TE.out
     | false =>
      have HC := qH hc
      clear hc
      go_wp2_with fail
      refine sg_start (S := fun V => wr.grownBy V (some (bs p))) (by kernel_rfl) (grown_start _ _) (fun wd hwd => ?_)
      have hX : wr.grownBy wd (some (bs p)) := by rw [hwd]; exact grown_start _ _
      have TD := qH (show Tbl wd w1.heap.size w1.heap.size bs i i (stR u i p (stK u p j k)) by rw [hwd]; exact TR.out.drew)
      have UD := qH (show Tbl wd w5.heap.size g2 bs2 i i u by rw [hwd]; exact UR.out.drew)
      have BD := qH (show Below w1.heap.size w1 wd by rw [hwd]; exact BR.out.drew)
      clear hwd
      have HT1 := qH (TR.out.at_ HP.out HP.out)
      have HU1 := qH (UR.out.at_ HJ.out HJ.out)
      have HU2 := qH (UR.out.cell HJ.out HK.out)
      have HT2 := qH (show wd.cell? ⟨bs p, k, none⟩ = some (.bool false) by rw [TD.out.cell HP.out HK.out, stR_at, stK_at, HC.out])
      have HL1 := qH TR.out.top.lt
      have HL3 := qH UR.out.top.lt
      have HL4 := qH (UR.out.row j HJ.out).lt
      have HE1 := qH (show some w1.heap.size ≠ some (bs p) from fun h => TR.out.ne p HP.out (Option.some.inj h).symm)
      have HE3 := qH (show some g2 ≠ some (bs p) from fun h => by have h1 := Option.some.inj h; have h2 := HBS.out p HP.out; have h3 := UR.out.base; omega)
      have HE4 := qH (show some (bs2 j) ≠ some (bs p) from fun h => by have h1 := Option.some.inj h; have h2 := HBS.out p HP.out; have h3 := UR.out.bbase j HJ.out; omega)
      refine sg_take (i := 0) (oi := ⟨some 171, _, _, _, _, _⟩) (v := ?_) rfl (by kernel_rfl) (by kernel_rfl) (by kernel_rfl) (fun _ _ _ h => h) rfl hX ?_ ?_; rotate_left; (intro W hW; go_simp; try with_reducible rfl); simp only [Act.put, qA, qB, qC]
      refine sg_take (i := 1) (oi := ⟨some 172, _, _, _, _, _⟩) (v := ?_) rfl (by kernel_rfl) (by kernel_rfl) (by kernel_rfl) (fun _ _ _ h => h) rfl hX ?_ ?_; rotate_left; (intro W hW; go_simp; try with_reducible rfl); simp only [Act.put, qA, qB, qC]
      refine sg_take (i := 2) (oi := ⟨some 173, _, _, _, _, _⟩) (v := ?_) rfl (by kernel_rfl) (by kernel_rfl) (by kernel_rfl) (fun _ _ _ h => h) rfl hX ?_ ?_; rotate_left; (intro W hW; go_simp; try with_reducible rfl); simp only [Act.put, qA, qB, qC]
      refine sg_take (i := 3) (oi := ⟨some 174, _, _, _, _, _⟩) (v := .slice (some ⟨bs p, 0, none⟩) i i) rfl (by kernel_rfl) (by kernel_rfl) (by kernel_rfl) (fun _ _ _ h => h) rfl hX (fun V hV => ld_bs (.tmp 173) rfl rfl (grown_cell hV HL1.out HE1.out HT1.out)) ?_; simp only [Act.put, qA, qB, qC]
      refine sg_take (i := 4) (oi := ⟨some 175, _, _, _, _, _⟩) (v := ?_) rfl (by kernel_rfl) (by kernel_rfl) (by kernel_rfl) (fun _ _ _ h => h) rfl hX ?_ ?_; rotate_left; (intro W hW; go_simp; try with_reducible rfl); simp only [Act.put, qA, qB, qC]
      refine sg_take (i := 5) (oi := ⟨some 176, _, _, _, _, _⟩) (v := ?_) rfl (by kernel_rfl) (by kernel_rfl) (by kernel_rfl) (fun _ _ _ h => h) rfl hX ?_ ?_; rotate_left; (intro W hW; go_simp; try with_reducible rfl); simp only [Act.put, qA, qB, qC]
      refine sg_take (i := 6) (oi := ⟨some 177, _, _, _, _, _⟩) (v := ?_) rfl (by kernel_rfl) (by kernel_rfl) (by kernel_rfl) (fun _ _ _ h => h) rfl hX ?_ ?_; rotate_left; (intro W hW; go_simp; try with_reducible rfl); simp only [Act.put, qA, qB, qC]
      refine sg_take (i := 7) (oi := ⟨some 178, _, _, _, _, _⟩) (v := ?_) rfl (by kernel_rfl) (by kernel_rfl) (by kernel_rfl) (fun _ _ _ h => h) rfl hX ?_ ?_; rotate_left; (intro W hW; go_simp; try with_reducible rfl); simp only [Act.put, qA, qB, qC]
      refine sg_take (i := 8) (oi := ⟨some 179, _, _, _, _, _⟩) (v := .slice (some ⟨bs p, 0, none⟩) i i) rfl (by kernel_rfl) (by kernel_rfl) (by kernel_rfl) (fun _ _ _ h => h) rfl hX (fun V hV => ld_bs (.tmp 178) rfl rfl (grown_cell hV HL1.out HE1.out HT1.out)) ?_; simp only [Act.put, qA, qB, qC]
      refine sg_take (i := 9) (oi := ⟨some 180, _, _, _, _, _⟩) (v := ?_) rfl (by kernel_rfl) (by kernel_rfl) (by kernel_rfl) (fun _ _ _ h => h) rfl hX ?_ ?_; rotate_left; (intro W hW; go_simp; try with_reducible rfl); simp only [Act.put, qA, qB, qC]
      refine sg_take (i := 10) (oi := ⟨some 181, _, _, _, _, _⟩) (v := ?_) rfl (by kernel_rfl) (by kernel_rfl) (by kernel_rfl) (fun _ _ _ h => h) rfl hX ?_ ?_; rotate_left; (intro W hW; go_simp; try with_reducible rfl); simp only [Act.put, qA, qB, qC]
      refine sg_actB (i := 11) (o := ⟨some 182, _, _, _, _, _⟩) rfl (by kernel_rfl) rfl hX (fun K hK => ?_)
      refine wp_ldB (.tmp 181) rfl rfl HT2.out ?_
      refine hK _ _ hX ?_
      clear hK K
      (try simp only [Act.put, qA, qB, qC])
      refine sg_take (i := 12) (oi := ⟨some 183, _, _, _, _, _⟩) (v := ?_) rfl (by kernel_rfl) (by kernel_rfl) (by kernel_rfl) (fun _ _ _ h => h) rfl hX ?_ ?_; rotate_left; (intro W hW; go_simp; try with_reducible rfl); simp only [Act.put, qA, qB, qC]
      refine sg_take (i := 13) (oi := ⟨some 184, _, _, _, _, _⟩) (v := ?_) rfl (by kernel_rfl) (by kernel_rfl) (by kernel_rfl) (fun _ _ _ h => h) rfl hX ?_ ?_; rotate_left; (intro W hW; go_simp; try with_reducible rfl); simp only [Act.put, qA, qB, qC]
      refine sg_take (i := 14) (oi := ⟨some 185, _, _, _, _, _⟩) (v := ?_) rfl (by kernel_rfl) (by kernel_rfl) (by kernel_rfl) (fun _ _ _ h => h) rfl hX ?_ ?_; rotate_left; (intro W hW; go_simp; try with_reducible rfl); simp only [Act.put, qA, qB, qC]
      refine sg_take (i := 15) (oi := ⟨some 186, _, _, _, _, _⟩) (v := ?_) rfl (by kernel_rfl) (by kernel_rfl) (by kernel_rfl) (fun _ _ _ h => h) rfl hX ?_ ?_; rotate_left; (intro W hW; go_simp; try with_reducible rfl); simp only [Act.put, qA, qB, qC]
      refine sg_take (i := 16) (oi := ⟨some 187, _, _, _, _, _⟩) (v := .slice (some ⟨bs2 j, 0, none⟩) i i) rfl (by kernel_rfl) (by kernel_rfl) (by kernel_rfl) (fun _ _ _ h => h) rfl hX (fun V hV => ld_bs (.tmp 186) rfl rfl (grown_cell hV HL3.out HE3.out HU1.out)) ?_; simp only [Act.put, qA, qB, qC]
      refine sg_take (i := 17) (oi := ⟨some 188, _, _, _, _, _⟩) (v := ?_) rfl (by kernel_rfl) (by kernel_rfl) (by kernel_rfl) (fun _ _ _ h => h) rfl hX ?_ ?_; rotate_left; (intro W hW; go_simp; try with_reducible rfl); simp only [Act.put, qA, qB, qC]
      refine sg_take (i := 18) (oi := ⟨some 189, _, _, _, _, _⟩) (v := ?_) rfl (by kernel_rfl) (by kernel_rfl) (by kernel_rfl) (fun _ _ _ h => h) rfl hX ?_ ?_; rotate_left; (intro W hW; go_simp; try with_reducible rfl); simp only [Act.put, qA, qB, qC]
      refine sg_take (i := 19) (oi := ⟨some 190, _, _, _, _, _⟩) (v := .bool v) rfl (by kernel_rfl) (by kernel_rfl) (by kernel_rfl) (fun _ _ _ h => h) rfl hX (fun V hV => ld_b (.tmp 189) rfl rfl (grown_cell hV HL4.out HE4.out (HU2.out.trans (congrArg (fun x => some (Value.bool x)) HUV.out)))) ?_; simp only [Act.put, qA, qB, qC]
      refine sg_take (i := 20) (oi := ⟨some 191, _, _, _, _, _⟩) (v := ?_) rfl (by kernel_rfl) (by kernel_rfl) (by kernel_rfl) (fun _ _ _ h => h) rfl hX ?_ ?_; rotate_left; (intro W hW; go_simp; try with_reducible rfl); simp only [Act.put, qA, qB, qC]
      refine sg_take (i := 21) (oi := ⟨some 192, _, _, _, _, _⟩) (v := ?_) rfl (by kernel_rfl) (by kernel_rfl) (by kernel_rfl) (fun _ _ _ h => h) rfl hX ?_ ?_; rotate_left; (intro W hW; go_simp; try with_reducible rfl); simp only [Act.put, qA, qB, qC]
      refine sg_actB (i := 22) (o := ⟨none, _, _, _, _, _⟩) rfl (by kernel_rfl) rfl hX (fun K hK => ?_)
      refine wp_stB (.tmp 192) (.tmp 191) rfl (bs p) k rfl v rfl _ HT2.out (TD.out.frozen HP.out k) ?_
      refine hK _ _ (grown_set hX k _) ?_
      clear hK K
      refine wpAnyH_done (by kernel_rfl) ?_ _
      have TE := qH (TD.out.put HP.out k v)
      have UE := qH (TD.out.apart UD.out HP.out (HBS.out p HP.out) k v)
      have BE := qH (BD.out.setCell (p := ⟨bs p, k, none⟩) (TR.out.bbase p HP.out) (Value.bool v))
      have HV := qH (show (v : Bool) = (stJ u p j k || u j k) by rw [HC.out, HUV.out]; rfl)
      clear hX
      go_wp2_with fail
      refine ⟨⟨k + 1, HJK1.out, HK.out, by congr 1, ?_, UE.out, BE.out⟩, by simpa [intOf] using HMK.out⟩
      rw [← stK_put HPJ.out HJK.out HFJ.out, ← stR_put, ← HV.out]
      exact TE.out
    ·obtain rfl : k = i := by omega
     have y3 : ¬ ((k : Int) < (k : Int)) := by omega
     go_wp2_with fail
     exact ⟨⟨j + 1, Nat.le_succ_of_le HPJ.out, HJ.out, by congr 1, TR.out.congr fun p q _ hq => stK_all hq, UR.out, BR.out⟩, by simpa [intOf] using HMJ.out⟩
  obtain rfl : j = i := by omega
  have y2 : ¬ ((j : Int) < (j : Int)) := by omega
  go_wp2_with fail
  exact ⟨⟨p + 1, HP.out, by congr 1, TJ.out.congr fun p q hp hq => stR_next hp hq, UJ.out, BJ.out⟩, by simpa [intOf] using HMP.out⟩
 obtain rfl : p = i := by omega
 have y1 : ¬ ((p : Int) < (p : Int)) := by omega
 go_wp2_with fail
 go_ret
 exact spPost_of HNW.out B1.out TP.out BP.out fun a b ha hb => by rw [stR_all (by have := HNW.out; omega), HU.out, HNW.out, HLX.out]; exact sp_star1 s x hb
/-! ### all kinds -/
theorem refSpans_any : ∀ N : Nat, SpansC N := by
 intro N
 induction N with
 | zero => intro t h; have := nodes_pos t; omega
 | succ N ih =>
  rintro ⟨k, s, l⟩ hN hM W hW V cs w hr hv
  have hnl : nodesL l ≤ N := by simp only [T.nodes] at hN; omega
  have hml : nodesL l ≤ 1099511627776 := by simp only [T.nodes] at hM; omega
  by_cases k2 : k = 2
  ·subst k2; exact spans_k2 s l W hW V cs w hr hv
  by_cases k3 : k = 3
  ·subst k3; exact spans_k3 s l W hW V cs w hr hv
  by_cases k4 : k = 4
  ·subst k4; exact spans_k4 N ih s l hnl hml W hW V cs w hr hv
  by_cases k5 : k = 5
  ·subst k5; exact spans_k5 N ih s l hnl hml W hW V cs w hr hv
  by_cases k6 : k = 6
  ·subst k6
   by_cases h1 : l.length = 1
   ·obtain ⟨x, rfl⟩ := List.length_eq_one_iff.1 h1
    have := nodes_mem (l := [x]) (t := x) (by simp)
    exact spans_k61 N ih s x (by omega) (by omega) W hW V cs w hr hv
   ·exact spans_k60 s l h1 W hW V cs w hr hv
  exact spans_no k s l k2 k3 k4 k5 k6 W hW V cs w hr hv
set_option maxHeartbeats 4000000 in
set_option maxRecDepth 1000000 in
theorem refIn_any (t : T) (hn : t.nodes ≤ 1099511627776) (W : List UInt8) (hW : W.length ≤ 200) (V : Value) (cs : List Value) (w : World) (hr : Row w V (bvs W)) (hv : RxV w.heap.size w cs t) :
  Calls Try.prog 26 #[.agg cs.toArray, V] w fun e w' => e = .returned (.bool (lgB t W)) ∧ Below w.heap.size w w' := by
 have V0 := qH hv
 have C6 := qH hv.length
 have HN := qH hn
 have HW := qH hW
 have RW := qH hr
 obtain ⟨AW, capW, rfl, _⟩ := hr
 have hbw : (bvs W).length = W.length := bvs_length W
 rw [hbw] at RW ⊢
 clear hv hn hW hbw
 go_enter Try.func26, Try.ntmps26
 go_wp2_with (first
  | ((with_reducible refine atDst 2 ?_); refine wpList_box rfl 40 _ rfl cs rfl (Below.refl w.heap.size w) (Nat.le_refl _) ?_; intro w1 hk1 hb1 hs1 _; have K1 := qH hk1; have B1 := qH hb1; clear hk1 hb1 hs1; (try simp only [Act.put, qA, qB, qC]))
  | ((with_reducible refine atDst 5 ?_); refine wpList_ldArr rfl 40 _ rfl w.heap.size rfl 40 _ _ K1.out Try.underlying40 rfl (size_rx C6.out) ?_; (try simp only [Act.put, qA, qB, qC])))
 refine (refSpans_any _ t (Nat.le_refl _) HN.out W HW.out _ cs w1 (RW.out.below B1.out) (RxV.mono (V0.out.stay B1.out) B1.out.size)).mono ?_
 rintro e w2 ⟨g, bs, rfl, hT, hb⟩
 have B2 := qH (B1.out.trans (hb.mono B1.out.size))
 have hc1 := hT.at_ (Nat.succ_pos _) (Nat.succ_pos _)
 have hc2 := hT.cell (p := 0) (q := W.length) (Nat.succ_pos _) (Nat.lt_succ_self _)
 rw [spB_lg] at hc2
 obtain ⟨n, hn⟩ : ∃ n, n = W.length + 1 := ⟨_, rfl⟩
 rw [← hn] at hc1 ⊢
 have y1 : (0 : Int) < (n : Int) := by omega
 have y2 : (W.length : Int) < (n : Int) := by omega
 clear hT hb hn
 go_wp2_with fail
 go_ret
 exact ⟨rfl, B2.out⟩
end Go.Proofs.Ytmcpfaaakmehdaa
