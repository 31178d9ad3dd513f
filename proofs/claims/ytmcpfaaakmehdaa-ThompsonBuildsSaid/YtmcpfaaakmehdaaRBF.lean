/-
  Texts of this proof, put together: SpE. No statement is proved here.
-/
import Derived.Test.YtmcpfaaakmehdaaRBE
import Derived.Test.YtmcpfaaakmehdaaRD
import Derived.Test.YtmcpfaaakmehdaaRI
namespace Go.Proofs.Ytmcpfaaakmehdaa
open Go.RowKit
set_option linter.unusedSimpArgs false
set_option linter.unusedVariables false
def spPost (t : T) (W : List UInt8) (w : World) (e : Ending) (w' : World) : Prop :=
 ∃ g bs, e = .returned (.slice (some ⟨g, 0, none⟩) (W.length + 1) (W.length + 1)) ∧ Tbl w' w.heap.size g bs (W.length + 1) (W.length + 1) (spB (Lg t) W) ∧ Below w.heap.size w w'
theorem spPost_of {t : T} {W : List UInt8} {w w1 w' : World} {g n : Nat} {bs : Nat → Nat} {f : Nat → Nat → Bool} (hn : n = W.length + 1) (h1 : Below w.heap.size w w1) (h : Tbl w' w1.heap.size g bs n n f) (hb : Below w1.heap.size w1 w') (hf : ∀ p q, p ≤ W.length → q ≤ W.length → f p q = spB (Lg t) W p q) :
  spPost t W w (.returned (.slice (some ⟨g, 0, none⟩) n n)) w' := by
 subst hn
 exact ⟨g, bs, rfl, (h.congr fun p q hp hq => hf p q (by omega) (by omega)).mono h1.size, h1.trans (hb.mono h1.size)⟩
def SpansC (N : Nat) : Prop := ∀ t : T, t.nodes ≤ N → t.nodes ≤ 1099511627776 → ∀ W : List UInt8, W.length ≤ 200 → ∀ (V : Value) (cs : List Value) (w : World), Row w V (bvs W) → RxV w.heap.size w cs t →
  Calls Try.prog 50 #[.agg cs.toArray, V] w (spPost t W w)
def dgI (i p q : Nat) : Bool := decide (p = q ∧ p < i)
theorem dgI_zero : dgI 0 = fun _ _ => false := by funext p q; unfold dgI; exact decide_eq_false (by omega)
theorem dgI_put (i : Nat) : upd2 (dgI i) i i true = dgI (i + 1) := by
 funext p q
 unfold upd2 updB dgI
 by_cases hp : p = i
 ·subst hp
  rw [if_pos rfl]
  by_cases hq : q = p
  ·subst hq; rw [if_pos rfl]; exact (decide_eq_true (by omega)).symm
  ·rw [if_neg hq, decide_eq_false (by omega), decide_eq_false (by omega)]
 ·rw [if_neg hp]
  by_cases h : p = q ∧ p < i
  ·rw [decide_eq_true h, decide_eq_true (by omega)]
  ·rw [decide_eq_false h, decide_eq_false (by omega)]
theorem dgI_all {n p q : Nat} (hp : p < n) : dgI n p q = decide (p = q) := by
 unfold dgI
 by_cases h : p = q
 ·rw [decide_eq_true h, decide_eq_true ⟨h, hp⟩]
 ·rw [decide_eq_false h, decide_eq_false (by omega)]
theorem lt_big {i n : Nat} (h : i < n) (hn : n ≤ 201) : i ≤ 4611686018427387904 := by omega
set_option maxHeartbeats 4000000 in
set_option maxRecDepth 1000000 in
theorem spans_k2 (s : Nat → Bool) (l : List T) (W : List UInt8) (hW : W.length ≤ 200) (V : Value) (cs : List Value) (w : World) (hr : Row w V (bvs W)) (hv : RxV w.heap.size w cs (.node 2 s l)) :
  Calls Try.prog 50 #[.agg cs.toArray, V] w (spPost (.node 2 s l) W w) := by
 have V0 := qH hv
 obtain ⟨A, cap, f, rfl, h1, h2, h0, h3, h4⟩ := hv.opened
 have H3 := qH h3
 have H4 := qH h4
 have HCL := qH h1
 have HCM := qH h2
 have RW := qH hr
 obtain ⟨AW, capW, rfl, _⟩ := hr
 have hbw : (bvs W).length = W.length := bvs_length W
 rw [hbw] at RW ⊢
 obtain ⟨cs, hcs⟩ : ∃ cs, cs = Value.int .i64 2 :: (wds s ++ [.slice A l.length cap]) := ⟨_, rfl⟩
 have HC0 := qH (show cs[0]? = some (.int .i64 2) by rw [hcs]; rfl)
 have HC5 := qH (show cs[5]? = some (.slice A l.length cap) by rw [hcs]; rfl)
 have HCS := qH hcs
 rw [← hcs] at V0 ⊢
 obtain ⟨n, hn⟩ : ∃ n, n = W.length + 1 := ⟨_, rfl⟩
 have HNW := qH hn
 have HN2 := qH (show n ≤ 201 by omega)
 have m1 : wrap64 ((W.length : Int) + 1) = (n : Int) := by rw [hn]; exact wrap_one _ (by omega)
 have m2 : IntKind.i64.wrap ((W.length : Int) + 1) = (n : Int) := by rw [hn]; exact wrap_one' _ (by omega)
 obtain ⟨i1, hi1, hz1, hs1, hy1⟩ := infoP inf_bools
 obtain ⟨i2, hi2, hz2, hs2, hy2⟩ := infoP inf_bool
 have HY1 := qH (show i1.bytes * n ≤ 281474976710656 by rw [hy1]; omega)
 have HY2 := qH (show i2.bytes * n ≤ 281474976710656 by rw [hy2]; omega)
 have HN3 := qH (show n ≤ 9223372036854775807 by omega)
 clear hv h1 h2 h0 h3 h4 hcs hn hW hy1 hy2 hbw
 go_enter Try.func50, Try.ntmps50
 go_wp2_with (first
  | ((with_reducible refine atDst 2 ?_); refine wpList_box rfl 40 _ rfl cs rfl (Below.refl w.heap.size w) (Nat.le_refl _) ?_; intro w1 hk1 hb1 hs1 _; have K1 := qH hk1; have B1 := qH hb1; clear hk1 hb1 hs1; (try simp only [Act.put, qA, qB, qC]))
  | ((with_reducible refine atDst 21 ?_); refine wpList_mk _ rfl _ _ 81 rfl 66 i1 (.slice none 0 0) Try.underlying81 hi1 hz1 hs1 rfl n _ _ _ _ rfl rfl rfl rfl HY1.out HN3.out ?_; intro w2 hk hb hs; have T2 := qH (Tbl.new (B := w1.heap.size) hk (Nat.le_refl _) (fun _ => 0) (fun _ _ => false)); have B2 := qH hb; clear hk hb hs; (try simp only [Act.put, qA, qB, qC])))
 go_loopw [7] (fun iv wl => ∃ (i : Nat) (bs : Nat → Nat), i ≤ n ∧ iv = .int .i64 (i : Int) ∧ Tbl wl w1.heap.size w1.heap.size bs n i (fun _ _ => false) ∧ Below w1.heap.size w1 wl) (fun iv _ => n - (intOf iv).toNat)
 case atStart => exact ⟨0, _, Nat.zero_le _, by simp, T2.out, B2.out⟩
 obtain ⟨i, bs, hi, rfl, hT, hB⟩ := hrel
 have TQ := qH hT
 have BQ := qH hB
 clear hT hB
 by_cases hin : i < n
 ·have x1 : (i : Int) < (n : Int) := Int.ofNat_lt.2 hin
  have HI := qH hin
  have HMI := qH (sub_next hin)
  have e3 := wrap_one i (lt_big HI.out HN2.out)
  have e4 := wrap_one' i (lt_big HI.out HN2.out)
  clear hi hin
  go_wp2_with ((with_reducible refine atDst 30 ?_); refine wpList_mk _ rfl _ _ 66 rfl 4 i2 (.bool false) Try.underlying66 hi2 hz2 hs2 rfl n _ _ _ _ rfl rfl rfl rfl HY2.out HN3.out ?_; intro w3 hk hb hs; have hfz := (TQ.out.below hb).tfrozen i; have hcr := (TQ.out.below hb).nil_ HI.out (Nat.lt_irrefl i); have TM := qH (TQ.out.more hb hk (fun _ => rfl)); have BM := qH (BQ.out.trans (hb.mono BQ.out.size)); clear hk hb hs; (try simp only [Act.put, qA, qB, qC]))
  exact ⟨⟨i + 1, _, HI.out, by congr 1, TM.out, BM.out.setCell (p := ⟨w1.heap.size, i, none⟩) (Nat.le_refl _) _⟩, by simpa [intOf] using HMI.out⟩
 obtain rfl : i = n := by omega
 have x1 : ¬ ((i : Int) < (i : Int)) := by omega
 obtain ⟨wq, hwq⟩ : ∃ v : World, v = wr := ⟨_, rfl⟩
 subst hwq
 have KQ := qH (K1.out.below BQ.out K1.out.lt)
 have c0 := KQ.out.cell 0
 rw [HC0.out] at c0
 clear hi hin
 go_wp2_with fail
 go_loopw [8] (fun jv wl => ∃ (j : Nat), j ≤ i ∧ jv = .int .i64 (j : Int) ∧ Tbl wl w1.heap.size w1.heap.size bs i i (dgI j) ∧ Below w1.heap.size w1 wl) (fun jv _ => i - (intOf jv).toNat)
 case atStart => exact ⟨0, Nat.zero_le _, by simp, by rw [dgI_zero]; exact TQ.out, BQ.out⟩
 obtain ⟨j, hj, rfl, hT, hB⟩ := hrel
 have TD := qH hT
 have BD := qH hB
 clear hT hB
 by_cases hjn : j < i
 ·have y1 : (j : Int) < (i : Int) := Int.ofNat_lt.2 hjn
  have HJ := qH hjn
  have HMJ := qH (sub_next hjn)
  have f3 := wrap_one j (lt_big HJ.out HN2.out)
  have f4 := wrap_one' j (lt_big HJ.out HN2.out)
  have hc1 := TD.out.at_ HJ.out HJ.out
  have hc2 := TD.out.cell HJ.out HJ.out
  have hfz := TD.out.frozen HJ.out j
  clear hj hjn
  go_wp2_with fail
  refine ⟨⟨j + 1, HJ.out, by congr 1, ?_, BD.out.setCell (p := ⟨bs j, j, none⟩) (TD.out.bbase j HJ.out) _⟩, by simpa [intOf] using HMJ.out⟩
  rw [← dgI_put]
  exact TD.out.put HJ.out j true
 obtain rfl : j = i := by omega
 have y1 : ¬ ((j : Int) < (j : Int)) := by omega
 go_wp2_with fail
 go_ret
 exact spPost_of HNW.out B1.out TD.out BD.out fun p q hp hq => by rw [dgI_all (by have := HNW.out; omega), sp_k2 rfl hq]
set_option maxHeartbeats 4000000 in
set_option maxRecDepth 1000000 in
theorem spans_no (k : Int) (s : Nat → Bool) (l : List T) (k2 : k ≠ 2) (k3 : k ≠ 3) (k4 : k ≠ 4) (k5 : k ≠ 5) (k6 : k ≠ 6) (W : List UInt8) (hW : W.length ≤ 200) (V : Value) (cs : List Value) (w : World) (hr : Row w V (bvs W)) (hv : RxV w.heap.size w cs (.node k s l)) :
  Calls Try.prog 50 #[.agg cs.toArray, V] w (spPost (.node k s l) W w) := by
 have HE := qH (sp_other s l W k2 k3 k4 k5 k6)
 have z2 : (k == 2) = false := by simpa using k2
 have z3 : (k == 3) = false := by simpa using k3
 have z4 : (k == 4) = false := by simpa using k4
 have z5 : (k == 5) = false := by simpa using k5
 have z6 : (k == 6) = false := by simpa using k6
 clear k2 k3 k4 k5 k6
 have V0 := qH hv
 obtain ⟨A, cap, f, rfl, h1, h2, h0, h3, h4⟩ := hv.opened
 have H3 := qH h3
 have H4 := qH h4
 have HCL := qH h1
 have HCM := qH h2
 have RW := qH hr
 obtain ⟨AW, capW, rfl, _⟩ := hr
 have hbw : (bvs W).length = W.length := bvs_length W
 rw [hbw] at RW ⊢
 obtain ⟨cs, hcs⟩ : ∃ cs, cs = Value.int .i64 k :: (wds s ++ [.slice A l.length cap]) := ⟨_, rfl⟩
 have HC0 := qH (show cs[0]? = some (.int .i64 k) by rw [hcs]; rfl)
 have HC5 := qH (show cs[5]? = some (.slice A l.length cap) by rw [hcs]; rfl)
 have HCS := qH hcs
 rw [← hcs] at V0 ⊢
 obtain ⟨n, hn⟩ : ∃ n, n = W.length + 1 := ⟨_, rfl⟩
 have HNW := qH hn
 have HN2 := qH (show n ≤ 201 by omega)
 have m1 : wrap64 ((W.length : Int) + 1) = (n : Int) := by rw [hn]; exact wrap_one _ (by omega)
 have m2 : IntKind.i64.wrap ((W.length : Int) + 1) = (n : Int) := by rw [hn]; exact wrap_one' _ (by omega)
 obtain ⟨i1, hi1, hz1, hs1, hy1⟩ := infoP inf_bools
 obtain ⟨i2, hi2, hz2, hs2, hy2⟩ := infoP inf_bool
 have HY1 := qH (show i1.bytes * n ≤ 281474976710656 by rw [hy1]; omega)
 have HY2 := qH (show i2.bytes * n ≤ 281474976710656 by rw [hy2]; omega)
 have HN3 := qH (show n ≤ 9223372036854775807 by omega)
 clear hv h1 h2 h0 h3 h4 hcs hn hW hy1 hy2 hbw
 go_enter Try.func50, Try.ntmps50
 go_wp2_with (first
  | ((with_reducible refine atDst 2 ?_); refine wpList_box rfl 40 _ rfl cs rfl (Below.refl w.heap.size w) (Nat.le_refl _) ?_; intro w1 hk1 hb1 hs1 _; have K1 := qH hk1; have B1 := qH hb1; clear hk1 hb1 hs1; (try simp only [Act.put, qA, qB, qC]))
  | ((with_reducible refine atDst 21 ?_); refine wpList_mk _ rfl _ _ 81 rfl 66 i1 (.slice none 0 0) Try.underlying81 hi1 hz1 hs1 rfl n _ _ _ _ rfl rfl rfl rfl HY1.out HN3.out ?_; intro w2 hk hb hs; have T2 := qH (Tbl.new (B := w1.heap.size) hk (Nat.le_refl _) (fun _ => 0) (fun _ _ => false)); have B2 := qH hb; clear hk hb hs; (try simp only [Act.put, qA, qB, qC])))
 go_loopw [7] (fun iv wl => ∃ (i : Nat) (bs : Nat → Nat), i ≤ n ∧ iv = .int .i64 (i : Int) ∧ Tbl wl w1.heap.size w1.heap.size bs n i (fun _ _ => false) ∧ Below w1.heap.size w1 wl) (fun iv _ => n - (intOf iv).toNat)
 case atStart => exact ⟨0, _, Nat.zero_le _, by simp, T2.out, B2.out⟩
 obtain ⟨i, bs, hi, rfl, hT, hB⟩ := hrel
 have TQ := qH hT
 have BQ := qH hB
 clear hT hB
 by_cases hin : i < n
 ·have x1 : (i : Int) < (n : Int) := Int.ofNat_lt.2 hin
  have HI := qH hin
  have HMI := qH (sub_next hin)
  have e3 := wrap_one i (lt_big HI.out HN2.out)
  have e4 := wrap_one' i (lt_big HI.out HN2.out)
  clear hi hin
  go_wp2_with ((with_reducible refine atDst 30 ?_); refine wpList_mk _ rfl _ _ 66 rfl 4 i2 (.bool false) Try.underlying66 hi2 hz2 hs2 rfl n _ _ _ _ rfl rfl rfl rfl HY2.out HN3.out ?_; intro w3 hk hb hs; have hfz := (TQ.out.below hb).tfrozen i; have hcr := (TQ.out.below hb).nil_ HI.out (Nat.lt_irrefl i); have TM := qH (TQ.out.more hb hk (fun _ => rfl)); have BM := qH (BQ.out.trans (hb.mono BQ.out.size)); clear hk hb hs; (try simp only [Act.put, qA, qB, qC]))
  exact ⟨⟨i + 1, _, HI.out, by congr 1, TM.out, BM.out.setCell (p := ⟨w1.heap.size, i, none⟩) (Nat.le_refl _) _⟩, by simpa [intOf] using HMI.out⟩
 obtain rfl : i = n := by omega
 have x1 : ¬ ((i : Int) < (i : Int)) := by omega
 obtain ⟨wq, hwq⟩ : ∃ v : World, v = wr := ⟨_, rfl⟩
 subst hwq
 have KQ := qH (K1.out.below BQ.out K1.out.lt)
 have c0 := KQ.out.cell 0
 rw [HC0.out] at c0
 clear hi hin
 go_wp2_with fail
 go_ret
 exact spPost_of HNW.out B1.out TQ.out BQ.out fun p q hp hq => by rw [HE.out]
/-! ### sets -/
def s3I (s : Nat → Bool) (W : List UInt8) (i p q : Nat) : Bool := decide (p < i ∧ q = p + 1) && hitP s W p
theorem s3I_zero (s : Nat → Bool) (W : List UInt8) : s3I s W 0 = fun _ _ => false := by funext p q; unfold s3I; rw [decide_eq_false (by omega)]; rfl
theorem s3I_put (s : Nat → Bool) (W : List UInt8) (i : Nat) : upd2 (s3I s W i) i (i + 1) (hitP s W i) = s3I s W (i + 1) := by
 funext p q
 unfold upd2 updB s3I
 by_cases hp : p = i
 ·subst hp
  rw [if_pos rfl]
  by_cases hq : q = p + 1
  ·subst hq; rw [if_pos rfl, decide_eq_true (by omega)]; simp
  ·rw [if_neg hq, decide_eq_false (by omega), decide_eq_false (by omega)]
 ·rw [if_neg hp]
  by_cases h : p < i ∧ q = p + 1
  ·rw [decide_eq_true h, decide_eq_true (by omega)]
  ·rw [decide_eq_false h, decide_eq_false (by omega)]
theorem s3I_all {s : Nat → Bool} {l : List T} {W : List UInt8} {p q : Nat} (hq : q ≤ W.length) : s3I s W W.length p q = spB (Lg (.node 3 s l)) W p q := by
 rw [sp_k3]
 unfold s3I
 by_cases h : q = p + 1
 ·rw [decide_eq_true h, decide_eq_true (by omega)]
 ·rw [decide_eq_false h, decide_eq_false (by omega)]
theorem ld_u8s {ev : Operand → Value} {o : Oper} (x : Operand) (ho : o.op = .load 5 x) {p : Addr} (hx : ev x = .pointer (some p)) {k : Int} {W : World} (hc : W.cell? p = some (.int .u8 k)) : (execOp ev o).run Try.prog W = .ok (.value (.int .u8 k)) W := by
 simp only [execOp, ho, hx]
 go_simp
theorem add_at {ev : Operand → Value} {o : Oper} (x : Operand) (ho : o.op = .binOp .add 3 x (.const (.int .i64 1)) 3) {j : Nat} (hx : ev x = .int .i64 (j : Int)) (hc : ev (.const (.int .i64 1)) = .int .i64 1) (f4 : IntKind.i64.wrap ((j : Int) + 1) = ((j + 1 : Nat) : Int)) (f3 : wrap64 ((j : Int) + 1) = ((j + 1 : Nat) : Int)) (W : World) : (execOp ev o).run Try.prog W = .ok (.value (.int .i64 ((j + 1 : Nat) : Int))) W := by
 simp only [execOp, ho, hx, hc]
 go_simp
theorem ix_b {ev : Operand → Value} {o : Oper} (x i : Operand) (ho : o.op = .indexAddr 66 x i) {b n c q : Nat} (hx : ev x = .slice (some ⟨b, 0, none⟩) n c) (hi : ev i = .int .i64 (q : Int)) (hq : q < n) (W : World) : (execOp ev o).run Try.prog W = .ok (.value (.pointer (some ⟨b, q, none⟩))) W := by
 have h1 : (q : Int) < (n : Int) := Int.ofNat_lt.2 hq
 simp only [execOp, ho, hx, hi]
 go_simp
set_option maxHeartbeats 4000000 in
set_option maxRecDepth 1000000 in
theorem spans_k3 (s : Nat → Bool) (l : List T) (W : List UInt8) (hW : W.length ≤ 200) (V : Value) (cs : List Value) (w : World) (hr : Row w V (bvs W)) (hv : RxV w.heap.size w cs (.node 3 s l)) :
  Calls Try.prog 50 #[.agg cs.toArray, V] w (spPost (.node 3 s l) W w) := by
 have V0 := qH hv
 obtain ⟨A, cap, f, rfl, h1, h2, h0, h3, h4⟩ := hv.opened
 have H3 := qH h3
 have H4 := qH h4
 have HCL := qH h1
 have HCM := qH h2
 have RW := qH hr
 obtain ⟨AW, capW, rfl, _⟩ := hr
 have hbw : (bvs W).length = W.length := bvs_length W
 rw [hbw] at RW ⊢
 obtain ⟨cs, hcs⟩ : ∃ cs, cs = Value.int .i64 3 :: (wds s ++ [.slice A l.length cap]) := ⟨_, rfl⟩
 have HC0 := qH (show cs[0]? = some (.int .i64 3) by rw [hcs]; rfl)
 have HC5 := qH (show cs[5]? = some (.slice A l.length cap) by rw [hcs]; rfl)
 have HCS := qH hcs
 rw [← hcs] at V0 ⊢
 obtain ⟨n, hn⟩ : ∃ n, n = W.length + 1 := ⟨_, rfl⟩
 have HNW := qH hn
 have HN2 := qH (show n ≤ 201 by omega)
 have m1 : wrap64 ((W.length : Int) + 1) = (n : Int) := by rw [hn]; exact wrap_one _ (by omega)
 have m2 : IntKind.i64.wrap ((W.length : Int) + 1) = (n : Int) := by rw [hn]; exact wrap_one' _ (by omega)
 obtain ⟨i1, hi1, hz1, hs1, hy1⟩ := infoP inf_bools
 obtain ⟨i2, hi2, hz2, hs2, hy2⟩ := infoP inf_bool
 have HY1 := qH (show i1.bytes * n ≤ 281474976710656 by rw [hy1]; omega)
 have HY2 := qH (show i2.bytes * n ≤ 281474976710656 by rw [hy2]; omega)
 have HN3 := qH (show n ≤ 9223372036854775807 by omega)
 clear hv h1 h2 h0 h3 h4 hcs hn hW hy1 hy2 hbw
 go_enter Try.func50, Try.ntmps50
 go_wp2_with (first
  | ((with_reducible refine atDst 2 ?_); refine wpList_box rfl 40 _ rfl cs rfl (Below.refl w.heap.size w) (Nat.le_refl _) ?_; intro w1 hk1 hb1 hs1 _; have K1 := qH hk1; have B1 := qH hb1; clear hk1 hb1 hs1; (try simp only [Act.put, qA, qB, qC]))
  | ((with_reducible refine atDst 21 ?_); refine wpList_mk _ rfl _ _ 81 rfl 66 i1 (.slice none 0 0) Try.underlying81 hi1 hz1 hs1 rfl n _ _ _ _ rfl rfl rfl rfl HY1.out HN3.out ?_; intro w2 hk hb hs; have T2 := qH (Tbl.new (B := w1.heap.size) hk (Nat.le_refl _) (fun _ => 0) (fun _ _ => false)); have B2 := qH hb; clear hk hb hs; (try simp only [Act.put, qA, qB, qC])))
 go_loopw [7] (fun iv wl => ∃ (i : Nat) (bs : Nat → Nat), i ≤ n ∧ iv = .int .i64 (i : Int) ∧ Tbl wl w1.heap.size w1.heap.size bs n i (fun _ _ => false) ∧ Below w1.heap.size w1 wl) (fun iv _ => n - (intOf iv).toNat)
 case atStart => exact ⟨0, _, Nat.zero_le _, by simp, T2.out, B2.out⟩
 obtain ⟨i, bs, hi, rfl, hT, hB⟩ := hrel
 have TQ := qH hT
 have BQ := qH hB
 clear hT hB
 by_cases hin : i < n
 ·have x1 : (i : Int) < (n : Int) := Int.ofNat_lt.2 hin
  have HI := qH hin
  have HMI := qH (sub_next hin)
  have e3 := wrap_one i (lt_big HI.out HN2.out)
  have e4 := wrap_one' i (lt_big HI.out HN2.out)
  clear hi hin
  go_wp2_with ((with_reducible refine atDst 30 ?_); refine wpList_mk _ rfl _ _ 66 rfl 4 i2 (.bool false) Try.underlying66 hi2 hz2 hs2 rfl n _ _ _ _ rfl rfl rfl rfl HY2.out HN3.out ?_; intro w3 hk hb hs; have hfz := (TQ.out.below hb).tfrozen i; have hcr := (TQ.out.below hb).nil_ HI.out (Nat.lt_irrefl i); have TM := qH (TQ.out.more hb hk (fun _ => rfl)); have BM := qH (BQ.out.trans (hb.mono BQ.out.size)); clear hk hb hs; (try simp only [Act.put, qA, qB, qC]))
  exact ⟨⟨i + 1, _, HI.out, by congr 1, TM.out, BM.out.setCell (p := ⟨w1.heap.size, i, none⟩) (Nat.le_refl _) _⟩, by simpa [intOf] using HMI.out⟩
 obtain rfl : i = n := by omega
 have x1 : ¬ ((i : Int) < (i : Int)) := by omega
 obtain ⟨wq, hwq⟩ : ∃ v : World, v = wr := ⟨_, rfl⟩
 subst hwq
 have KQ := qH (K1.out.below BQ.out K1.out.lt)
 have c0 := KQ.out.cell 0
 rw [HC0.out] at c0
 clear hi hin
 have HI0 := qH (show 0 + 1 ≤ i by have := HNW.out; omega)
 go_wp2_with fail
 go_loopw [9] (fun jv wl => ∃ (j : Nat), j + 1 ≤ i ∧ jv = .int .i64 (j : Int) ∧ Tbl wl w1.heap.size w1.heap.size bs i i (s3I s W j) ∧ Below w1.heap.size w1 wl) (fun jv _ => i - (intOf jv).toNat)
 case atStart => exact ⟨0, HI0.out, by simp, by rw [s3I_zero]; exact TQ.out, BQ.out⟩
 obtain ⟨j, hj, rfl, hT, hB⟩ := hrel
 have TR := qH hT
 have BR := qH hB
 clear hT hB
 have HJ0 := qH (show j < i by omega)
 have f3 := wrap_one j (lt_big HJ0.out HN2.out)
 have f4 := wrap_one' j (lt_big HJ0.out HN2.out)
 by_cases hjn : j + 1 < i
 ·have y1 : ((j + 1 : Nat) : Int) < (i : Int) := Int.ofNat_lt.2 hjn
  have HJ := qH hjn
  have HJW := qH (show j < W.length by have := HNW.out; omega)
  have HMJ := qH (sub_next HJ0.out)
  have BW := qH (B1.out.trans (BR.out.mono B1.out.size))
  have HRS := qH (set_range' HCS.out (K1.out.below BR.out K1.out.lt))
  obtain ⟨bw, ow, rfl, hbw, hcell⟩ := RW.out.at_ (by rw [bvs_length]; exact Nat.lt_of_le_of_lt (Nat.zero_le _) HJW.out)
  obtain ⟨b, hb⟩ : ∃ b, W[j]? = some b := ⟨_, List.getElem?_eq_getElem HJW.out⟩
  have HBV := qH (hitP_at (s := s) hb)
  have HWC := qH ((BW.out.cell (p := ⟨bw, ow + j, none⟩) hbw).trans (hcell j _ (bvs_get W j b hb)))
  have HBW := qH (Nat.lt_of_lt_of_le hbw BW.out.size)
  have HBL := qH hbw
  have HB8 := qH b.toNat_lt
  have y3 : (j : Int) + 1 < (i : Int) := by omega
  have y2 : (j : Int) < (i : Int) := Int.ofNat_lt.2 HJ0.out
  have w1i : (j : Int) < (W.length : Int) := Int.ofNat_lt.2 HJW.out
  have HT1 := qH (TR.out.at_ HJ0.out HJ0.out)
  have HT2 := qH (TR.out.cell HJ0.out HJ.out)
  have HL1 := qH TR.out.top.lt
  have HL3 := qH (K1.out.below BR.out K1.out.lt).lt
  have HE1 := qH (show some w1.heap.size ≠ some (bs j) from fun h => TR.out.ne j HJ0.out (Option.some.inj h).symm)
  have HE3 := qH (show some w.heap.size ≠ some (bs j) from fun h => by have h1 := Option.some.inj h; have h2 := TR.out.bbase j HJ0.out; have h3 := K1.out.lt; omega)
  clear hj hjn hbw hcell hb
  go_wp2_with fail
  refine sg_start (S := fun V => wr.grownBy V (some (bs j))) (by kernel_rfl) (grown_start _ _) (fun wd hwd => ?_)
  have hX : wr.grownBy wd (some (bs j)) := by rw [hwd]; exact grown_start _ _
  have TD := qH (show Tbl wd w1.heap.size w1.heap.size bs i i (s3I s W j) by rw [hwd]; exact TR.out.drew)
  have BD := qH (show Below w1.heap.size w1 wd by rw [hwd]; exact BR.out.drew)
  have HE4 := qH (show some bw ≠ some (bs j) from fun h => by have h1 := Option.some.inj h; have h2 := TR.out.bbase j HJ0.out; have h3 := HBL.out; have h4 := B1.out.size; omega)
  clear hwd
  refine sg_take (i := 0) (oi := ⟨some 55, _, _, _, _, _⟩) (v := ?_) rfl (by kernel_rfl) (by kernel_rfl) (by kernel_rfl) (fun _ _ _ h => h) rfl hX ?_ ?_; rotate_left; (intro W hW; go_simp; try with_reducible rfl); simp only [Act.put, qA, qB, qC]
  refine sg_take (i := 1) (oi := ⟨some 56, _, _, _, _, _⟩) (v := ?_) rfl (by kernel_rfl) (by kernel_rfl) (by kernel_rfl) (fun _ _ _ h => h) rfl hX ?_ ?_; rotate_left; (intro W hW; go_simp; try with_reducible rfl); simp only [Act.put, qA, qB, qC]
  refine sg_take (i := 2) (oi := ⟨some 57, _, _, _, _, _⟩) (v := ?_) rfl (by kernel_rfl) (by kernel_rfl) (by kernel_rfl) (fun _ _ _ h => h) rfl hX ?_ ?_; rotate_left; (intro W hW; go_simp; try with_reducible rfl); simp only [Act.put, qA, qB, qC]
  refine sg_take (i := 3) (oi := ⟨some 58, _, _, _, _, _⟩) (v := .slice (some ⟨bs j, 0, none⟩) i i) rfl (by kernel_rfl) (by kernel_rfl) (by kernel_rfl) (fun _ _ _ h => h) rfl hX (fun V hV => ld_bs (.tmp 57) rfl rfl (grown_cell hV HL1.out HE1.out HT1.out)) ?_; simp only [Act.put, qA, qB, qC]
  refine sg_take (i := 4) (oi := ⟨some 59, _, _, _, _, _⟩) (v := ?_) rfl (by kernel_rfl) (by kernel_rfl) (by kernel_rfl) (fun _ _ _ h => h) rfl hX ?_ ?_; rotate_left; (intro W hW; go_simp; try with_reducible rfl); simp only [Act.put, qA, qB, qC]
  refine sg_take (i := 5) (oi := ⟨some 60, _, _, _, _, _⟩) (v := .int .i64 ((j + 1 : Nat) : Int)) rfl (by kernel_rfl) (by kernel_rfl) (by kernel_rfl) (fun _ _ _ h => h) rfl hX (fun V _ => add_at (.tmp 59) rfl rfl rfl f4 f3 V) ?_; simp only [Act.put, qA, qB, qC]
  refine sg_take (i := 6) (oi := ⟨some 61, _, _, _, _, _⟩) (v := ?_) rfl (by kernel_rfl) (by kernel_rfl) (by kernel_rfl) (fun _ _ _ h => h) rfl hX ?_ ?_; rotate_left; (intro W hW; go_simp; try with_reducible rfl); simp only [Act.put, qA, qB, qC]
  refine sg_take (i := 7) (oi := ⟨some 62, _, _, _, _, _⟩) (v := .agg (wds s).toArray) rfl (by kernel_rfl) (by kernel_rfl) (by kernel_rfl) (fun _ _ _ h => h) rfl hX (fun V hV => ld_keep 37 _ rfl w.heap.size 1 rfl _ _ HRS.out (hV.block _ HL3.out HE3.out) Try.underlying37 rfl (size_set s)) ?_; simp only [Act.put, qA, qB, qC]
  refine sg_take (i := 8) (oi := ⟨some 63, _, _, _, _, _⟩) (v := ?_) rfl (by kernel_rfl) (by kernel_rfl) (by kernel_rfl) (fun _ _ _ h => h) rfl hX ?_ ?_; rotate_left; (intro W hW; go_simp; try with_reducible rfl); simp only [Act.put, qA, qB, qC]
  refine sg_take (i := 9) (oi := ⟨some 64, _, _, _, _, _⟩) (v := ?_) rfl (by kernel_rfl) (by kernel_rfl) (by kernel_rfl) (fun _ _ _ h => h) rfl hX ?_ ?_; rotate_left; (intro W hW; go_simp; try with_reducible rfl); simp only [Act.put, qA, qB, qC]
  refine sg_take (i := 10) (oi := ⟨some 65, _, _, _, _, _⟩) (v := ?_) rfl (by kernel_rfl) (by kernel_rfl) (by kernel_rfl) (fun _ _ _ h => h) rfl hX ?_ ?_; rotate_left; (intro W hW; go_simp; try with_reducible rfl); simp only [Act.put, qA, qB, qC]
  refine sg_take (i := 11) (oi := ⟨some 66, _, _, _, _, _⟩) (v := .int .u8 (b.toNat : Int)) rfl (by kernel_rfl) (by kernel_rfl) (by kernel_rfl) (fun _ _ _ h => h) rfl hX (fun V hV => ld_u8s (.tmp 65) rfl rfl (grown_cell hV HBW.out HE4.out HWC.out)) ?_; simp only [Act.put, qA, qB, qC]
  refine sg_actB (i := 12) (o := ⟨some 67, _, _, _, _, _⟩) rfl (by kernel_rfl) rfl hX (fun K hK => ?_)
  go_wp2_with fail
  refine (refHas_any s b.toNat HB8.out wd).mono ?_
  rintro e wE ⟨rfl, hb⟩
  rw [← HBV.out]
  go_wp2_with fail
  refine hK _ _ (grown_then hX hb) ?_
  clear hK K
  (try simp only [Act.put, qA, qB, qC])
  replace hX := grown_then hX hb
  have TE := qH (TD.out.below hb)
  have BE := qH (BD.out.trans (hb.mono BD.out.size))
  clear hb
  refine sg_take (i := 13) (oi := ⟨some 68, _, _, _, _, _⟩) (v := .pointer (some ⟨bs j, j + 1, none⟩)) rfl (by kernel_rfl) (by kernel_rfl) (by kernel_rfl) (fun _ _ _ h => h) rfl hX (fun V _ => ix_b (.tmp 58) (.tmp 60) rfl rfl rfl HJ.out V) ?_; simp only [Act.put, qA, qB, qC]
  refine sg_actB (i := 14) (o := ⟨none, _, _, _, _, _⟩) rfl (by kernel_rfl) rfl hX (fun K hK => ?_)
  refine wp_stB (.tmp 68) (.tmp 67) rfl (bs j) (j + 1) rfl (hitP s W j) rfl _ (TE.out.cell HJ0.out HJ.out) (TE.out.frozen HJ0.out (j + 1)) ?_
  refine hK _ _ (grown_set hX (j + 1) _) ?_
  clear hK K
  refine wpAnyH_done (by kernel_rfl) ?_ _
  have TF := qH (TE.out.put HJ0.out (j + 1) (hitP s W j))
  have BF := qH (BE.out.setCell (p := ⟨bs j, j + 1, none⟩) (TR.out.bbase j HJ0.out) (Value.bool (hitP s W j)))
  clear hX
  go_wp2_with fail
  refine ⟨⟨j + 1, HJ.out, by congr 1, ?_, BF.out⟩, by simpa [intOf] using HMJ.out⟩
  rw [← s3I_put]
  exact TF.out
 have y1 : ¬ (((j + 1 : Nat) : Int) < (i : Int)) := by omega
 have HJE := qH (show j = W.length by have := HNW.out; omega)
 clear hj hjn
 go_wp2_with fail
 go_ret
 exact spPost_of HNW.out B1.out TR.out BR.out fun p q hp hq => by rw [HJE.out]; exact s3I_all hq
/-! ### alternatives, sequences -/
set_option maxHeartbeats 4000000 in
set_option maxRecDepth 1000000 in
theorem spans_k5 (N : Nat) (ih : SpansC N) (s : Nat → Bool) (l : List T) (hln : nodesL l ≤ N) (hlm : nodesL l ≤ 1099511627776) (W : List UInt8) (hW : W.length ≤ 200) (V : Value) (cs : List Value) (w : World) (hr : Row w V (bvs W)) (hv : RxV w.heap.size w cs (.node 5 s l)) :
  Calls Try.prog 50 #[.agg cs.toArray, V] w (spPost (.node 5 s l) W w) := by
 have IH := qH ih
 have HLN := qH hln
 have HLM := qH hlm
 have HW := qH hW
 clear ih hln hlm
 have V0 := qH hv
 obtain ⟨A, cap, f, rfl, h1, h2, h0, h3, h4⟩ := hv.opened
 have H3 := qH h3
 have H4 := qH h4
 have HCL := qH h1
 have HCM := qH h2
 have RW := qH hr
 obtain ⟨AW, capW, rfl, _⟩ := hr
 have hbw : (bvs W).length = W.length := bvs_length W
 rw [hbw] at RW ⊢
 obtain ⟨cs, hcs⟩ : ∃ cs, cs = Value.int .i64 5 :: (wds s ++ [.slice A l.length cap]) := ⟨_, rfl⟩
 have HC0 := qH (show cs[0]? = some (.int .i64 5) by rw [hcs]; rfl)
 have HC5 := qH (show cs[5]? = some (.slice A l.length cap) by rw [hcs]; rfl)
 have HCS := qH hcs
 rw [← hcs] at V0 ⊢
 obtain ⟨n, hn⟩ : ∃ n, n = W.length + 1 := ⟨_, rfl⟩
 have HNW := qH hn
 have HN2 := qH (show n ≤ 201 by omega)
 have m1 : wrap64 ((W.length : Int) + 1) = (n : Int) := by rw [hn]; exact wrap_one _ (by omega)
 have m2 : IntKind.i64.wrap ((W.length : Int) + 1) = (n : Int) := by rw [hn]; exact wrap_one' _ (by omega)
 obtain ⟨i1, hi1, hz1, hs1, hy1⟩ := infoP inf_bools
 obtain ⟨i2, hi2, hz2, hs2, hy2⟩ := infoP inf_bool
 have HY1 := qH (show i1.bytes * n ≤ 281474976710656 by rw [hy1]; omega)
 have HY2 := qH (show i2.bytes * n ≤ 281474976710656 by rw [hy2]; omega)
 have HN3 := qH (show n ≤ 9223372036854775807 by omega)
 clear hv h1 h2 h0 h3 h4 hcs hn hW hy1 hy2 hbw
 go_enter Try.func50, Try.ntmps50
 go_wp2_with (first
  | ((with_reducible refine atDst 2 ?_); refine wpList_box rfl 40 _ rfl cs rfl (Below.refl w.heap.size w) (Nat.le_refl _) ?_; intro w1 hk1 hb1 hs1 _; have K1 := qH hk1; have B1 := qH hb1; clear hk1 hb1 hs1; (try simp only [Act.put, qA, qB, qC]))
  | ((with_reducible refine atDst 21 ?_); refine wpList_mk _ rfl _ _ 81 rfl 66 i1 (.slice none 0 0) Try.underlying81 hi1 hz1 hs1 rfl n _ _ _ _ rfl rfl rfl rfl HY1.out HN3.out ?_; intro w2 hk hb hs; have T2 := qH (Tbl.new (B := w1.heap.size) hk (Nat.le_refl _) (fun _ => 0) (fun _ _ => false)); have B2 := qH hb; clear hk hb hs; (try simp only [Act.put, qA, qB, qC])))
 go_loopw [7] (fun iv wl => ∃ (i : Nat) (bs : Nat → Nat), i ≤ n ∧ iv = .int .i64 (i : Int) ∧ Tbl wl w1.heap.size w1.heap.size bs n i (fun _ _ => false) ∧ Below w1.heap.size w1 wl) (fun iv _ => n - (intOf iv).toNat)
 case atStart => exact ⟨0, _, Nat.zero_le _, by simp, T2.out, B2.out⟩
 obtain ⟨i, bs, hi, rfl, hT, hB⟩ := hrel
 have TQ := qH hT
 have BQ := qH hB
 clear hT hB
 by_cases hin : i < n
 ·have x1 : (i : Int) < (n : Int) := Int.ofNat_lt.2 hin
  have HI := qH hin
  have HMI := qH (sub_next hin)
  have e3 := wrap_one i (lt_big HI.out HN2.out)
  have e4 := wrap_one' i (lt_big HI.out HN2.out)
  clear hi hin
  go_wp2_with ((with_reducible refine atDst 30 ?_); refine wpList_mk _ rfl _ _ 66 rfl 4 i2 (.bool false) Try.underlying66 hi2 hz2 hs2 rfl n _ _ _ _ rfl rfl rfl rfl HY2.out HN3.out ?_; intro w3 hk hb hs; have hfz := (TQ.out.below hb).tfrozen i; have hcr := (TQ.out.below hb).nil_ HI.out (Nat.lt_irrefl i); have TM := qH (TQ.out.more hb hk (fun _ => rfl)); have BM := qH (BQ.out.trans (hb.mono BQ.out.size)); clear hk hb hs; (try simp only [Act.put, qA, qB, qC]))
  exact ⟨⟨i + 1, _, HI.out, by congr 1, TM.out, BM.out.setCell (p := ⟨w1.heap.size, i, none⟩) (Nat.le_refl _) _⟩, by simpa [intOf] using HMI.out⟩
 obtain rfl : i = n := by omega
 have x1 : ¬ ((i : Int) < (i : Int)) := by omega
 obtain ⟨wq, hwq⟩ : ∃ v : World, v = wr := ⟨_, rfl⟩
 subst hwq
 have KQ := qH (K1.out.below BQ.out K1.out.lt)
 have c0 := KQ.out.cell 0
 rw [HC0.out] at c0
 clear hi hin
 go_wp2_with fail
 go_loopw [10] (fun jv wl => ∃ (j : Nat), j ≤ l.length ∧ jv = .int .i64 (j : Int) ∧ Tbl wl w1.heap.size w1.heap.size bs i i (spB (LgA (l.take j)) W) ∧ Below w1.heap.size w1 wl) (fun jv _ => l.length - (intOf jv).toNat)
 case atStart => exact ⟨0, Nat.zero_le _, by simp, by rw [sp_alt0]; exact TQ.out, BQ.out⟩
 obtain ⟨j, hj, rfl, hT, hB⟩ := hrel
 have TR := qH hT
 have BR := qH hB
 clear hT hB
 have c5 := (K1.out.below BR.out K1.out.lt).cell 5
 rw [HC5.out] at c5
 by_cases hjl : j < l.length
 ·have j1 : (j : Int) < (l.length : Int) := Int.ofNat_lt.2 hjl
  obtain ⟨b, off, rfl, hb, hrng⟩ := H3.out (by rintro rfl; simp at hjl)
  have BW := qH (B1.out.trans (BR.out.mono B1.out.size))
  obtain ⟨u, hu⟩ : ∃ u, l[j]? = some u := ⟨_, List.getElem?_eq_getElem hjl⟩
  have HV := qH (RxV.part H4.out BW.out BW.out.size hu)
  have HV6 := qH HV.out.length
  have HRG := qH (range_below (hrng j hjl) BW.out hb)
  have HU := qH hu
  have HUN := qH (show u.nodes ≤ N by have h1 := nodes_mem (List.mem_of_getElem? hu); have := HLN.out; omega)
  have HUM := qH (show u.nodes ≤ 1099511627776 by have h1 := nodes_mem (List.mem_of_getElem? hu); have := HLM.out; omega)
  have HJ1 := qH hjl
  have HMJ := qH (sub_next hjl)
  have RX := qH (RW.out.below BW.out)
  have f3 := wrap_len hjl HCL.out HCM.out
  have f4 := wrap_len' hjl HCL.out HCM.out
  clear hrng hu hb hj hjl
  go_wp2_with ((with_reducible refine atDst 83 ?_); refine wpList_load_mid rfl 40 _ rfl b (off + j * 6) rfl (f j) _ HRG.out Try.underlying40 rfl (size_rx HV6.out) ?_; (try simp only [Act.put, qA, qB, qC]))
  refine (IH.out u HUN.out HUM.out W HW.out _ (f j) wr RX.out HV.out).mono ?_
  rintro e w4 ⟨g2, bs2, rfl, hT2, hb2⟩
  rw [← HNW.out] at hT2 ⊢
  have U4 := qH hT2
  have T4 := qH (TR.out.below hb2)
  have B4 := qH (BR.out.trans (hb2.mono BR.out.size))
  have HSM := qH (show i ≤ 1048576 from Nat.le_trans HN2.out (by decide))
  clear hT2 hb2
  go_wp2_with fail
  refine (refJoin_any i HSM.out w4 T4.out U4.out (fun p hp => (TR.out.row p hp).lt)).mono ?_
  rintro e w5 ⟨rfl, hT5, _, hb5⟩
  have T5 := qH hT5
  have B5 := qH (B4.out.trans hb5)
  clear hT5 hb5
  go_wp2_with fail
  exact ⟨⟨j + 1, HJ1.out, by congr 1, T5.out.congr fun p q _ _ => (sp_altJ HU.out W p q).symm, B5.out⟩, by simpa [intOf] using HMJ.out⟩
 obtain rfl : j = l.length := by omega
 have j1 : ¬ ((l.length : Int) < (l.length : Int)) := by omega
 go_wp2_with fail
 go_ret
 exact spPost_of HNW.out B1.out TR.out BR.out fun p q hp hq => by rw [sp_alt5]
set_option maxHeartbeats 4000000 in
set_option maxRecDepth 1000000 in
theorem spans_k4 (N : Nat) (ih : SpansC N) (s : Nat → Bool) (l : List T) (hln : nodesL l ≤ N) (hlm : nodesL l ≤ 1099511627776) (W : List UInt8) (hW : W.length ≤ 200) (V : Value) (cs : List Value) (w : World) (hr : Row w V (bvs W)) (hv : RxV w.heap.size w cs (.node 4 s l)) :
  Calls Try.prog 50 #[.agg cs.toArray, V] w (spPost (.node 4 s l) W w) := by
 have IH := qH ih
 have HLN := qH hln
 have HLM := qH hlm
 have HW := qH hW
 clear ih hln hlm
 have V0 := qH hv
 obtain ⟨A, cap, f, rfl, h1, h2, h0, h3, h4⟩ := hv.opened
 have H3 := qH h3
 have H4 := qH h4
 have HCL := qH h1
 have HCM := qH h2
 have RW := qH hr
 obtain ⟨AW, capW, rfl, _⟩ := hr
 have hbw : (bvs W).length = W.length := bvs_length W
 rw [hbw] at RW ⊢
 obtain ⟨cs, hcs⟩ : ∃ cs, cs = Value.int .i64 4 :: (wds s ++ [.slice A l.length cap]) := ⟨_, rfl⟩
 have HC0 := qH (show cs[0]? = some (.int .i64 4) by rw [hcs]; rfl)
 have HC5 := qH (show cs[5]? = some (.slice A l.length cap) by rw [hcs]; rfl)
 have HCS := qH hcs
 rw [← hcs] at V0 ⊢
 obtain ⟨n, hn⟩ : ∃ n, n = W.length + 1 := ⟨_, rfl⟩
 have HNW := qH hn
 have HN2 := qH (show n ≤ 201 by omega)
 have m1 : wrap64 ((W.length : Int) + 1) = (n : Int) := by rw [hn]; exact wrap_one _ (by omega)
 have m2 : IntKind.i64.wrap ((W.length : Int) + 1) = (n : Int) := by rw [hn]; exact wrap_one' _ (by omega)
 obtain ⟨i1, hi1, hz1, hs1, hy1⟩ := infoP inf_bools
 obtain ⟨i2, hi2, hz2, hs2, hy2⟩ := infoP inf_bool
 have HY1 := qH (show i1.bytes * n ≤ 281474976710656 by rw [hy1]; omega)
 have HY2 := qH (show i2.bytes * n ≤ 281474976710656 by rw [hy2]; omega)
 have HN3 := qH (show n ≤ 9223372036854775807 by omega)
 clear hv h1 h2 h0 h3 h4 hcs hn hW hy1 hy2 hbw
 go_enter Try.func50, Try.ntmps50
 go_wp2_with (first
  | ((with_reducible refine atDst 2 ?_); refine wpList_box rfl 40 _ rfl cs rfl (Below.refl w.heap.size w) (Nat.le_refl _) ?_; intro w1 hk1 hb1 hs1 _; have K1 := qH hk1; have B1 := qH hb1; clear hk1 hb1 hs1; (try simp only [Act.put, qA, qB, qC]))
  | ((with_reducible refine atDst 21 ?_); refine wpList_mk _ rfl _ _ 81 rfl 66 i1 (.slice none 0 0) Try.underlying81 hi1 hz1 hs1 rfl n _ _ _ _ rfl rfl rfl rfl HY1.out HN3.out ?_; intro w2 hk hb hs; have T2 := qH (Tbl.new (B := w1.heap.size) hk (Nat.le_refl _) (fun _ => 0) (fun _ _ => false)); have B2 := qH hb; clear hk hb hs; (try simp only [Act.put, qA, qB, qC])))
 go_loopw [7] (fun iv wl => ∃ (i : Nat) (bs : Nat → Nat), i ≤ n ∧ iv = .int .i64 (i : Int) ∧ Tbl wl w1.heap.size w1.heap.size bs n i (fun _ _ => false) ∧ Below w1.heap.size w1 wl) (fun iv _ => n - (intOf iv).toNat)
 case atStart => exact ⟨0, _, Nat.zero_le _, by simp, T2.out, B2.out⟩
 obtain ⟨i, bs, hi, rfl, hT, hB⟩ := hrel
 have TQ := qH hT
 have BQ := qH hB
 clear hT hB
 by_cases hin : i < n
 ·have x1 : (i : Int) < (n : Int) := Int.ofNat_lt.2 hin
  have HI := qH hin
  have HMI := qH (sub_next hin)
  have e3 := wrap_one i (lt_big HI.out HN2.out)
  have e4 := wrap_one' i (lt_big HI.out HN2.out)
  clear hi hin
  go_wp2_with ((with_reducible refine atDst 30 ?_); refine wpList_mk _ rfl _ _ 66 rfl 4 i2 (.bool false) Try.underlying66 hi2 hz2 hs2 rfl n _ _ _ _ rfl rfl rfl rfl HY2.out HN3.out ?_; intro w3 hk hb hs; have hfz := (TQ.out.below hb).tfrozen i; have hcr := (TQ.out.below hb).nil_ HI.out (Nat.lt_irrefl i); have TM := qH (TQ.out.more hb hk (fun _ => rfl)); have BM := qH (BQ.out.trans (hb.mono BQ.out.size)); clear hk hb hs; (try simp only [Act.put, qA, qB, qC]))
  exact ⟨⟨i + 1, _, HI.out, by congr 1, TM.out, BM.out.setCell (p := ⟨w1.heap.size, i, none⟩) (Nat.le_refl _) _⟩, by simpa [intOf] using HMI.out⟩
 obtain rfl : i = n := by omega
 have x1 : ¬ ((i : Int) < (i : Int)) := by omega
 obtain ⟨wq, hwq⟩ : ∃ v : World, v = wr := ⟨_, rfl⟩
 subst hwq
 have KQ := qH (K1.out.below BQ.out K1.out.lt)
 have c0 := KQ.out.cell 0
 rw [HC0.out] at c0
 clear hi hin
 go_wp2_with fail
 go_loopw [11] (fun jv wl => ∃ (j : Nat), j ≤ i ∧ jv = .int .i64 (j : Int) ∧ Tbl wl w1.heap.size w1.heap.size bs i i (dgI j) ∧ Below w1.heap.size w1 wl) (fun jv _ => i - (intOf jv).toNat)
 case atStart => exact ⟨0, Nat.zero_le _, by simp, by rw [dgI_zero]; exact TQ.out, BQ.out⟩
 obtain ⟨j, hj, rfl, hT, hB⟩ := hrel
 have TD := qH hT
 have BD := qH hB
 clear hT hB
 by_cases hjn : j < i
 ·have y1 : (j : Int) < (i : Int) := Int.ofNat_lt.2 hjn
  have HJ := qH hjn
  have HMJ := qH (sub_next hjn)
  have f3 := wrap_one j (lt_big HJ.out HN2.out)
  have f4 := wrap_one' j (lt_big HJ.out HN2.out)
  have hc1 := TD.out.at_ HJ.out HJ.out
  have hc2 := TD.out.cell HJ.out HJ.out
  have hfz := TD.out.frozen HJ.out j
  clear hj hjn
  go_wp2_with fail
  refine ⟨⟨j + 1, HJ.out, by congr 1, ?_, BD.out.setCell (p := ⟨bs j, j, none⟩) (TD.out.bbase j HJ.out) _⟩, by simpa [intOf] using HMJ.out⟩
  rw [← dgI_put]
  exact TD.out.put HJ.out j true
 obtain rfl : j = i := by omega
 have y1 : ¬ ((j : Int) < (j : Int)) := by omega
 have TC := qH (TD.out.congr (f' := spB (LgC (l.take 0)) W) fun p q hp hq => by rw [dgI_all hp, sp_cat0 l (by have := HNW.out; omega)])
 obtain ⟨wp, hwp⟩ : ∃ v : World, v = wr := ⟨_, rfl⟩
 subst hwp
 clear hj hjn
 go_wp2_with fail
 go_loopw [6, 12] (fun tv kv wl => ∃ (k g : Nat) (bs' : Nat → Nat), k ≤ l.length ∧ tv = .slice (some ⟨g, 0, none⟩) j j ∧ kv = .int .i64 (k : Int) ∧ Tbl wl w1.heap.size g bs' j j (spB (LgC (l.take k)) W) ∧ Below w1.heap.size w1 wl) (fun _ kv _ => l.length - (intOf kv).toNat)
 case atStart => exact ⟨0, _, _, Nat.zero_le _, rfl, by simp, TC.out, BD.out⟩
 clear TC TD BD TQ BQ
 obtain ⟨k, g, bs', hk, rfl, rfl, hT, hB⟩ := hrel
 have TR := qH hT
 have BR := qH hB
 clear hT hB
 have c5 := (K1.out.below BR.out K1.out.lt).cell 5
 rw [HC5.out] at c5
 obtain ⟨i, hij⟩ : ∃ i, i = j := ⟨_, rfl⟩
 subst hij
 obtain ⟨j, hjk⟩ : ∃ j, j = k := ⟨_, rfl⟩
 subst hjk
 have hj := hk
 by_cases hjl : j < l.length
 ·have j1 : (j : Int) < (l.length : Int) := Int.ofNat_lt.2 hjl
  obtain ⟨b, off, rfl, hb, hrng⟩ := H3.out (by rintro rfl; simp at hjl)
  have BW := qH (B1.out.trans (BR.out.mono B1.out.size))
  obtain ⟨u, hu⟩ : ∃ u, l[j]? = some u := ⟨_, List.getElem?_eq_getElem hjl⟩
  have HV := qH (RxV.part H4.out BW.out BW.out.size hu)
  have HV6 := qH HV.out.length
  have HRG := qH (range_below (hrng j hjl) BW.out hb)
  have HU := qH hu
  have HUN := qH (show u.nodes ≤ N by have h1 := nodes_mem (List.mem_of_getElem? hu); have := HLN.out; omega)
  have HUM := qH (show u.nodes ≤ 1099511627776 by have h1 := nodes_mem (List.mem_of_getElem? hu); have := HLM.out; omega)
  have HJ1 := qH hjl
  have HMJ := qH (sub_next hjl)
  have RX := qH (RW.out.below BW.out)
  have f3 := wrap_len hjl HCL.out HCM.out
  have f4 := wrap_len' hjl HCL.out HCM.out
  clear hrng hu hb hj hjl
  clear hk
  go_wp2_with ((with_reducible refine atDst 112 ?_); refine wpList_load_mid rfl 40 _ rfl b (off + j * 6) rfl (f j) _ HRG.out Try.underlying40 rfl (size_rx HV6.out) ?_; (try simp only [Act.put, qA, qB, qC]))
  refine (IH.out u HUN.out HUM.out W HW.out _ (f j) wr RX.out HV.out).mono ?_
  rintro e w4 ⟨g2, bs2, rfl, hT2, hb2⟩
  rw [← HNW.out] at hT2 ⊢
  have U4 := qH hT2
  have T4 := qH (TR.out.below hb2)
  have B4 := qH (BR.out.trans (hb2.mono BR.out.size))
  have HSM := qH (show i ≤ 1048576 from Nat.le_trans HN2.out (by decide))
  clear hT2 hb2
  go_wp2_with fail
  refine (refBehind_any i HSM.out w4 T4.out U4.out).mono ?_
  rintro e w5 ⟨g5, bs5, rfl, hT5, hb5⟩
  have T5 := qH (hT5.mono B4.out.size)
  have B5 := qH (B4.out.trans (hb5.mono B4.out.size))
  clear hT5 hb5
  go_wp2_with fail
  exact ⟨⟨j + 1, g5, bs5, HJ1.out, rfl, by congr 1, T5.out.congr fun p q _ hq => by rw [HNW.out]; exact sp_catJ HU.out W (by have := HNW.out; omega), B5.out⟩, by simpa [intOf] using HMJ.out⟩
 obtain rfl : j = l.length := by omega
 have j1 : ¬ ((l.length : Int) < (l.length : Int)) := by omega
 go_wp2_with fail
 go_ret
 exact spPost_of HNW.out B1.out TR.out BR.out fun p q hp hq => by rw [sp_cat4]
end Go.Proofs.Ytmcpfaaakmehdaa
