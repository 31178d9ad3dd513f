/-
  Texts of this proof, put together: PyE, SbEo, SbE, BsI, SbH. No statement is proved here.
-/
import Derived.Test.YteadghoojeehlaaGreatDoorXL
import Derived.Test.YteadghoojeehlaaGreatDoorXQ
import Derived.Test.YteadghoojeehlaaGreatDoorXP
import Derived.Test.YteadghoojeehlaaGreatDoorXC
import Derived.Test.YteadghoojeehlaaGreatDoorXN
namespace Go.Proofs.YteadghoojeehlaaGreatDoor
open Go.RowKit
set_option linter.unusedSimpArgs false
set_option linter.unusedVariables false
section
variable {P : Program} {w : World} {o : Oper} {a : Act} {K : Act → World → Prop} {Q : Exit → Act → World → Prop}
theorem wp_of_run {v : Value} (h : (execOp a.eval o).run P w = .ok (.value v) w) (hk : K (a.put o.dst v) w) : o.wp P a w K Q := by
 unfold Oper.wp
 rw [h]
 exact hk
theorem run_bldT2 (t e : TypeId) (i : TypeInfo) (ht : P.underlying t = some (.slice e)) (hi : P.info? e = some i) (hz : i.zero = some (.agg (Value.int .i64 0 :: (wds (fun _ => false) ++ [.slice none 0 0])).toArray)) (hs : i.size = 6) (cs ds : List Value) (hc : cs.length = 6) (hl : ds.length = 6) :
  (Instr.buildSlice t 2 #[(0, .agg cs.toArray), (1, .agg ds.toArray)]).run P w = .ok (.slice (some ⟨w.heap.size, 0, none⟩) 2 2) (w.alloc (.cells (cs ++ ds).toArray e)) := by
 have hzv : (zeroValue e).run P w = .ok (.agg (Value.int .i64 0 :: (wds (fun _ => false) ++ [.slice none 0 0])).toArray) w := by simp [zeroValue, typeInfo, hi, hz]
 match cs, hc with
 | [c0, c1, c2, c3, c4, c5], _ =>
  match ds, hl with
  | [d0, d1, d2, d3, d4, d5], _ =>
   simp [Instr.buildSlice, run_underlying ht, sizeOf, typeInfo, hi, hs, hzv, Value.cells, Instr.fill, wds, Array.range_succ, Array.range_zero', newRow]
theorem wp_bldT2 (t e : TypeId) (x y : Operand) (ho : o.op = .buildSlice t 2 #[(0, x), (1, y)]) (i : TypeInfo) (ht : P.underlying t = some (.slice e)) (hi : P.info? e = some i) (hz : i.zero = some (.agg (Value.int .i64 0 :: (wds (fun _ => false) ++ [.slice none 0 0])).toArray)) (hs : i.size = 6) (cs ds : List Value) (hc : cs.length = 6) (hl : ds.length = 6)
  (hx : a.eval x = .agg cs.toArray) (hy : a.eval y = .agg ds.toArray)
  (h : ∀ w', Blk w' w.heap.size e (cs ++ ds) → Below w.heap.size w w' → w'.heap.size = w.heap.size + 1 → K (a.put o.dst (.slice (some ⟨w.heap.size, 0, none⟩) 2 2)) w') : o.wp P a w K Q := by
 have hrun := run_bldT2 (P := P) (w := w) t e i ht hi hz hs cs ds hc hl
 unfold Oper.wp
 simp only [execOp, ho, List.map_toArray, List.map_cons, List.map_nil, hx, hy, hrun, Sem.run_bind, Result.andThen_ok, Sem.run_pure]
 exact (h _ (Blk.new w e _) ((Below.refl _ _).alloc (Nat.le_refl _) _) (by simp))
end
theorem row_two {w : World} {g : Nat} {ty : TypeId} {cs ds : List Value} {t u : T} {B : Nat} (hb : Blk w g ty (cs ++ ds)) (hc : RxV B w cs t) (hd : RxV B w ds u) (hg : g < B) : RowT B w (.slice (some ⟨g, 0, none⟩) 2 2) [t, u] := by
 have hc6 := hc.length
 have hd6 := hd.length
 refine ⟨some ⟨g, 0, none⟩, 2, fun i => if i = 0 then cs else ds, rfl, Nat.le_refl _, by unfold maxLen; omega, (fun h => by cases h), fun _ => ⟨g, 0, rfl, hg, fun i hi => ?_⟩, fun i x hx => ?_⟩
 ·have hi2 : i = 0 ∨ i = 1 := by simp at hi; omega
  rcases hi2 with rfl | rfl
  ·intro j v hv
   have hj := (List.getElem?_eq_some_iff.1 hv).1
   have hv' : cs[j]? = some v := hv
   rw [hb.cell, show 0 + 0 * 6 + j = j by omega, List.getElem?_append_left (by have := (List.getElem?_eq_some_iff.1 hv').1; exact this)]
   exact hv'
  ·intro j v hv
   have hv' : ds[j]? = some v := hv
   rw [hb.cell, show 0 + 1 * 6 + j = cs.length + j by omega, List.getElem?_append_right (by omega), show cs.length + j - cs.length = j by omega]
   exact hv'
 ·match i, hx with
  | 0, hx =>
   obtain rfl : t = x := by simpa using hx
   exact hc
  | 1, hx =>
   obtain rfl : u = x := by simpa using hx
   exact hd
theorem quo64 (s : Nat) : (s : Int).tdiv 64 = ((s / 64 : Nat) : Int) := by
 rw [Int.tdiv_eq_ediv_of_nonneg (by omega)]
 rfl
theorem rem64 (s : Nat) : (s : Int).tmod 64 = ((s % 64 : Nat) : Int) := by
 rw [Int.tmod_eq_emod_of_nonneg (by omega)]
 rfl
theorem wrap_32 (k : Nat) (h : k < 32) : wrap64 ((k : Nat) : Int) = (k : Int) := IntWalk.wrap64_in _ (by omega)
theorem ld_u64 {ev : Operand → Value} {o : Oper} (x : Operand) (ho : o.op = .load 41 x) {p : Addr} (hx : ev x = .pointer (some p)) {k : Int} {W : World} (hc : W.cell? p = some (.int .u64 k)) : (execOp ev o).run Tryz.prog W = .ok (.value (.int .u64 k)) W := by
 simp only [execOp, ho, hx]
 go_simp
theorem ex_quo {ev : Operand → Value} {o : Oper} (x : Operand) {r : TypeId} (ho : o.op = .binOp .quo 3 x (.const (.int .i64 64)) r) (hc : ev (.const (.int .i64 64)) = .int .i64 64) {n k : Nat} (hx : ev x = .int .i64 (n : Int)) (hk : (n : Int).tdiv 64 = (k : Int)) (h32 : k < 32) (W : World) : (execOp ev o).run Tryz.prog W = .ok (.value (.int .i64 (k : Int))) W := by
 have w1 := wrap_32 k h32
 have w2 : IntKind.i64.wrap (k : Int) = (k : Int) := IntWalk.i64_in _ (by omega)
 simp only [execOp, ho, hx, hc]
 go_simp
theorem ex_rem {ev : Operand → Value} {o : Oper} (x : Operand) {r : TypeId} (ho : o.op = .binOp .rem 3 x (.const (.int .i64 64)) r) (hc : ev (.const (.int .i64 64)) = .int .i64 64) {n m : Nat} (hx : ev x = .int .i64 (n : Int)) (hk : (n : Int).tmod 64 = (m : Int)) (W : World) : (execOp ev o).run Tryz.prog W = .ok (.value (.int .i64 (m : Int))) W := by
 simp only [execOp, ho, hx, hc]
 go_simp
theorem ix_grp {ev : Operand → Value} {o : Oper} (x i : Operand) (ho : o.op = .indexAddr 67 x i) {b off k : Nat} (hx : ev x = .pointer (some ⟨b, off, none⟩)) (hi : ev i = .int .i64 (k : Int)) (h32 : k < 32) (W : World) : (execOp ev o).run Tryz.prog W = .ok (.value (.pointer (some ⟨b, off + k, none⟩))) W := by
 have h1 : (0 : Int) ≤ (k : Int) := by omega
 have h2 : (k : Int) < 32 := by omega
 simp only [execOp, ho, hx, hi]
 go_simp
theorem ix_grp0 {ev : Operand → Value} {o : Oper} (x i : Operand) (ho : o.op = .indexAddr 67 x i) {b k : Nat} (hx : ev x = .pointer (some ⟨b, 0, none⟩)) (hi : ev i = .int .i64 (k : Int)) (h32 : k < 32) (W : World) : (execOp ev o).run Tryz.prog W = .ok (.value (.pointer (some ⟨b, k, none⟩))) W := by
 have := ix_grp x i ho hx hi h32 W
 rwa [Nat.zero_add] at this
theorem ex_shl {ev : Operand → Value} {o : Oper} (x : Operand) {r : TypeId} (ho : o.op = .binOp .shl 41 (.const (.int .u64 1)) x r) (hc : ev (.const (.int .u64 1)) = .int .u64 1) {m : Nat} (hx : ev x = .int .i64 (m : Int)) (h64 : m < 64) (W : World) : (execOp ev o).run Tryz.prog W = .ok (.value (.int .u64 ((2 ^ m : Nat) : Int))) W := by
 have hsh := shl_bit m h64
 simp only [execOp, ho, hx, hc]
 go_simp
theorem ex_or {ev : Operand → Value} {o : Oper} (x y : Operand) {r : TypeId} (ho : o.op = .binOp .or 41 x y r) {a b c : Nat} (hc : c = a ||| b) (hx : ev x = .int .u64 (a : Int)) (hy : ev y = .int .u64 (b : Int)) (ha : a < 18446744073709551616) (hb : b < 18446744073709551616) (W : World) : (execOp ev o).run Tryz.prog W = .ok (.value (.int .u64 (c : Int))) W := by
 have hor := u64_or_nat a b ha hb
 rw [← hc] at hor
 simp only [execOp, ho, hx, hy]
 go_simp
theorem wp_stU {o : Oper} {a : Act} {K : Act → World → Prop} {Q : Exit → Act → World → Prop} {w : World} (x y : Operand) (ho : o.op = .store 41 x y) {p : Addr} (hx : a.eval x = .pointer (some p)) {k v : Int} (hy : a.eval y = .int .u64 k) (hc : w.cell? p = some (.int .u64 v)) (hf : w.frozen? p = false)
  (h : K (a.put o.dst undef) (w.setCell p (.int .u64 k))) : o.wp Tryz.prog a w K Q := by
 unfold Oper.wp
 simp only [execOp, ho, hx, hy]
 go_simp
 exact h
set_option maxHeartbeats 1000000 in
theorem gHas_any (t : Nat → Bool) (s b off : Nat) (hs : s < 2048) (w : World) (hb : b < w.heap.size) (hr : w.rangeAt b off (gds t)) :
  Calls Tryz.prog 21 #[.pointer (some ⟨b, off, none⟩), .int .i64 (s : Int)] w fun e w' => e = .returned (.bool (t s)) ∧ w' = w := by
 obtain ⟨x, hx⟩ : ∃ x, x = word t (s / 64) := ⟨_, rfl⟩
 have hlt := word_lt t (s / 64)
 have hsh := word_shift t s
 have hc := hr (s / 64) _ (gds_get t (i := s / 64) (by omega))
 rw [← hx] at hlt hsh hc
 have HSH := qH hsh
 have q1 := quo64 s
 have q2 := rem64 s
 obtain ⟨k, hk⟩ : ∃ k, k = s / 64 := ⟨_, rfl⟩
 obtain ⟨m, hm⟩ : ∃ m, m = s % 64 := ⟨_, rfl⟩
 have hk32 : k < 32 := by omega
 have hm64 : m < 64 := by omega
 have HK := qH hk
 have HM := qH hm
 rw [← hk] at hc q1
 rw [← hm] at q2
 have w1 : wrap64 ((k : Nat) : Int) = (k : Int) := wrap_32 k hk32
 clear hx hsh hs hk hm hr
 go_enter Tryz.func21, Tryz.ntmps21
 go_wp2_with fail
 go_ret
 refine ⟨?_, rfl⟩
 rw [← HSH.out, ← HM.out]
 refine congrArg (fun b => Ending.returned (.bool b)) ?_
 exact has_bit2 x _ hlt
theorem size_group (t : Nat → Bool) : (Tryz.prog.info? 67).map (·.size) = some (gds t).length := by
 rw [gds_length]
 kernel_rfl
theorem inf_group : (Tryz.prog.info? 67).map (fun i => (i.zero, i.size, i.bytes)) = some (some (.agg (gds fun _ => false).toArray), 32, 256) := by kernel_rfl
def inL (l : List Int) (i : Nat) : Bool := decide ((i : Int) ∈ l)
theorem pow_64 {m : Nat} (h : m < 64) : 2 ^ m < 18446744073709551616 := by
 have h : 2 ^ m < 2 ^ 64 := Nat.pow_lt_pow_right (by omega) h
 exact h
theorem lt_bigM {i n : Nat} (h : i < n) (hn : n ≤ 1048576) : i ≤ 4611686018427387904 := by omega
theorem setCell_below {B : Nat} {w : World} {p : Addr} (hp : B ≤ p.block) (v : Value) : Below B w (w.setCell p v) := (Below.refl B w).setCell hp v
theorem inL_zero (l : List Int) : inL (l.take 0) = fun _ => false := by
 funext i
 simp [inL]
theorem inL_next {l : List Int} {j n : Nat} (h : l[j]? = some (n : Int)) (b : Nat) : inL (l.take (j + 1)) b = (inL (l.take j) b || decide (b = n)) := by
 obtain ⟨hj, he⟩ := List.getElem?_eq_some_iff.1 h
 unfold inL
 rw [List.take_succ_eq_append_getElem hj, he, Bool.eq_iff_iff, Bool.or_eq_true, decide_eq_true_iff, decide_eq_true_iff, decide_eq_true_iff, List.mem_append, List.mem_singleton]
 constructor
 ·rintro (h | h)
  ·exact .inl h
  ·exact .inr (by omega)
 ·rintro (h | h)
  ·exact .inl h
  ·exact .inr (by omega)
set_option maxHeartbeats 2000000 in
set_option maxRecDepth 100000 in
theorem groupOf_any (v : Value) (l : List Int) (w : World) (hr : Row w v (nums .i64 l)) (hl : l.length ≤ 1048576) (hm : ∀ x ∈ l, 0 ≤ x ∧ x < 2048) :
  Calls Tryz.prog 40 #[v] w fun e w' => e = .returned (.agg (gds (inL l)).toArray) ∧ Below w.heap.size w w' := by
 have R0 := qH hr
 have HM := qH hm
 obtain ⟨A, cap, rfl, a1, a2, a0, a3⟩ := hr
 rw [nums_length] at a1 R0 ⊢
 clear a3 a0 a2 hm
 obtain ⟨i0, hi0, hz0, hs0, hy0⟩ := infoP inf_group
 obtain ⟨z, hz⟩ : ∃ z : Nat → Bool, z = fun _ => false := ⟨_, rfl⟩
 rw [← hz] at hz0
 have HZ := qH hz
 clear hz
 go_enter Tryz.func40, Tryz.ntmps40
 go_wp2_with ((with_reducible refine atDst 2 ?_); refine wpList_new rfl 67 rfl i0 _ (gds z) hi0 hz0 rfl (Below.refl w.heap.size w) (Nat.le_refl _) ?_; intro w1 hk1 hb1 hs1 _; have K1 := qH hk1; have B1 := qH hb1; clear hk1 hb1 hs1)
 go_loopw [7] (fun i wl => ∃ j : Nat, j ≤ l.length ∧ i = .int .i64 (j : Int) ∧ Blk wl w.heap.size 67 (gds (inL (l.take j))) ∧ Below w.heap.size w wl) (fun i _ => l.length - (intOf i).toNat)
 case atStart => exact ⟨0, Nat.zero_le _, by simp, by rw [inL_zero, ← HZ.out]; exact K1.out, B1.out⟩
 case round =>
  obtain ⟨j, hj, rfl, hk, hb⟩ := hrel
  have KR := qH hk
  have BR := qH hb
  clear hk hb
  by_cases hjl : j < l.length
  ·have i1 : (j : Int) < (l.length : Int) := by omega
   obtain ⟨b0, off, rfl, hb0, hcell⟩ := (R0.out.below BR.out).at_ (by rw [nums_length]; omega)
   obtain ⟨x, hx⟩ : ∃ x, l[j]? = some x := ⟨_, List.getElem?_eq_getElem hjl⟩
   obtain ⟨hx0, hx1⟩ := HM.out x (List.mem_of_getElem? hx)
   obtain ⟨n, rfl⟩ : ∃ n : Nat, x = (n : Int) := ⟨x.toNat, by omega⟩
   have hcj := hcell j (.int .i64 (n : Int)) (by simp [nums, hx])
   have HN := qH (show n < 2048 by omega)
   have HX := qH hx
   have hgc := KR.out.cell (n / 64)
   rw [gds_get _ (i := n / 64) (by omega)] at hgc
   obtain ⟨y, hy⟩ : ∃ y, y = word (inL (l.take j)) (n / 64) := ⟨_, rfl⟩
   rw [← hy] at hgc
   have hfz := KR.out.frozen (n / 64)
   have HY := qH hy
   have HLY := qH (show y < 18446744073709551616 by rw [hy]; exact word_lt _ _)
   have q1 := quo64 n
   have q2 := rem64 n
   obtain ⟨k, hk⟩ : ∃ k, k = n / 64 := ⟨_, rfl⟩
   obtain ⟨m, hm⟩ : ∃ m, m = n % 64 := ⟨_, rfl⟩
   have HK32 := qH (show k < 32 by omega)
   have HM64 := qH (show m < 64 by omega)
   have HK := qH hk
   have HMM := qH hm
   rw [← hk] at hgc hfz q1
   rw [← hm] at q2
   have Q1 := qH q1
   have Q2 := qH q2
   have HGC := qH hgc
   have HFZ := qH hfz
   have HMN := qH (sub_next hjl)
   have HJ := qH hjl
   have e3 := wrap_one j (lt_bigM hjl hl)
   have e4 := wrap_one' j (lt_bigM hjl hl)
   clear hcell hx hx0 hx1 hy hk hm hgc hfz q1 q2 hj hjl
   obtain ⟨c, hc⟩ : ∃ c, c = y ||| 2 ^ m := ⟨_, rfl⟩
   have HC := qH hc
   clear hc
   go_wp2_with fail
   refine sx_startB (B := w.heap.size) (w0 := w) (by kernel_rfl) BR.out (fun wd hwd hX => ?_)
   have HGD := qH (show wd.cell? ⟨w.heap.size, k, none⟩ = some (.int .u64 (y : Int)) by rw [hwd]; exact HGC.out)
   have HFD := qH (show wd.frozen? ⟨w.heap.size, k, none⟩ = false by rw [hwd]; exact HFZ.out)
   have KD := qH (show Blk wd w.heap.size 67 (gds (inL (l.take j))) by rw [hwd]; exact KR.out)
   clear hwd
   refine sx_take (i := 0) (oi := ⟨some 11, _, _, _, _, _⟩) (v := ?_) rfl (by kernel_rfl) (by kernel_rfl) (by kernel_rfl) (fun _ _ _ h => h) rfl hX ?_ ?_; rotate_left; (intro W hW; go_simp; try with_reducible rfl); simp only [Act.put, qA, qB, qC]
   refine sx_take (i := 1) (oi := ⟨some 12, _, _, _, _, _⟩) (v := .int .i64 (k : Int)) rfl (by kernel_rfl) (by kernel_rfl) (by kernel_rfl) (fun _ _ _ h => h) rfl hX (fun W _ => ex_quo (.tmp 11) rfl rfl rfl Q1.out HK32.out W) ?_; simp only [Act.put, qA, qB, qC]
   refine sx_take (i := 2) (oi := ⟨some 13, _, _, _, _, _⟩) (v := .pointer (some ⟨w.heap.size, k, none⟩)) rfl (by kernel_rfl) (by kernel_rfl) (by kernel_rfl) (fun _ _ _ h => h) rfl hX (fun W _ => ix_grp0 (.tmp 2) (.tmp 12) rfl rfl rfl HK32.out W) ?_; simp only [Act.put, qA, qB, qC]
   refine sx_take (i := 4) (oi := ⟨some 15, _, _, _, _, _⟩) (v := ?_) rfl (by kernel_rfl) (by kernel_rfl) (by kernel_rfl) (fun _ _ _ h => h) rfl hX ?_ ?_; rotate_left; (intro W hW; go_simp; try with_reducible rfl); simp only [Act.put, qA, qB, qC]
   refine sx_take (i := 5) (oi := ⟨some 16, _, _, _, _, _⟩) (v := .int .i64 (m : Int)) rfl (by kernel_rfl) (by kernel_rfl) (by kernel_rfl) (fun _ _ _ h => h) rfl hX (fun W _ => ex_rem (.tmp 15) rfl rfl rfl Q2.out W) ?_; simp only [Act.put, qA, qB, qC]
   refine sx_take (i := 6) (oi := ⟨some 17, _, _, _, _, _⟩) (v := .int .u64 ((2 ^ m : Nat) : Int)) rfl (by kernel_rfl) (by kernel_rfl) (by kernel_rfl) (fun _ _ _ h => h) rfl hX (fun W _ => ex_shl (.tmp 16) rfl rfl rfl HM64.out W) ?_; simp only [Act.put, qA, qB, qC]
   refine sx_actB (i := 3) (o := ⟨some 14, _, _, _, _, _⟩) rfl (by kernel_rfl) rfl hX (fun K hK => ?_)
   refine wp_of_run (v := .int .u64 (y : Int)) (ld_u64 (.tmp 13) rfl rfl HGD.out) ?_
   refine hK _ _ (Below.refl _ _) ?_
   clear hK K
   (try simp only [Act.put, qA, qB, qC])
   refine sx_take (i := 7) (oi := ⟨some 18, _, _, _, _, _⟩) (v := .int .u64 (c : Int)) rfl (by kernel_rfl) (by kernel_rfl) (by kernel_rfl) (fun _ _ _ h => h) rfl hX (fun W _ => ex_or (.tmp 14) (.tmp 17) rfl HC.out rfl rfl HLY.out (pow_64 HM64.out) W) ?_; simp only [Act.put, qA, qB, qC]
   refine sx_take (i := 8) (oi := ⟨some 19, _, _, _, _, _⟩) (v := .pointer (some ⟨w.heap.size, k, none⟩)) rfl (by kernel_rfl) (by kernel_rfl) (by kernel_rfl) (fun _ _ _ h => h) rfl hX (fun W _ => ix_grp0 (.tmp 2) (.tmp 12) rfl rfl rfl HK32.out W) ?_; simp only [Act.put, qA, qB, qC]
   refine sx_actB (i := 9) (o := ⟨none, _, _, _, _, _⟩) rfl (by kernel_rfl) rfl hX (fun K hK => ?_)
   refine wp_stU (.tmp 19) (.tmp 18) rfl rfl rfl HGD.out HFD.out ?_
   have HE := qH (show Blk (wd.setCell ⟨w.heap.size, k, none⟩ (.int .u64 (c : Int))) w.heap.size 67 (gds (inL (l.take (j + 1)))) from by
    have h := KD.out.set k (.int .u64 (c : Int))
    rw [HC.out, HY.out, HK.out, HMM.out, gds_put _ n HN.out] at h
    rw [HC.out, HY.out, HK.out, HMM.out, gds_congr fun b _ => inL_next HX.out b]
    exact h)
   have hX2 := hX.setCell (p := ⟨w.heap.size, k, none⟩) (Nat.le_refl _) (.int .u64 (c : Int))
   refine hK _ _ (setCell_below (p := ⟨w.heap.size, k, none⟩) (Nat.le_refl _) _) ?_
   clear hK K hX
   (try simp only [Act.put, qA, qB, qC])
   refine wpAnyH_done (by kernel_rfl) ?_ _
   have BE := qH hX2
   clear hX2
   go_wp2_with fail
   exact ⟨⟨j + 1, HJ.out, by congr 1, HE.out, BE.out⟩, by simpa [intOf] using HMN.out⟩
  ·obtain rfl : j = l.length := Nat.le_antisymm hj (Nat.not_lt.1 hjl)
   have i1 : ¬ ((l.length : Int) < (l.length : Int)) := Int.lt_irrefl _
   have k9 := KR.out
   rw [List.take_length] at k9
   obtain ⟨q, hq⟩ : ∃ q : Nat → Bool, q = inL l := ⟨_, rfl⟩
   rw [← hq] at k9
   have K9 := qH k9
   have HQ := qH hq
   clear k9 hq KR hj hjl
   go_wp2_with (first
    | ((with_reducible refine atDst 21 ?_); refine wpList_ldArr rfl 67 _ rfl w.heap.size rfl 67 _ _ K9.out Tryz.underlying67 rfl (size_group q) ?_)
    | ((with_reducible refine atStore 67 2 21 ?_); refine wpList_stBlk rfl 67 _ _ rfl w.heap.size (gds q) rfl rfl 67 _ K9.out (size_group q) rfl (gds_all _) BR.out (Nat.le_refl _) ?_; intro w3 hk3 hb3 hs3 _; have K3 := qH hk3; have B3 := qH hb3; clear hk3 hb3))
   refine bodyPost_ret (results_blk rfl _ _ w.heap.size 67 _ _ rfl K3.out Tryz.underlying67 rfl (size_group q)) rfl ?_
   exact ⟨by rw [HQ.out], B3.out⟩
theorem own4Other {w w' : World} {base n k : Nat} {e : TypeId} {v : Value} {xs : List Value} (h : w.ownsRow base e k v n xs) (hb : ∀ j, v.ownBlock = some j → w'.heap[j]? = w.heap[j]?) : w'.ownsRow base e k v n xs := by
 refine ⟨h.1, ?_⟩
 rcases h.2 with h0 | ⟨g, cap, cur, rfl, hb2, hg, h3⟩
 ·exact .inl h0
 ·exact .inr ⟨g, cap, cur, rfl, hb2, (hb g rfl).trans hg, h3⟩
set_option maxHeartbeats 8000000 in
set_option maxRecDepth 100000 in
theorem bsSplit_any (v : Value) (ps : List (Nat → Bool)) (s : Nat → Bool) (w : World) (hr : RowS w v ps) (hl : ps.length ≤ 256) :
  Calls Tryz.prog 48 #[v, .agg (wds s).toArray] w fun e w' => ∃ v', e = .returned v' ∧ w'.ownsRow w.heap.size 43 4 v' (splitS ps s).length (sets (splitS ps s)) ∧ Below w.heap.size w w' := by
 have R0 := qH hr
 obtain ⟨A, cap, rfl, a1, a2, a0, a3⟩ := hr
 clear a3 a0 a2
 obtain ⟨i0, hi0, hz0⟩ := info_set
 obtain ⟨i1, hi1, hy0, hy1, hy2⟩ := infoP inf_set
 obtain ⟨z, hz⟩ : ∃ z : Nat → Bool, z = fun _ => false := ⟨_, rfl⟩
 rw [← hz] at hz0
 have HZ := qH hz
 have HZB := qH (show Tryz.prog.built 43 [] = some (wds z).toArray by rw [hz]; exact zeroB)
 clear hz
 obtain ⟨sn, hsn⟩ : ∃ sn : Nat → Bool, sn = fun b => !s b := ⟨_, rfl⟩
 have HSN := qH hsn
 clear hsn
 go_enter Tryz.func48, Tryz.ntmps48
 go_wp2_with ((with_reducible refine atDst 3 ?_); refine wpList_box rfl 43 _ rfl (wds s) rfl (Below.refl w.heap.size w) (Nat.le_refl _) ?_; intro w1 hk1 hb1 hs1 _; have K1 := qH hk1; have B1 := qH hb1; clear hk1 hb1 hs1)
 go_loopw [4, 11] (fun v i wl => ∃ j : Nat, j ≤ ps.length ∧ i = .int .i64 (j : Int) ∧ wl.ownsRow w1.heap.size 43 4 v (splitS (ps.take j) s).length (sets (splitS (ps.take j) s)) ∧ Below w1.heap.size w1 wl) (fun _ i _ => ps.length - (intOf i).toNat)
 case atStart => exact ⟨0, by omega, by simp, own4N _ _ _, Below.refl _ _⟩
 case round =>
  obtain ⟨j, hj, rfl, ho, hb⟩ := hrel
  have HO := qH ho
  have HB := qH hb
  clear ho hb
  obtain ⟨wo, hwo⟩ : ∃ wo : World, wo = wr := ⟨_, rfl⟩
  subst hwo
  by_cases hjl : j < ps.length
  ·have j1 : (j : Int) < (ps.length : Int) := by omega
   obtain ⟨b0, off, rfl, hb0, hrng⟩ := (R0.out.below (B1.out.trans (HB.out.mono B1.out.size))).at_ (by omega)
   obtain ⟨p, hp⟩ : ∃ p, p = ps[j] := ⟨_, rfl⟩
   have HRG := qH (hrng j p (by rw [hp]; exact List.getElem?_eq_getElem hjl))
   have HNX := qH (splitS_next ps s j hjl)
   rw [← hp] at HNX
   obtain ⟨cur, hcur⟩ : ∃ cur, cur = splitS (ps.take j) s := ⟨_, rfl⟩
   have HCL := qH (show cur.length ≤ 512 by rw [hcur]; have := splitS_len s (ps.take j); rw [List.length_take] at this; omega)
   rw [← hcur] at HO HNX
   clear hp hrng hcur
   go_wp2_with (first
    | ((with_reducible refine atDst 14 ?_); refine wpList_ldMid rfl 43 _ rfl b0 (off + j * 4) rfl (wds p) _ HRG.out Tryz.underlying43 rfl (size_set p) ?_)
    | ((with_reducible refine atDst 6 ?_); refine wpList_new rfl 43 rfl i0 _ (wds z) hi0 hz0 rfl (Below.refl wo.heap.size wo) (Nat.le_refl _) ?_; intro w2 hk2 hb2 hs2 ho2; have K2 := qH hk2; have B2 := qH hb2; clear hk2 hb2 hs2 ho2)
    | ((with_reducible refine atStore 43 6 14 ?_); refine wpList_stBlk rfl 43 _ _ rfl wo.heap.size (wds p) rfl rfl 43 _ K2.out (size_set p) rfl (wds_all _) B2.out (Nat.le_refl _) ?_; intro w3 hk3 hb3 hs3 _; have K3 := qH hk3; have B3 := qH hb3; clear hk3 hb3 hs3))
   have HBO := qH (HB.out.trans (B3.out.mono HB.out.size))
   have O3 := qH (own4Below HO.out B3.out (Nat.le_refl _))
   have L3 := qH (K1.out.below HBO.out K1.out.lt)
   refine sx_startB (B := w3.heap.size) (w0 := w3) (by kernel_rfl) (Below.refl _ _) (fun wd hwd hX => ?_)
   have SZ := qH hX.size
   clear hwd
   refine sx_take (i := 0) (oi := ⟨some 15, _, _, _, _, _⟩) (v := .agg (wds p).toArray) rfl (by kernel_rfl) (by kernel_rfl) (by kernel_rfl) (fun _ _ _ h => h) rfl hX (ld_blk 43 _ rfl wo.heap.size rfl 43 _ _ K3.out K3.out.lt Tryz.underlying43 rfl (size_set p)) ?_
   simp only [Act.put, qA, qB, qC]
   refine sx_take (i := 1) (oi := ⟨some 16, _, _, _, _, _⟩) (v := .agg (wds s).toArray) rfl (by kernel_rfl) (by kernel_rfl) (by kernel_rfl) (fun _ _ _ h => h) rfl hX (ld_blk 43 _ rfl w.heap.size rfl 43 _ _ L3.out L3.out.lt Tryz.underlying43 rfl (size_set s)) ?_
   simp only [Act.put, qA, qB, qC]
   refine sx_take (i := 3) (oi := ⟨some 18, _, _, _, _, _⟩) (v := .agg (wds p).toArray) rfl (by kernel_rfl) (by kernel_rfl) (by kernel_rfl) (fun _ _ _ h => h) rfl hX (ld_blk 43 _ rfl wo.heap.size rfl 43 _ _ K3.out K3.out.lt Tryz.underlying43 rfl (size_set p)) ?_
   simp only [Act.put, qA, qB, qC]
   refine sx_take (i := 4) (oi := ⟨some 19, _, _, _, _, _⟩) (v := .agg (wds s).toArray) rfl (by kernel_rfl) (by kernel_rfl) (by kernel_rfl) (fun _ _ _ h => h) rfl hX (ld_blk 43 _ rfl w.heap.size rfl 43 _ _ L3.out L3.out.lt Tryz.underlying43 rfl (size_set s)) ?_
   simp only [Act.put, qA, qB, qC]
   refine sx_take (i := 8) (oi := ⟨some 23, _, _, _, _, _⟩) (v := ?_) rfl (by kernel_rfl) (by kernel_rfl) (by kernel_rfl) (fun _ _ _ h => h) rfl hX ?_ ?_; rotate_left; (intro W hW; go_simp; try with_reducible rfl); simp only [Act.put, qA, qB, qC]
   refine sx_actB (i := 2) (o := ⟨some 17, _, _, _, _, _⟩) rfl (by kernel_rfl) rfl hX (fun K hK => ?_)
   obtain ⟨q1, hq1⟩ : ∃ q1 : Nat → Bool, q1 = fun b => p b && s b := ⟨_, rfl⟩
   obtain ⟨q2, hq2⟩ : ∃ q2 : Nat → Bool, q2 = fun b => p b && sn b := ⟨_, rfl⟩
   have HPC := qH (show pieces p s = [q1, q2] by rw [hq1, hq2, HSN.out]; rfl)
   have HQ1 := qH hq1
   have HQ2 := qH hq2
   clear hq1 hq2
   go_wp2_with fail
   refine (bsAnd_any p s wd).mono ?_
   rintro e w4 ⟨rfl, hb⟩
   rw [show (fun b => Bool.and (p b) (s b)) = q1 from HQ1.out.symm]
   refine hK _ _ (hb.mono SZ.out) ?_
   clear hK K
   replace hX := hX.trans (hb.mono SZ.out)
   replace SZ := qH (Nat.le_trans SZ.out hb.size)
   clear hb
   refine sx_actB (i := 5) (o := ⟨some 20, _, _, _, _, _⟩) rfl (by kernel_rfl) rfl hX (fun K hK => ?_)
   go_wp2_with fail
   refine (bsNot_any s w4).mono ?_
   rintro e w5 ⟨rfl, hb⟩
   rw [← HSN.out]
   refine hK _ _ (hb.mono SZ.out) ?_
   clear hK K
   replace hX := hX.trans (hb.mono SZ.out)
   replace SZ := qH (Nat.le_trans SZ.out hb.size)
   clear hb
   refine sx_actB (i := 6) (o := ⟨some 21, _, _, _, _, _⟩) rfl (by kernel_rfl) rfl hX (fun K hK => ?_)
   go_wp2_with fail
   refine (bsAnd_any p sn w5).mono ?_
   rintro e w6 ⟨rfl, hb⟩
   rw [show (fun b => Bool.and (p b) (sn b)) = q2 from HQ2.out.symm]
   refine hK _ _ (hb.mono SZ.out) ?_
   clear hK K
   replace hX := hX.trans (hb.mono SZ.out)
   replace SZ := qH (Nat.le_trans SZ.out hb.size)
   clear hb
   refine sx_take (i := 7) (oi := ⟨some 22, _, _, _, _, _⟩) (v := .agg (wds q1 ++ wds q2).toArray) rfl (by kernel_rfl) (by kernel_rfl) (by kernel_rfl) (fun _ _ _ h => h) rfl hX (fun W _ => by have h := runTwo q1 q2 W; simp [execOp]; exact congrArg (fun r => r.andThen fun a w2 => Result.ok (Next.value a) w2) h) ?_
   simp only [Act.put, qA, qB, qC]
   refine wpAnyH_done (by kernel_rfl) ?_ _
   have HB6 := qH hX
   have O6 := qH (own4Below O3.out hX (Nat.le_refl _))
   have BO6 := qH (HBO.out.trans (hX.mono HBO.out.size))
   clear hX SZ
   have HP2 := qH (pieces_next p s)
   rw [HPC.out] at HP2
   go_wp2_with fail
   go_loopw [4, 23] (fun v i wl => ∃ k : Nat, k ≤ 2 ∧ i = .int .i64 (k : Int) ∧ wl.ownsRow w1.heap.size 43 4 v (cur ++ ([q1, q2].take k).filter nonE).length (sets (cur ++ ([q1, q2].take k).filter nonE)) ∧ Below w1.heap.size w1 wl) (fun _ i _ => 2 - (intOf i).toNat)
   case atStart => exact ⟨0, by omega, by simp, by simpa using O6.out, BO6.out⟩
   case round =>
    obtain ⟨k, hk, rfl, ho, hb⟩ := hrel
    have HO2 := qH ho
    have HB2 := qH hb
    clear ho hb HO HB
    by_cases hk2 : k < 2
    ·have k1 : (k : Int) < 2 := by omega
     obtain ⟨q, hq⟩ : ∃ q, [q1, q2][k]? = some q := ⟨_, List.getElem?_eq_getElem hk2⟩
     have hix : ∀ w : World, (Instr.index 122 (.agg (wds q1 ++ wds q2).toArray) (.int .i64 (k : Int))).run Tryz.prog w = .ok (.agg (wds q).toArray) w := by
      intro w
      match k, hk2 with
      | 0, _ =>
       obtain rfl : q1 = q := by simpa using hq
       exact idxP0 _ _ w
      | 1, _ =>
       obtain rfl : q2 = q := by simpa using hq
       exact idxP1 _ _ w
     have HK2 := qH (HP2.out k q hq)
     obtain ⟨c2, hc2⟩ : ∃ c2, c2 = cur ++ ([q1, q2].take k).filter nonE := ⟨_, rfl⟩
     have HCL2 := qH (show c2.length ≤ 514 by
      rw [hc2, List.length_append]
      have h1 := HCL.out
      have h2 := List.length_filter_le nonE ([q1, q2].take k)
      rw [List.length_take] at h2
      omega)
     rw [← hc2] at HO2
     have HC3 := qH (show cur ++ ([q1, q2].take (k + 1)).filter nonE = c2 ++ if nonE q then [q] else [] by rw [HK2.out, ← List.append_assoc, ← hc2])
     have HSB := qH HB2.out.size
     clear hc2 hq
     cases hne : nonE q with
     | false =>
      have HNE := qH (show (!eqS q z) = false by rw [HZ.out]; exact hne)
      rw [hne] at HC3
      clear hne
      go_wp2_with (first
       | ((with_reducible refine atDst 8 ?_); refine wpList_new rfl 43 rfl i0 _ (wds z) hi0 hz0 rfl HB2.out HSB.out ?_; intro w7 hk7 hb7 hs7 ho7; have K7 := qH hk7; have B7 := qH hb7; have O7 := qH (own4Below HO2.out (show Below wr.heap.size wr w7 from ⟨(hb7.os.trans HB2.out.os.symm), (hb7.tape.trans HB2.out.tape.symm), (hb7.output.trans HB2.out.output.symm), by omega, fun k hk => ho7 k hk⟩) (Nat.le_refl _)); clear hk7 hb7 hs7 ho7)
       | ((with_reducible refine atStore 43 8 25 ?_); refine wpList_stBlk rfl 43 _ _ rfl wr.heap.size (wds q) rfl rfl 43 _ K7.out (size_set q) rfl (wds_all _) B7.out HSB.out ?_; intro w8 hk8 hb8 hs8 ho8; have K8 := qH hk8; have B8 := qH hb8; have SB8 := qH hb8.size; have O8 := qH (own4Other O7.out (fun j hj => ho8 j (by have := own4_lt HO2.out j hj; omega))); clear hk8 hb8 ho8)
       | ((with_reducible refine atDst 26 ?_); refine wpList_ldArr rfl 43 _ rfl wr.heap.size rfl 43 _ _ K8.out Tryz.underlying43 rfl (size_set q) ?_)
       | ((with_reducible refine atDst 27 ?_); refine wpList_bld rfl 43 #[] rfl (wds z) HZB.out ?_)
       | ((with_reducible refine atDst 28 ?_); refine wpList_neSet_is rfl HNE.out 43 41 (.tmp 26) (.tmp 27) 43 rfl guard_set Tryz.underlying43 Tryz.underlying41 size_u64 rfl rfl ?_))
      refine ⟨⟨k + 1, by omega, by congr 1, ?_, B8.out⟩, by simp [intOf] <;> omega⟩
      rw [HC3.out]
      simpa using O8.out
     | true =>
      have HNE := qH (show (!eqS q z) = true by rw [HZ.out]; exact hne)
      rw [hne] at HC3
      clear hne
      go_wp2_with (first
       | ((with_reducible refine atDst 8 ?_); refine wpList_new rfl 43 rfl i0 _ (wds z) hi0 hz0 rfl HB2.out HSB.out ?_; intro w7 hk7 hb7 hs7 ho7; have K7 := qH hk7; have B7 := qH hb7; have O7 := qH (own4Below HO2.out (show Below wr.heap.size wr w7 from ⟨(hb7.os.trans HB2.out.os.symm), (hb7.tape.trans HB2.out.tape.symm), (hb7.output.trans HB2.out.output.symm), by omega, fun k hk => ho7 k hk⟩) (Nat.le_refl _)); clear hk7 hb7 hs7 ho7)
       | ((with_reducible refine atStore 43 8 25 ?_); refine wpList_stBlk rfl 43 _ _ rfl wr.heap.size (wds q) rfl rfl 43 _ K7.out (size_set q) rfl (wds_all _) B7.out HSB.out ?_; intro w8 hk8 hb8 hs8 ho8; have K8 := qH hk8; have B8 := qH hb8; have SB8 := qH hb8.size; have O8 := qH (own4Other O7.out (fun j hj => ho8 j (by have := own4_lt HO2.out j hj; omega))); clear hk8 hb8 ho8)
       | ((with_reducible refine atDst 26 ?_); refine wpList_ldArr rfl 43 _ rfl wr.heap.size rfl 43 _ _ K8.out Tryz.underlying43 rfl (size_set q) ?_)
       | ((with_reducible refine atDst 27 ?_); refine wpList_bld rfl 43 #[] rfl (wds z) HZB.out ?_)
       | ((with_reducible refine atDst 28 ?_); refine wpList_neSet_is rfl HNE.out 43 41 (.tmp 26) (.tmp 27) 43 rfl guard_set Tryz.underlying43 Tryz.underlying41 size_u64 rfl rfl ?_)
       | ((with_reducible refine atDst 30 ?_); refine wpList_ldArr rfl 43 _ rfl wr.heap.size rfl 43 _ _ K8.out Tryz.underlying43 rfl (size_set q) ?_)
       | ((with_reducible refine atDst 31 ?_); refine wpList_bldSet1 rfl 76 43 (.tmp 30) rfl i1 Tryz.underlying76 hi1 hy0 hy1 q rfl ?_; intro w9 hk9 hb9; have K9 := qH hk9; have O9 := qH (own4Below O8.out hb9 (Nat.le_refl _)); have B9 := qH (B8.out.trans (hb9.mono SB8.out)); have S9 := qH (Nat.le_trans SB8.out hb9.size); clear hk9 hb9)
       | ((with_reducible refine atDst 32 ?_); refine wpList_appS (base := w1.heap.size) rfl (.tmp 29) (.tmp 31) 76 rfl 43 i1 Tryz.underlying76 hi1 hy0 hy1 hy2 _ c2 rfl O9.out w8.heap.size 1 43 [q] rfl K9.out (by have := HCL2.out; simp; omega) S9.out ?_; intro v10 w10 ho10 hg10; have O10 := qH ho10; have B10 := qH (B9.out.grown hg10 S9.out (own4_above O9.out)); clear ho10 hg10))
      refine ⟨⟨k + 1, by omega, by congr 1, ?_, B10.out⟩, by simp [intOf] <;> omega⟩
      rw [HC3.out]
      exact O10.out
    ·obtain rfl : k = 2 := by omega
     have k1 : ¬ ((2 : Int) < 2) := by omega
     have HOO := qH (show wr.ownsRow w1.heap.size 43 4 _ _ _ from HO2.out)
     have HNN := qH (show splitS (List.take (j + 1) ps) s = cur ++ ([q1, q2].take 2).filter nonE by rw [HNX.out, HPC.out]; rfl)
     clear HO2
     go_wp2_with fail
     refine ⟨⟨j + 1, by omega, by congr 1, ?_, HB2.out⟩, by simp [intOf] <;> omega⟩
     rw [HNN.out]
     exact HOO.out
  ·obtain rfl : j = ps.length := by omega
   have j1 : ¬ ((ps.length : Int) < (ps.length : Int)) := by omega
   have o9 := HO.out
   rw [List.take_length] at o9
   have O9 := qH (show wo.ownsRow w.heap.size 43 4 _ _ _ from ⟨o9.1, o9.2.imp id fun ⟨g, cap, cur, h1, h2, h3⟩ => ⟨g, cap, cur, h1, Nat.le_trans B1.out.size h2, h3⟩⟩)
   have B9 := qH (B1.out.trans (HB.out.mono B1.out.size))
   clear o9 HO
   go_wp2_with fail
   go_ret
   exact ⟨_, rfl, O9.out, B9.out⟩
theorem lt_bigS {i n : Nat} (h : i < n) (hn : n ≤ 1000000) : i ≤ 4611686018427387904 := by omega
theorem setsN_take {S : List St} {i : Nat} {s : St} (h : S[i]? = some s) : setsN (S.take (i + 1)) = setsN (S.take i) ++ [s.set] := by
 obtain ⟨hi, rfl⟩ := List.getElem?_eq_some_iff.1 h
 unfold setsN
 rw [List.take_succ_eq_append_getElem hi, List.map_append, List.map_singleton]
theorem stc_range {w : World} {g : Nat} {ty : TypeId} {st : List Value} {s : St} {v : Value} (h : Blk w g ty st) (hst : st = stc s v) : w.rangeAt g 0 (wds s.set) := fun j u hu => by
 have hj : j < 4 := by have := (List.getElem?_eq_some_iff.1 hu).1; rwa [wds_length] at this
 rw [Nat.zero_add, h.cell, hst]
 unfold stc
 rw [List.getElem?_append_left (by rw [wds_length]; exact hj)]
 exact hu
set_option maxHeartbeats 4000000 in
set_option maxRecDepth 1000000 in
theorem sbSets_any (S : List St) (a z : Int) (cs : List Value) (w : World) (hv : NfaV w cs S a z) (hn : S.length ≤ 1000000) :
  Calls Tryz.prog 30 #[.agg cs.toArray] w fun e w' => ∃ v, e = .returned v ∧ RowS w' v (setsN S) ∧ Below w.heap.size w w' := by
 have V := qH hv
 obtain ⟨A, cap, rfl, hlc, hcm, hA0⟩ := hv.len
 have HN := qH hn
 clear hv hlc hcm hA0 hn
 obtain ⟨i0, hi0, hz0, hs0, hy0⟩ := infoP inf_nst
 obtain ⟨zz, hzz⟩ : ∃ z : List Value, z = stc ⟨fun _ => false, 0, []⟩ (.slice none 0 0) := ⟨_, rfl⟩
 have HZL := qH (show zz.length = 6 by rw [hzz]; rfl)
 have HZ0 := qH (show i0.zero = some (.agg zz.toArray) by rw [hzz]; exact hz0)
 obtain ⟨i4, hi4, hz4, hs4, hy4⟩ := infoP inf_set
 clear hzz hz0 hs0 hy0
 go_enter Tryz.func30, Tryz.ntmps30
 go_wp2_with ((with_reducible refine atDst 1 ?_); refine wpList_box rfl 24 _ rfl [.slice A S.length cap, .int .i64 a, .int .i64 z] rfl (Below.refl w.heap.size w) (Nat.le_refl _) ?_; intro w1 hk1 hb1 hs1 _; have K1 := qH hk1; have B1 := qH hb1; have c0 := hk1.cell 0; clear hk1 hb1 hs1; (try simp only [Act.put, qA, qB, qC]))
 clear c0
 go_loopw [2, 8] (fun v i wl => ∃ j : Nat, j ≤ S.length ∧ i = .int .i64 (j : Int) ∧ wl.ownsRow w.heap.size 43 4 v (setsN (S.take j)).length (sets (setsN (S.take j))) ∧ Below w.heap.size w wl) (fun _ i _ => S.length - (intOf i).toNat)
 case atStart => exact ⟨0, Nat.zero_le _, by simp, own4N _ _ _, B1.out⟩
 case round =>
  obtain ⟨j, hj, rfl, ho, hb⟩ := hrel
  have HO := qH ho
  have BR := qH hb
  clear ho hb
  obtain ⟨wq, hwq⟩ : ∃ v : World, v = wr := ⟨_, rfl⟩
  subst hwq
  by_cases hjl : j < S.length
  ·have x1 : (j : Int) < (S.length : Int) := Int.ofNat_lt.2 hjl
   have HJ := qH hjl
   have HMN := qH (sub_next hjl)
   have e3 := wrap_one j (lt_bigS hjl HN.out)
   have e4 := wrap_one' j (lt_bigS hjl HN.out)
   obtain ⟨s, hs⟩ : ∃ s, S[j]? = some s := ⟨_, List.getElem?_eq_getElem hjl⟩
   have HS := qH hs
   obtain ⟨b, off, Af, cf, rfl, hlt, hr, _⟩ := (V.out.below BR.out).whole hs
   obtain ⟨st, hst⟩ : ∃ l, l = stc s (.slice Af s.free.length cf) := ⟨_, rfl⟩
   have HST := qH hst
   have HR2 := qH (show wq.rangeAt b (off + j * 6) st by rw [hst]; exact hr)
   have HT6 := qH (show st.length = 6 by rw [hst]; rfl)
   have HT1 := qH (show st.all (·.oneCell') = true by rw [hst]; exact stc_one _ _ _ _)
   have HL := qH (show (setsN (S.take j)).length ≤ 1000000 by rw [setsN_len, List.length_take]; have := HN.out; omega)
   clear hj hjl hs hr hlt hst
   go_wp2_with (first
    | ((with_reducible refine atDst 11 ?_); refine wpList_load_mid rfl 55 _ rfl b (off + j * 6) rfl st _ HR2.out Tryz.underlying55 rfl (size_nst HT6.out) ?_; (try simp only [Act.put, qA, qB, qC]))
    | ((with_reducible refine atDst 4 ?_); refine wpList_new rfl 55 rfl i0 _ zz hi0 HZ0.out rfl (Below.refl wq.heap.size wq) (Nat.le_refl _) ?_; intro w4 hk hb hs ho; have K4 := qH hk; have B4 := qH hb; clear hk hb hs ho; (try simp only [Act.put, qA, qB, qC]))
    | ((with_reducible refine atStore 55 4 11 ?_); refine wpList_stBlk rfl 55 _ _ rfl wq.heap.size st rfl rfl 55 _ K4.out (size_nst HT6.out) (by rw [HZL.out, HT6.out]) HT1.out B4.out (Nat.le_refl _) ?_; intro w5 hk hb hs ho; have B5 := qH hb; have RS := qH (stc_range hk HST.out); clear hk hb hs ho; (try simp only [Act.put, qA, qB, qC]))
    | ((with_reducible refine atDst 14 ?_); refine wpList_load_mid rfl 43 _ rfl wq.heap.size 0 rfl (wds s.set) _ RS.out Tryz.underlying43 rfl (size_set s.set) ?_; (try simp only [Act.put, qA, qB, qC]))
    | ((with_reducible refine atDst 15 ?_); refine wpList_bldSet1 rfl 76 43 (.tmp 14) rfl i4 Tryz.underlying76 hi4 hz4 hs4 s.set rfl ?_; intro w6 hk hb; have K6 := qH hk; have B6 := qH (B5.out.trans (hb.mono B5.out.size)); clear hk hb; (try simp only [Act.put, qA, qB, qC]))
    | ((with_reducible refine atDst 16 ?_); refine wpList_appS (base := w.heap.size) rfl (.tmp 12) (.tmp 15) 76 rfl 43 i4 Tryz.underlying76 hi4 hz4 hs4 hy4 _ (setsN (S.take j)) rfl (own4Below HO.out B6.out (Nat.le_refl _)) _ 1 43 [s.set] rfl K6.out (by have := HL.out; simp only [List.length_singleton]; omega) (Nat.le_trans BR.out.size B6.out.size) ?_; intro v7 w7 ho7 hg7; have O7 := qH ho7; have B7 := qH (Below.grown (BR.out.trans (B6.out.mono BR.out.size)) hg7 (Nat.le_trans BR.out.size B6.out.size) (own4_above HO.out)); clear ho7 hg7; (try simp only [Act.put, qA, qB, qC])))
   refine ⟨⟨j + 1, HJ.out, by congr 1, ?_, B7.out⟩, by simpa [intOf] using HMN.out⟩
   rw [setsN_take HS.out]
   exact O7.out
  ·obtain rfl : j = S.length := Nat.le_antisymm hj (Nat.not_lt.1 hjl)
   have x1 : ¬ ((S.length : Int) < (S.length : Int)) := Int.lt_irrefl _
   have HE := qH (show RowS wq u2 (setsN S) by
    have h := HO.out
    rw [List.take_length] at h
    exact own4_row h)
   clear hj hjl HO
   go_wp2_with fail
   go_ret
   exact ⟨_, rfl, HE.out, BR.out⟩
end Go.Proofs.YteadghoojeehlaaGreatDoor
