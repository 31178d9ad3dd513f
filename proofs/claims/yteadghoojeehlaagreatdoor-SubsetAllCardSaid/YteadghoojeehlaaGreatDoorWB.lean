/-
  Texts of this proof, put together: SetA, SetB, BsC, BsD, GrA, SetC, BsLs, BsE. No statement is proved here.
-/
import Derived.Test.YteadghoojeehlaaGreatDoorProg
import Derived.Test.YteadghoojeehlaaGreatDoorWA
import Derived.StillTailTactics
import Derived.Deep.QuietTactic
import Derived.BigQuiet
import Derived.Laws.Bits128
import Derived.Sort.Grow
import Derived.Shelf.Spec.TrailingZeros
namespace Go.Proofs.YteadghoojeehlaaGreatDoor
open Go.RowKit
set_option linter.unusedSimpArgs false
set_option linter.unusedVariables false
theorem size_set (p : Nat → Bool) : (Tryz.prog.info? 43).map (·.size) = some (wds p).length := by
 rw [wds_length]
 kernel_rfl
theorem info_set : ∃ i : TypeInfo, Tryz.prog.info? 43 = some i ∧ i.zero = some (.agg (wds fun _ => false).toArray) := by
 have h : ((Tryz.prog.info? 43).map (·.zero)) = some (some (.agg (wds fun _ => false).toArray)) := by kernel_rfl
 cases hi : Tryz.prog.info? 43 with
 | none => rw [hi] at h; cases h
 | some i =>
  rw [hi] at h
  exact ⟨i, rfl, by simpa using h⟩
theorem has_bit (x k : Nat) : (((x : Int) / 2 ^ k).tmod 2 == 1) = decide (x / 2 ^ k % 2 = 1) := by
 have e : (2 ^ k : Int) = ((2 ^ k : Nat) : Int) := by rw [Int.natCast_pow]; rfl
 rw [e, ← Int.natCast_ediv]
 generalize x / 2 ^ k = y
 rw [Int.tmod_eq_emod_of_nonneg (by omega), Bool.eq_iff_iff, beq_iff_eq, decide_eq_true_iff]
 omega
set_option maxHeartbeats 1000000 in
theorem refHas_any (p : Nat → Bool) (b : Nat) (hb : b < 256) (w : World) :
  Calls Tryz.prog 45 #[.agg (wds p).toArray, .int .u8 (b : Int)] w fun e w' => e = .returned (.bool (p b)) ∧ Below w.heap.size w w' := by
 obtain ⟨x, hx⟩ : ∃ x, x = word p (b / 64) := ⟨_, rfl⟩
 have hlt := word_lt p (b / 64)
 have hsh := word_shift p b
 rw [← hx] at hlt hsh
 have HX := qH hx
 have HSH := qH hsh
 clear hx hsh
 go_enter Tryz.func45, Tryz.ntmps45
 go_wp2_with ((with_reducible refine atDst 2 ?_); refine wpList_box rfl 43 _ rfl (wds p) rfl (Below.refl w.heap.size w) (Nat.le_refl _) ?_; intro w1 hk1 hb1 hs1 _; have c1 := hk1.cell (b / 64); rw [wds_get p (b / 64) (by omega), ← HX.out] at c1; have B1 := qH hb1; clear hk1 hb1 hs1)
 go_ret
 refine ⟨?_, B1.out⟩
 rw [← HSH.out]
 refine congrArg (fun b => Ending.returned (.bool b)) ?_
 exact has_bit x _
/-! ### Of -/
theorem shl_bit (c : Nat) (hc : c < 64) : IntKind.u64.wrap (2 ^ c : Int) = ((2 ^ c : Nat) : Int) := by
 have h : 2 ^ c < 2 ^ 64 := Nat.pow_lt_pow_right (by omega) hc
 have e : (2 ^ c : Int) = ((2 ^ c : Nat) : Int) := by rw [Int.natCast_pow]; rfl
 rw [e]
 generalize 2 ^ c = y at h
 exact IntWalk.u64_in _ (by omega)
theorem of_bits {x k : Nat} (hx : x < 18446744073709551616) (hk : k < 64) : bits .or .u64 (x : Int) (2 ^ k : Int) = ((x ||| 2 ^ k : Nat) : Int) := by
 have h : 2 ^ k < 2 ^ 64 := Nat.pow_lt_pow_right (by omega) hk
 have e : (2 ^ k : Int) = ((2 ^ k : Nat) : Int) := by rw [Int.natCast_pow]; rfl
 rw [e]
 exact u64_or_nat x (2 ^ k) hx h
theorem mem_next (b : Nat) (c : UInt8) (n : Nat) (hb : b < 256) (hn : n = c.toNat) (l : List UInt8) : decide (UInt8.ofNat b ∈ l ++ [c]) = (decide (UInt8.ofNat b ∈ l) || decide (b = n)) := by
 have h : UInt8.ofNat b = c ↔ b = n := by
  rw [hn]
  constructor
  ·rintro rfl
   rw [UInt8.toNat_ofNat']
   exact (Nat.mod_eq_of_lt hb).symm
  ·rintro rfl
   simp
 rw [Bool.eq_iff_iff, Bool.or_eq_true, decide_eq_true_iff, decide_eq_true_iff, decide_eq_true_iff, List.mem_append, List.mem_singleton, h]
set_option maxHeartbeats 2000000 in
set_option maxRecDepth 100000 in
theorem refOf_any (v : Value) (l : List UInt8) (w : World) (hr : Row w v (bvs l)) (hl : l.length ≤ 1048576) :
  Calls Tryz.prog 16 #[v] w fun e w' => e = .returned (.agg (wds fun b => decide (UInt8.ofNat b ∈ l)).toArray) ∧ Below w.heap.size w w' := by
 have R0 := qH hr
 obtain ⟨A, cap, rfl, a1, a2, a0, a3⟩ := hr
 rw [bvs_length] at a1 R0 ⊢
 clear a3 a0 a2
 obtain ⟨i0, hi0, hz0⟩ := info_set
 obtain ⟨z, hz⟩ : ∃ z : Nat → Bool, z = fun _ => false := ⟨_, rfl⟩
 rw [← hz] at hz0
 have HZ := qH hz
 clear hz
 go_enter Tryz.func16, Tryz.ntmps16
 go_wp2_with (first
  | ((with_reducible refine atDst 2 ?_); refine wpList_new rfl 43 rfl i0 _ (wds z) hi0 hz0 rfl (Below.refl w.heap.size w) (Nat.le_refl _) ?_; intro w1 hk1 hb1 hs1 _; have K1 := qH hk1; have B1 := qH hb1; have S1 := qH hs1; clear hk1 hb1 hs1)
  | ((with_reducible refine atDst 3 ?_); refine wpList_new rfl 43 rfl i0 _ (wds z) hi0 hz0 rfl (Below.refl w1.heap.size w1) (Nat.le_refl _) ?_; intro w2 hk2 hb2 hs2 ho2; have K2 := qH hk2; have B2 := qH hb2; clear hk2 hb2 hs2 ho2))
 go_loopw [4] (fun i wl => ∃ j : Nat, j ≤ l.length ∧ i = .int .i64 (j : Int) ∧ Blk wl w1.heap.size 43 (wds fun b => decide (UInt8.ofNat b ∈ l.take j)) ∧ Below w1.heap.size w1 wl) (fun i _ => l.length - (intOf i).toNat)
 case atStart => exact ⟨0, by omega, by simp, by simpa [HZ.out] using K2.out, B2.out⟩
 case round =>
  obtain ⟨j, hj, rfl, hk, hb⟩ := hrel
  have KR := qH hk
  have BR := qH hb
  clear hk hb
  by_cases hjl : j < l.length
  ·have i1 : (j : Int) < (l.length : Int) := by omega
   obtain ⟨b0, off, rfl, hb0, hcell⟩ := (R0.out.below (B1.out.trans (BR.out.mono B1.out.size))).at_ (by rw [bvs_length]; omega)
   have hcj := hcell j _ (bvs_get l j l[j] (List.getElem?_eq_getElem hjl))
   obtain ⟨c, hc⟩ : ∃ c : UInt8, c = l[j] := ⟨_, rfl⟩
   rw [← hc] at hcj
   have HC := qH hc
   have hlt := c.toNat_lt
   obtain ⟨n, hn⟩ : ∃ n, n = c.toNat := ⟨_, rfl⟩
   have hcj' : wr.cell? ⟨b0, off + j, none⟩ = some (.int .u8 (n : Int)) := by rw [hn]; exact hcj
   rw [← hn] at hlt
   have HN := qH hn
   have hgc := KR.out.cell (n / 64)
   rw [wds_get _ (n / 64) (by omega)] at hgc
   obtain ⟨x, hx⟩ : ∃ x, x = word (fun b => decide (UInt8.ofNat b ∈ l.take j)) (n / 64) := ⟨_, rfl⟩
   rw [← hx] at hgc
   have hfz := KR.out.frozen (n / 64)
   have HX := qH hx
   have hlx : x < 18446744073709551616 := by rw [hx]; exact word_lt _ _
   have hsh := shl_bit (n % 64) (Nat.mod_lt _ (by omega))
   clear hcell hc hcj hn hx
   have hq1 : IntKind.u8.wrap ((n : Int) / 64) = ((n / 64 : Nat) : Int) := IntWalk.u8_in _ (by omega)
   have hq2 : ((n : Int).tmod 64) = ((n % 64 : Nat) : Int) := by rw [Int.tmod_eq_emod_of_nonneg (by omega)]; rfl
   have hq3 : (n : Int) / 64 < 4 := by omega
   have hq4 : 0 ≤ (n : Int) / 64 := by omega
   have hq5 : ((n : Int) / 64).toNat = n / 64 := by omega
   go_wp2_with fail
   go_still_tail 15, (by kernel_rfl)
   change wpList _ _ _ _ _ wr.drew
   go_wp2_with fail
   refine ⟨⟨j + 1, by omega, by congr 1, ?_, (BR.out.setCell (p := ⟨w1.heap.size, n / 64, none⟩) (Nat.le_refl _) _).drew⟩, by simp [intOf] <;> omega⟩
   rw [of_bits hlx (Nat.mod_lt n (by omega))]
   have hk := KR.out.set (n / 64) (.int .u64 ((x ||| 2 ^ (n % 64) : Nat) : Int))
   rw [HX.out, wds_put _ n (by omega)] at hk
   rw [HX.out]
   refine Blk.drew ?_
   rw [wds_congr (q := fun b => decide (UInt8.ofNat b ∈ l.take j) || decide (b = n)) (fun b hb => ?_)]
   ·exact hk
   ·rw [List.take_succ_eq_append_getElem hjl, ← HC.out]
    exact mem_next b c n hb HN.out _
  ·obtain rfl : j = l.length := by omega
   have i1 : ¬ ((l.length : Int) < (l.length : Int)) := by omega
   have k9 := KR.out
   rw [List.take_length] at k9
   obtain ⟨q, hq⟩ : ∃ q : Nat → Bool, q = fun b => decide (UInt8.ofNat b ∈ l) := ⟨_, rfl⟩
   rw [← hq] at k9
   have K9 := qH k9
   have HQ := qH hq
   have KA := qH (K1.out.below BR.out K1.out.lt)
   have B9 := qH (B1.out.trans (BR.out.mono B1.out.size))
   clear k9 hq KR
   go_wp2_with (first
    | ((with_reducible refine atDst 26 ?_); refine wpList_ldArr rfl 43 _ rfl w1.heap.size rfl 43 _ _ K9.out Tryz.underlying43 rfl (size_set q) ?_)
    | ((with_reducible refine atStore 43 2 26 ?_); refine wpList_stBlk rfl 43 _ _ rfl w.heap.size (wds q) rfl rfl 43 _ KA.out (size_set q) rfl (wds_all _) B9.out (Nat.le_refl _) ?_; intro w3 hk3 hb3 hs3 _; have K3 := qH hk3; have B3 := qH hb3; clear hk3 hb3))
   refine bodyPost_ret (results_blk rfl _ _ w.heap.size 43 _ _ rfl K3.out Tryz.underlying43 rfl (size_set q)) rfl ?_
   exact ⟨by rw [HQ.out], B3.out⟩
/-! ### Where -/
theorem inf_u8 : (Tryz.prog.info? 5).map (fun i => (i.zero, i.size, i.bytes)) = some (some (.int .u8 0), 1, 1) := by kernel_rfl
/-! ### List -/
/-! ### Not -/
theorem ld_blk {P : Program} {a : Act} {oi : Oper} {B : Nat} {w0 : World} (ty : TypeId) (x : Operand) (ho : oi.op = .load ty x) (g : Nat) (hx : a.eval x = .pointer (some ⟨g, 0, none⟩)) (t : TypeId) (cs : List Value) (d : TypeDesc)
  (hg : Blk w0 g t cs) (hB : g < B) (hu : P.underlying ty = some d) (hd : (match d with | .struct _ | .array _ _ => true | _ => false) = true) (hi : (P.info? ty).map (·.size) = some cs.length) :
  ∀ W, Below B w0 W → (execOp a.eval oi).run P W = .ok (.value (.agg cs.toArray)) W := by
 intro W hW
 have hl := run_loadVar_row (P := P) W g t ty cs.toArray (0, 0) d (hg.below hW hB) hu hd (by simpa using hi)
 simp [execOp, ho, hx, Instr.loadAt, Instr.sureAddr, asAddr, hl]
/-! ### Or -/
/-! ### counting bits, byte by byte -/
def rep (c : Nat) : Nat → Nat
 | 0 => 0
 | n + 1 => 256 * rep c n + c
theorem and_byte (x m c : Nat) (hc : c < 256) : x &&& (256 * m + c) = 256 * ((x / 256) &&& m) + ((x % 256) &&& c) := by
 have h1 : (x &&& (256 * m + c)) / 2 ^ 8 = (x / 2 ^ 8) &&& ((256 * m + c) / 2 ^ 8) := Nat.and_div_two_pow
 have h2 : (x &&& (256 * m + c)) % 2 ^ 8 = (x % 2 ^ 8) &&& ((256 * m + c) % 2 ^ 8) := Nat.and_mod_two_pow
 have e1 : (256 * m + c) / 2 ^ 8 = m := by omega
 have e2 : (256 * m + c) % 2 ^ 8 = c := by omega
 rw [e1] at h1
 rw [e2] at h2
 have e3 : (2 : Nat) ^ 8 = 256 := rfl
 rw [e3] at h1 h2
 omega
def s1 (b : Nat) : Nat := ((b / 2) &&& 85) + (b &&& 85)
def s2 (b : Nat) : Nat := ((b / 4) &&& 51) + (b &&& 51)
def s3 (b : Nat) : Nat := (b / 16 + b) &&& 15
def S1 (n x : Nat) : Nat := ((x / 2) &&& rep 85 n) + (x &&& rep 85 n)
def S2 (n x : Nat) : Nat := ((x / 4) &&& rep 51 n) + (x &&& rep 51 n)
def S3 (n x : Nat) : Nat := (x / 16 + x) &&& rep 15 n
theorem f1 : ∀ (b : Fin 256) (r : Fin 2), (((128 * r.val + b.val / 2) % 256) &&& 85) = ((b.val / 2) &&& 85) ∧ s1 b.val < 256 := by decide +kernel
theorem f2 : ∀ (b : Fin 256) (r : Fin 4), (((64 * r.val + b.val / 4) % 256) &&& 51) = ((b.val / 4) &&& 51) ∧ s2 b.val < 256 := by decide +kernel
theorem f3 : ∀ (b : Fin 69) (r : Fin 5), b.val % 16 ≤ 4 → ((16 * r.val + b.val / 16 + b.val) &&& 15) = s3 b.val := by decide +kernel
theorem f4 : ∀ b : Fin 256, s2 (s1 b.val) % 16 ≤ 4 ∧ s2 (s1 b.val) ≤ 68 ∧ s3 (s2 (s1 b.val)) = ((List.range 8).filter b.val.testBit).length ∧ s3 (s2 (s1 b.val)) ≤ 8 := by decide +kernel
theorem S1_step (n y b : Nat) (hb : b < 256) : S1 (n + 1) (256 * y + b) = 256 * S1 n y + s1 b := by
 have h := (f1 ⟨b, hb⟩ ⟨y % 2, Nat.mod_lt _ (by omega)⟩).1
 simp only at h
 simp only [S1, s1, rep]
 rw [and_byte _ _ 85 (by omega), and_byte (256 * y + b) _ 85 (by omega)]
 have e1 : (256 * y + b) / 2 / 256 = y / 2 := by omega
 have e2 : (256 * y + b) / 2 % 256 = (128 * (y % 2) + b / 2) % 256 := by omega
 have e3 : (256 * y + b) / 256 = y := by omega
 have e4 : (256 * y + b) % 256 = b := by omega
 rw [e1, e2, e3, e4, h]
 omega
theorem S2_step (n y b : Nat) (hb : b < 256) : S2 (n + 1) (256 * y + b) = 256 * S2 n y + s2 b := by
 have h := (f2 ⟨b, hb⟩ ⟨y % 4, Nat.mod_lt _ (by omega)⟩).1
 simp only at h
 simp only [S2, s2, rep]
 rw [and_byte _ _ 51 (by omega), and_byte (256 * y + b) _ 51 (by omega)]
 have e1 : (256 * y + b) / 4 / 256 = y / 4 := by omega
 have e2 : (256 * y + b) / 4 % 256 = (64 * (y % 4) + b / 4) % 256 := by omega
 have e3 : (256 * y + b) / 256 = y := by omega
 have e4 : (256 * y + b) % 256 = b := by omega
 rw [e1, e2, e3, e4, h]
 omega
theorem S3_step (n y b : Nat) (hb : b ≤ 68) (hb2 : b % 16 ≤ 4) (hy : y % 16 ≤ 4) : S3 (n + 1) (256 * y + b) = 256 * S3 n y + s3 b := by
 have h := f3 ⟨b, by omega⟩ ⟨y % 16, by omega⟩ hb2
 simp only at h
 simp only [S3, rep]
 rw [and_byte _ _ 15 (by omega)]
 have e1 : ((256 * y + b) / 16 + (256 * y + b)) / 256 = y / 16 + y := by omega
 have e2 : ((256 * y + b) / 16 + (256 * y + b)) % 256 = 16 * (y % 16) + b / 16 + b := by omega
 rw [e1, e2, h]
def S (n x : Nat) : Nat := S3 n (S2 n (S1 n x))
theorem low4 : ∀ n x : Nat, S2 n (S1 n x) % 16 ≤ 4
 | 0, x => by simp [S2, S1, rep]
 | n + 1, x => by
  have hb : x % 256 < 256 := Nat.mod_lt _ (by omega)
  have e : x = 256 * (x / 256) + x % 256 := by omega
  have k1 : s1 (x % 256) < 256 := (f1 ⟨_, hb⟩ 0).2
  have k2 : s2 (s1 (x % 256)) % 16 ≤ 4 := (f4 ⟨_, hb⟩).1
  rw [e, S1_step n _ _ hb, S2_step n _ _ k1]
  omega
theorem S_step (n y b : Nat) (hb : b < 256) : S (n + 1) (256 * y + b) = 256 * S n y + ((List.range 8).filter b.testBit).length := by
 have h4 := f4 ⟨b, hb⟩
 simp only at h4
 unfold S
 rw [S1_step n _ _ hb, S2_step n _ _ (f1 ⟨_, hb⟩ 0).2, S3_step n _ _ h4.2.1 h4.1 (low4 n y), h4.2.2.1]
def popc (n x : Nat) : Nat := ((List.range n).filter x.testBit).length
theorem popc_byte (n y b : Nat) (hb : b < 256) : popc (8 + n) (256 * y + b) = popc 8 b + popc n y := by
 unfold popc
 rw [List.range_add, List.filter_append, List.length_append]
 congr 1
 ·congr 1
  apply List.filter_congr
  intro j hj
  have hj8 : j < 8 := List.mem_range.1 hj
  have := Nat.testBit_mod_two_pow (256 * y + b) 8 j
  rw [show (256 * y + b) % 2 ^ 8 = b by omega] at this
  rw [this]
  simp [hj8]
 ·rw [List.filter_map, List.length_map]
  congr 1
  apply List.filter_congr
  intro j hj
  have : ((256 * y + b) / 2 ^ 8).testBit j = (256 * y + b).testBit (j + 8) := Nat.testBit_div_two_pow _ _
  rw [show (256 * y + b) / 2 ^ 8 = y by omega] at this
  simp only [Function.comp]
  rw [this, Nat.add_comm 8 j]
theorem popc8 (b : Nat) (hb : b < 256) : popc 8 b ≤ 8 := by
 have := f4 ⟨b, hb⟩
 simp only at this
 unfold popc
 omega
theorem dv8 {x h p : Nat} (e : x = 256 * h + p) (hp : p < 256) : x / 256 = h := by omega
theorem ad8 {x y a b p q : Nat} (hx : x = 256 * a + p) (hy : y = 256 * b + q) : x + y = 256 * (a + b) + (p + q) := by omega
theorem bd8 {x h p B : Nat} (e : x = 256 * h + p) (hh : h ≤ B) (hp : p ≤ 8) : x ≤ 256 * B + 8 := by omega
theorem md8 {u a p : Nat} (e : u = 256 * a + p) (hp : p < 128) : u % 128 = p := by omega
theorem up4 (p0 p1 p2 p3 p4 p5 p6 p7 : Nat) : p0 + p1 + (p2 + p3) + (p4 + p5 + (p6 + p7)) = p0 + p1 + p2 + p3 + p4 + p5 + p6 + p7 := by omega
theorem sum8 (p0 p1 p2 p3 p4 p5 p6 p7 : Nat) (a0 : p0 ≤ 8) (a1 : p1 ≤ 8) (a2 : p2 ≤ 8) (a3 : p3 ≤ 8) (a4 : p4 ≤ 8) (a5 : p5 ≤ 8) (a6 : p6 ≤ 8) (a7 : p7 ≤ 8) (h0 : Nat)
  (hx : h0 = 256 * (256 * (256 * (256 * (256 * (256 * (256 * p7 + p6) + p5) + p4) + p3) + p2) + p1) + p0) :
  ∀ y z u : Nat, y = h0 + h0 / 256 → z = y + y / 65536 → u = z + z / 4294967296 → y < 18446744073709551616 ∧ z < 18446744073709551616 ∧ u < 18446744073709551616 ∧ u % 128 = p0 + p1 + p2 + p3 + p4 + p5 + p6 + p7 := by
 intro y z u hy hz hu
 obtain ⟨h7, e7⟩ : ∃ h, h = p7 := ⟨_, rfl⟩
 obtain ⟨h6, e6⟩ : ∃ h, h = 256 * h7 + p6 := ⟨_, rfl⟩
 obtain ⟨h5, e5⟩ : ∃ h, h = 256 * h6 + p5 := ⟨_, rfl⟩
 obtain ⟨h4, e4⟩ : ∃ h, h = 256 * h5 + p4 := ⟨_, rfl⟩
 obtain ⟨h3, e3⟩ : ∃ h, h = 256 * h4 + p3 := ⟨_, rfl⟩
 obtain ⟨h2, e2⟩ : ∃ h, h = 256 * h3 + p2 := ⟨_, rfl⟩
 obtain ⟨h1, e1⟩ : ∃ h, h = 256 * h2 + p1 := ⟨_, rfl⟩
 have e0 : h0 = 256 * h1 + p0 := by rw [hx, e1, e2, e3, e4, e5, e6, e7]
 have e7' : h7 = 256 * 0 + p7 := by rw [e7, Nat.mul_zero, Nat.zero_add]
 clear hx
 have l7 : h7 ≤ 8 := by rw [e7]; exact a7
 have l6 := bd8 e6 l7 a6
 have l5 := bd8 e5 l6 a5
 have l4 := bd8 e4 l5 a4
 have l3 := bd8 e3 l4 a3
 have l2 := bd8 e2 l3 a2
 have l1 := bd8 e1 l2 a1
 have l0 := bd8 e0 l1 a0
 have le2 : ∀ {a b : Nat}, a ≤ 8 → b ≤ 8 → a + b ≤ 16 := fun h k => Nat.add_le_add h k
 have lt4 : ∀ {a b : Nat}, a ≤ 16 → b ≤ 16 → a + b < 256 := fun h k => Nat.lt_of_le_of_lt (Nat.add_le_add h k) (by decide)
 have lt2 : ∀ {a : Nat}, a ≤ 16 → a < 256 := fun h => Nat.lt_of_le_of_lt h (by decide)
 have m01 := ad8 e0 e1
 have m12 := ad8 e1 e2
 have m23 := ad8 e2 e3
 have m34 := ad8 e3 e4
 have m45 := ad8 e4 e5
 have m56 := ad8 e5 e6
 have m67 := ad8 e6 e7'
 have y1 : y = h0 + h1 := by rw [hy, dv8 e0 (lt2 (Nat.le_trans a0 (by decide)))]
 have y2 : y / 65536 = h2 + h3 := by
  rw [show (65536 : Nat) = 256 * 256 from rfl, ← Nat.div_div_eq_div_mul, y1, dv8 m01 (lt2 (le2 a0 a1)), dv8 m12 (lt2 (le2 a1 a2))]
 have z1 : z = h0 + h1 + (h2 + h3) := by rw [hz, y2, y1]
 have q0 := ad8 m01 m23
 have q1 := ad8 m12 m34
 have q2 := ad8 m23 m45
 have q3 := ad8 m34 m56
 have z2 : z / 4294967296 = h4 + h5 + (h6 + h7) := by
  rw [show (4294967296 : Nat) = 256 * 256 * 256 * 256 from rfl, ← Nat.div_div_eq_div_mul, ← Nat.div_div_eq_div_mul, ← Nat.div_div_eq_div_mul, z1,
   dv8 q0 (lt4 (le2 a0 a1) (le2 a2 a3)), dv8 q1 (lt4 (le2 a1 a2) (le2 a3 a4)), dv8 q2 (lt4 (le2 a2 a3) (le2 a4 a5)), dv8 q3 (lt4 (le2 a3 a4) (le2 a5 a6))]
 have u1 : u = h0 + h1 + (h2 + h3) + (h4 + h5 + (h6 + h7)) := by rw [hu, z2, z1]
 have q := ad8 q0 (ad8 m45 m67)
 rw [← u1] at q
 refine ⟨?_, ?_, ?_, ?_⟩
 ·rw [y1]; exact Nat.lt_of_le_of_lt (Nat.add_le_add l0 l1) (by decide)
 ·rw [z1]; exact Nat.lt_of_le_of_lt (Nat.add_le_add (Nat.add_le_add l0 l1) (Nat.add_le_add l2 l3)) (by decide)
 ·rw [u1]; exact Nat.lt_of_le_of_lt (Nat.add_le_add (Nat.add_le_add (Nat.add_le_add l0 l1) (Nat.add_le_add l2 l3)) (Nat.add_le_add (Nat.add_le_add l4 l5) (Nat.add_le_add l6 l7))) (by decide)
 ·rw [md8 q (Nat.lt_of_le_of_lt (Nat.add_le_add (Nat.add_le_add (le2 a0 a1) (le2 a2 a3)) (Nat.add_le_add (le2 a4 a5) (le2 a6 a7))) (by decide))]
  exact up4 _ _ _ _ _ _ _ _
theorem sum64 (x : Nat) (hx : x < 18446744073709551616) (y z u : Nat) (hy : y = S 8 x + S 8 x / 256) (hz : z = y + y / 65536) (hu : u = z + z / 4294967296) :
  y < 18446744073709551616 ∧ z < 18446744073709551616 ∧ u < 18446744073709551616 ∧ u % 128 = popc 64 x := by
 have key : ∀ n x, ∃ b y, b < 256 ∧ x = 256 * y + b ∧ S (n + 1) x = 256 * S n y + popc 8 b ∧ popc (8 + 8 * n) x = popc 8 b + popc (8 * n) y := by
  intro n x
  have hb : x % 256 < 256 := Nat.mod_lt _ (by omega)
  have e : x = 256 * (x / 256) + x % 256 := by omega
  generalize x % 256 = b at hb e
  generalize x / 256 = y at e
  subst e
  exact ⟨b, y, hb, rfl, S_step n y b hb, popc_byte (8 * n) y b hb⟩
 obtain ⟨b0, x1, l0, e0, s0, c0⟩ := key 7 x
 obtain ⟨b1, x2, l1, e1, s1, c1⟩ := key 6 x1
 obtain ⟨b2, x3, l2, e2, s2, c2⟩ := key 5 x2
 obtain ⟨b3, x4, l3, e3, s3, c3⟩ := key 4 x3
 obtain ⟨b4, x5, l4, e4, s4, c4⟩ := key 3 x4
 obtain ⟨b5, x6, l5, e5, s5, c5⟩ := key 2 x5
 obtain ⟨b6, x7, l6, e6, s6, c6⟩ := key 1 x6
 obtain ⟨b7, x8, l7, e7, s7, c7⟩ := key 0 x7
 have z0 : S 0 x8 = 0 := by simp [S, S3, rep]
 have z1 : popc (8 * 0) x8 = 0 := rfl
 have hS : S 8 x = 256 * (256 * (256 * (256 * (256 * (256 * (256 * popc 8 b7 + popc 8 b6) + popc 8 b5) + popc 8 b4) + popc 8 b3) + popc 8 b2) + popc 8 b1) + popc 8 b0 := by
  simp only [Nat.reduceAdd] at s0 s1 s2 s3 s4 s5 s6 s7
  rw [s0, s1, s2, s3, s4, s5, s6, s7, z0, Nat.mul_zero, Nat.zero_add]
 have hP : popc 64 x = popc 8 b0 + popc 8 b1 + popc 8 b2 + popc 8 b3 + popc 8 b4 + popc 8 b5 + popc 8 b6 + popc 8 b7 := by
  simp only [Nat.reduceAdd, Nat.reduceMul] at c0 c1 c2 c3 c4 c5 c6 c7 z1
  rw [c0, c1, c2, c3, c4, c5, c6, c7, z1]
  omega
 have := sum8 _ _ _ _ _ _ _ _ (popc8 b0 l0) (popc8 b1 l1) (popc8 b2 l2) (popc8 b3 l3) (popc8 b4 l4) (popc8 b5 l5) (popc8 b6 l6) (popc8 b7 l7) _ hS y z u hy hz hu
 rw [hP]
 exact this
theorem rep85 : rep 85 8 = 6148914691236517205 := by decide +kernel
theorem rep51 : rep 51 8 = 3689348814741910323 := by decide +kernel
theorem rep15 : rep 15 8 = 1085102592571150095 := by decide +kernel
theorem split8 (x : Nat) : ∃ y b, b < 256 ∧ x = 256 * y + b := ⟨x / 256, x % 256, Nat.mod_lt _ (by omega), by omega⟩
theorem S1_lt : ∀ n x : Nat, S1 n x ≤ rep 255 n
 | 0, x => by simp [S1, rep]
 | n + 1, x => by
  obtain ⟨y, b, hb, rfl⟩ := split8 x
  have k1 : s1 b < 256 := (f1 ⟨_, hb⟩ 0).2
  have := S1_lt n y
  rw [S1_step n _ _ hb]
  simp only [rep]
  omega
theorem S2_lt : ∀ n x : Nat, S2 n (S1 n x) ≤ rep 68 n
 | 0, x => by simp [S2, rep]
 | n + 1, x => by
  obtain ⟨y, b, hb, rfl⟩ := split8 x
  have k1 : s1 b < 256 := (f1 ⟨_, hb⟩ 0).2
  have k2 : s2 (s1 b) ≤ 68 := (f4 ⟨_, hb⟩).2.1
  have := S2_lt n y
  rw [S1_step n _ _ hb, S2_step n _ _ k1]
  simp only [rep]
  omega
theorem rep255 : rep 255 8 = 18446744073709551615 := by decide +kernel
theorem rep68 : rep 68 8 = 4919131752989213764 := by decide +kernel
theorem and_lit (a c : Nat) (ha : a < 18446744073709551616) (hc : c < 18446744073709551616) (C : Int) (hC : C = (c : Int)) : bits .and .u64 (a : Int) C = ((a &&& c : Nat) : Int) := by
 rw [hC]
 exact u64_and_nat a c ha hc
theorem wrapN (a : Nat) (h : a < 18446744073709551616) : IntKind.u64.wrap (a : Int) = (a : Int) := IntWalk.u64_in _ (by omega)
theorem low127 (u n : Nat) (h : u % 128 = n) : bits .and .i64 (wrap64 (u : Int)) 127 = (n : Int) := by
 rw [i64_and127]
 unfold wrap64
 rw [Int.emod_def ((u : Int) + 9223372036854775808)]
 generalize ((u : Int) + 9223372036854775808) / 18446744073709551616 = q
 omega
set_option maxHeartbeats 1000000 in
theorem ones_any (x : Nat) (hx : x < 18446744073709551616) (w : World) :
  Calls Tryz.prog 76 #[.int .u64 (x : Int)] w fun e w' => e = .returned (.int .i64 (popc 64 x : Int)) ∧ w' = w := by
 obtain ⟨x1, h1⟩ : ∃ x1, x1 = S1 8 x := ⟨_, rfl⟩
 obtain ⟨x2, h2⟩ : ∃ x2, x2 = S2 8 x1 := ⟨_, rfl⟩
 obtain ⟨x3, h3⟩ : ∃ x3, x3 = S3 8 x2 := ⟨_, rfl⟩
 obtain ⟨y, hy⟩ : ∃ y, y = x3 + x3 / 256 := ⟨_, rfl⟩
 obtain ⟨z, hz⟩ : ∃ z, z = y + y / 65536 := ⟨_, rfl⟩
 obtain ⟨u, hu⟩ : ∃ u, u = z + z / 4294967296 := ⟨_, rfl⟩
 obtain ⟨n, hn⟩ : ∃ n, n = popc 64 x := ⟨_, rfl⟩
 have l1 : x1 ≤ 18446744073709551615 := by rw [h1, ← rep255]; exact S1_lt 8 x
 have l2 : x2 ≤ 4919131752989213764 := by rw [h2, h1, ← rep68]; exact S2_lt 8 x
 have hs := sum64 x hx y z u (by rw [hy, h3, h2, h1]; rfl) hz hu
 have E1 : IntKind.u64.wrap (bits .and .u64 ((x : Int) / 2) 6148914691236517205 + bits .and .u64 (x : Int) 6148914691236517205) = (x1 : Int) := by
  rw [show (x : Int) / 2 = ((x / 2 : Nat) : Int) from by omega, and_lit (x / 2) 6148914691236517205 (by omega) (by omega) 6148914691236517205 rfl, and_lit x 6148914691236517205 hx (by omega) 6148914691236517205 rfl, ← rep85]
  rw [← Int.natCast_add, show (x / 2 &&& rep 85 8) + (x &&& rep 85 8) = x1 from h1.symm]
  exact wrapN x1 (by omega)
 have E2 : IntKind.u64.wrap (bits .and .u64 ((x1 : Int) / 4) 3689348814741910323 + bits .and .u64 (x1 : Int) 3689348814741910323) = (x2 : Int) := by
  rw [show (x1 : Int) / 4 = ((x1 / 4 : Nat) : Int) from by omega, and_lit (x1 / 4) 3689348814741910323 (by omega) (by omega) 3689348814741910323 rfl, and_lit x1 3689348814741910323 (by omega) (by omega) 3689348814741910323 rfl, ← rep51]
  rw [← Int.natCast_add, show (x1 / 4 &&& rep 51 8) + (x1 &&& rep 51 8) = x2 from h2.symm]
  exact wrapN x2 (by omega)
 have E3 : bits .and .u64 (IntKind.u64.wrap ((x2 : Int) / 16 + (x2 : Int))) 1085102592571150095 = (x3 : Int) := by
  rw [show (x2 : Int) / 16 + (x2 : Int) = ((x2 / 16 + x2 : Nat) : Int) from by omega, wrapN _ (by omega), and_lit (x2 / 16 + x2) 1085102592571150095 (by omega) (by omega) 1085102592571150095 rfl, ← rep15]
  rw [show (x2 / 16 + x2) &&& rep 15 8 = x3 from h3.symm]
 have E4 : IntKind.u64.wrap ((x3 : Int) + (x3 : Int) / 256) = (y : Int) := by
  rw [show (x3 : Int) + (x3 : Int) / 256 = (y : Int) from by omega]
  exact wrapN y hs.1
 have E5 : IntKind.u64.wrap ((y : Int) + (y : Int) / 65536) = (z : Int) := by
  rw [show (y : Int) + (y : Int) / 65536 = (z : Int) from by omega]
  exact wrapN z hs.2.1
 have E6 : IntKind.u64.wrap ((z : Int) + (z : Int) / 4294967296) = (u : Int) := by
  rw [show (z : Int) + (z : Int) / 4294967296 = (u : Int) from by omega]
  exact wrapN u hs.2.2.1
 have E7 : bits .and .i64 (wrap64 (u : Int)) 127 = (n : Int) := by
  have := hs.2.2.2
  rw [← hn] at this
  exact low127 u n this
 rw [← hn]
 clear hs hy hz hu hn h1 h2 h3 l1 l2 hx
 go_enter Tryz.func76, Tryz.ntmps76
 go_wp2_with fail
 go_ret
 exact ⟨rfl, rfl⟩
/-! ### Len -/
def lenW (p : Nat → Bool) : Nat → Nat
 | 0 => 0
 | j + 1 => lenW p j + popc 64 (word p j)
theorem popc_word (p : Nat → Bool) (i : Nat) : popc 64 (word p i) = ((List.range 64).filter fun j => p (64 * i + j)).length := by
 unfold popc
 congr 1
 apply List.filter_congr
 intro j hj
 have hj64 : j < 64 := List.mem_range.1 hj
 simp only [word, wd_bit]
 simp [hj64]
theorem lenW_eq (p : Nat → Bool) : ∀ j, lenW p j = ((List.range (64 * j)).filter p).length
 | 0 => rfl
 | j + 1 => by
  rw [lenW, lenW_eq p j, popc_word, Nat.mul_succ, List.range_add, List.filter_append, List.length_append, List.filter_map, List.length_map]
  rfl
theorem lenW_four (p : Nat → Bool) : lenW p 4 = (memJ p 256).length := by
 rw [lenW_eq]
 unfold memJ
 rw [List.length_map]
theorem lenW_le (p : Nat → Bool) (j : Nat) : lenW p j ≤ 64 * j := by
 rw [lenW_eq]
 refine Nat.le_trans (List.length_filter_le _ _) ?_
 simp
theorem idx0 (p : Nat → Bool) (w : World) : (Instr.index 43 (.agg (wds p).toArray) (.int .i64 0)).run Tryz.prog w = .ok (.int .u64 (word p 0 : Int)) w := by kernel_rfl
theorem idx1 (p : Nat → Bool) (w : World) : (Instr.index 43 (.agg (wds p).toArray) (.int .i64 1)).run Tryz.prog w = .ok (.int .u64 (word p 1 : Int)) w := by kernel_rfl
theorem idx2 (p : Nat → Bool) (w : World) : (Instr.index 43 (.agg (wds p).toArray) (.int .i64 2)).run Tryz.prog w = .ok (.int .u64 (word p 2 : Int)) w := by kernel_rfl
theorem idx3 (p : Nat → Bool) (w : World) : (Instr.index 43 (.agg (wds p).toArray) (.int .i64 3)).run Tryz.prog w = .ok (.int .u64 (word p 3 : Int)) w := by kernel_rfl
theorem idx_set (p : Nat → Bool) (j : Nat) (hj : j < 4) (w : World) : (Instr.index 43 (.agg (wds p).toArray) (.int .i64 (j : Int))).run Tryz.prog w = .ok (.int .u64 (word p j : Int)) w := by
 match j, hj with
 | 0, _ => exact idx0 p w
 | 1, _ => exact idx1 p w
 | 2, _ => exact idx2 p w
 | 3, _ => exact idx3 p w
set_option maxHeartbeats 2000000 in
set_option maxRecDepth 100000 in
theorem bsLen_any (p : Nat → Bool) (w : World) :
  Calls Tryz.prog 51 #[.agg (wds p).toArray] w fun e w' => e = .returned (.int .i64 ((memJ p 256).length : Int)) ∧ Below w.heap.size w w' := by
 obtain ⟨cs, hcs⟩ : ∃ cs, cs = wds p := ⟨_, rfl⟩
 have HCS := qH hcs
 have HSZ := qH (show (Tryz.prog.info? 43).map (·.size) = some cs.length by rw [hcs]; exact size_set p)
 have HG := qH (show ∀ (i : Nat) (_ : i < 4) (w : World), (Instr.index 43 (.agg cs.toArray) (.int .i64 (i : Int))).run Tryz.prog w = .ok (.int .u64 (word p i : Int)) w by rw [hcs]; exact idx_set p)
 have HF := qH (lenW_four p)
 rw [← hcs]
 clear hcs
 go_enter Tryz.func51, Tryz.ntmps51
 go_wp2_with (first
  | ((with_reducible refine atDst 1 ?_); refine wpList_box rfl 43 _ rfl cs rfl (Below.refl w.heap.size w) (Nat.le_refl _) ?_; intro w1 hk1 hb1 hs1 _; have K1 := qH hk1; have B1 := qH hb1; clear hk1 hb1 hs1)
  | ((with_reducible refine atDst 5 ?_); refine wpList_ldArr rfl 43 _ rfl w.heap.size rfl 43 _ _ K1.out Tryz.underlying43 rfl HSZ.out ?_))
 go_loopw [2, 6] (fun s i wl => ∃ j : Nat, j ≤ 4 ∧ i = .int .i64 (j : Int) ∧ s = .int .i64 (lenW p j : Int) ∧ Below w.heap.size w wl) (fun s i _ => 4 - (intOf i).toNat)
 case atStart => exact ⟨0, by omega, by simp, by simp [lenW], B1.out⟩
 case round =>
  obtain ⟨j, hj, rfl, rfl, hb⟩ := hrel
  have BR := qH hb
  clear hb
  by_cases hjl : j < 4
  ·have j1 : (j : Int) < 4 := by omega
   have hcj := HG.out j hjl
   obtain ⟨x, hx⟩ : ∃ x, x = word p j := ⟨_, rfl⟩
   rw [← hx] at hcj
   have hlx : x < 18446744073709551616 := by rw [hx]; exact word_lt _ _
   have HN := qH (show lenW p j + popc 64 x = lenW p (j + 1) by rw [hx]; rfl)
   have hle := lenW_le p (j + 1)
   obtain ⟨n, hn⟩ : ∃ n, n = lenW p j := ⟨_, rfl⟩
   obtain ⟨m, hm⟩ : ∃ m, m = popc 64 x := ⟨_, rfl⟩
   rw [← hn, ← hm] at HN
   rw [← hn]
   have hwr : IntKind.i64.wrap ((n : Int) + (m : Int)) = ((n : Int) + (m : Int)) := IntWalk.i64_in _ (by have := HN.out; omega)
   have HON := qH (ones_any x hlx)
   rw [← hm] at HON
   have HLX := qH hlx
   clear hx hn hm hle hlx
   go_wp2_with fail
   refine (HON.out wr).mono ?_
   rintro e w2 ⟨rfl, rfl⟩
   go_wp2_with fail
   have h := HN.out
   exact ⟨⟨j + 1, by omega, by congr 1, by congr 1; omega, BR.out⟩, by simp [intOf] <;> omega⟩
  ·obtain rfl : j = 4 := by omega
   have j1 : ¬ ((4 : Int) < 4) := by omega
   go_wp2_with fail
   go_ret
   rw [← HF.out]
   exact ⟨rfl, BR.out⟩
def Gr (w w' : World) : Prop := ∃ q os, w' = Sort.grow (w.drewN q) os
theorem Gr.refl (w : World) : Gr w w := ⟨0, #[], by rw [Sort.grow_empty]; rfl⟩
theorem Gr.alloc {w w' : World} (h : Gr w w') (o : Obj) : Gr w (w'.alloc o) := by
 obtain ⟨q, os, rfl⟩ := h
 exact ⟨q, os ++ #[o], by rw [Sort.alloc_eq_grow, Sort.grow_grow]⟩
theorem grow_drewN (w : World) (os : Array Obj) (n : Nat) : (Sort.grow w os).drewN n = Sort.grow (w.drewN n) os := rfl
theorem Gr.drewN {w w' : World} (h : Gr w w') (n : Nat) : Gr w (w'.drewN n) := by
 obtain ⟨q, os, rfl⟩ := h
 exact ⟨q + n, os, by rw [grow_drewN, World.drewN_drewN]⟩
theorem Gr.trans {w w' w'' : World} (h : Gr w w') (k : Gr w' w'') : Gr w w'' := by
 obtain ⟨q, os, rfl⟩ := h
 obtain ⟨r, os', rfl⟩ := k
 exact ⟨q + r, os ++ os', by rw [grow_drewN, World.drewN_drewN, Sort.grow_grow]⟩
theorem Gr.below {w w' : World} (h : Gr w w') : Below w.heap.size w w' := by
 obtain ⟨q, os, rfl⟩ := h
 refine ⟨rfl, rfl, rfl, by simp [Sort.grow], fun k hk => ?_⟩
 show (w.heap ++ os)[k]? = _
 rw [Array.getElem?_append_left hk]
theorem wpList_boxE {P : Program} {w : World} {ops : Array Oper} {rest : List Oper} {o : Oper} {a : Act} {Q : Exit → Act → World → Prop} (hgd : Region.wanted o (yielded ops a.tmps) = true) (ty : TypeId) (x : Operand) (ho : o.op = .box ty x) (cs : List Value) (hx : a.eval x = .agg cs.toArray)
  (h : ∀ w', Blk w' w.heap.size ty cs → Gr w w' → w'.heap.size = w.heap.size + 1 → (∀ k, k < w.heap.size → w'.heap[k]? = w.heap[k]?) → wpList P ops Q rest (a.put o.dst (.pointer (some ⟨w.heap.size, 0, none⟩))) w') :
  wpList P ops Q (o :: rest) a w := by
 refine BigFrame.wpList_want hgd fun K hK => ?_
 unfold Oper.wp
 have hrun : (Instr.box ty (.agg cs.toArray)).run P w = .ok (.pointer (some ⟨w.heap.size, 0, none⟩)) (w.alloc (.cells cs.toArray ty)) := by
  simp [Instr.box, newVar, Value.cells, run_newRow_blk]
 simp only [execOp, ho, hx, hrun, Sem.run_bind, Result.andThen_ok, Sem.run_pure]
 exact hK _ _ (h _ (Blk.new w ty cs) ((Gr.refl w).alloc _) (by simp) (fun k hk => Below.heap_alloc w _ k hk))
theorem Gr.of {w w' : World} (h : Below w.heap.size w w') (hd : w.drawn ≤ w'.drawn) : Gr w w' := by
 refine ⟨w'.drawn - w.drawn, w'.heap.extract w.heap.size w'.heap.size, ?_⟩
 have hh : w'.heap = w.heap ++ w'.heap.extract w.heap.size w'.heap.size := by
  apply Array.ext_getElem?
  intro i
  by_cases hi : i < w.heap.size
  ·rw [Array.getElem?_append_left hi]
   exact h.block i hi
  ·rw [Array.getElem?_append_right (by omega), Array.getElem?_extract]
   have hs := h.size
   by_cases h2 : i < w'.heap.size
   ·rw [if_pos (by omega)]
    congr 1
    omega
   ·rw [if_neg (by omega), Array.getElem?_eq_none (by omega)]
 obtain ⟨heap, tape, drawn, os, output⟩ := w
 obtain ⟨heap', tape', drawn', os', output'⟩ := w'
 have h1 := h.os
 have h2 := h.tape
 have h3 := h.output
 simp only at h1 h2 h3 hh hd
 subst h1 h2 h3
 unfold Sort.grow World.drewN
 simp only [World.mk.injEq, and_true, true_and]
 exact ⟨hh, by omega⟩
theorem Gr.drawn {w w' : World} (h : Gr w w') : w.drawn ≤ w'.drawn := by
 obtain ⟨q, os, rfl⟩ := h
 show w.drawn ≤ w.drawn + q
 omega
theorem Gr.size {w w' : World} (h : Gr w w') : w.heap.size ≤ w'.heap.size := h.below.size
section
variable {P : Program} {w : World} {ops : Array Oper} {rest : List Oper} {o : Oper} {a : Act} {Q : Exit → Act → World → Prop}
theorem wpList_newE {w0 : World} (hgd : Region.wanted o (yielded ops a.tmps) = true) (ty : TypeId) (ho : o.op = .alloc ty) (i : TypeInfo) (z : Value) (cs : List Value) (hi : P.info? ty = some i) (hz : i.zero = some z) (hc : z.cells = cs.toArray)
  (hb : Gr w0 w)
  (h : ∀ w', Blk w' w.heap.size ty cs → Gr w0 w' → w'.heap.size = w.heap.size + 1 → (∀ k, k < w.heap.size → w'.heap[k]? = w.heap[k]?) → wpList P ops Q rest (a.put o.dst (.pointer (some ⟨w.heap.size, 0, none⟩))) w') :
  wpList P ops Q (o :: rest) a w := by
 refine BigFrame.wpList_want hgd fun K hK => ?_
 unfold Oper.wp
 have hrun : (Instr.alloc ty true (.tuple #[])).run P w = .ok (.pointer (some ⟨w.heap.size, 0, none⟩)) (w.alloc (.cells cs.toArray ty)) := by
  have hzv : (zeroValue ty).run P w = .ok z w := by simp [zeroValue, typeInfo, hi, hz]
  simp [Instr.alloc, hzv, newVar, hc, run_newRow_blk]
 simp only [execOp, ho, hrun, Sem.run_bind, Result.andThen_ok, Sem.run_pure]
 exact hK _ _ (h _ (Blk.new w ty cs) (hb.alloc _) (by simp) (fun k hk => Below.heap_alloc w _ k hk))
theorem wpList_stE {w0 : World} (hgd : o.guard = none) (ty : TypeId) (x y : Operand) (ho : o.op = .store ty x y)
  (g : Nat) (cs : List Value) (hx : a.eval x = .pointer (some ⟨g, 0, none⟩)) (hy : a.eval y = .agg cs.toArray)
  (t : TypeId) (old : List Value) (hg : Blk w g t old) (hi : (P.info? ty).map (·.size) = some cs.length)
  (hold : old.length = cs.length) (h1 : cs.all (·.oneCell') = true) (hb : Gr w0 w) (hB : w0.heap.size ≤ g)
  (h : ∀ w', Blk w' g t cs → Gr w0 w' → w'.heap.size = w.heap.size → (∀ k, k ≠ g → w'.heap[k]? = w.heap[k]?) → wpList P ops Q rest (a.put o.dst undef) w') : wpList P ops Q (o :: rest) a w :=
 wpList_store_row hgd ty x y ho g cs.toArray hx hy t old.toArray hg (by simpa using hi) (by simpa using hold) (by simpa using h1)
  (h _ (setRow_heap w g old.toArray cs.toArray t (0, 0) hg) (Gr.of (below_setRow hb.below hB _) hb.drawn) (by simp) (fun k hk => setRow_other w g k _ hk))
end
def lessS (p q : Nat → Bool) : Bool := match (List.range 256).find? fun b => p b != q b with
 | some b => p b
 | none => false
theorem lessS_at {p q : Nat → Bool} {j : Nat} (hj : j < 256) (h : ∀ b, b < j → p b = q b) (hne : p j ≠ q j) : lessS p q = p j := by
 have : (List.range 256).find? (fun b => p b != q b) = some j := by
  rw [List.find?_range_eq_some]
  exact ⟨by simpa using hne, List.mem_range.2 hj, fun b hb => by simp [h b hb]⟩
 unfold lessS
 rw [this]
theorem lessS_none {p q : Nat → Bool} (h : ∀ b, b < 256 → p b = q b) : lessS p q = false := by
 have : (List.range 256).find? (fun b => p b != q b) = none := by
  rw [List.find?_eq_none]
  intro b hb
  simp [h b (List.mem_range.1 hb)]
 unfold lessS
 rw [this]
theorem low_word (q : Nat → Bool) (y k : Nat) (hy : y = wd q 64) (h0 : y ≠ 0) (hk : k = Lib.ctz 64 y) :
  k < 64 ∧ q k = true ∧ (∀ j, j < k → q j = false) ∧ y &&& (y - 1) = wd (fun j => q j && decide (k + 1 ≤ j)) 64 ∧ y &&& (y - 1) < y := by
 have hlt : y < 2 ^ 64 := by rw [hy]; exact wd_lt q 64
 obtain ⟨m, hm, hk2⟩ := Lib.ctzFrom_spec 64 y (by omega) hlt
 have ek : Lib.ctz 64 y = Lib.ctzFrom 64 y := by simp [Lib.ctz, h0]
 rw [← ek, ← hk] at hm hk2
 have T : ∀ j, y.testBit j = (decide (j < 64) && q j) := fun j => by rw [hy]; exact wd_bit q 64 j
 have T2 : ∀ j, y.testBit j = (decide (j ≥ k) && (2 * m + 1).testBit (j - k)) := fun j => by rw [hm]; exact Nat.testBit_two_pow_mul
 have hp : 0 < 2 ^ k := Nat.pow_pos (by omega)
 have e1 : y - 1 = 2 ^ k * (2 * m) + (2 ^ k - 1) := by rw [hm, Nat.mul_add, Nat.mul_one]; omega
 have T3 : ∀ j, (y - 1).testBit j = if j < k then (2 ^ k - 1).testBit j else (2 * m).testBit (j - k) := fun j => by rw [e1]; exact Nat.testBit_two_pow_mul_add _ (by omega) j
 refine ⟨hk2, ?_, ?_, ?_, Nat.lt_of_le_of_lt Nat.and_le_right (by omega)⟩
 ·have h1 := T k
  rw [T2 k] at h1
  simpa [hk2, Nat.testBit_zero] using h1.symm
 ·intro j hj
  have h1 := T j
  rw [T2 j] at h1
  have : ¬ (j ≥ k) := by omega
  simpa [this, show j < 64 by omega] using h1.symm
 ·apply Nat.eq_of_testBit_eq
  intro j
  rw [Nat.testBit_and, wd_bit, T3, T]
  by_cases h1 : j < k
  ·have h2 := T j
   rw [T2 j] at h2
   have h3 : ¬ (j ≥ k) := by omega
   have h4 : ¬ (k + 1 ≤ j) := by omega
   have h5 : (decide (j < 64) && q j) = false := by rw [← h2]; simp [h3]
   simp [h4, h5]
  ·rw [if_neg h1]
   by_cases h2 : j = k
   ·subst h2
    simp [Nat.testBit_zero]
   ·obtain ⟨d, rfl⟩ : ∃ d, j = k + (d + 1) := ⟨j - k - 1, by omega⟩
    have h3 : k + (d + 1) - k = d + 1 := by omega
    have h4 := T (k + (d + 1))
    rw [T2 (k + (d + 1)), h3, Nat.testBit_succ, show (2 * m + 1) / 2 = m by omega] at h4
    rw [h3, Nat.testBit_succ, show 2 * m / 2 = m by omega]
    have h5 : k + 1 ≤ k + (d + 1) := by omega
    have h6 : k + (d + 1) ≥ k := by omega
    simp only [h6, decide_true, Bool.true_and] at h4
    simp only [h5, decide_true, Bool.and_true]
    rw [← h4]
    cases m.testBit d <;> simp
/-! ### one word of two sets -/
theorem word_xor (p q : Nat → Bool) (i : Nat) : word p i ^^^ word q i = wd (fun j => p (64 * i + j) != q (64 * i + j)) 64 := by
 apply Nat.eq_of_testBit_eq
 intro j
 rw [Nat.testBit_xor]
 simp only [word, wd_bit]
 cases decide (j < 64) <;> simp
theorem neg_wrap (d : Nat) (h0 : d ≠ 0) (h : d < 18446744073709551616) : IntKind.u64.wrap (-(d : Int)) = ((18446744073709551616 - d : Nat) : Int) := by
 rw [IntKind.wrap_u64]
 omega
theorem and_pow (x k : Nat) : x &&& 2 ^ k = if x.testBit k then 2 ^ k else 0 := by
 apply Nat.eq_of_testBit_eq
 intro j
 rw [Nat.testBit_and, Nat.testBit_two_pow]
 by_cases hj : k = j
 ·subst hj
  cases h : x.testBit k <;> simp [h]
 ·cases h : x.testBit k <;> simp [hj, Nat.testBit_two_pow]
theorem less_word (p q : Nat → Bool) (i d : Nat) (hi : i < 4) (hd : d = word p i ^^^ word q i) (h0 : d ≠ 0) (hb : ∀ b, b < 64 * i → p b = q b) :
  ((((word p i) &&& (d &&& (18446744073709551616 - d)) : Nat) : Int) != 0) = lessS p q := by
 have hlt : d < 2 ^ 64 := by rw [hd]; exact Nat.xor_lt_two_pow (word_lt p i) (word_lt q i)
 obtain ⟨hlow, hk64⟩ := Lib.lowest_bit 64 d h0 hlt
 obtain ⟨k, hk⟩ : ∃ k, k = Lib.ctz 64 d := ⟨_, rfl⟩
 obtain ⟨h1, h2, h3, _, _⟩ := low_word _ d k (by rw [hd, word_xor]) h0 hk
 rw [show (18446744073709551616 : Nat) = 2 ^ 64 from rfl, hlow, ← hk]
 have hle := lessS_at (p := p) (q := q) (j := 64 * i + k) (by omega) (fun b hb2 => by
  by_cases hb3 : b < 64 * i
  ·exact hb b hb3
  ·have := h3 (b - 64 * i) (by omega)
   rw [show 64 * i + (b - 64 * i) = b by omega] at this
   simpa using this) (by simpa using h2)
 rw [hle]
 have hbit := wd_bit (fun j => p (64 * i + j)) 64 k
 rw [decide_eq_true h1, Bool.true_and] at hbit
 have hw : (word p i).testBit k = p (64 * i + k) := hbit
 rw [and_pow, hw]
 have hp : 0 < 2 ^ k := Nat.pow_pos (by omega)
 cases p (64 * i + k)
 ·rfl
 ·simp only [if_true, bne_iff_ne, ne_eq]
  omega
theorem less_same (p q : Nat → Bool) (i : Nat) (h0 : word p i ^^^ word q i = 0) (hb : ∀ b, b < 64 * i → p b = q b) : ∀ b, b < 64 * (i + 1) → p b = q b := by
 intro b hb2
 by_cases hb3 : b < 64 * i
 ·exact hb b hb3
 ·rw [word_xor] at h0
  have := wd_zero h0 (b - 64 * i) (by omega)
  rw [show 64 * i + (b - 64 * i) = b by omega] at this
  simpa using this
set_option maxHeartbeats 4000000 in
set_option maxRecDepth 100000 in
theorem bsLess_gr (p q : Nat → Bool) (w : World) :
  Calls Tryz.prog 75 #[.agg (wds p).toArray, .agg (wds q).toArray] w fun e w' => e = .returned (.bool (lessS p q)) ∧ Gr w w' := by
 go_enter Tryz.func75, Tryz.ntmps75
 go_wp2_with (first
  | ((with_reducible refine atDst 2 ?_); refine wpList_boxE rfl 43 _ rfl (wds p) rfl ?_; intro w1 hk1 hb1 hs1 _; have K1 := qH hk1; have G1 := qH hb1; clear hk1 hb1 hs1)
  | ((with_reducible refine atDst 3 ?_); refine wpList_boxE rfl 43 _ rfl (wds q) rfl ?_; intro w2 hk2 hb2 hs2 ho2; have L2 := qH hk2; have G2 := qH (G1.out.trans hb2); have K2 := qH (show Blk w2 w.heap.size 43 (wds p) from (ho2 _ K1.out.lt).trans K1.out); clear hk2 hb2 hs2 ho2))
 go_loopw [7] (fun i wl => ∃ j n : Nat, j ≤ 4 ∧ i = .int .i64 (j : Int) ∧ wl = w2.drewN n ∧ ∀ b, b < 64 * j → p b = q b) (fun i _ => 4 - (intOf i).toNat)
 case atStart => exact ⟨0, 0, by omega, by simp, rfl, fun b hb => by omega⟩
 case round =>
  obtain ⟨j, n, hj, rfl, hwl, hb⟩ := hrel
  have HW := qH hwl
  have HB := qH hb
  have KR := qH (show Blk wr w.heap.size 43 (wds p) by rw [hwl]; exact K2.out)
  have LR := qH (show Blk wr w1.heap.size 43 (wds q) by rw [hwl]; exact L2.out)
  clear hwl hb
  by_cases hjl : j < 4
  ·have j1 : (j : Int) < 4 := by omega
   have hcp := KR.out.cell j
   rw [wds_get p j hjl] at hcp
   have hcq := LR.out.cell j
   rw [wds_get q j hjl] at hcq
   have HLP := qH (word_lt p j)
   have HLQ := qH (word_lt q j)
   have HLW := qH (fun d hd h0 => less_word p q j d hjl hd h0 HB.out)
   have HSM := qH (less_same p q j)
   obtain ⟨x, hx⟩ : ∃ x, x = word p j := ⟨_, rfl⟩
   obtain ⟨y, hy⟩ : ∃ y, y = word q j := ⟨_, rfl⟩
   rw [← hx] at hcp HLP HLW HSM
   rw [← hy] at hcq HLQ HLW HSM
   clear hx hy
   obtain ⟨d, hd⟩ : ∃ d, d = x ^^^ y := ⟨_, rfl⟩
   have HD := qH hd
   have hxy : bits .xor .u64 (x : Int) (y : Int) = (d : Int) := by rw [u64_xor_nat x y HLP.out HLQ.out, hd]
   have HLD := qH (show d < 18446744073709551616 by rw [hd]; exact Nat.xor_lt_two_pow (n := 64) HLP.out HLQ.out)
   clear hd
   by_cases h0 : d = 0
   ·have hdb : ((d : Int) != 0) = false := by rw [h0]; rfl
    have HN := qH (HSM.out (by rw [← HD.out]; exact h0) HB.out)
    clear h0
    go_wp2_with fail
    go_quiet (fail)
    go_wp2_with fail
    exact ⟨⟨j + 1, n + nq, by omega, by congr 1, by rw [HW.out, World.drewN_drewN], HN.out⟩, by simp [intOf] <;> omega⟩
   ·have hdb : ((d : Int) != 0) = true := by simpa using h0
    have HA := qH (HLW.out d HD.out h0)
    have hng := neg_wrap d h0 HLD.out
    obtain ⟨e, he⟩ : ∃ e, e = 18446744073709551616 - d := ⟨_, rfl⟩
    have HLE := qH (show e < 18446744073709551616 by have := HLD.out; omega)
    rw [← he] at hng HA
    obtain ⟨f, hf⟩ : ∃ f, f = d &&& e := ⟨_, rfl⟩
    have hde : bits .and .u64 (d : Int) (e : Int) = (f : Int) := by rw [u64_and_nat d e HLD.out HLE.out, hf]
    rw [← hf] at HA
    have HLF := qH (show f < 18446744073709551616 by rw [hf]; exact Nat.lt_of_le_of_lt Nat.and_le_left HLD.out)
    have hxf : bits .and .u64 (x : Int) (f : Int) = ((x &&& f : Nat) : Int) := u64_and_nat x f HLP.out HLF.out
    obtain ⟨g, hg⟩ : ∃ g, g = x &&& f := ⟨_, rfl⟩
    rw [← hg] at HA hxf
    clear he hf hg h0
    go_wp2_with fail
    go_quiet (fail)
    go_wp2_with fail
    go_ret
    rw [HA.out, HW.out]
    exact ⟨rfl, (G2.out.drewN _).drewN _⟩
  ·obtain rfl : j = 4 := by omega
   have j1 : ¬ ((4 : Int) < 4) := by omega
   have HL := qH (lessS_none HB.out)
   go_wp2_with fail
   go_ret
   rw [HL.out, HW.out]
   exact ⟨rfl, G2.out.drewN _⟩
def Tb (w : World) : Prop := TabAt 0 Lib.deBruijn64tab w
theorem Tb.lt {w : World} (h : Tb w) : 0 < w.heap.size := by
 have h1 := h 0 (by decide)
 have := World.block_lt_of_cell? _ _ h1
 exact this
theorem Tb.below {w w' : World} {B : Nat} (h : Tb w) (hb : Below B w w') (hB : w.heap.size ≤ B) : Tb w' :=
 fun j hj => (hb.cell (p := ⟨0, j, none⟩) (Nat.lt_of_lt_of_le h.lt hB)).trans (h j hj)
theorem Tb.belowG {w w' : World} {B : Nat} (h : Tb w) (hb : Below B w w') (hB : 0 < B) : Tb w' :=
 fun j hj => (hb.cell (p := ⟨0, j, none⟩) hB).trans (h j hj)
theorem tz_core (x k idx : Nat) (w : World) (hx0 : ((x : Int) == 0) = false)
  (key : IntKind.u64.wrap (bits BinOp.and IntKind.u64 (x : Int) (IntKind.u64.wrap (-(x : Int))) * 285870213051353865) / 288230376151711744 = (idx : Int))
  (hi : idx < 64) (hk : k < 64) (hcell : w.cell? ⟨0, idx, none⟩ = some (.int .u8 k)) :
  Calls Tryz.prog 52 #[.int .u64 x] w fun e w' => e = .returned (.int .i64 k) ∧ w' = w := by
 go_enter Tryz.func52, Tryz.ntmps52
 go_wp2_with (simp only [key])
 go_ret
 exact ⟨rfl, rfl⟩
theorem tz_any (x : Nat) (hx : x < 18446744073709551616) (hx0 : x ≠ 0) (w : World) (hT : Tb w) :
  Calls Tryz.prog 52 #[.int .u64 (x : Int)] w fun e w' => e = .returned (.int .i64 (Lib.ctz 64 x : Int)) ∧ w' = w := by
 obtain ⟨hlow, hk⟩ := Lib.lowest_bit 64 x hx0 hx
 obtain ⟨hi, htab⟩ := Lib.deBruijn64_at _ hk
 have hcell := hT _ hi
 rw [htab] at hcell
 exact tz_core x _ _ w (by simp; omega) (tz64_key x _ hx hx0 hlow) hi hk hcell
def left (p : Nat → Bool) (i c : Nat) : Nat := wd (fun j => p (64 * i + j) && decide (c ≤ j)) 64
theorem left_zero (p : Nat → Bool) (i : Nat) : left p i 0 = word p i := by simp [left, word]
theorem left_lt (p : Nat → Bool) (i c : Nat) : left p i c < 18446744073709551616 := wd_lt _ 64
theorem memJ_skip (p : Nat → Bool) (a : Nat) : ∀ d, (∀ j, j < d → p (a + j) = false) → memJ p (a + d) = memJ p a
 | 0, _ => rfl
 | d + 1, h => by
  rw [show a + (d + 1) = (a + d) + 1 from rfl, memJ_succ, h d (by omega), memJ_skip p a d fun j hj => h j (by omega)]
  rfl
theorem left_none (p : Nat → Bool) (i c : Nat) (hc : c ≤ 64) (h : left p i c = 0) : memJ p (64 * i + c) = memJ p (64 * (i + 1)) := by
 have := memJ_skip p (64 * i + c) (64 - c) fun j hj => by
  have := wd_zero h (c + j) (by omega)
  simpa [Nat.add_assoc] using this
 rw [← this]
 congr 1
 omega
theorem left_next (p : Nat → Bool) (i c k : Nat) (h0 : left p i c ≠ 0) (hk : k = Lib.ctz 64 (left p i c)) :
  k < 64 ∧ memJ p (64 * i + (k + 1)) = memJ p (64 * i + c) ++ [UInt8.ofNat (64 * i + k)] ∧ left p i c &&& (left p i c - 1) = left p i (k + 1) ∧ left p i c &&& (left p i c - 1) < left p i c := by
 obtain ⟨h1, h2, h3, h4, h5⟩ := low_word _ _ k rfl h0 hk
 simp only [Bool.and_eq_true, decide_eq_true_iff] at h2
 refine ⟨h1, ?_, ?_, h5⟩
 ·rw [show 64 * i + (k + 1) = (64 * i + k) + 1 from rfl, memJ_succ, h2.1, if_pos rfl]
  congr 1
  have := memJ_skip p (64 * i + c) (k - c) fun j hj => by
   have := h3 (c + j) (by omega)
   simpa [Nat.add_assoc] using this
  rw [← this]
  congr 1
  omega
 ·show left p i c &&& (left p i c - 1) = _
  rw [show left p i (k + 1) = wd (fun j => (p (64 * i + j) && decide (c ≤ j)) && decide (k + 1 ≤ j)) 64 from wd_congr fun j hj => by
   by_cases hj2 : k + 1 ≤ j
   ·have : c ≤ j := by omega
    simp [hj2, this]
   ·simp [hj2]]
  exact h4
end Go.Proofs.YteadghoojeehlaaGreatDoor
