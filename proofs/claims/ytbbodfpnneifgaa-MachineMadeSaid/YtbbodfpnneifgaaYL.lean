/-
  Texts of this proof, put together: SoG, SoH. No statement is proved here.
-/
import Derived.Test.YtbbodfpnneifgaaYK
import Derived.Test.YtbbodfpnneifgaaYG
namespace Go.Proofs.Ytbbodfpnneifgaa
open Go.RowKit
set_option linter.unusedSimpArgs false
set_option linter.unusedVariables false
theorem bitS_pow : ∀ f x : Nat, x ≠ 0 → 2 ^ Lib.bitLenAux f x ≤ 2 * x
 | 0, x, h => by simp only [Lib.bitLenAux]; omega
 | f + 1, x, h => by
  simp only [Lib.bitLenAux, if_neg h]
  by_cases h2 : x / 2 = 0
  ·rw [h2]
   have : Lib.bitLenAux f 0 = 0 := by cases f <;> simp [Lib.bitLenAux]
   rw [this]
   omega
  ·have ih := bitS_pow f (x / 2) h2
   rw [Nat.pow_add]
   omega
theorem bitS_le : ∀ f x : Nat, Lib.bitLenAux f x ≤ f
 | 0, x => Nat.le_refl _
 | f + 1, x => by
  simp only [Lib.bitLenAux]
  have := bitS_le f (x / 2)
  split <;> omega
theorem bitS (x : Nat) (h : x ≠ 0) (hx : x ≤ 1048576) : ∃ L : Nat, Lib.bitLen x = L ∧ L < 63 ∧ 2 ^ L ≤ 2 * x := by
 refine ⟨_, rfl, ?_, bitS_pow 64 x h⟩
 refine Nat.lt_of_not_le fun h63 => ?_
 have h1 := bitS_pow 64 x h
 have h2 : 2 ^ 63 ≤ 2 ^ Lib.bitLen x := Nat.pow_le_pow_right (by omega) h63
 unfold Lib.bitLen at h2
 omega
theorem lenS_any (x : Nat) (hx : x ≤ 1048576) (w : World) : Calls Try.prog 46 #[.int .u64 (x : Int)] w fun e w' => e = .returned (.int .i64 (Lib.bitLen x : Int)) ∧ w' = w := by
 refine (Any.bits_Len Try.lenL (x : Int) w (by omega) (by omega)).mono ?_
 rintro e w' ⟨rfl, rfl⟩
 exact ⟨by rw [Int.toNat_natCast], rfl⟩
theorem wrapS (x : Nat) (hx : x ≤ 1048576) : IntKind.u64.wrap (x : Int) = (x : Int) := by rw [IntKind.wrap_u64]; omega
theorem wrapS2 (x : Nat) (hx : x ≤ 4194304) : IntKind.u64.wrap (x : Int) = (x : Int) := by rw [IntKind.wrap_u64]; omega
theorem grownS_new {w w1 w2 : World} {g r : Nat} (h : w.grownBy w1 (some g)) (h2 : w1.grownBy w2 (some r)) (hr : w.heap.size ≤ r) : w.grownBy w2 (some g) :=
 ⟨h2.os.trans h.os, h2.tape.trans h.tape, h2.output.trans h.output, Nat.le_trans h.size h2.size, fun k hk hne => (h2.block k (Nat.lt_of_lt_of_le hk h.size) (fun e => by have := Option.some.inj e; omega)).trans (h.block k hk hne)⟩
theorem shlS (L : Nat) (h : L < 63) : IntKind.u64.wrap ((2 : Int) ^ min L 64) = ((2 ^ L : Nat) : Int) := by
 have h2 : 2 ^ L < 18446744073709551616 := Nat.lt_of_lt_of_le (Nat.pow_lt_pow_right (by omega) h) (by omega)
 have h3 : (2 : Int) ^ L = ((2 ^ L : Nat) : Int) := by rw [Int.natCast_pow]; rfl
 rw [Nat.min_eq_left (by omega), IntKind.wrap_u64, h3]
 generalize 2 ^ L = p at h2 ⊢
 omega
set_option maxHeartbeats 4000000 in
set_option maxRecDepth 1000000 in
theorem pow2Y_any (x : Nat) (h0 : x ≠ 0) (hx : x ≤ 1048576) (w : World) : Calls Try.prog 59 #[.int .i64 (x : Int)] w fun e w' => ∃ p : Nat, 1 ≤ p ∧ p ≤ 2 * x ∧ e = .returned (.int .u64 (p : Int)) ∧ w' = w := by
 obtain ⟨L, hL, h63, hp⟩ := bitS x h0 hx
 obtain ⟨p, hpp⟩ : ∃ p, p = 2 ^ L := ⟨_, rfl⟩
 have HPP := qH hpp
 have e1 := wrapS x hx
 have HX := qH hx
 have HL := qH hL
 have H1 := qH (show 1 ≤ p by rw [hpp]; exact Nat.one_le_two_pow)
 have H2 := qH (show p ≤ 2 * x by rw [hpp]; exact hp)
 have H63 := qH h63
 clear hx h0 hL hp h63 hpp
 go_enter Try.func59, Try.ntmps59
 go_wp2_with fail
 refine (lenS_any x HX.out w).mono ?_
 rintro e w' ⟨rfl, rfl⟩
 rw [HL.out]
 have e2 := shlS L H63.out
 rw [← HPP.out] at e2
 go_wp2_with fail
 go_ret
 exact ⟨p, H1.out, H2.out, rfl, rfl⟩
set_option maxHeartbeats 4000000 in
set_option maxRecDepth 1000000 in
theorem breakY_any (g n cap : Nat) (zs : List Value) (l0 : List UInt8) (w : World) (hl : l0.length = n) (hn : n ≤ 1048576) (hd : Dat w g zs l0) (a b : Nat) (hab : a < b) (hb : b ≤ n) :
  Calls Try.prog 49 #[.slice (some ⟨g, 0, none⟩) n cap, .int .i64 (a : Int), .int .i64 (b : Int)] w fun e w' => e = .returned (.tuple #[]) ∧ SoP g zs l0 w w' := by
 have HL := qH hl
 have HN := qH hn
 have D0 := qH hd
 have HB := qH hb
 obtain ⟨len, hlen⟩ : ∃ len, a + len = b := ⟨b - a, by omega⟩
 have HLN := qH hlen
 have HL1 := qH (show 0 < len by omega)
 have HLM := qH (show len ≤ 1048576 by omega)
 have b1 : len ≤ 4611686018427387904 := by omega
 have s1 : (b : Int) - (a : Int) = (len : Int) := by omega
 have e1 : wrap64 ((b : Int) - (a : Int)) = (len : Int) := by rw [s1]; exact w64S len b1
 have e2 : IntKind.i64.wrap ((b : Int) - (a : Int)) = (len : Int) := by rw [s1]; exact k64S len b1
 clear hl hn hd hb hab hlen b1 s1
 by_cases h8 : 8 ≤ len
 ·have x1 : (8 : Int) ≤ (len : Int) := by clear e1 e2; omega
  have H8 := qH h8
  obtain ⟨q4, hq4⟩ : ∃ q, q = len / 4 := ⟨_, rfl⟩
  obtain ⟨c, hc⟩ : ∃ c, c = q4 * 2 := ⟨_, rfl⟩
  obtain ⟨bs, hbs⟩ : ∃ x, x = a + c := ⟨_, rfl⟩
  obtain ⟨bt, hbt⟩ : ∃ x, x + 1 = bs := ⟨bs - 1, by clear e1 e2; omega⟩
  obtain ⟨bu, hbu⟩ : ∃ x, x = bs + 1 := ⟨_, rfl⟩
  have HBT := qH (show bt + 2 = bu by clear e1 e2; omega)
  have HBU := qH (show bu < n by have := HB.out; have := HLN.out; clear e1 e2; omega)
  have hw : IntKind.u64.wrap (len : Int) = (len : Int) := wrapS len HLM.out
  have t1 : (len : Int) / 4 = (q4 : Int) := by clear e1 e2 hw; omega
  have t2 : (q4 : Int) * 2 = (c : Int) := by clear e1 e2 hw; omega
  have t3 : (a : Int) + (c : Int) = (bs : Int) := by clear e1 e2 hw; omega
  have t4 : (bs : Int) - 1 = (bt : Int) := by clear e1 e2 hw; omega
  have t5 : (bs : Int) + 1 = (bu : Int) := by clear e1 e2 hw; omega
  have m1 : q4 ≤ 4611686018427387904 := by have := HLM.out; clear e1 e2 hw; omega
  have m2 : c ≤ 4611686018427387904 := by have := HLM.out; clear e1 e2 hw; omega
  have m3 : bs ≤ 4611686018427387904 := by have := HBU.out; have := HN.out; clear e1 e2 hw; omega
  have m4 : bt ≤ 4611686018427387904 := by have := HBU.out; have := HN.out; clear e1 e2 hw; omega
  have m5 : bu ≤ 4611686018427387904 := by have := HBU.out; have := HN.out; clear e1 e2 hw; omega
  have f1 : wrap64 ((len : Int) / 4) = (q4 : Int) := by rw [t1]; exact w64S q4 m1
  have f2 : wrap64 ((q4 : Int) * 2) = (c : Int) := by rw [t2]; exact w64S c m2
  have f3 : wrap64 ((a : Int) + (c : Int)) = (bs : Int) := by rw [t3]; exact w64S bs m3
  have f4 : wrap64 ((bs : Int) - 1) = (bt : Int) := by rw [t4]; exact w64S bt m4
  have f5 : wrap64 ((bs : Int) + 1) = (bu : Int) := by rw [t5]; exact w64S bu m5
  have k1 : IntKind.i64.wrap ((len : Int) / 4) = (q4 : Int) := by rw [t1]; exact k64S q4 m1
  have k2 : IntKind.i64.wrap ((q4 : Int) * 2) = (c : Int) := by rw [t2]; exact k64S c m2
  have k3 : IntKind.i64.wrap ((a : Int) + (c : Int)) = (bs : Int) := by rw [t3]; exact k64S bs m3
  have k4 : IntKind.i64.wrap ((bs : Int) - 1) = (bt : Int) := by rw [t4]; exact k64S bt m4
  have k5 : IntKind.i64.wrap ((bs : Int) + 1) = (bu : Int) := by rw [t5]; exact k64S bu m5
  clear t1 t2 t3 t4 t5 m1 m2 m3 m4 m5 hq4 hc hbs hbt hbu h8
  go_enter Try.func49, Try.ntmps49
  go_wp2_with fail
  obtain ⟨wa, hwa⟩ : ∃ x, x = w.alloc (Obj.cells #[Value.int IntKind.u64 (len : Int)] 77) := ⟨_, rfl⟩
  rw [← hwa]
  obtain ⟨r, hr⟩ : ∃ r, r = w.heap.size := ⟨_, rfl⟩
  have RB := qH (show Blk wa r 77 [.int .u64 (len : Int)] by rw [hwa, hr]; exact Blk.new w _ [.int .u64 (len : Int)])
  have BA := qH (show Below w.heap.size w wa by rw [hwa]; exact (Below.refl _ _).alloc (Nat.le_refl _) _)
  have HR := qH (show w.heap.size ≤ r by rw [hr]; exact Nat.le_refl _)
  have HS0 := qH ((SoP.refl D0.out).below BA.out)
  have HGR := qH (show g ≠ r by have := D0.out.lt; rw [hr]; exact Nat.ne_of_lt this)
  rw [← hr]
  clear hwa hr
  refine (pow2Y_any len (by have := HL1.out; exact Nat.ne_of_gt this) HLM.out wa).mono ?_
  rintro e w' ⟨md, hm1, hm2, rfl, hw'⟩
  have HM2 := qH hm2
  obtain ⟨mm, rfl⟩ : ∃ mm, md = mm + 1 := ⟨md - 1, by clear e1 e2 f1 f2 f3 f4 f5 k1 k2 k3 k4 k5 hw; omega⟩
  have u1 : IntKind.u64.wrap (mm : Int) = (mm : Int) := wrapS2 mm (by have := HM2.out; have := HLM.out; clear e1 e2 f1 f2 f3 f4 f5 k1 k2 k3 k4 k5 hw; omega)
  subst hw'
  clear hm1 hm2
  go_wp2_with fail
  go_loopw [9] (fun iv wl => ∃ i y : Nat, iv = .int .i64 (i : Int) ∧ bt ≤ i ∧ i ≤ bu + 1 ∧ y < 18446744073709551616 ∧ Blk wl r 77 [.int .u64 (y : Int)] ∧ SoP g zs l0 w wl) (fun iv _ => bu + 1 - (intOf iv).toNat)
  case atStart => exact ⟨bt, len, by simp, Nat.le_refl _, by have := HBT.out; clear e1 e2 f1 f2 f3 f4 f5 k1 k2 k3 k4 k5 hw u1; omega, by have := HLM.out; clear e1 e2 f1 f2 f3 f4 f5 k1 k2 k3 k4 k5 hw u1; omega, RB.out, HS0.out⟩
  case round =>
   obtain ⟨i, y, rfl, hbi, hiu, hy, hrb, hs⟩ := hrel
   have HS := qH hs
   have HRB := qH hrb
   have HY := qH hy
   have HBI := qH hbi
   clear hs hrb hy hbi
   by_cases hib : i ≤ bu
   ·have y1 : (i : Int) ≤ (bu : Int) := Int.ofNat_le.2 hib
    have HIN := qH (show i < n from Nat.lt_of_le_of_lt hib HBU.out)
    have HIB := qH (show i + 1 ≤ bu + 1 from Nat.succ_le_succ hib)
    have HMI := qH (show bu + 1 - (i + 1) < bu + 1 - i from sub_next (Nat.lt_succ_of_le hib))
    have i1 := wrap_one i (Nat.le_trans (Nat.le_of_lt HIN.out) (Nat.le_trans HN.out (by decide)))
    have i2 := wrap_one' i (Nat.le_trans (Nat.le_of_lt HIN.out) (Nat.le_trans HN.out (by decide)))
    clear hib hiu
    rename_i wr
    go_wp2_with fail
    refine (nextY_any r y HY.out wr HRB.out).mono ?_
    rintro e wn ⟨v, hv, rfl, hbv, hgv⟩
    obtain ⟨z, hz⟩ : ∃ z, z = v &&& mm := ⟨_, rfl⟩
    have hzm : z ≤ mm := by rw [hz]; exact Nat.and_le_right
    have HZM := qH (show z + 1 ≤ 2 * len from Nat.le_trans (Nat.succ_le_succ hzm) HM2.out)
    have z1 : bits .and .u64 (v : Int) (mm : Int) = (z : Int) := by rw [hz]; exact u64_and_nat v mm hv (Nat.lt_of_le_of_lt (Nat.le_of_lt (Nat.lt_of_lt_of_le (Nat.lt_succ_self mm) HM2.out)) (Nat.lt_of_le_of_lt (Nat.mul_le_mul_left 2 HLM.out) (by decide)))
    have hzb : z ≤ 4611686018427387904 := by have := HZM.out; have := HLM.out; clear e1 e2 f1 f2 f3 f4 f5 k1 k2 k3 k4 k5 hw u1 z1 i1 i2; omega
    have z2 := w64S z hzb
    have z3 := k64S z hzb
    have HV := qH hv
    have HBV := qH hbv
    have HGV := qH hgv
    clear hz hzm hzb hv hbv hgv
    obtain ⟨l, hp, hd⟩ := HS.out.dat
    have PL := qH hp
    have SD := qH (show Dat wn g zs l from hd.keep (HGV.out.block g hd.lt (fun e => HGR.out (Option.some.inj e))))
    have GD := qH (show w.grownBy wn (some g) from grownS_new HS.out.grown HGV.out HR.out)
    have SL := qH (show l.length = n by rw [hp.length_eq]; exact HL.out)
    clear hp hd HS
    by_cases hlz : len ≤ z
    ·obtain ⟨ot, hot⟩ : ∃ ot, z = len + ot := ⟨z - len, (Nat.add_sub_cancel' hlz).symm⟩
     have q1 : (len : Int) ≤ (z : Int) := Int.ofNat_le.2 hlz
     have t1 : (z : Int) - (len : Int) = (ot : Int) := by clear e1 e2 f1 f2 f3 f4 f5 k1 k2 k3 k4 k5 hw u1 z1 z2 z3 i1 i2; omega
     have tb : ot ≤ 4611686018427387904 := by have := HZM.out; have := HLM.out; clear e1 e2 f1 f2 f3 f4 f5 k1 k2 k3 k4 k5 hw u1 z1 z2 z3 i1 i2; omega
     have z4 : wrap64 ((z : Int) - (len : Int)) = (ot : Int) := by rw [t1]; exact w64S ot tb
     have z5 : IntKind.i64.wrap ((z : Int) - (len : Int)) = (ot : Int) := by rw [t1]; exact k64S ot tb
     have HOT := qH (show ot < len by have := HZM.out; clear e1 e2 f1 f2 f3 f4 f5 k1 k2 k3 k4 k5 hw u1 z1 z2 z3 z4 z5 i1 i2; omega)
     clear t1 tb hot
     go_wp2_with fail
     obtain ⟨ao, hao⟩ : ∃ x, x = a + ot := ⟨_, rfl⟩
     have HAO := qH hao
     have HAN := qH (show ao < n by have := HOT.out; have := HLN.out; have := HB.out; clear e1 e2 f1 f2 f3 f4 f5 k1 k2 k3 k4 k5 hw u1 z1 z2 z3 i1 i2; omega)
     have HAOb := qH (show ao ≤ 4194304 from Nat.le_trans (Nat.le_of_lt HAN.out) (Nat.le_trans HN.out (by decide)))
     clear hao
     obtain ⟨q, hq⟩ : ∃ q, l[i]? = some q := ⟨_, List.getElem?_eq_getElem (by rw [SL.out]; exact HIN.out)⟩
     obtain ⟨p, hp⟩ : ∃ p, l[ao]? = some p := ⟨_, List.getElem?_eq_getElem (by rw [SL.out]; exact HAN.out)⟩
     have HP := qH hp
     have HQ := qH hq
     clear hp hq
     refine mc_start (fun V => wn.grownBy V (some g)) (fun V => V.heap[g]? = wn.heap[g]?) 17 (by kernel_rfl) (fun wd hwd => ?_)
     have hX : wn.grownBy wd (some g) := by rw [hwd]; exact grownS_drew _ _
     have hY : wd.heap[g]? = wn.heap[g]? := by rw [hwd]; rfl
     have GW := qH (grownS_trans GD.out hX)
     have HWD := qH hwd
     clear hwd
     refine mc_take (i := 0) (oi := ⟨some 47, _, _, _, _, _⟩) (v := ?_) rfl (by kernel_rfl) (by kernel_rfl) (by kernel_rfl) (fun _ _ _ h => h) rfl hX ?_ ?_; rotate_left; (intro W hW; go_simp; try with_reducible rfl); simp only [Act.put, qA, qB, qC]
     refine mc_take (i := 1) (oi := ⟨some 48, _, _, _, _, _⟩) (v := ?_) rfl (by kernel_rfl) (by kernel_rfl) (by kernel_rfl) (fun _ _ _ h => h) rfl hX ?_ ?_; rotate_left; (intro W hW; go_simp; try with_reducible rfl); simp only [Act.put, qA, qB, qC]
     refine mc_take (i := 2) (oi := ⟨some 49, _, _, _, _, _⟩) (v := ?_) rfl (by kernel_rfl) (by kernel_rfl) (by kernel_rfl) (fun _ _ _ h => h) rfl hX ?_ ?_; rotate_left; (intro W hW; go_simp; try with_reducible rfl); simp only [Act.put, qA, qB, qC]
     refine mc_take (i := 3) (oi := ⟨some 50, _, _, _, _, _⟩) (v := ?_) rfl (by kernel_rfl) (by kernel_rfl) (by kernel_rfl) (fun _ _ _ h => h) rfl hX ?_ ?_; rotate_left; (intro W hW; go_simp; try with_reducible rfl); simp only [Act.put, qA, qB, qC]
     refine mc_take (i := 4) (oi := ⟨some 51, _, _, _, _, _⟩) (v := ?_) rfl (by kernel_rfl) (by kernel_rfl) (by kernel_rfl) (fun _ _ _ h => h) rfl hX ?_ ?_; rotate_left; (intro W hW; go_simp; try with_reducible rfl); simp only [Act.put, qA, qB, qC]
     refine mc_take (i := 5) (oi := ⟨some 52, _, _, _, _, _⟩) (v := .int .i64 ((ao : Nat) : Int)) rfl (by kernel_rfl) (by kernel_rfl) (by kernel_rfl) (fun _ _ _ h => h) rfl hX (fun V _ => ex_addY (.tmp 50) (.tmp 51) rfl rfl rfl HAO.out HAOb.out V) ?_; simp only [Act.put, qA, qB, qC]
     refine mc_take (i := 6) (oi := ⟨some 53, _, _, _, _, _⟩) (v := ?_) rfl (by kernel_rfl) (by kernel_rfl) (by kernel_rfl) (fun _ _ _ h => h) rfl hX ?_ ?_; rotate_left; (intro W hW; go_simp; try with_reducible rfl); simp only [Act.put, qA, qB, qC]
     refine mc_take (i := 7) (oi := ⟨some 54, _, _, _, _, _⟩) (v := ?_) rfl (by kernel_rfl) (by kernel_rfl) (by kernel_rfl) (fun _ _ _ h => h) rfl hX ?_ ?_; rotate_left; (intro W hW; go_simp; try with_reducible rfl); simp only [Act.put, qA, qB, qC]
     refine mc_take (i := 8) (oi := ⟨some 55, _, _, _, _, _⟩) (v := ?_) rfl (by kernel_rfl) (by kernel_rfl) (by kernel_rfl) (fun _ _ _ h => h) rfl hX ?_ ?_; rotate_left; (intro W hW; go_simp; try with_reducible rfl); simp only [Act.put, qA, qB, qC]
     refine mc_take (i := 9) (oi := ⟨some 56, _, _, _, _, _⟩) (v := .int .i64 ((ao : Nat) : Int)) rfl (by kernel_rfl) (by kernel_rfl) (by kernel_rfl) (fun _ _ _ h => h) rfl hX (fun V _ => ex_addY (.tmp 54) (.tmp 55) rfl rfl rfl HAO.out HAOb.out V) ?_; simp only [Act.put, qA, qB, qC]
     refine mc_take (i := 10) (oi := ⟨some 57, _, _, _, _, _⟩) (v := .pointer (some ⟨g, ao, none⟩)) rfl (by kernel_rfl) (by kernel_rfl) (by kernel_rfl) (fun _ _ _ h => h) rfl hX (fun V _ => ix_y (.tmp 53) (.tmp 56) rfl rfl rfl HAN.out V) ?_; simp only [Act.put, qA, qB, qC]
     refine mc_takeS (i := 11) (oi := ⟨some 58, _, _, _, _, _⟩) (v := bv p) rfl (by kernel_rfl) (by kernel_rfl) (by kernel_rfl) (fun _ _ _ h => h) rfl hX hY (fun V hT hS => ld_yt (.tmp 57) rfl rfl (cell_same hS (SD.out.cell HP.out))) ?_; simp only [Act.put, qA, qB, qC]
     refine mc_take (i := 12) (oi := ⟨some 59, _, _, _, _, _⟩) (v := ?_) rfl (by kernel_rfl) (by kernel_rfl) (by kernel_rfl) (fun _ _ _ h => h) rfl hX ?_ ?_; rotate_left; (intro W hW; go_simp; try with_reducible rfl); simp only [Act.put, qA, qB, qC]
     refine mc_take (i := 13) (oi := ⟨some 60, _, _, _, _, _⟩) (v := ?_) rfl (by kernel_rfl) (by kernel_rfl) (by kernel_rfl) (fun _ _ _ h => h) rfl hX ?_ ?_; rotate_left; (intro W hW; go_simp; try with_reducible rfl); simp only [Act.put, qA, qB, qC]
     refine mc_take (i := 14) (oi := ⟨some 61, _, _, _, _, _⟩) (v := .pointer (some ⟨g, i, none⟩)) rfl (by kernel_rfl) (by kernel_rfl) (by kernel_rfl) (fun _ _ _ h => h) rfl hX (fun V _ => ix_y (.tmp 59) (.tmp 60) rfl rfl rfl HIN.out V) ?_; simp only [Act.put, qA, qB, qC]
     refine mc_takeS (i := 15) (oi := ⟨some 62, _, _, _, _, _⟩) (v := bv q) rfl (by kernel_rfl) (by kernel_rfl) (by kernel_rfl) (fun _ _ _ h => h) rfl hX hY (fun V hT hS => ld_yt (.tmp 61) rfl rfl (cell_same hS (SD.out.cell HQ.out))) ?_; simp only [Act.put, qA, qB, qC]
     refine mc_take (i := 16) (oi := ⟨some 63, _, _, _, _, _⟩) (v := .pointer (some ⟨g, i, none⟩)) rfl (by kernel_rfl) (by kernel_rfl) (by kernel_rfl) (fun _ _ _ h => h) rfl hX (fun V _ => ix_y (.tmp 47) (.tmp 48) rfl rfl rfl HIN.out V) ?_; simp only [Act.put, qA, qB, qC]
     refine mc_last (i := 17) (o := ⟨none, _, _, _, _, _⟩) rfl (by kernel_rfl) rfl (fun K hK => ?_)
     have HZ := qH (show Dat wd g zs l from SD.out.keep hY)
     refine wp_stY (.tmp 63) (.tmp 58) rfl g i rfl p rfl _ (HZ.out.cell HQ.out) (HZ.out.frozen _) ?_
     refine hK _ _ (grownS_set hX _ _) ?_
     clear hK K
     have HZ2 := qH (HZ.out.set (List.getElem?_eq_some_iff.1 HQ.out).1 p)
     have HC2 := qH (dat_hit HZ2.out (i := ao) (by rw [List.length_set]; exact (List.getElem?_eq_some_iff.1 HP.out).1))
     clear hY
     replace hX := grownS_set hX i (bv p)
     (try simp only [Act.put, qA, qB, qC])
     refine mc_take (i := 18) (oi := ⟨some 64, _, _, _, _, _⟩) (v := .pointer (some ⟨g, ao, none⟩)) rfl (by kernel_rfl) (by kernel_rfl) (by kernel_rfl) (fun _ _ _ h => h) rfl hX (fun V _ => ix_y (.tmp 49) (.tmp 52) rfl rfl rfl HAN.out V) ?_; simp only [Act.put, qA, qB, qC]
     refine mc_last (i := 19) (o := ⟨none, _, _, _, _, _⟩) rfl (by kernel_rfl) rfl (fun K hK => ?_)
     refine wp_stY (.tmp 64) (.tmp 62) rfl g ao rfl q rfl _ HC2.out (HZ2.out.frozen _) ?_
     refine hK _ _ (grownS_set hX _ _) ?_
     clear hK K hX
     (try simp only [Act.put, qA, qB, qC])
     refine wpAnyC_done (by kernel_rfl) ?_ _
     have HSW := qH (SoP.swap PL.out HZ.out GW.out HP.out HQ.out)
     have HBX := qH (show Blk wd r 77 [.int .u64 (v : Int)] by rw [HWD.out]; exact HBV.out.drew)
     have HBW := qH ((HBX.out.far (p := ⟨g, i, none⟩) HGR.out.symm (bv p)).far (p := ⟨g, ao, none⟩) HGR.out.symm (bv q))
     go_wp2_with fail
     exact ⟨⟨i + 1, v, by congr 1, Nat.le_succ_of_le HBI.out, HIB.out, HV.out, HBW.out, HSW.out⟩, by simpa [intOf] using HMI.out⟩
    ·have q1 : ¬ ((len : Int) ≤ (z : Int)) := fun h => hlz (Int.ofNat_le.1 h)
     have HOT := qH (show z < len from Nat.lt_of_not_le hlz)
     go_wp2_with fail
     obtain ⟨ao, hao⟩ : ∃ x, x = a + z := ⟨_, rfl⟩
     have HAO := qH hao
     have HAN := qH (show ao < n by have := HOT.out; have := HLN.out; have := HB.out; clear e1 e2 f1 f2 f3 f4 f5 k1 k2 k3 k4 k5 hw u1 z1 z2 z3 i1 i2; omega)
     have HAOb := qH (show ao ≤ 4194304 from Nat.le_trans (Nat.le_of_lt HAN.out) (Nat.le_trans HN.out (by decide)))
     clear hao
     obtain ⟨q, hq⟩ : ∃ q, l[i]? = some q := ⟨_, List.getElem?_eq_getElem (by rw [SL.out]; exact HIN.out)⟩
     obtain ⟨p, hp⟩ : ∃ p, l[ao]? = some p := ⟨_, List.getElem?_eq_getElem (by rw [SL.out]; exact HAN.out)⟩
     have HP := qH hp
     have HQ := qH hq
     clear hp hq
     refine mc_start (fun V => wn.grownBy V (some g)) (fun V => V.heap[g]? = wn.heap[g]?) 17 (by kernel_rfl) (fun wd hwd => ?_)
     have hX : wn.grownBy wd (some g) := by rw [hwd]; exact grownS_drew _ _
     have hY : wd.heap[g]? = wn.heap[g]? := by rw [hwd]; rfl
     have GW := qH (grownS_trans GD.out hX)
     have HWD := qH hwd
     clear hwd
     refine mc_take (i := 0) (oi := ⟨some 47, _, _, _, _, _⟩) (v := ?_) rfl (by kernel_rfl) (by kernel_rfl) (by kernel_rfl) (fun _ _ _ h => h) rfl hX ?_ ?_; rotate_left; (intro W hW; go_simp; try with_reducible rfl); simp only [Act.put, qA, qB, qC]
     refine mc_take (i := 1) (oi := ⟨some 48, _, _, _, _, _⟩) (v := ?_) rfl (by kernel_rfl) (by kernel_rfl) (by kernel_rfl) (fun _ _ _ h => h) rfl hX ?_ ?_; rotate_left; (intro W hW; go_simp; try with_reducible rfl); simp only [Act.put, qA, qB, qC]
     refine mc_take (i := 2) (oi := ⟨some 49, _, _, _, _, _⟩) (v := ?_) rfl (by kernel_rfl) (by kernel_rfl) (by kernel_rfl) (fun _ _ _ h => h) rfl hX ?_ ?_; rotate_left; (intro W hW; go_simp; try with_reducible rfl); simp only [Act.put, qA, qB, qC]
     refine mc_take (i := 3) (oi := ⟨some 50, _, _, _, _, _⟩) (v := ?_) rfl (by kernel_rfl) (by kernel_rfl) (by kernel_rfl) (fun _ _ _ h => h) rfl hX ?_ ?_; rotate_left; (intro W hW; go_simp; try with_reducible rfl); simp only [Act.put, qA, qB, qC]
     refine mc_take (i := 4) (oi := ⟨some 51, _, _, _, _, _⟩) (v := ?_) rfl (by kernel_rfl) (by kernel_rfl) (by kernel_rfl) (fun _ _ _ h => h) rfl hX ?_ ?_; rotate_left; (intro W hW; go_simp; try with_reducible rfl); simp only [Act.put, qA, qB, qC]
     refine mc_take (i := 5) (oi := ⟨some 52, _, _, _, _, _⟩) (v := .int .i64 ((ao : Nat) : Int)) rfl (by kernel_rfl) (by kernel_rfl) (by kernel_rfl) (fun _ _ _ h => h) rfl hX (fun V _ => ex_addY (.tmp 50) (.tmp 51) rfl rfl rfl HAO.out HAOb.out V) ?_; simp only [Act.put, qA, qB, qC]
     refine mc_take (i := 6) (oi := ⟨some 53, _, _, _, _, _⟩) (v := ?_) rfl (by kernel_rfl) (by kernel_rfl) (by kernel_rfl) (fun _ _ _ h => h) rfl hX ?_ ?_; rotate_left; (intro W hW; go_simp; try with_reducible rfl); simp only [Act.put, qA, qB, qC]
     refine mc_take (i := 7) (oi := ⟨some 54, _, _, _, _, _⟩) (v := ?_) rfl (by kernel_rfl) (by kernel_rfl) (by kernel_rfl) (fun _ _ _ h => h) rfl hX ?_ ?_; rotate_left; (intro W hW; go_simp; try with_reducible rfl); simp only [Act.put, qA, qB, qC]
     refine mc_take (i := 8) (oi := ⟨some 55, _, _, _, _, _⟩) (v := ?_) rfl (by kernel_rfl) (by kernel_rfl) (by kernel_rfl) (fun _ _ _ h => h) rfl hX ?_ ?_; rotate_left; (intro W hW; go_simp; try with_reducible rfl); simp only [Act.put, qA, qB, qC]
     refine mc_take (i := 9) (oi := ⟨some 56, _, _, _, _, _⟩) (v := .int .i64 ((ao : Nat) : Int)) rfl (by kernel_rfl) (by kernel_rfl) (by kernel_rfl) (fun _ _ _ h => h) rfl hX (fun V _ => ex_addY (.tmp 54) (.tmp 55) rfl rfl rfl HAO.out HAOb.out V) ?_; simp only [Act.put, qA, qB, qC]
     refine mc_take (i := 10) (oi := ⟨some 57, _, _, _, _, _⟩) (v := .pointer (some ⟨g, ao, none⟩)) rfl (by kernel_rfl) (by kernel_rfl) (by kernel_rfl) (fun _ _ _ h => h) rfl hX (fun V _ => ix_y (.tmp 53) (.tmp 56) rfl rfl rfl HAN.out V) ?_; simp only [Act.put, qA, qB, qC]
     refine mc_takeS (i := 11) (oi := ⟨some 58, _, _, _, _, _⟩) (v := bv p) rfl (by kernel_rfl) (by kernel_rfl) (by kernel_rfl) (fun _ _ _ h => h) rfl hX hY (fun V hT hS => ld_yt (.tmp 57) rfl rfl (cell_same hS (SD.out.cell HP.out))) ?_; simp only [Act.put, qA, qB, qC]
     refine mc_take (i := 12) (oi := ⟨some 59, _, _, _, _, _⟩) (v := ?_) rfl (by kernel_rfl) (by kernel_rfl) (by kernel_rfl) (fun _ _ _ h => h) rfl hX ?_ ?_; rotate_left; (intro W hW; go_simp; try with_reducible rfl); simp only [Act.put, qA, qB, qC]
     refine mc_take (i := 13) (oi := ⟨some 60, _, _, _, _, _⟩) (v := ?_) rfl (by kernel_rfl) (by kernel_rfl) (by kernel_rfl) (fun _ _ _ h => h) rfl hX ?_ ?_; rotate_left; (intro W hW; go_simp; try with_reducible rfl); simp only [Act.put, qA, qB, qC]
     refine mc_take (i := 14) (oi := ⟨some 61, _, _, _, _, _⟩) (v := .pointer (some ⟨g, i, none⟩)) rfl (by kernel_rfl) (by kernel_rfl) (by kernel_rfl) (fun _ _ _ h => h) rfl hX (fun V _ => ix_y (.tmp 59) (.tmp 60) rfl rfl rfl HIN.out V) ?_; simp only [Act.put, qA, qB, qC]
     refine mc_takeS (i := 15) (oi := ⟨some 62, _, _, _, _, _⟩) (v := bv q) rfl (by kernel_rfl) (by kernel_rfl) (by kernel_rfl) (fun _ _ _ h => h) rfl hX hY (fun V hT hS => ld_yt (.tmp 61) rfl rfl (cell_same hS (SD.out.cell HQ.out))) ?_; simp only [Act.put, qA, qB, qC]
     refine mc_take (i := 16) (oi := ⟨some 63, _, _, _, _, _⟩) (v := .pointer (some ⟨g, i, none⟩)) rfl (by kernel_rfl) (by kernel_rfl) (by kernel_rfl) (fun _ _ _ h => h) rfl hX (fun V _ => ix_y (.tmp 47) (.tmp 48) rfl rfl rfl HIN.out V) ?_; simp only [Act.put, qA, qB, qC]
     refine mc_last (i := 17) (o := ⟨none, _, _, _, _, _⟩) rfl (by kernel_rfl) rfl (fun K hK => ?_)
     have HZ := qH (show Dat wd g zs l from SD.out.keep hY)
     refine wp_stY (.tmp 63) (.tmp 58) rfl g i rfl p rfl _ (HZ.out.cell HQ.out) (HZ.out.frozen _) ?_
     refine hK _ _ (grownS_set hX _ _) ?_
     clear hK K
     have HZ2 := qH (HZ.out.set (List.getElem?_eq_some_iff.1 HQ.out).1 p)
     have HC2 := qH (dat_hit HZ2.out (i := ao) (by rw [List.length_set]; exact (List.getElem?_eq_some_iff.1 HP.out).1))
     clear hY
     replace hX := grownS_set hX i (bv p)
     (try simp only [Act.put, qA, qB, qC])
     refine mc_take (i := 18) (oi := ⟨some 64, _, _, _, _, _⟩) (v := .pointer (some ⟨g, ao, none⟩)) rfl (by kernel_rfl) (by kernel_rfl) (by kernel_rfl) (fun _ _ _ h => h) rfl hX (fun V _ => ix_y (.tmp 49) (.tmp 52) rfl rfl rfl HAN.out V) ?_; simp only [Act.put, qA, qB, qC]
     refine mc_last (i := 19) (o := ⟨none, _, _, _, _, _⟩) rfl (by kernel_rfl) rfl (fun K hK => ?_)
     refine wp_stY (.tmp 64) (.tmp 62) rfl g ao rfl q rfl _ HC2.out (HZ2.out.frozen _) ?_
     refine hK _ _ (grownS_set hX _ _) ?_
     clear hK K hX
     (try simp only [Act.put, qA, qB, qC])
     refine wpAnyC_done (by kernel_rfl) ?_ _
     have HSW := qH (SoP.swap PL.out HZ.out GW.out HP.out HQ.out)
     have HBX := qH (show Blk wd r 77 [.int .u64 (v : Int)] by rw [HWD.out]; exact HBV.out.drew)
     have HBW := qH ((HBX.out.far (p := ⟨g, i, none⟩) HGR.out.symm (bv p)).far (p := ⟨g, ao, none⟩) HGR.out.symm (bv q))
     go_wp2_with fail
     exact ⟨⟨i + 1, v, by congr 1, Nat.le_succ_of_le HBI.out, HIB.out, HV.out, HBW.out, HSW.out⟩, by simpa [intOf] using HMI.out⟩
   ·have y1 : ¬ ((i : Int) ≤ (bu : Int)) := fun h => hib (Int.ofNat_le.1 h)
    clear hib hiu
    go_wp2_with fail
    refine bodyPost_end (results_none rfl _ _ _) rfl ?_
    exact ⟨rfl, HS.out⟩
 ·have x1 : ¬ ((8 : Int) ≤ (len : Int)) := by clear e1 e2; omega
  clear h8
  go_enter Try.func49, Try.ntmps49
  go_wp2_with fail
  refine bodyPost_end (results_none rfl _ _ _) rfl ?_
  exact ⟨rfl, SoP.refl D0.out⟩
theorem Blk.is {w V : World} {s : Nat} {t : TypeId} {cs : List Value} (h : Blk w s t cs) (hV : IsW w.drew V) : Blk V s t cs := by
 have e : V = w.drew := hV
 rw [e]
 exact h.drew
theorem grownS_refl (w : World) (s : Nat) : w.grownBy w (some s) := ⟨rfl, rfl, rfl, Nat.le_refl _, fun _ _ _ => rfl⟩
def Ord2P (w : World) (s k a b : Nat) (e : Ending) (w' : World) : Prop :=
 ∃ x y k' : Nat, ((x = a ∧ y = b) ∨ (x = b ∧ y = a)) ∧ k' ≤ k + 1 ∧ e = .returned (.tuple #[.int .i64 (x : Int), .int .i64 (y : Int)]) ∧ Blk w' s 3 [.int .i64 (k' : Int)] ∧ w.grownBy w' (some s)
def MedP (w : World) (s k a b c : Nat) (e : Ending) (w' : World) : Prop :=
 ∃ x k' : Nat, (x = a ∨ x = b ∨ x = c) ∧ k' ≤ k + 3 ∧ e = .returned (.int .i64 (x : Int)) ∧ Blk w' s 3 [.int .i64 (k' : Int)] ∧ w.grownBy w' (some s)
set_option maxHeartbeats 4000000 in
set_option maxRecDepth 1000000 in
theorem ord2Y_any (g n cap : Nat) (zs : List Value) (l : List UInt8) (w : World) (hl : l.length = n) (hn : n ≤ 1048576) (hd : Dat w g zs l) (a b : Nat) (ha : a < n) (hb : b < n) (s k : Nat) (hs : Blk w s 3 [.int .i64 (k : Int)]) (hk : k ≤ 1000) :
  Calls Try.prog 64 #[.slice (some ⟨g, 0, none⟩) n cap, .int .i64 (a : Int), .int .i64 (b : Int), .pointer (some ⟨s, 0, none⟩)] w fun e w' => Ord2P w s k a b e w' := by
 have SL := qH hl
 have HAN := qH ha
 have HBN := qH hb
 have SD := qH hd
 have HSB := qH hs
 have HK := qH hk
 obtain ⟨u, hu⟩ : ∃ u, l[b]? = some u := ⟨_, List.getElem?_eq_getElem (by rw [hl]; exact hb)⟩
 obtain ⟨v, hv⟩ : ∃ v, l[a]? = some v := ⟨_, List.getElem?_eq_getElem (by rw [hl]; exact ha)⟩
 have HU := qH hu
 have HV := qH hv
 obtain ⟨c, hc⟩ : ∃ c, c = decide (u.toNat < v.toNat) := ⟨_, rfl⟩
 have HC := qH hc
 have f1 := wrap_one k (by omega)
 have f2 := wrap_one' k (by omega)
 clear hl hn hd ha hb hs hk hu hv hc
 go_enter Try.func64, Try.ntmps64
 go_wp2_with fail
 refine sg_start (S := IsW w.drew) (by kernel_rfl) rfl (fun wd hwd => ?_)
 have hX : IsW _ wd := hwd
 clear hwd
 refine sg_take (i := 0) (oi := ⟨some 10, _, _, _, _, _⟩) (v := ?_) rfl (by kernel_rfl) (by kernel_rfl) (by kernel_rfl) (fun _ _ _ h => h) rfl hX ?_ ?_; rotate_left; (intro W hW; go_simp; try with_reducible rfl); simp only [Act.put, qA, qB, qC]
 refine sg_take (i := 1) (oi := ⟨some 11, _, _, _, _, _⟩) (v := ?_) rfl (by kernel_rfl) (by kernel_rfl) (by kernel_rfl) (fun _ _ _ h => h) rfl hX ?_ ?_; rotate_left; (intro W hW; go_simp; try with_reducible rfl); simp only [Act.put, qA, qB, qC]
 refine sg_take (i := 2) (oi := ⟨some 12, _, _, _, _, _⟩) (v := .pointer (some ⟨g, b, none⟩)) rfl (by kernel_rfl) (by kernel_rfl) (by kernel_rfl) (fun _ _ _ h => h) rfl hX (fun V _ => ix_y (.tmp 10) (.tmp 11) rfl rfl rfl HBN.out V) ?_; simp only [Act.put, qA, qB, qC]
 refine sg_take (i := 3) (oi := ⟨some 13, _, _, _, _, _⟩) (v := bv u) rfl (by kernel_rfl) (by kernel_rfl) (by kernel_rfl) (fun _ _ _ h => h) rfl hX (fun V hV => ld_yt (.tmp 12) rfl rfl ((SD.out.is hV).cell HU.out)) ?_; simp only [Act.put, qA, qB, qC]
 refine sg_take (i := 4) (oi := ⟨some 14, _, _, _, _, _⟩) (v := ?_) rfl (by kernel_rfl) (by kernel_rfl) (by kernel_rfl) (fun _ _ _ h => h) rfl hX ?_ ?_; rotate_left; (intro W hW; go_simp; try with_reducible rfl); simp only [Act.put, qA, qB, qC]
 refine sg_take (i := 5) (oi := ⟨some 15, _, _, _, _, _⟩) (v := ?_) rfl (by kernel_rfl) (by kernel_rfl) (by kernel_rfl) (fun _ _ _ h => h) rfl hX ?_ ?_; rotate_left; (intro W hW; go_simp; try with_reducible rfl); simp only [Act.put, qA, qB, qC]
 refine sg_take (i := 6) (oi := ⟨some 16, _, _, _, _, _⟩) (v := .pointer (some ⟨g, a, none⟩)) rfl (by kernel_rfl) (by kernel_rfl) (by kernel_rfl) (fun _ _ _ h => h) rfl hX (fun V _ => ix_y (.tmp 14) (.tmp 15) rfl rfl rfl HAN.out V) ?_; simp only [Act.put, qA, qB, qC]
 refine sg_take (i := 7) (oi := ⟨some 17, _, _, _, _, _⟩) (v := bv v) rfl (by kernel_rfl) (by kernel_rfl) (by kernel_rfl) (fun _ _ _ h => h) rfl hX (fun V hV => ld_yt (.tmp 16) rfl rfl ((SD.out.is hV).cell HV.out)) ?_; simp only [Act.put, qA, qB, qC]
 refine sg_actB (i := 8) (o := ⟨some 18, _, _, _, _, _⟩) rfl (by kernel_rfl) rfl hX (fun K hK => ?_)
 go_wp2_with fail
 refine (lessY_any _ _ _).mono ?_
 rintro e we ⟨rfl, hwe⟩
 subst hwe
 rw [← HC.out]
 go_wp2_with fail
 refine hK _ _ hX ?_
 clear hK K
 (try simp only [Act.put, qA, qB, qC])
 refine wpAnyH_done (by kernel_rfl) ?_ _
 have HSE := qH (HSB.out.is hX)
 have HGE := qH (grownS_is (grownS_refl w s) hX)
 clear hX
 cases c with
 | true =>
  have c0 := HSE.out.cell 0
  have c1 := HSE.out.frozen 0
  simp only [List.getElem?_cons_zero] at c0
  go_wp2_with fail
  go_ret2
  exact ⟨b, a, k + 1, .inr ⟨rfl, rfl⟩, Nat.le_refl _, rfl, Blk.set HSE.out 0 (.int .i64 ((k : Int) + 1)), grownS_set HGE.out 0 _⟩
 | false =>
  go_wp2_with fail
  go_ret2
  exact ⟨a, b, k, .inl ⟨rfl, rfl⟩, Nat.le_succ _, rfl, HSE.out, HGE.out⟩
set_option maxHeartbeats 4000000 in
set_option maxRecDepth 1000000 in
theorem medY_any (g n cap : Nat) (zs : List Value) (l : List UInt8) (w : World) (hl : l.length = n) (hn : n ≤ 1048576) (hd : Dat w g zs l) (a b c : Nat) (ha : a < n) (hb : b < n) (hc : c < n) (s k : Nat) (hs : Blk w s 3 [.int .i64 (k : Int)]) (hk : k ≤ 900) (hgs : g ≠ s) :
  Calls Try.prog 62 #[.slice (some ⟨g, 0, none⟩) n cap, .int .i64 (a : Int), .int .i64 (b : Int), .int .i64 (c : Int), .pointer (some ⟨s, 0, none⟩)] w fun e w' => MedP w s k a b c e w' := by
 have SL := qH hl
 have HN := qH hn
 have HA := qH ha
 have HB := qH hb
 have HCN := qH hc
 have SD := qH hd
 have HSB := qH hs
 have HK := qH hk
 have HGS := qH hgs
 clear hl hn hd ha hb hc hs hk hgs
 go_enter Try.func62, Try.ntmps62
 go_wp2_with fail
 refine (ord2Y_any g n cap zs l w SL.out HN.out SD.out a b HA.out HB.out s k HSB.out (by have := HK.out; omega)).mono ?_
 rintro e w1 ⟨x, y, k1, h1, h2, rfl, h3, h4⟩
 have H1 := qH h1
 have H2 := qH h2
 have H3 := qH h3
 have G1 := qH h4
 have HX := qH (show x < n by rcases h1 with ⟨h, _⟩ | ⟨h, _⟩ <;> rw [h]; exact HA.out; exact HB.out)
 have HY := qH (show y < n by rcases h1 with ⟨_, h⟩ | ⟨_, h⟩ <;> rw [h]; exact HB.out; exact HA.out)
 have SD1 := qH (SD.out.keep (h4.block g SD.out.lt fun e => HGS.out (Option.some.inj e)))
 clear h1 h2 h3 h4
 go_wp2_with fail
 refine (ord2Y_any g n cap zs l w1 SL.out HN.out SD1.out y c HY.out HCN.out s k1 H3.out (by have := HK.out; have := H2.out; omega)).mono ?_
 rintro e w2 ⟨u, v, k2, h1, h2, rfl, h3, h4⟩
 have I1 := qH h1
 have I2 := qH h2
 have I3 := qH h3
 have G2 := qH h4
 have HU := qH (show u < n by rcases h1 with ⟨h, _⟩ | ⟨h, _⟩ <;> rw [h]; exact HY.out; exact HCN.out)
 have SD2 := qH (SD1.out.keep (h4.block g SD1.out.lt fun e => HGS.out (Option.some.inj e)))
 clear h1 h2 h3 h4
 go_wp2_with fail
 refine (ord2Y_any g n cap zs l w2 SL.out HN.out SD2.out x u HX.out HU.out s k2 I3.out (by have := HK.out; have := H2.out; have := I2.out; omega)).mono ?_
 rintro e w3 ⟨p, q, k3, h1, h2, rfl, h3, h4⟩
 have J1 := qH h1
 have J2 := qH h2
 have J3 := qH h3
 have G3 := qH h4
 clear h1 h2 h3 h4
 go_wp2_with fail
 go_ret
 refine ⟨q, k3, ?_, by have := H2.out; have := I2.out; have := J2.out; omega, rfl, J3.out, grownS_trans (grownS_trans G1.out G2.out) G3.out⟩
 have a1 := H1.out
 have a2 := I1.out
 have a3 := J1.out
 omega
set_option maxHeartbeats 4000000 in
set_option maxRecDepth 1000000 in
theorem medAY_any (g n cap : Nat) (zs : List Value) (l : List UInt8) (w : World) (hl : l.length = n) (hn : n ≤ 1048576) (hd : Dat w g zs l) (a a1 : Nat) (h1 : a1 + 1 = a) (ha : a + 1 < n) (s k : Nat) (hs : Blk w s 3 [.int .i64 (k : Int)]) (hk : k ≤ 900) (hgs : g ≠ s) :
  Calls Try.prog 61 #[.slice (some ⟨g, 0, none⟩) n cap, .int .i64 (a : Int), .pointer (some ⟨s, 0, none⟩)] w fun e w' => MedP w s k a1 a (a + 1) e w' := by
 have SL := qH hl
 have HN := qH hn
 have SD := qH hd
 have HSB := qH hs
 have HK := qH hk
 have HGS := qH hgs
 obtain ⟨a2, ha2⟩ : ∃ a2, a2 = a + 1 := ⟨_, rfl⟩
 rw [← ha2] at ha ⊢
 have HA := qH (show a < n by omega)
 have HA1 := qH (show a1 < n by omega)
 have HA2 := qH ha
 have b1 : a1 ≤ 4611686018427387904 := by omega
 have b2 : a2 ≤ 4611686018427387904 := by omega
 have t1 : (a : Int) - 1 = (a1 : Int) := by omega
 have t2 : (a : Int) + 1 = (a2 : Int) := by omega
 have f1 : wrap64 ((a : Int) - 1) = (a1 : Int) := by rw [t1]; exact w64S a1 b1
 have f2 : IntKind.i64.wrap ((a : Int) - 1) = (a1 : Int) := by rw [t1]; exact k64S a1 b1
 have f3 : wrap64 ((a : Int) + 1) = (a2 : Int) := by rw [t2]; exact w64S a2 b2
 have f4 : IntKind.i64.wrap ((a : Int) + 1) = (a2 : Int) := by rw [t2]; exact k64S a2 b2
 clear hl hn hd ha hs hk hgs b1 b2 t1 t2 ha2 h1
 go_enter Try.func61, Try.ntmps61
 go_wp2_with fail
 refine (medY_any g n cap zs l w SL.out HN.out SD.out a1 a a2 HA1.out HA.out HA2.out s k HSB.out HK.out HGS.out).mono ?_
 rintro e w1 ⟨x, k1, h1, h2, rfl, h3, h4⟩
 have H1 := qH h1
 have H2 := qH h2
 have H3 := qH h3
 have H4 := qH h4
 clear h1 h2 h3 h4
 go_wp2_with fail
 go_ret
 exact ⟨x, k1, H1.out, H2.out, rfl, H3.out, H4.out⟩
end Go.Proofs.Ytbbodfpnneifgaa
