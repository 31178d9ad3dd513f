/-
  Texts of this proof, put together: SoE, SoF, LayL. No statement is proved here.
-/
import Derived.Test.YtbbodfpnneifgaaYJ
import Derived.Test.YtbbodfpnneifgaaYG
import Derived.Laws.Bits64
import Derived.Shelf.Small.Bits
import Derived.Test.YtbbodfpnneifgaaProg
namespace Go.Proofs.Ytbbodfpnneifgaa
open Go.RowKit
set_option linter.unusedSimpArgs false
set_option linter.unusedVariables false
theorem in64 (k : Int) (h : -1 ≤ k) (h2 : k ≤ 4611686018427387904) : -9223372036854775808 ≤ k ∧ k ≤ 9223372036854775807 := ⟨Int.le_trans (by decide) h, Int.le_trans h2 (by decide)⟩
theorem w64I (k : Int) (h : -1 ≤ k) (h2 : k ≤ 4611686018427387904) : wrap64 k = k := IntWalk.wrap64_in _ (by omega)
theorem k64I (k : Int) (h : -1 ≤ k) (h2 : k ≤ 4611686018427387904) : IntKind.i64.wrap k = k := IntWalk.i64_in _ (in64 k h h2)
set_option maxHeartbeats 4000000 in
set_option maxRecDepth 1000000 in
theorem heapY_any (g n cap : Nat) (zs : List Value) (l0 : List UInt8) (w : World) (hl : l0.length = n) (hn : n ≤ 1048576) (hd : Dat w g zs l0) (a b : Nat) (hab : a < b) (hb : b ≤ n) :
  Calls Try.prog 48 #[.slice (some ⟨g, 0, none⟩) n cap, .int .i64 (a : Int), .int .i64 (b : Int)] w fun e w' => e = .returned (.tuple #[]) ∧ SoP g zs l0 w w' := by
 have HL := qH hl
 have HN := qH hn
 have D0 := qH hd
 have HB := qH hb
 obtain ⟨h1, hh1⟩ : ∃ h1, h1 + 1 + a = b := ⟨b - a - 1, by omega⟩
 obtain ⟨hi, hhi⟩ : ∃ hi, hi = h1 + 1 := ⟨_, rfl⟩
 have HH1 := qH hhi
 have HHA := qH (show a + hi = b by omega)
 have HHN := qH (show a + hi ≤ n by omega)
 obtain ⟨q, hq⟩ : ∃ q, q = h1 / 2 := ⟨_, rfl⟩
 have HQ1 := qH (show q < hi by omega)
 have b1 : hi ≤ 4611686018427387904 := by omega
 have b2 : h1 ≤ 4611686018427387904 := by omega
 have b3 : q ≤ 4611686018427387904 := by omega
 have s1 : (b : Int) - (a : Int) = (hi : Int) := by omega
 have s2 : (hi : Int) - 1 = (h1 : Int) := by omega
 have s3 : (h1 : Int) / 2 = (q : Int) := by omega
 have e1 : wrap64 ((b : Int) - (a : Int)) = (hi : Int) := by rw [s1]; exact w64S hi b1
 have e2 : IntKind.i64.wrap ((b : Int) - (a : Int)) = (hi : Int) := by rw [s1]; exact k64S hi b1
 have e3 : wrap64 ((hi : Int) - 1) = (h1 : Int) := by rw [s2]; exact w64S h1 b2
 have e4 : IntKind.i64.wrap ((hi : Int) - 1) = (h1 : Int) := by rw [s2]; exact k64S h1 b2
 have e5 : wrap64 ((h1 : Int) / 2) = (q : Int) := by rw [s3]; exact w64S q b3
 have e6 : IntKind.i64.wrap ((h1 : Int) / 2) = (q : Int) := by rw [s3]; exact k64S q b3
 clear b1 b2 b3 s1 s2 s3
 clear hl hn hd hb hab hh1 hhi hq
 go_enter Try.func48, Try.ntmps48
 go_wp2_with fail
 go_loopw [9] (fun iv wl => ∃ i : Int, iv = .int .i64 i ∧ -1 ≤ i ∧ i < (hi : Int) ∧ SoP g zs l0 w wl) (fun iv _ => (intOf iv + 1).toNat)
 case atStart => exact ⟨(q : Int), rfl, by omega, Int.ofNat_lt.2 HQ1.out, SoP.refl D0.out⟩
 case round =>
  obtain ⟨i, rfl, hi0, hih, hs⟩ := hrel
  have HS := qH hs
  clear hs
  by_cases hi1 : 0 ≤ i
  ·obtain ⟨k, rfl⟩ : ∃ k : Nat, i = (k : Int) := ⟨i.toNat, by omega⟩
   have HK := qH (show k < hi by omega)
   have HM := qH (show ((k : Int) - 1 + 1).toNat < ((k : Int) + 1).toNat by omega)
   have HKs := qH (show (k : Int) - 1 ≤ 4611686018427387904 by have := HK.out; have := HHN.out; have := HN.out; clear e1 e2 e3 e4 e5 e6; omega)
   have f1 := w64I ((k : Int) - 1) (by clear e1 e2 e3 e4 e5 e6; omega) HKs.out
   have f2 := k64I ((k : Int) - 1) (by clear e1 e2 e3 e4 e5 e6 f1; omega) HKs.out
   clear hi0 hih
   obtain ⟨l, hp, hd⟩ := HS.out.dat
   have PL := qH hp
   have SD := qH hd
   have GD := qH HS.out.grown
   have SL := qH (show l.length = n by rw [hp.length_eq]; exact HL.out)
   clear hp hd
   rename_i wr
   go_wp2_with fail
   refine (siftY_any g n cap zs l wr SL.out HN.out SD.out k hi a (by have := HHN.out; omega) (by have := HK.out; have := HHN.out; omega)).mono ?_
   rintro e we ⟨rfl, hs⟩
   have HS2 := qH (SoP.trans PL.out GD.out hs)
   clear hs
   go_wp2_with fail
   exact ⟨⟨(k : Int) - 1, rfl, by omega, by have := HK.out; omega, HS2.out⟩, by simp [intOf]⟩
  ·have x1 : ¬ (0 ≤ i) := hi1
   clear hi0 hih hi1
   go_wp2_with fail
   go_loopw [10] (fun iv wl => ∃ i : Int, iv = .int .i64 i ∧ -1 ≤ i ∧ i < (hi : Int) ∧ SoP g zs l0 w wl) (fun iv _ => (intOf iv + 1).toNat)
   case atStart => exact ⟨(h1 : Int), rfl, by omega, by have := HH1.out; omega, HS.out⟩
   case round =>
    clear HS
    obtain ⟨i, rfl, hi0, hih, hs⟩ := hrel
    have HS := qH hs
    clear hs
    by_cases hi1 : 0 ≤ i
    ·obtain ⟨k, rfl⟩ : ∃ k : Nat, i = (k : Int) := ⟨i.toNat, by omega⟩
     have HK := qH (show k < hi by omega)
     have HM := qH (show ((k : Int) - 1 + 1).toNat < ((k : Int) + 1).toNat by omega)
     have HKs := qH (show (k : Int) - 1 ≤ 4611686018427387904 by have := HK.out; have := HHN.out; have := HN.out; clear e1 e2 e3 e4 e5 e6; omega)
     have f1 := w64I ((k : Int) - 1) (by clear e1 e2 e3 e4 e5 e6; omega) HKs.out
     have f2 := k64I ((k : Int) - 1) (by clear e1 e2 e3 e4 e5 e6 f1; omega) HKs.out
     clear hi0 hih
     obtain ⟨ai, hai⟩ : ∃ ai, ai = a + k := ⟨_, rfl⟩
     have HA2 := qH hai
     have HAI := qH (show ai < n by have := HK.out; have := HHN.out; omega)
     have HAN := qH (show a < n by have := HAI.out; omega)
     have HAB := qH (show ai ≤ 4194304 by have := HAI.out; have := HN.out; omega)
     clear hai
     obtain ⟨l, hp, hd⟩ := HS.out.dat
     have PL := qH hp
     have SD := qH hd
     have GD := qH HS.out.grown
     have SL := qH (show l.length = n by rw [hp.length_eq]; exact HL.out)
     clear hp hd HS
     obtain ⟨q', hq'⟩ : ∃ q, l[a]? = some q := ⟨_, List.getElem?_eq_getElem (by rw [SL.out]; exact HAN.out)⟩
     obtain ⟨p, hp⟩ : ∃ p, l[ai]? = some p := ⟨_, List.getElem?_eq_getElem (by rw [SL.out]; exact HAI.out)⟩
     have HP := qH hp
     have HQ := qH hq'
     clear hp hq'
     rename_i wr
     go_wp2_with fail
     refine mc_start (fun V => wr.grownBy V (some g)) (fun V => V.heap[g]? = wr.heap[g]?) 17 (by kernel_rfl) (fun wd hwd => ?_)
     have hX : wr.grownBy wd (some g) := by rw [hwd]; exact grownS_drew _ _
     have hY : wd.heap[g]? = wr.heap[g]? := by rw [hwd]; rfl
     have GW := qH (grownS_trans GD.out hX)
     have HWD := qH hwd
     clear hwd
     refine mc_take (i := 0) (oi := ⟨some 33, _, _, _, _, _⟩) (v := ?_) rfl (by kernel_rfl) (by kernel_rfl) (by kernel_rfl) (fun _ _ _ h => h) rfl hX ?_ ?_; rotate_left; (intro W hW; go_simp; try with_reducible rfl); simp only [Act.put, qA, qB, qC]
     refine mc_take (i := 1) (oi := ⟨some 34, _, _, _, _, _⟩) (v := ?_) rfl (by kernel_rfl) (by kernel_rfl) (by kernel_rfl) (fun _ _ _ h => h) rfl hX ?_ ?_; rotate_left; (intro W hW; go_simp; try with_reducible rfl); simp only [Act.put, qA, qB, qC]
     refine mc_take (i := 2) (oi := ⟨some 35, _, _, _, _, _⟩) (v := ?_) rfl (by kernel_rfl) (by kernel_rfl) (by kernel_rfl) (fun _ _ _ h => h) rfl hX ?_ ?_; rotate_left; (intro W hW; go_simp; try with_reducible rfl); simp only [Act.put, qA, qB, qC]
     refine mc_take (i := 3) (oi := ⟨some 36, _, _, _, _, _⟩) (v := ?_) rfl (by kernel_rfl) (by kernel_rfl) (by kernel_rfl) (fun _ _ _ h => h) rfl hX ?_ ?_; rotate_left; (intro W hW; go_simp; try with_reducible rfl); simp only [Act.put, qA, qB, qC]
     refine mc_take (i := 4) (oi := ⟨some 37, _, _, _, _, _⟩) (v := ?_) rfl (by kernel_rfl) (by kernel_rfl) (by kernel_rfl) (fun _ _ _ h => h) rfl hX ?_ ?_; rotate_left; (intro W hW; go_simp; try with_reducible rfl); simp only [Act.put, qA, qB, qC]
     refine mc_take (i := 5) (oi := ⟨some 38, _, _, _, _, _⟩) (v := .int .i64 ((ai : Nat) : Int)) rfl (by kernel_rfl) (by kernel_rfl) (by kernel_rfl) (fun _ _ _ h => h) rfl hX (fun V _ => ex_addY (.tmp 36) (.tmp 37) rfl rfl rfl HA2.out HAB.out V) ?_; simp only [Act.put, qA, qB, qC]
     refine mc_take (i := 6) (oi := ⟨some 39, _, _, _, _, _⟩) (v := ?_) rfl (by kernel_rfl) (by kernel_rfl) (by kernel_rfl) (fun _ _ _ h => h) rfl hX ?_ ?_; rotate_left; (intro W hW; go_simp; try with_reducible rfl); simp only [Act.put, qA, qB, qC]
     refine mc_take (i := 7) (oi := ⟨some 40, _, _, _, _, _⟩) (v := ?_) rfl (by kernel_rfl) (by kernel_rfl) (by kernel_rfl) (fun _ _ _ h => h) rfl hX ?_ ?_; rotate_left; (intro W hW; go_simp; try with_reducible rfl); simp only [Act.put, qA, qB, qC]
     refine mc_take (i := 8) (oi := ⟨some 41, _, _, _, _, _⟩) (v := ?_) rfl (by kernel_rfl) (by kernel_rfl) (by kernel_rfl) (fun _ _ _ h => h) rfl hX ?_ ?_; rotate_left; (intro W hW; go_simp; try with_reducible rfl); simp only [Act.put, qA, qB, qC]
     refine mc_take (i := 9) (oi := ⟨some 42, _, _, _, _, _⟩) (v := .int .i64 ((ai : Nat) : Int)) rfl (by kernel_rfl) (by kernel_rfl) (by kernel_rfl) (fun _ _ _ h => h) rfl hX (fun V _ => ex_addY (.tmp 40) (.tmp 41) rfl rfl rfl HA2.out HAB.out V) ?_; simp only [Act.put, qA, qB, qC]
     refine mc_take (i := 10) (oi := ⟨some 43, _, _, _, _, _⟩) (v := .pointer (some ⟨g, ai, none⟩)) rfl (by kernel_rfl) (by kernel_rfl) (by kernel_rfl) (fun _ _ _ h => h) rfl hX (fun V _ => ix_y (.tmp 39) (.tmp 42) rfl rfl rfl HAI.out V) ?_; simp only [Act.put, qA, qB, qC]
     refine mc_takeS (i := 11) (oi := ⟨some 44, _, _, _, _, _⟩) (v := bv p) rfl (by kernel_rfl) (by kernel_rfl) (by kernel_rfl) (fun _ _ _ h => h) rfl hX hY (fun V hT hS => ld_yt (.tmp 43) rfl rfl (cell_same hS (SD.out.cell HP.out))) ?_; simp only [Act.put, qA, qB, qC]
     refine mc_take (i := 12) (oi := ⟨some 45, _, _, _, _, _⟩) (v := ?_) rfl (by kernel_rfl) (by kernel_rfl) (by kernel_rfl) (fun _ _ _ h => h) rfl hX ?_ ?_; rotate_left; (intro W hW; go_simp; try with_reducible rfl); simp only [Act.put, qA, qB, qC]
     refine mc_take (i := 13) (oi := ⟨some 46, _, _, _, _, _⟩) (v := ?_) rfl (by kernel_rfl) (by kernel_rfl) (by kernel_rfl) (fun _ _ _ h => h) rfl hX ?_ ?_; rotate_left; (intro W hW; go_simp; try with_reducible rfl); simp only [Act.put, qA, qB, qC]
     refine mc_take (i := 14) (oi := ⟨some 47, _, _, _, _, _⟩) (v := .pointer (some ⟨g, a, none⟩)) rfl (by kernel_rfl) (by kernel_rfl) (by kernel_rfl) (fun _ _ _ h => h) rfl hX (fun V _ => ix_y (.tmp 45) (.tmp 46) rfl rfl rfl HAN.out V) ?_; simp only [Act.put, qA, qB, qC]
     refine mc_takeS (i := 15) (oi := ⟨some 48, _, _, _, _, _⟩) (v := bv q') rfl (by kernel_rfl) (by kernel_rfl) (by kernel_rfl) (fun _ _ _ h => h) rfl hX hY (fun V hT hS => ld_yt (.tmp 47) rfl rfl (cell_same hS (SD.out.cell HQ.out))) ?_; simp only [Act.put, qA, qB, qC]
     refine mc_take (i := 16) (oi := ⟨some 49, _, _, _, _, _⟩) (v := .pointer (some ⟨g, a, none⟩)) rfl (by kernel_rfl) (by kernel_rfl) (by kernel_rfl) (fun _ _ _ h => h) rfl hX (fun V _ => ix_y (.tmp 33) (.tmp 34) rfl rfl rfl HAN.out V) ?_; simp only [Act.put, qA, qB, qC]
     refine mc_last (i := 17) (o := ⟨none, _, _, _, _, _⟩) rfl (by kernel_rfl) rfl (fun K hK => ?_)
     have HZ := qH (show Dat wd g zs l from SD.out.keep hY)
     refine wp_stY (.tmp 49) (.tmp 44) rfl g a rfl p rfl _ (HZ.out.cell HQ.out) (HZ.out.frozen _) ?_
     refine hK _ _ (grownS_set hX _ _) ?_
     clear hK K
     have HZ2 := qH (HZ.out.set (List.getElem?_eq_some_iff.1 HQ.out).1 p)
     have HC2 := qH (dat_hit HZ2.out (i := ai) (by rw [List.length_set]; exact (List.getElem?_eq_some_iff.1 HP.out).1))
     clear hY
     replace hX := grownS_set hX a (bv p)
     (try simp only [Act.put, qA, qB, qC])
     refine mc_take (i := 18) (oi := ⟨some 50, _, _, _, _, _⟩) (v := .pointer (some ⟨g, ai, none⟩)) rfl (by kernel_rfl) (by kernel_rfl) (by kernel_rfl) (fun _ _ _ h => h) rfl hX (fun V _ => ix_y (.tmp 35) (.tmp 38) rfl rfl rfl HAI.out V) ?_; simp only [Act.put, qA, qB, qC]
     refine mc_last (i := 19) (o := ⟨none, _, _, _, _, _⟩) rfl (by kernel_rfl) rfl (fun K hK => ?_)
     refine wp_stY (.tmp 50) (.tmp 48) rfl g ai rfl _ rfl _ HC2.out (HZ2.out.frozen _) ?_
     refine hK _ _ (grownS_set hX _ _) ?_
     clear hK K hX
     (try simp only [Act.put, qA, qB, qC])
     refine wpAnyC_done (by kernel_rfl) ?_ _
     have HSW := qH (SoP.swap PL.out HZ.out GW.out HP.out HQ.out)
     obtain ⟨l2, hp, hd⟩ := HSW.out.dat
     have PL2 := qH hp
     have SD2 := qH hd
     have GD2 := qH HSW.out.grown
     have SL2 := qH (show l2.length = n by rw [hp.length_eq]; exact HL.out)
     clear hp hd
     go_wp2_with fail
     refine (siftY_any g n cap zs l2 _ SL2.out HN.out SD2.out 0 k a (by have := HHN.out; have := HK.out; omega) (by omega)).mono ?_
     rintro e we ⟨rfl, hs⟩
     have HS2 := qH (SoP.trans PL2.out GD2.out hs)
     clear hs
     go_wp2_with fail
     exact ⟨⟨(k : Int) - 1, rfl, by omega, by have := HK.out; omega, HS2.out⟩, by simp [intOf]⟩
    ·have x1 : ¬ (0 ≤ i) := hi1
     clear hi0 hih hi1
     go_wp2_with fail
     refine bodyPost_end (results_none rfl _ _ _) rfl ?_
     exact ⟨rfl, HS.out⟩
theorem ld_xs {ev : Operand → Value} {o : Oper} (x : Operand) (ho : o.op = .load 77 x) {p : Addr} (hx : ev x = .pointer (some p)) {k : Int} {W : World} (hc : W.cell? p = some (.int .u64 k)) : (execOp ev o).run Try.prog W = .ok (.value (.int .u64 k)) W := by
 simp only [execOp, ho, hx]
 go_simp
theorem wp_stX {o : Oper} {a : Act} {w : World} {K : Act → World → Prop} {Q : Exit → Act → World → Prop} (x y : Operand) (ho : o.op = .store 77 x y) (g q : Nat) (hx : a.eval x = .pointer (some ⟨g, q, none⟩)) (b : Int) (hy : a.eval y = .int .u64 b)
  (u : Value) (hc : w.cell? ⟨g, q, none⟩ = some u) (hf : w.frozen? ⟨g, q, none⟩ = false) (h : K (a.put o.dst undef) (w.setCell ⟨g, q, none⟩ (.int .u64 b))) : o.wp Try.prog a w K Q := by
 unfold Oper.wp execOp
 simp only [ho, hx, hy]
 have hrun : (Instr.storeAt 77 (.pointer (some ⟨g, q, none⟩)) (.int .u64 b)).run Try.prog w = .ok () (w.setCell ⟨g, q, none⟩ (.int .u64 b)) := by
  go_simp
 simp only [Sem.run_bind, hrun, Result.andThen_ok, Sem.run_pure]
 exact h
theorem xs_shl (x k : Nat) (hx : x < 18446744073709551616) : ∃ y : Nat, y < 18446744073709551616 ∧ bits .xor .u64 (x : Int) (IntKind.u64.wrap ((x : Int) * (k : Int))) = (y : Int) := by
 obtain ⟨z, hz, he⟩ : ∃ z : Nat, z < 18446744073709551616 ∧ IntKind.u64.wrap ((x : Int) * (k : Int)) = (z : Int) := by
  refine ⟨x * k % 18446744073709551616, Nat.mod_lt _ (by omega), ?_⟩
  rw [IntKind.wrap_u64, ← Int.natCast_mul]
  omega
 rw [he, bits_xor_u64_nat x z hx hz]
 refine ⟨x ^^^ z, ?_, rfl⟩
 exact Nat.xor_lt_two_pow (n := 64) (by omega) (by omega)
theorem xs_shr (x k : Nat) (hx : x < 18446744073709551616) : ∃ y : Nat, y < 18446744073709551616 ∧ bits .xor .u64 (x : Int) ((x : Int) / (k : Int)) = (y : Int) := by
 have hz : x / k < 18446744073709551616 := Nat.lt_of_le_of_lt (Nat.div_le_self x k) hx
 have e : (x : Int) / (k : Int) = ((x / k : Nat) : Int) := by rw [Int.natCast_ediv]
 rw [e, bits_xor_u64_nat x (x / k) hx hz]
 refine ⟨x ^^^ (x / k), ?_, rfl⟩
 exact Nat.xor_lt_two_pow (n := 64) (by omega) (by omega)
set_option maxHeartbeats 4000000 in
set_option maxRecDepth 1000000 in
theorem nextY_any (r : Nat) (x : Nat) (hx : x < 18446744073709551616) (w : World) (hb : Blk w r 77 [.int .u64 (x : Int)]) :
  Calls Try.prog 60 #[.pointer (some ⟨r, 0, none⟩)] w fun e w' => ∃ y : Nat, y < 18446744073709551616 ∧ e = .returned (.int .u64 (y : Int)) ∧ Blk w' r 77 [.int .u64 (y : Int)] ∧ w.grownBy w' (some r) := by
 have HB := qH hb
 have HX := qH hx
 have GD := qH (show w.grownBy w (some r) from World.grownBy.refl _ _)
 clear hb hx
 go_enter Try.func60, Try.ntmps60
 go_wp2_with fail
 obtain ⟨y, hy, hyx⟩ := xs_shl x 8192 HX.out
 have HY := qH hy
 have EY := qH hyx
 clear hy hyx
 refine mc_start (fun V => w.grownBy V (some r)) (fun V => V.heap[r]? = w.heap[r]?) 9 (by kernel_rfl) (fun wd hwd => ?_)
 have hX : w.grownBy wd (some r) := by rw [hwd]; exact grownS_trans GD.out (grownS_drew _ _)
 have hY : wd.heap[r]? = w.heap[r]? := by rw [hwd]; rfl
 clear hwd
 refine mc_take (i := 0) (oi := ⟨some 3, _, _, _, _, _⟩) (v := ?_) rfl (by kernel_rfl) (by kernel_rfl) (by kernel_rfl) (fun _ _ _ h => h) rfl hX ?_ ?_; rotate_left; (intro W hW; go_simp; try with_reducible rfl); simp only [Act.put, qA, qB, qC]
 refine mc_take (i := 1) (oi := ⟨some 4, _, _, _, _, _⟩) (v := ?_) rfl (by kernel_rfl) (by kernel_rfl) (by kernel_rfl) (fun _ _ _ h => h) rfl hX ?_ ?_; rotate_left; (intro W hW; go_simp; try with_reducible rfl); simp only [Act.put, qA, qB, qC]
 refine mc_takeS (i := 2) (oi := ⟨some 5, _, _, _, _, _⟩) (v := .int .u64 (x : Int)) rfl (by kernel_rfl) (by kernel_rfl) (by kernel_rfl) (fun _ _ _ h => h) rfl hX hY (fun V hT hS => ld_xs (.tmp 4) rfl rfl (cell_same hS (HB.out.cell 0))) ?_; simp only [Act.put, qA, qB, qC]
 refine mc_take (i := 3) (oi := ⟨some 6, _, _, _, _, _⟩) (v := ?_) rfl (by kernel_rfl) (by kernel_rfl) (by kernel_rfl) (fun _ _ _ h => h) rfl hX ?_ ?_; rotate_left; (intro W hW; go_simp; try with_reducible rfl); simp only [Act.put, qA, qB, qC]
 refine mc_take (i := 4) (oi := ⟨some 7, _, _, _, _, _⟩) (v := ?_) rfl (by kernel_rfl) (by kernel_rfl) (by kernel_rfl) (fun _ _ _ h => h) rfl hX ?_ ?_; rotate_left; (intro W hW; go_simp; try with_reducible rfl); simp only [Act.put, qA, qB, qC]
 refine mc_takeS (i := 5) (oi := ⟨some 8, _, _, _, _, _⟩) (v := .int .u64 (x : Int)) rfl (by kernel_rfl) (by kernel_rfl) (by kernel_rfl) (fun _ _ _ h => h) rfl hX hY (fun V hT hS => ld_xs (.tmp 7) rfl rfl (cell_same hS (HB.out.cell 0))) ?_; simp only [Act.put, qA, qB, qC]
 refine mc_take (i := 6) (oi := ⟨some 9, _, _, _, _, _⟩) (v := ?_) rfl (by kernel_rfl) (by kernel_rfl) (by kernel_rfl) (fun _ _ _ h => h) rfl hX ?_ ?_; rotate_left; (intro W hW; go_simp; try with_reducible rfl); simp only [Act.put, qA, qB, qC]
 refine mc_take (i := 7) (oi := ⟨some 10, _, _, _, _, _⟩) (v := ?_) rfl (by kernel_rfl) (by kernel_rfl) (by kernel_rfl) (fun _ _ _ h => h) rfl hX ?_ ?_; rotate_left; (intro W hW; go_simp; try with_reducible rfl); simp only [Act.put, qA, qB, qC]
 refine mc_take (i := 8) (oi := ⟨some 11, _, _, _, _, _⟩) (v := ?_) rfl (by kernel_rfl) (by kernel_rfl) (by kernel_rfl) (fun _ _ _ h => h) rfl hX ?_ ?_; rotate_left; (intro W hW; go_simp; try with_reducible rfl); simp only [Act.put, qA, qB, qC]
 refine mc_last (i := 9) (o := ⟨none, _, _, _, _, _⟩) rfl (by kernel_rfl) rfl (fun K hK => ?_)
 refine wp_stX (.tmp 11) (.tmp 10) rfl r 0 rfl (y : Int) (congrArg (Value.int .u64) EY.out) _ (cell_same hY (HB.out.cell 0)) (Blk.frozen (hY.trans HB.out) 0) ?_
 refine hK _ _ (grownS_set hX _ _) ?_
 clear hK K
 obtain ⟨w1, hw1⟩ : ∃ V, V = wd.setCell ⟨r, 0, none⟩ (.int .u64 (y : Int)) := ⟨_, rfl⟩
 have Bw1 := qH (show Blk w1 r 77 [.int .u64 (y : Int)] by rw [hw1]; exact Blk.set (hY.trans HB.out) 0 (.int .u64 (y : Int)))
 have Gw1 := qH (show w.grownBy w1 (some r) by rw [hw1]; exact grownS_set hX 0 (.int .u64 (y : Int)))
 rw [← hw1]
 clear hX hY hw1
 (try simp only [Act.put, qA, qB, qC])
 refine wpAnyC_done (by kernel_rfl) ?_ _
 go_wp2_with fail
 obtain ⟨z, hz, hzx⟩ := xs_shr y 128 HY.out
 have HZ := qH hz
 have EZ := qH hzx
 clear hz hzx
 refine mc_start (fun V => w.grownBy V (some r)) (fun V => V.heap[r]? = w1.heap[r]?) 9 (by kernel_rfl) (fun wd hwd => ?_)
 have hX : w.grownBy wd (some r) := by rw [hwd]; exact grownS_trans Gw1.out (grownS_drew _ _)
 have hY : wd.heap[r]? = w1.heap[r]? := by rw [hwd]; rfl
 clear hwd
 refine mc_take (i := 0) (oi := ⟨some 12, _, _, _, _, _⟩) (v := ?_) rfl (by kernel_rfl) (by kernel_rfl) (by kernel_rfl) (fun _ _ _ h => h) rfl hX ?_ ?_; rotate_left; (intro W hW; go_simp; try with_reducible rfl); simp only [Act.put, qA, qB, qC]
 refine mc_take (i := 1) (oi := ⟨some 13, _, _, _, _, _⟩) (v := ?_) rfl (by kernel_rfl) (by kernel_rfl) (by kernel_rfl) (fun _ _ _ h => h) rfl hX ?_ ?_; rotate_left; (intro W hW; go_simp; try with_reducible rfl); simp only [Act.put, qA, qB, qC]
 refine mc_takeS (i := 2) (oi := ⟨some 14, _, _, _, _, _⟩) (v := .int .u64 (y : Int)) rfl (by kernel_rfl) (by kernel_rfl) (by kernel_rfl) (fun _ _ _ h => h) rfl hX hY (fun V hT hS => ld_xs (.tmp 13) rfl rfl (cell_same hS (Bw1.out.cell 0))) ?_; simp only [Act.put, qA, qB, qC]
 refine mc_take (i := 3) (oi := ⟨some 15, _, _, _, _, _⟩) (v := ?_) rfl (by kernel_rfl) (by kernel_rfl) (by kernel_rfl) (fun _ _ _ h => h) rfl hX ?_ ?_; rotate_left; (intro W hW; go_simp; try with_reducible rfl); simp only [Act.put, qA, qB, qC]
 refine mc_take (i := 4) (oi := ⟨some 16, _, _, _, _, _⟩) (v := ?_) rfl (by kernel_rfl) (by kernel_rfl) (by kernel_rfl) (fun _ _ _ h => h) rfl hX ?_ ?_; rotate_left; (intro W hW; go_simp; try with_reducible rfl); simp only [Act.put, qA, qB, qC]
 refine mc_takeS (i := 5) (oi := ⟨some 17, _, _, _, _, _⟩) (v := .int .u64 (y : Int)) rfl (by kernel_rfl) (by kernel_rfl) (by kernel_rfl) (fun _ _ _ h => h) rfl hX hY (fun V hT hS => ld_xs (.tmp 16) rfl rfl (cell_same hS (Bw1.out.cell 0))) ?_; simp only [Act.put, qA, qB, qC]
 refine mc_take (i := 6) (oi := ⟨some 18, _, _, _, _, _⟩) (v := ?_) rfl (by kernel_rfl) (by kernel_rfl) (by kernel_rfl) (fun _ _ _ h => h) rfl hX ?_ ?_; rotate_left; (intro W hW; go_simp; try with_reducible rfl); simp only [Act.put, qA, qB, qC]
 refine mc_take (i := 7) (oi := ⟨some 19, _, _, _, _, _⟩) (v := ?_) rfl (by kernel_rfl) (by kernel_rfl) (by kernel_rfl) (fun _ _ _ h => h) rfl hX ?_ ?_; rotate_left; (intro W hW; go_simp; try with_reducible rfl); simp only [Act.put, qA, qB, qC]
 refine mc_take (i := 8) (oi := ⟨some 20, _, _, _, _, _⟩) (v := ?_) rfl (by kernel_rfl) (by kernel_rfl) (by kernel_rfl) (fun _ _ _ h => h) rfl hX ?_ ?_; rotate_left; (intro W hW; go_simp; try with_reducible rfl); simp only [Act.put, qA, qB, qC]
 refine mc_last (i := 9) (o := ⟨none, _, _, _, _, _⟩) rfl (by kernel_rfl) rfl (fun K hK => ?_)
 refine wp_stX (.tmp 20) (.tmp 19) rfl r 0 rfl (z : Int) (congrArg (Value.int .u64) EZ.out) _ (cell_same hY (Bw1.out.cell 0)) (Blk.frozen (hY.trans Bw1.out) 0) ?_
 refine hK _ _ (grownS_set hX _ _) ?_
 clear hK K
 obtain ⟨w2, hw2⟩ : ∃ V, V = wd.setCell ⟨r, 0, none⟩ (.int .u64 (z : Int)) := ⟨_, rfl⟩
 have Bw2 := qH (show Blk w2 r 77 [.int .u64 (z : Int)] by rw [hw2]; exact Blk.set (hY.trans Bw1.out) 0 (.int .u64 (z : Int)))
 have Gw2 := qH (show w.grownBy w2 (some r) by rw [hw2]; exact grownS_set hX 0 (.int .u64 (z : Int)))
 rw [← hw2]
 clear hX hY hw2
 (try simp only [Act.put, qA, qB, qC])
 refine wpAnyC_done (by kernel_rfl) ?_ _
 go_wp2_with fail
 obtain ⟨u, hu, hux⟩ := xs_shl z 131072 HZ.out
 have HU := qH hu
 have EU := qH hux
 clear hu hux
 refine mc_start (fun V => w.grownBy V (some r)) (fun V => V.heap[r]? = w2.heap[r]?) 9 (by kernel_rfl) (fun wd hwd => ?_)
 have hX : w.grownBy wd (some r) := by rw [hwd]; exact grownS_trans Gw2.out (grownS_drew _ _)
 have hY : wd.heap[r]? = w2.heap[r]? := by rw [hwd]; rfl
 clear hwd
 refine mc_take (i := 0) (oi := ⟨some 21, _, _, _, _, _⟩) (v := ?_) rfl (by kernel_rfl) (by kernel_rfl) (by kernel_rfl) (fun _ _ _ h => h) rfl hX ?_ ?_; rotate_left; (intro W hW; go_simp; try with_reducible rfl); simp only [Act.put, qA, qB, qC]
 refine mc_take (i := 1) (oi := ⟨some 22, _, _, _, _, _⟩) (v := ?_) rfl (by kernel_rfl) (by kernel_rfl) (by kernel_rfl) (fun _ _ _ h => h) rfl hX ?_ ?_; rotate_left; (intro W hW; go_simp; try with_reducible rfl); simp only [Act.put, qA, qB, qC]
 refine mc_takeS (i := 2) (oi := ⟨some 23, _, _, _, _, _⟩) (v := .int .u64 (z : Int)) rfl (by kernel_rfl) (by kernel_rfl) (by kernel_rfl) (fun _ _ _ h => h) rfl hX hY (fun V hT hS => ld_xs (.tmp 22) rfl rfl (cell_same hS (Bw2.out.cell 0))) ?_; simp only [Act.put, qA, qB, qC]
 refine mc_take (i := 3) (oi := ⟨some 24, _, _, _, _, _⟩) (v := ?_) rfl (by kernel_rfl) (by kernel_rfl) (by kernel_rfl) (fun _ _ _ h => h) rfl hX ?_ ?_; rotate_left; (intro W hW; go_simp; try with_reducible rfl); simp only [Act.put, qA, qB, qC]
 refine mc_take (i := 4) (oi := ⟨some 25, _, _, _, _, _⟩) (v := ?_) rfl (by kernel_rfl) (by kernel_rfl) (by kernel_rfl) (fun _ _ _ h => h) rfl hX ?_ ?_; rotate_left; (intro W hW; go_simp; try with_reducible rfl); simp only [Act.put, qA, qB, qC]
 refine mc_takeS (i := 5) (oi := ⟨some 26, _, _, _, _, _⟩) (v := .int .u64 (z : Int)) rfl (by kernel_rfl) (by kernel_rfl) (by kernel_rfl) (fun _ _ _ h => h) rfl hX hY (fun V hT hS => ld_xs (.tmp 25) rfl rfl (cell_same hS (Bw2.out.cell 0))) ?_; simp only [Act.put, qA, qB, qC]
 refine mc_take (i := 6) (oi := ⟨some 27, _, _, _, _, _⟩) (v := ?_) rfl (by kernel_rfl) (by kernel_rfl) (by kernel_rfl) (fun _ _ _ h => h) rfl hX ?_ ?_; rotate_left; (intro W hW; go_simp; try with_reducible rfl); simp only [Act.put, qA, qB, qC]
 refine mc_take (i := 7) (oi := ⟨some 28, _, _, _, _, _⟩) (v := ?_) rfl (by kernel_rfl) (by kernel_rfl) (by kernel_rfl) (fun _ _ _ h => h) rfl hX ?_ ?_; rotate_left; (intro W hW; go_simp; try with_reducible rfl); simp only [Act.put, qA, qB, qC]
 refine mc_take (i := 8) (oi := ⟨some 29, _, _, _, _, _⟩) (v := ?_) rfl (by kernel_rfl) (by kernel_rfl) (by kernel_rfl) (fun _ _ _ h => h) rfl hX ?_ ?_; rotate_left; (intro W hW; go_simp; try with_reducible rfl); simp only [Act.put, qA, qB, qC]
 refine mc_last (i := 9) (o := ⟨none, _, _, _, _, _⟩) rfl (by kernel_rfl) rfl (fun K hK => ?_)
 refine wp_stX (.tmp 29) (.tmp 28) rfl r 0 rfl (u : Int) (congrArg (Value.int .u64) EU.out) _ (cell_same hY (Bw2.out.cell 0)) (Blk.frozen (hY.trans Bw2.out) 0) ?_
 refine hK _ _ (grownS_set hX _ _) ?_
 clear hK K
 obtain ⟨w3, hw3⟩ : ∃ V, V = wd.setCell ⟨r, 0, none⟩ (.int .u64 (u : Int)) := ⟨_, rfl⟩
 have Bw3 := qH (show Blk w3 r 77 [.int .u64 (u : Int)] by rw [hw3]; exact Blk.set (hY.trans Bw2.out) 0 (.int .u64 (u : Int)))
 have Gw3 := qH (show w.grownBy w3 (some r) by rw [hw3]; exact grownS_set hX 0 (.int .u64 (u : Int)))
 rw [← hw3]
 clear hX hY hw3
 (try simp only [Act.put, qA, qB, qC])
 refine wpAnyC_done (by kernel_rfl) ?_ _
 have c3 : w3.cell? ⟨r, 0, none⟩ = some (.int .u64 (u : Int)) := Bw3.out.cell 0
 go_wp2_with fail
 go_ret
 exact ⟨u, HU.out, rfl, Bw3.out, Gw3.out⟩
end Go.Proofs.Ytbbodfpnneifgaa
namespace Go.Proofs
open Go.Shelf
def Try.lenL_ren : Go.Shelf.Ren := ⟨fun | 125 => 46 | 128 => 56 | 129 => 57 | n => n, fun | 46 => 63 | 3 => 3 | 51 => 74 | 53 => 76 | 4 => 4 | 5 => 5 | 9 => 9 | n => n, fun | n => n⟩
theorem Try.lenL : Go.Proofs.Lays.n125 Try.prog Try.lenL_ren := {
 mixed := by kernel_rfl
 f125 := Try.func46.trans (congrArg some (by kernel_rfl))
 f128 := Try.func56.trans (congrArg some (by kernel_rfl))
 f129 := Try.func57.trans (congrArg some (by kernel_rfl))
 t3 := Try.underlying3
 a3 := Try.isAgg3
 z3 := Try.sizeOf3
 v3 := Try.zeroValue3
 t4 := Try.underlying4
 a4 := Try.isAgg4
 z4 := Try.sizeOf4
 v4 := Try.zeroValue4
 t5 := Try.underlying5
 a5 := Try.isAgg5
 z5 := Try.sizeOf5
 v5 := Try.zeroValue5
 t9 := Try.underlying9
 a9 := Try.isAgg9
 z9 := Try.sizeOf9
 v9 := Try.zeroValue9
 t46 := Try.underlying63
 a46 := Try.isAgg63
 z46 := Try.sizeOf63
 v46 := Try.zeroValue63
 t51 := Try.underlying74
 a51 := Try.isAgg74
 z51 := Try.sizeOf74
 v51 := Try.zeroValue74
 t53 := Try.underlying76
 a53 := Try.isAgg76
 z53 := Try.sizeOf76
 v53 := Try.zeroValue76 }
end Go.Proofs
namespace Go.Proofs.Ytbbodfpnneifgaa
open Go.RowKit
set_option linter.unusedSimpArgs false
set_option linter.unusedVariables false
end Go.Proofs.Ytbbodfpnneifgaa
