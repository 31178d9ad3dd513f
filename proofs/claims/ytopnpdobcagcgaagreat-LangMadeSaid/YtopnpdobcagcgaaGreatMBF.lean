/-
  Texts of this proof, put together: PyG, LwYa, LwB. No statement is proved here.
-/
import Derived.Test.YtopnpdobcagcgaaGreatMBE
import Derived.Test.YtopnpdobcagcgaaGreatMZ
import Derived.Test.YtopnpdobcagcgaaGreatMBD
import Derived.Lib.SlBytesConst
namespace Go.Proofs.YtopnpdobcagcgaaGreat
open Go.RowKit
set_option linter.unusedSimpArgs false
set_option linter.unusedVariables false
def madeT (ps : List UInt8) : T := (rxP ps 10 0 0).1
theorem madeT_good (ps : List UInt8) : good (madeT ps) := rxP_good ps 10 0 0
theorem built_picks (A : Option Addr) (n c : Nat) : Tryz.prog.built 49 [(0, .slice A n c)] = some #[.slice A n c, .int .i64 0] := by kernel_rfl
set_option maxHeartbeats 4000000 in
set_option maxRecDepth 1000000 in
theorem made_any (V : Value) (ps : List UInt8) (w : World) (hr : Row w V (bvs ps)) (hl : ps.length ≤ 1048576) :
  Calls Tryz.prog 7 #[V] w fun e w' => e = .returned (.pointer (some ⟨w.heap.size, 0, none⟩)) ∧ Below w.heap.size w w' ∧ Pk w' w.heap.size V ps 0 := by
 have R := qH hr
 obtain ⟨A, cap, rfl, _⟩ := hr
 obtain ⟨n, hn⟩ : ∃ n, n = (bvs ps).length := ⟨_, rfl⟩
 rw [← hn] at R ⊢
 obtain ⟨cs, hcs⟩ : ∃ cs, cs = [Value.slice A n cap, .int .i64 0] := ⟨_, rfl⟩
 have HB := qH (show Tryz.prog.built 49 [(0, .slice A n cap)] = some cs.toArray by rw [hcs]; exact built_picks A n cap)
 have HC := qH hcs
 clear hn hcs
 go_enter Tryz.func7, Tryz.ntmps7
 go_wp2_with (first
  | ((with_reducible refine atDst 4 ?_); refine wpList_bld rfl 49 _ rfl cs HB.out ?_; (try simp only [Act.put, qA, qB, qC]))
  | ((with_reducible refine atDst 5 ?_); refine wpList_box rfl 49 _ rfl cs rfl (Below.refl w.heap.size w) (Nat.le_refl _) ?_; intro w1 hk1 hb1 hs1 _; have K1 := qH hk1; have B1 := qH hb1; clear hk1 hb1 hs1; (try simp only [Act.put, qA, qB, qC])))
 go_ret
 have hk := K1.out
 rw [HC.out] at hk
 exact ⟨rfl, B1.out, ⟨hk, R.out.toB.below B1.out, Nat.zero_le _, hl⟩⟩
set_option maxHeartbeats 4000000 in
set_option maxRecDepth 1000000 in
theorem pickRx_any (g : Nat) (V : Value) (ps : List UInt8) (w : World) (h : Pk w g V ps 0) :
  Calls Tryz.prog 8 #[.pointer (some ⟨g, 0, none⟩)] w fun e w' => ∃ ds, e = .returned (.agg ds.toArray) ∧ RxD (fun k => w.heap.size ≤ k ∧ k < w'.heap.size) w' ds (madeT ps) ∧ w.grownBy w' (some g) := by
 have HPK := qH h
 have HNE := qH (show some w.heap.size ≠ some g from fun he => by have h1 := Option.some.inj he; have h2 := h.blk.lt; omega)
 obtain ⟨i0, hi0, hz0, hz1, hz2⟩ := inf_rx'
 obtain ⟨z, hz⟩ : ∃ z, z = rxc 0 zeroS (.slice none 0 0) := ⟨_, rfl⟩
 have HZL := qH (show z.length = 6 by rw [hz]; rfl)
 have HZ0 := qH (show i0.zero = some (.agg z.toArray) by rw [hz]; exact hz0)
 clear hz hz0 h
 go_enter Tryz.func8, Tryz.ntmps8
 go_wp2_with ((with_reducible refine atDst 2 ?_); refine wpList_new rfl 29 rfl i0 _ z hi0 HZ0.out rfl (Below.refl w.heap.size w) (Nat.le_refl _) ?_; intro w1 hk1 hb1 hs1 _; have K1 := qH hk1; have G1 := qH (below_grownG g hb1); have P1 := qH (HPK.out.below hb1); clear hk1 hb1 hs1; (try simp only [Act.put, qA, qB, qC]))
 refine (rx_any g V ps 10 0 0 w1 (by omega) (by omega) P1.out).mono ?_
 rintro e w2 ⟨es, rfl, hes, hg, hp⟩
 have E10 := qH hes
 have E6 := qH hes.length
 have E1 := qH (show es.all (·.oneCell') = true from List.all_eq_true.2 (RxD.one hes))
 have GX := qH (grownG_trans G1.out hg)
 have KX := qH (K1.out.grown hg HNE.out)
 have SX := qH (show w.heap.size < w1.heap.size from K1.out.lt)
 clear hes hg hp
 go_wp2_with ((with_reducible refine atStore 29 2 4 ?_); refine wpList_stBlk rfl 29 _ _ rfl w.heap.size es rfl rfl 29 _ KX.out (size_rx E6.out) (by rw [HZL.out, E6.out]) E1.out (Below.refl w.heap.size w2) (Nat.le_refl _) ?_; intro w11 hk hb hs ho; have K11 := qH hk; have G11 := qH (grownG_below GX.out hb); have E11 := qH (RxD.mono (E10.out.stay (w' := w11) fun k hk => ho k (by have h1 := hk.1; have h2 := SX.out; omega)) (D' := fun k => w.heap.size ≤ k ∧ k < w11.heap.size) fun k hk => ⟨by have h1 := hk.1; have h2 := SX.out; omega, by have h1 := hk.2; omega⟩); clear hk hb hs ho; (try simp only [Act.put, qA, qB, qC]))
 refine bodyPost_ret (results_blk rfl _ _ w.heap.size 29 _ _ rfl K11.out Tryz.underlying29 rfl (size_rx E6.out)) rfl ?_
 exact ⟨es, rfl, E11.out, G11.out⟩
theorem setP_few (ps : List UInt8) (n : Nat) : n ≤ (setP ps n).2 ∧ (n ≤ ps.length → (setP ps n).2 ≤ ps.length) := by
 have hge := fun k => numN_ge ps k
 have hle := fun (k : Nat) (h : k ≤ ps.length) => numN_le h
 have a := hge n
 have b := hge (numN ps n)
 have c := hge (numN ps (numN ps n))
 have d := hge (numN ps (numN ps (numN ps n)))
 unfold setP
 by_cases c0 : numV ps n 8 = 0
 ·rw [if_pos c0]; exact ⟨a, fun h => hle n h⟩
 rw [if_neg c0]
 by_cases c1 : numV ps n 8 = 1
 ·rw [if_pos c1]; exact ⟨by show n ≤ numN ps (numN ps (numN ps n)); omega, fun h => hle _ (hle _ (hle _ h))⟩
 rw [if_neg c1]
 by_cases c2 : numV ps n 8 = 2
 ·rw [if_pos c2]; exact ⟨by show n ≤ numN ps (numN ps n); omega, fun h => hle _ (hle _ h)⟩
 rw [if_neg c2]
 by_cases c3 : numV ps n 8 = 3
 ·rw [if_pos c3]; exact ⟨by show n ≤ numN ps (numN ps (numN ps (numN ps n))); omega, fun h => hle _ (hle _ (hle _ (hle _ h)))⟩
 rw [if_neg c3]
 by_cases c4 : numV ps n 8 = 4
 ·rw [if_pos c4]; exact ⟨a, fun h => hle n h⟩
 rw [if_neg c4]
 exact ⟨by show n ≤ numN ps (numN ps n); omega, fun h => hle _ (hle _ h)⟩
theorem bytes_nodes (s : Nat → Bool) : (bytesT s).nodes = 1 := by
 unfold bytesT
 split <;> rfl
theorem rxP_few (ps : List UInt8) : ∀ N deep n, n ≤ ps.length → (rxP ps N deep n).1.nodes + 4 * n ≤ 4 * (rxP ps N deep n).2 + 1 ∧ n ≤ (rxP ps N deep n).2 ∧ (rxP ps N deep n).2 ≤ ps.length
 | 0, _, n, h => ⟨by show 1 + 4 * n ≤ 4 * n + 1; omega, Nat.le_refl _, h⟩
 | N + 1, deep, n, h => by
  have hn1 := numN_le h
  have hge := numN_ge ps n
  obtain ⟨n1, e1⟩ : ∃ x, x = numN ps n := ⟨_, rfl⟩
  have hstep : ps.length ≤ n1 ∨ n1 = n + 1 := by
   rw [e1]
   unfold numN
   by_cases hx : ps.length ≤ n
   ·rw [if_pos hx]; exact .inl hx
   ·rw [if_neg hx]; exact .inr rfl
  rw [← e1] at hn1 hge
  have ih1 := rxP_few ps N (deep + 1) n1 hn1
  obtain ⟨tx, ex⟩ : ∃ x, x = (rxP ps N (deep + 1) n1).1 := ⟨_, rfl⟩
  obtain ⟨n2, e2⟩ : ∃ x, x = (rxP ps N (deep + 1) n1).2 := ⟨_, rfl⟩
  rw [← ex, ← e2] at ih1
  have ih2 := rxP_few ps N (deep + 1) n2 ih1.2.2
  obtain ⟨ty, ey⟩ : ∃ x, x = (rxP ps N (deep + 1) n2).1 := ⟨_, rfl⟩
  obtain ⟨n3, e3⟩ : ∃ x, x = (rxP ps N (deep + 1) n2).2 := ⟨_, rfl⟩
  rw [← ey, ← e3] at ih2
  have hs := setP_few ps n1
  have hb := bytes_nodes (setP ps n1).1
  have hc := catT_nodes [tx, ty]
  have ha := altT_nodes [tx, ty]
  have hst := star_nodes tx
  have hm1 := numN_ge ps n1
  have hm2 := numN_le hn1
  simp only [nodesL] at hc ha
  simp only [rxP]
  rw [← e1, ← ex, ← e2, ← ey, ← e3]
  by_cases hl : ps.length ≤ n1 ∨ 8 < deep ∨ numV ps n 9 < 3
  ·rw [if_pos hl]
   by_cases hl2 : ps.length ≤ n1 ∨ 0 < numV ps n 9
   ·rw [if_pos hl2]
    exact ⟨by show (bytesT (setP ps n1).1).nodes + 4 * n ≤ 4 * (setP ps n1).2 + 1; omega, by show n ≤ (setP ps n1).2; omega, hs.2 hn1⟩
   ·rw [if_neg hl2]
    split
    ·exact ⟨by show 1 + 4 * n ≤ 4 * numN ps n1 + 1; omega, by show n ≤ numN ps n1; omega, hm2⟩
    ·exact ⟨by show 1 + 4 * n ≤ 4 * numN ps n1 + 1; omega, by show n ≤ numN ps n1; omega, hm2⟩
  ·rw [if_neg hl]
   have hno : ¬ ps.length ≤ n1 := fun hq => hl (.inl hq)
   have hn : n1 = n + 1 := hstep.resolve_left hno
   split
   ·exact ⟨by show (catT [tx, ty]).nodes + 4 * n ≤ 4 * n3 + 1; omega, by show n ≤ n3; omega, ih2.2.2⟩
   ·split
    ·exact ⟨by show (altT [tx, ty]).nodes + 4 * n ≤ 4 * n3 + 1; omega, by show n ≤ n3; omega, ih2.2.2⟩
    ·exact ⟨by show (starT tx).nodes + 4 * n ≤ 4 * n2 + 1; omega, by show n ≤ n2; omega, ih1.2.2⟩
theorem madeT_few (ps : List UInt8) : (madeT ps).nodes ≤ 4 * ps.length + 1 := by
 have h1 := rxP_few ps 10 0 0 (Nat.zero_le _)
 have h3 : (madeT ps).nodes = (rxP ps 10 0 0).1.nodes := rfl
 omega
/-! ### words -/
theorem ownG {w w' : World} {g base : Nat} {e : TypeId} {v : Value} {n : Nat} {xs : List Value} (h : w.ownsRow base e 1 v n xs) (hg : w.grownBy w' (some g)) (hlt : g < base) : w'.ownsRow base e 1 v n xs := by
 refine ⟨h.1, ?_⟩
 rcases h.2 with h0 | ⟨k, cap, cur, rfl, hb2, hk, h3⟩
 ·exact .inl h0
 ·exact .inr ⟨k, cap, cur, rfl, hb2, (hg.block k (Array.getElem?_eq_some_iff.1 hk).1 (fun he => by have := Option.some.inj he; omega)).trans hk, h3⟩
theorem grown_app {w0 w w' : World} {g base : Nat} {row : Option Nat} (h : w0.grownBy w (some g)) (ha : w.grownBy w' row) (hb : w0.heap.size ≤ base) (hr : ∀ k, row = some k → base ≤ k) : w0.grownBy w' (some g) :=
 ⟨ha.os.trans h.os, ha.tape.trans h.tape, ha.output.trans h.output, Nat.le_trans h.size ha.size, fun k hk hne => (ha.block k (by have := h.size; omega) (fun he => by have := hr k he.symm; omega)).trans (h.block k hk hne)⟩
theorem Pk.app {w w' : World} {g base : Nat} {V : Value} {ps : List UInt8} {n : Nat} {row : Option Nat} (h : Pk w g V ps n) (ha : w.grownBy w' row) (hg : g < base) (hr : ∀ k, row = some k → base ≤ k) : Pk w' g V ps n :=
 ⟨(ha.block g h.blk.lt (fun he => by have := hr g he.symm; omega)).trans h.blk, h.row.below ⟨ha.os, ha.tape, ha.output, ha.size, fun k hk => ha.block k (by have := h.blk.lt; omega) (fun he => by have := hr k he.symm; omega)⟩, h.le, h.few⟩
theorem one_byte (w : World) (x : Nat) (hx : x < 256) : Row (w.alloc (.cells #[.int .u8 (x : Int)] 5)) (.slice (some ⟨w.heap.size, 0, none⟩) 1 1) (bvs [UInt8.ofNat x]) :=
 rowB (n := 1) (by
  have := Blk.new w 5 (bvs [UInt8.ofNat x])
  rw [show bvs [UInt8.ofNat x] = [.int .u8 (x : Int)] from congrArg (fun x => [x]) (bv_ofNat hx)] at this ⊢
  exact this) rfl (by omega)
theorem wrap_j {j : Nat} (h : j ≤ 200) : wrap64 (j : Int) = (j : Int) := IntWalk.wrap64_in _ (by omega)
theorem meas_lt {j : Nat} (h : wrap64 (j : Int) = (j : Int)) : (intOf (.int .i64 (wrap64 (j : Int)))).toNat < (intOf (.int .i64 ((j + 1 : Nat) : Int))).toNat := by
 rw [h]
 simp only [intOf]
 omega
theorem few_mul {n : Nat} (h : n ≤ 201) : n * 1 ≤ 140737488355328 := by omega
theorem few_sum {j n x0 most : Nat} {b : UInt8} (h : j + 1 + n = x0) (h1 : x0 ≤ most) (h2 : most ≤ 200) : n + (bvs [b]).length ≤ 201 := by
 rw [bvs_length]
 show n + 1 ≤ 201
 omega
theorem few_len {n : Nat} (h : n ≤ 201) : n ≤ maxLen := by unfold maxLen; omega
theorem add_one_left (j n : Nat) : j + (n + 1) = j + 1 + n := by omega
set_option maxHeartbeats 8000000 in
set_option maxRecDepth 1000000 in
theorem pickWord_any (g : Nat) (V : Value) (ps : List UInt8) (n most : Nat) (hmo : most ≤ 200) (w : World) (h : Pk w g V ps n) :
  Calls Tryz.prog 9 #[.pointer (some ⟨g, 0, none⟩), .int .i64 (most : Int)] w fun e w' => ∃ (v : Value) (W : List UInt8), e = .returned v ∧ Row w' v (bvs W) ∧ W.length ≤ most ∧ w.grownBy w' (some g) := by
 have HPK := qH h
 have HMO := qH hmo
 obtain ⟨i1, hi1, hy0, hy1, hy2⟩ := infoP inf_u8
 obtain ⟨x0, hx0⟩ : ∃ x0, x0 = numV ps n (most + 1) := ⟨_, rfl⟩
 have HX0 := qH (show x0 ≤ most by rw [hx0]; have := numV_lt ps n (m := most + 1) (by omega); omega)
 have HXE := qH hx0
 have HM0 := qH (show 0 < most + 1 from Nat.succ_pos most)
 have HM1 := qH (show most + 1 ≤ 1048576 by omega)
 have m1 : IntKind.i64.wrap ((most : Int) + 1) = ((most + 1 : Nat) : Int) := wrap_one' most (by omega)
 have m2 : wrap64 ((most : Int) + 1) = ((most + 1 : Nat) : Int) := wrap_one most (by omega)
 clear h hx0 hmo
 go_enter Tryz.func9, Tryz.ntmps9
 go_wp2_with fail
 refine (num_any w g V ps n (most + 1) HPK.out HM0.out HM1.out).mono ?_
 rintro e w1 ⟨rfl, hg, hp⟩
 rw [← HXE.out]
 have G1 := qH hg
 have P1 := qH hp
 clear hg hp m1 m2
 go_wp2_with fail
 go_loopw [5, 6] (fun v i wl => ∃ (v1 : Value) (k n' : Nat) (W : List UInt8), v1 = v ∧ i = .int .i64 (k : Int) ∧ k + W.length = x0 ∧ wl.ownsRow w1.heap.size 5 1 v1 W.length (bvs W) ∧ Pk wl g V ps n' ∧ w1.grownBy wl (some g)) (fun _ i _ => (intOf i).toNat)
 case atStart => exact ⟨_, x0, _, [], rfl, by simp, by simp, ownN _ _ _, P1.out, World.grownBy.refl _ _⟩
 case round =>
  obtain ⟨v1, k, n', W, rfl, rfl, hk, ho, hp, hg⟩ := hrel
  have HO := qH ho
  have HP := qH hp
  have HG := qH hg
  have HK := qH hk
  clear ho hp hg hk
  rcases Nat.eq_zero_or_pos k with hk0 | hk0
  ·subst hk0
   have i1' : ¬ ((0 : Int) < 0) := by omega
   go_wp2_with fail
   go_ret
   exact ⟨v1, rfl, W, Row.of_own HO.out, by have := HK.out; have := HX0.out; omega, grownG_trans G1.out HG.out⟩
  ·obtain ⟨j, rfl⟩ : ∃ j, k = j + 1 := ⟨k - 1, by omega⟩
   have HJ := qH (show j + 1 ≤ x0 by have := HK.out; omega)
   have HG1 := qH (show g < w1.heap.size from P1.out.blk.lt)
   have j1 : (0 : Int) < ((j + 1 : Nat) : Int) := by omega
   have HJW := qH (show wrap64 (j : Int) = (j : Int) from wrap_j (by have := HJ.out; have := HX0.out; have := HMO.out; omega))
   go_wp2_with fail
   refine (num_any wr g V ps n' 8 HP.out (by decide) (by decide)).mono ?_
   rintro e w3 ⟨rfl, hg, hp⟩
   have G3 := qH (grownG_trans HG.out hg)
   have P3 := qH hp
   have O3 := qH (ownG HO.out hg HG1.out)
   clear hg hp
   obtain ⟨d, hd⟩ : ∃ d, d = numV ps n' 8 := ⟨_, rfl⟩
   rw [← hd]
   clear hd
   by_cases hd : d = 0
   ·have hd' : (d : Int) = 0 := by omega
    go_wp2_with fail
    refine (num_any w3 g V ps _ 256 P3.out (by decide) (by decide)).mono ?_
    rintro e w4 ⟨rfl, hg, hp⟩
    have G4 := qH (grownG_trans G3.out hg)
    have P4 := qH hp
    have O4 := qH (ownG O3.out hg HG1.out)
    clear hg hp
    obtain ⟨x, hx⟩ : ∃ x, x = numV ps (numN ps n') 256 := ⟨_, rfl⟩
    have HX := qH (show x < 256 by rw [hx]; exact numV_lt _ _ (by decide))
    rw [← hx]
    clear hx
    have hw8 : IntKind.u8.wrap (x : Int) = (x : Int) := IntWalk.u8_in _ (by have := HX.out; omega)
    have R1 := qH (one_byte w4 x HX.out)
    have HB4 := qH ((Below.refl w4.heap.size w4).alloc (Nat.le_refl _) (.cells #[.int .u8 (x : Int)] 5))
    have OA4 := qH (O4.out.alloc (.cells #[.int .u8 (x : Int)] 5))
    have HA5 := qH (own_above OA4.out)
    have HS4 := qH (show w1.heap.size ≤ (w4.alloc (.cells #[.int .u8 (x : Int)] 5)).heap.size from Nat.le_trans G4.out.size HB4.out.size)
    have HN1 := qH (show W.length + (bvs [UInt8.ofNat x]).length ≤ 201 from few_sum HK.out HX0.out HMO.out)
    have HN2 := qH (show W.length + (bvs [UInt8.ofNat x]).length ≤ maxLen from few_len HN1.out)
    have HN3 := qH (show (W.length + (bvs [UInt8.ofNat x]).length) * 1 ≤ 140737488355328 from few_mul HN1.out)
    go_wp2_with ((with_reducible refine atDst 23 ?_); refine wpList_app rfl (.tmp 18) (.tmp 22) 22 rfl w1.heap.size 5 i1 (.int .u8 0) 1 Tryz.underlying22 hi1 hy0 hy1 hy2 rfl _ _ _ rfl OA4.out _ (bvs [UInt8.ofNat x]) rfl R1.out (bvs_one _) HN2.out HN3.out HS4.out ?_; intro v3 w5 ho5 hg5; have O5 := qH ho5; have P5 := qH ((P4.out.below HB4.out).app hg5 HG1.out HA5.out); have G5 := qH (grown_app (grownG_trans G4.out (below_grownG g HB4.out)) hg5 (Nat.le_refl _) HA5.out); clear ho5 hg5; (try simp only [Act.put, qA, qB, qC]))
    refine ⟨⟨_, j, _, W ++ [UInt8.ofNat x], rfl, congrArg (Value.int .i64) HJW.out, by rw [← HK.out, List.length_append]; exact add_one_left j W.length, ?_, P5.out, G5.out⟩, meas_lt HJW.out⟩
    have := O5.out
    simp only [bvs_append, List.length_append]
    exact this
   ·have hd' : ¬ ((d : Int) = 0) := by omega
    go_wp2_with fail
    refine (num_any w3 g V ps _ 4 P3.out (by decide) (by decide)).mono ?_
    rintro e w4 ⟨rfl, hg, hp⟩
    have G4 := qH (grownG_trans G3.out hg)
    have P4 := qH hp
    have O4 := qH (ownG O3.out hg HG1.out)
    clear hg hp
    obtain ⟨y, hy⟩ : ∃ y, y = numV ps (numN ps n') 4 := ⟨_, rfl⟩
    have HY := qH (show y < 4 by rw [hy]; exact numV_lt _ _ (by decide))
    rw [← hy]
    clear hy
    obtain ⟨x, hx⟩ : ∃ x, x = 97 + y := ⟨_, rfl⟩
    have HX := qH (show x < 256 by have := HY.out; omega)
    have hxi : (97 + (y : Int)) = ((x : Nat) : Int) := by omega
    have hw64 : IntKind.i64.wrap (97 + (y : Int)) = (x : Int) := by rw [hxi]; exact IntWalk.i64_in _ (by have := HX.out; omega)
    have hw64' : wrap64 (97 + (y : Int)) = (x : Int) := by rw [hxi]; exact IntWalk.wrap64_in _ (by have := HX.out; omega)
    clear hxi
    have hw8 : IntKind.u8.wrap (x : Int) = (x : Int) := IntWalk.u8_in _ (by have := HX.out; omega)
    clear hx
    have R1 := qH (one_byte w4 x HX.out)
    have HB4 := qH ((Below.refl w4.heap.size w4).alloc (Nat.le_refl _) (.cells #[.int .u8 (x : Int)] 5))
    have OA4 := qH (O4.out.alloc (.cells #[.int .u8 (x : Int)] 5))
    have HA5 := qH (own_above OA4.out)
    have HS4 := qH (show w1.heap.size ≤ (w4.alloc (.cells #[.int .u8 (x : Int)] 5)).heap.size from Nat.le_trans G4.out.size HB4.out.size)
    have HN1 := qH (show W.length + (bvs [UInt8.ofNat x]).length ≤ 201 from few_sum HK.out HX0.out HMO.out)
    have HN2 := qH (show W.length + (bvs [UInt8.ofNat x]).length ≤ maxLen from few_len HN1.out)
    have HN3 := qH (show (W.length + (bvs [UInt8.ofNat x]).length) * 1 ≤ 140737488355328 from few_mul HN1.out)
    go_wp2_with ((with_reducible refine atDst 30 ?_); refine wpList_app rfl (.tmp 24) (.tmp 29) 22 rfl w1.heap.size 5 i1 (.int .u8 0) 1 Tryz.underlying22 hi1 hy0 hy1 hy2 rfl _ _ _ rfl OA4.out _ (bvs [UInt8.ofNat x]) rfl R1.out (bvs_one _) HN2.out HN3.out HS4.out ?_; intro v3 w5 ho5 hg5; have O5 := qH ho5; have P5 := qH ((P4.out.below HB4.out).app hg5 HG1.out HA5.out); have G5 := qH (grown_app (grownG_trans G4.out (below_grownG g HB4.out)) hg5 (Nat.le_refl _) HA5.out); clear ho5 hg5; (try simp only [Act.put, qA, qB, qC]))
    refine ⟨⟨_, j, _, W ++ [UInt8.ofNat x], rfl, congrArg (Value.int .i64) HJW.out, by rw [← HK.out, List.length_append]; exact add_one_left j W.length, ?_, P5.out, G5.out⟩, meas_lt HJW.out⟩
    have := O5.out
    simp only [bvs_append, List.length_append]
    exact this
theorem run_mark {P : Program} (W : World) (t e : TypeId) (C : Array Value) (g n c : Nat) (ht : P.underlying t = some (.slice e)) (he : P.underlying e = some (.int .u8)) (hb : W.heap[g]? = some (.cells C e)) :
  (convert t t (.slice (some ⟨g, 0, none⟩) n c)).run P W = .ok (.slice (some ⟨g, 0, none⟩) n c) (W.freeze ⟨g, C.size, none⟩ 1) := by
 have hsh : W.shape? g = some (e, C.size) := by
  unfold World.shape?
  rw [hb]
 simp [convert, run_underlying ht, run_underlying he, markStringish, hsh]
theorem freeze_at {W : World} {g : Nat} {C : Array Value} {e : TypeId} (hb : W.heap[g]? = some (.cells C e)) (k : Nat) :
  (W.freeze ⟨g, k, none⟩ 1).heap[g]? = some (.cells C e (k, k + 1)) ∧ W.grownBy (W.freeze ⟨g, k, none⟩ 1) (some g) := by
 unfold World.freeze
 rw [if_neg (by decide)]
 refine ⟨?_, ⟨rfl, rfl, rfl, by simp, fun j hj hne => ?_⟩⟩
 ·show (W.heap.modify g _)[g]? = _
  rw [Array.getElem?_modify, if_pos rfl, hb]
  rfl
 ·show (W.heap.modify g _)[j]? = _
  rw [Array.getElem?_modify, if_neg (fun h => hne (by rw [h]))]
theorem row_markedB {w : World} {g n : Nat} {t : TypeId} {cs : List Value} {m : Nat × Nat} (h : w.heap[g]? = some (.cells cs.toArray t m)) (hn : cs.length = n) (hl : n ≤ 1048576) : Row w (.slice (some ⟨g, 0, none⟩) n n) cs := by
 subst hn
 have hlt : g < w.heap.size := (Array.getElem?_eq_some_iff.1 h).1
 refine ⟨_, _, rfl, Nat.le_refl _, by unfold maxLen; omega, (fun h => by cases h), fun _ => ⟨g, 0, rfl, hlt, fun i u hu => ?_⟩⟩
 rw [Nat.zero_add, cell_of_row _ _ i cs.toArray t m h]
 simpa using hu
section
variable {P : Program} {o : Oper} {a : Act} {w : World} {K : Act → World → Prop} {Q : Exit → Act → World → Prop}
theorem wp_mark (t e : TypeId) (x : Operand) (ho : o.op = .convert t t x) (ht : P.underlying t = some (.slice e)) (he : P.underlying e = some (.int .u8)) (g n c : Nat) (cs : List Value) (hx : a.eval x = .slice (some ⟨g, 0, none⟩) n c) (hb : Blk w g e cs)
  (hn : cs.length = n) (hl : n ≤ 1048576)
  (h : ∀ w', Row w' (.slice (some ⟨g, 0, none⟩) n n) cs → w.grownBy w' (some g) → K (a.put o.dst (.slice (some ⟨g, 0, none⟩) n c)) w') : o.wp P a w K Q := by
 have hb' : w.heap[g]? = some (.cells cs.toArray e) := hb
 have hrun := run_mark (P := P) w t e cs.toArray g n c ht he hb'
 have hf := freeze_at hb' cs.toArray.size
 unfold Oper.wp
 simp only [execOp, ho, hx, hrun, Sem.run_bind, Result.andThen_ok, Sem.run_pure]
 exact h _ (row_markedB hf.1 hn hl) hf.2
end
theorem blk_two (w : World) (x y : Nat) (hx : x < 256) (hy : y < 256) : Blk (w.alloc (.cells #[.int .u8 (x : Int), .int .u8 (y : Int)] 5)) w.heap.size 5 (bvs [UInt8.ofNat x, UInt8.ofNat y]) := by
 have := Blk.new w 5 (bvs [UInt8.ofNat x, UInt8.ofNat y])
 rw [show bvs [UInt8.ofNat x, UInt8.ofNat y] = [.int .u8 (x : Int), .int .u8 (y : Int)] by show [bv _, bv _] = _; rw [bv_ofNat hx, bv_ofNat hy]] at this ⊢
 exact this
theorem guard_setB : Tryz.prog.eqGuardType Tryz.prog.depth 26 = false := by kernel_rfl
theorem size_u64B : ∀ w, (sizeOf 24).run Tryz.prog w = .ok 1 w := by
 intro w
 have h : (Tryz.prog.info? 24).map (·.size) = some 1 := by kernel_rfl
 cases hi : Tryz.prog.info? 24 with
 | none => rw [hi] at h; cases h
 | some i =>
  rw [hi] at h
  have h' : i.size = 1 := by simpa using h
  simp [sizeOf, typeInfo, hi, h']
def aS : Nat → Bool := listS [97]
theorem a_good : good (bytesT aS) := good_bytes (can_list (by intro x hx; simp at hx; omega))
theorem a_nodes : (bytesT aS).nodes = 1 := by decide +kernel
theorem a_shape : bytesT aS = .node 3 aS [] := by
 unfold bytesT
 rw [if_neg (by decide +kernel)]
theorem a_step : stepT (bytesT aS) 97 = .node 2 zeroS [] := by
 rw [a_shape]
 unfold stepT
 have h : aS 97 = true := by decide +kernel
 show stepF 1 (.node 3 aS []) 97 = _
 rw [stepF]
 simp [T.kind, T.set, h, emptyT]
theorem a_first : firstT (bytesT aS) = aS := by
 rw [a_shape, firstT_node]
 rfl
theorem a_null : nullT (starT (bytesT aS)) = true := (null_iff _).2 ((lg_starT a_good []).2 .nil)
theorem a_one : Lg (bytesT aS) [97] := (lg_bytes _ _).2 ⟨97, rfl, by decide +kernel⟩
theorem a_in : lgB (starT (bytesT aS)) [UInt8.ofNat 97, UInt8.ofNat 97] = true :=
 lgB_iff.2 ((lg_starT a_good _).2 (.app (u := [97]) (v := [97]) a_one (.app (u := [97]) (v := []) a_one .nil)))
theorem a_out : lgB (bytesT aS) [UInt8.ofNat 97, UInt8.ofNat 97] = false :=
 lgB_of (by
  constructor
  ·intro h; cases h
  ·intro h
   obtain ⟨b, h1, _⟩ := (lg_bytes _ _).1 h
   cases h1)
theorem ex_kind {a : Act} {oi : Oper} (x : Operand) (ho : oi.op = .field 29 x 0) (k : Int) (l : List Value) (hx : a.eval x = .agg (.int .i64 k :: l).toArray) {S : World → Prop} :
  ∀ W, S W → (execOp a.eval oi).run Tryz.prog W = .ok (.value (.int .i64 k)) W := by
 intro W _
 simp [execOp, ho, hx, Instr.field, run_underlying Tryz.underlying29, asAgg, part, isAgg, run_underlying Tryz.underlying3]
theorem grown_mark {w0 w w' : World} {g : Nat} (h : w0.grownBy w none) (ha : w.grownBy w' (some g)) (hg : w0.heap.size ≤ g) : w0.grownBy w' none :=
 ⟨ha.os.trans h.os, ha.tape.trans h.tape, ha.output.trans h.output, Nat.le_trans h.size ha.size, fun k hk _ => (ha.block k (Nat.lt_of_lt_of_le hk h.size) (fun e => by have := Option.some.inj e; omega)).trans (h.block k hk (by simp))⟩
set_option maxHeartbeats 8000000 in
set_option maxRecDepth 1000000 in
theorem begun_any (w : World) : Calls Tryz.prog 6 #[] w fun e w' => e = .returned (.bool true) ∧ Below w.heap.size w w' := by
 obtain ⟨i0, hi0, hz0, hz1, hz2⟩ := inf_rx'
 obtain ⟨z, hz⟩ : ∃ z, z = rxc 0 zeroS (.slice none 0 0) := ⟨_, rfl⟩
 have HZL := qH (show z.length = 6 by rw [hz]; rfl)
 have HZ0 := qH (show i0.zero = some (.agg z.toArray) by rw [hz]; exact hz0)
 obtain ⟨q, hq⟩ : ∃ q, q = aS := ⟨_, rfl⟩
 have HQ := qH (show q = listS [97] from hq)
 have HG := qH (show good (bytesT q) by rw [hq]; exact a_good)
 have HN := qH (show (bytesT q).nodes = 1 by rw [hq]; exact a_nodes)
 have HSH := qH (show bytesT q = .node 3 q [] by rw [hq]; exact a_shape)
 have HST := qH (show stepT (bytesT q) 97 = .node 2 zeroS [] by rw [hq]; exact a_step)
 have HFI := qH (show firstT (bytesT q) = q by rw [hq]; exact a_first)
 have HNU := qH (show nullT (starT (bytesT q)) = true by rw [hq]; exact a_null)
 have HI1 := qH (show lgB (starT (bytesT q)) [UInt8.ofNat 97, UInt8.ofNat 97] = true by rw [hq]; exact a_in)
 have HI2 := qH (show lgB (bytesT q) [UInt8.ofNat 97, UInt8.ofNat 97] = false by rw [hq]; exact a_out)
 obtain ⟨tx, htx⟩ : ∃ t, t = bytesT q := ⟨_, rfl⟩
 rw [← htx] at HG HN HSH HST HFI HNU HI1 HI2
 have HTX := qH htx
 clear hz hz0 hq htx
 go_enter Tryz.func6, Tryz.ntmps6
 have kc := fun (w : World) (C : Array Value) (n c : Nat) => Lib.run_convert_bytes_const (P := Tryz.prog) w 22 5 C n c Tryz.underlying22 Tryz.underlying5
 go_wp2_with fail
 clear kc
 obtain ⟨w1, hw1⟩ : ∃ w1, w1 = w.alloc (.cells #[.int .u8 97] 5 (1, 2)) := ⟨_, rfl⟩
 have R1 := qH (show Row w1 (.slice (some ⟨w.heap.size, 0, none⟩) 1 1) (bvs [UInt8.ofNat 97]) from by rw [hw1]; exact row_markedB (heap_alloc_new w _) rfl (by omega))
 have B1 := qH (show Below w.heap.size w w1 by rw [hw1]; exact (Below.refl _ _).alloc (Nat.le_refl _) _)
 rw [← hw1]
 clear hw1
 refine (refOf1 97 (by omega) _ w1 R1.out q HQ.out).mono ?_
 rintro e w2 ⟨rfl, hb⟩
 have B2 := qH (B1.out.trans (hb.mono B1.out.size))
 clear hb
 go_wp2_with fail
 refine (refBytes_any q w2).mono ?_
 rintro e w3 ⟨cs, rfl, hcs, hb⟩
 have B3 := qH (B2.out.trans (hb.mono B2.out.size))
 rw [← HTX.out] at hcs
 have D3 := qH (hcs fun _ => False)
 have C6 := qH (hcs fun _ => False).length
 have C1 := qH (show cs.all (·.oneCell') = true from List.all_eq_true.2 (RxD.one (hcs fun _ => False)))
 clear hcs hb
 go_wp2_with (first
  | ((with_reducible refine atDst 1 ?_); refine wpList_new rfl 29 rfl i0 _ z hi0 HZ0.out rfl (Below.refl w3.heap.size w3) (Nat.le_refl _) ?_; intro w4 hk hb hs ho; have L4 := qH hk; have B4 := qH hb; clear hk hb hs ho; (try simp only [Act.put, qA, qB, qC]))
  | ((with_reducible refine atStore 29 1 5 ?_); refine wpList_stBlk rfl 29 _ _ rfl w3.heap.size cs rfl rfl 29 _ L4.out (size_rx C6.out) (by rw [HZL.out, C6.out]) C1.out B4.out (Nat.le_refl _) ?_; intro w5 hk hb hs ho; have L5 := qH hk; have B5 := qH (B3.out.trans (hb.mono B3.out.size)); clear hk hb hs ho; (try simp only [Act.put, qA, qB, qC])))
 refine sg_start (S := fun V => w5.grownBy V none) (by kernel_rfl) (grown_start _ _) (fun wd hwd => ?_)
 have hX : w5.grownBy wd none := by rw [hwd]; exact grown_start _ _
 clear hwd
 have HRC := qH (show w5.rangeAt w3.heap.size 0 cs from fun i v hv => (L5.out.cell (0 + i)).trans (by rw [Nat.zero_add]; exact hv))
 have HRQ := qH (show w5.rangeAt w3.heap.size 1 (wds q) from by
  have hD := D3.out
  rw [HSH.out] at hD
  obtain ⟨v, hcs, _⟩ := hD.row
  intro i u hu
  have h1 := L5.out.cell (1 + i)
  rw [h1, hcs, Nat.add_comm 1 i, List.getElem?_cons_succ, List.getElem?_append_left (List.getElem?_eq_some_iff.1 hu).1]
  exact hu)
 have HN2 := qH (show (starT tx).nodes ≤ 2000 by have h1 := star_nodes tx; have h2 := HN.out; omega)
 have HN3 := qH (show tx.nodes ≤ 2000 by have h2 := HN.out; omega)
 have HN4 := qH (show tx.nodes ≤ 400 by have h2 := HN.out; omega)
 have HSZ := qH (show w5.heap.size ≤ wd.heap.size from hX.size)
 refine sg_take (i := 0) (oi := ⟨some 6, _, _, _, _, _⟩) (v := .agg cs.toArray) rfl (by kernel_rfl) (by kernel_rfl) (by kernel_rfl) (fun _ _ _ h => h) rfl hX (fun W hW => ld_keep 29 _ rfl w3.heap.size 0 rfl _ _ HRC.out (hW.block _ L5.out.lt (by simp)) Tryz.underlying29 rfl (size_rx C6.out)) ?_; simp only [Act.put, qA, qB, qC]
 refine sg_two (i := 1) (j := 2) (oi := ⟨some 7, _, _, _, _, _⟩) (oj := ⟨some 8, _, _, _, _, _⟩) rfl rfl (by kernel_rfl) rfl rfl hX (fun K hK => ?_) (fun K hK => ?_)
 focus
  go_wp2_with fail
  refine (refStar_any tx cs wd (D := fun _ => False) (fun k hk => absurd hk id) (D3.out.stay fun k hk => absurd hk id) (by have := HN.out; omega) HG.out).mono ?_
  rintro e w6 ⟨es, rfl, hes, hb⟩
  go_wp2_with fail
  refine hK _ _ (grown_then hX hb) ?_
  clear hK K
  (try simp only [Act.put, qA, qB, qC])
  replace hX := grown_then hX hb
  have Xw6 := qH hb
  have Ew6 := qH hes
  clear hes hb
  refine sg_actB (i := 2) (o := ⟨some 8, _, _, _, _, _⟩) rfl (by kernel_rfl) rfl hX (fun K hK => ?_)
  go_wp2_with fail
  obtain ⟨w7, hw9⟩ : ∃ v, v = w6.alloc (.cells #[.int .u8 97, .int .u8 97] 5) := ⟨_, rfl⟩
  have Xw7 := qH (show Below w6.heap.size w6 w7 by rw [hw9]; exact (Below.refl _ _).alloc (Nat.le_refl _) _)
  have Yw7 := qH (show Blk w7 w6.heap.size 5 (bvs [UInt8.ofNat 97, UInt8.ofNat 97]) by rw [hw9]; exact blk_two w6 97 97 (by omega) (by omega))
  rw [← hw9]
  clear hw9
  refine hK _ _ (grown_then hX Xw7.out) ?_
  clear hK K
  (try simp only [Act.put, qA, qB, qC])
  replace hX := grown_then hX Xw7.out
  refine sg_actB (i := 3) (o := ⟨some 9, _, _, _, _, _⟩) rfl (by kernel_rfl) rfl hX (fun K hK => ?_)
  refine wp_mark 22 5 _ rfl Tryz.underlying22 Tryz.underlying5 w6.heap.size 2 2 (bvs [UInt8.ofNat 97, UInt8.ofNat 97]) rfl Yw7.out rfl (by omega) ?_
  intro w8 hr9 hg9
  refine hK _ _ (grown_mark hX hg9 (Nat.le_trans HSZ.out Xw6.out.size)) ?_
  clear hK K
  (try simp only [Act.put, qA, qB, qC])
  replace hX := grown_mark hX hg9 (Nat.le_trans HSZ.out Xw6.out.size)
  have Rw8 := qH hr9
  have Gw8 := qH hg9
  clear hr9 hg9
  have V8 := qH (show RxV w8.heap.size w8 es (starT tx) from RxD.mono (RxD.stay (RxD.stay Ew6.out fun k hk => Xw7.out.block k hk.2) fun k hk => Gw8.out.block k (Nat.lt_of_lt_of_le hk.2 Xw7.out.size) (fun e => by have := Option.some.inj e; have := hk.2; omega)) fun k hk => Nat.lt_of_lt_of_le hk.2 (Nat.le_trans Xw7.out.size Gw8.out.size))
  clear Ew6
 rotate_left
 focus
  go_wp2_with fail
  obtain ⟨w7, hw9⟩ : ∃ v, v = wd.alloc (.cells #[.int .u8 97, .int .u8 97] 5) := ⟨_, rfl⟩
  have Xw7 := qH (show Below wd.heap.size wd w7 by rw [hw9]; exact (Below.refl _ _).alloc (Nat.le_refl _) _)
  have Yw7 := qH (show Blk w7 wd.heap.size 5 (bvs [UInt8.ofNat 97, UInt8.ofNat 97]) by rw [hw9]; exact blk_two wd 97 97 (by omega) (by omega))
  rw [← hw9]
  clear hw9
  refine hK _ _ (grown_then hX Xw7.out) ?_
  clear hK K
  (try simp only [Act.put, qA, qB, qC])
  replace hX := grown_then hX Xw7.out
  refine sg_two (i := 1) (j := 3) (oi := ⟨some 7, _, _, _, _, _⟩) (oj := ⟨some 9, _, _, _, _, _⟩) rfl rfl (by kernel_rfl) rfl rfl hX (fun K hK => ?_) (fun K hK => ?_)
  focus
   go_wp2_with fail
   refine (refStar_any tx cs w7 (D := fun _ => False) (fun k hk => absurd hk id) (D3.out.stay fun k hk => absurd hk id) (by have := HN.out; omega) HG.out).mono ?_
   rintro e w6 ⟨es, rfl, hes, hb⟩
   go_wp2_with fail
   refine hK _ _ (grown_then hX hb) ?_
   clear hK K
   (try simp only [Act.put, qA, qB, qC])
   replace hX := grown_then hX hb
   have Xw6 := qH hb
   have Ew6 := qH hes
   clear hes hb
   refine sg_actB (i := 3) (o := ⟨some 9, _, _, _, _, _⟩) rfl (by kernel_rfl) rfl hX (fun K hK => ?_)
   refine wp_mark 22 5 _ rfl Tryz.underlying22 Tryz.underlying5 wd.heap.size 2 2 (bvs [UInt8.ofNat 97, UInt8.ofNat 97]) rfl (Yw7.out.below Xw6.out Yw7.out.lt) rfl (by omega) ?_
   intro w8 hr9 hg9
   refine hK _ _ (grown_mark hX hg9 HSZ.out) ?_
   clear hK K
   (try simp only [Act.put, qA, qB, qC])
   replace hX := grown_mark hX hg9 HSZ.out
   have Rw8 := qH hr9
   have Gw8 := qH hg9
   clear hr9 hg9
   have V8 := qH (show RxV w8.heap.size w8 es (starT tx) from RxD.mono (RxD.stay Ew6.out fun k hk => Gw8.out.block k hk.2 (fun e => by have := Option.some.inj e; have := hk.1; have := Yw7.out.lt; omega)) fun k hk => Nat.lt_of_lt_of_le hk.2 Gw8.out.size)
   clear Ew6
  rotate_left
  focus
   refine wp_mark 22 5 _ rfl Tryz.underlying22 Tryz.underlying5 wd.heap.size 2 2 (bvs [UInt8.ofNat 97, UInt8.ofNat 97]) rfl Yw7.out rfl (by omega) ?_
   intro w6 hr9 hg9
   refine hK _ _ (grown_mark hX hg9 HSZ.out) ?_
   clear hK K
   (try simp only [Act.put, qA, qB, qC])
   replace hX := grown_mark hX hg9 HSZ.out
   have Rw6 := qH hr9
   have Gw6 := qH hg9
   clear hr9 hg9
   refine sg_actB (i := 1) (o := ⟨some 7, _, _, _, _, _⟩) rfl (by kernel_rfl) rfl hX (fun K hK => ?_)
   go_wp2_with fail
   refine (refStar_any tx cs w6 (D := fun _ => False) (fun k hk => absurd hk id) (D3.out.stay fun k hk => absurd hk id) (by have := HN.out; omega) HG.out).mono ?_
   rintro e w8 ⟨es, rfl, hes, hb⟩
   go_wp2_with fail
   refine hK _ _ (grown_then hX hb) ?_
   clear hK K
   (try simp only [Act.put, qA, qB, qC])
   replace hX := grown_then hX hb
   have Xw8 := qH hb
   have Ew8 := qH hes
   clear hes hb
   have V8 := qH (show RxV w8.heap.size w8 es (starT tx) from RxD.mono Ew8.out fun k hk => hk.2)
   have Rw8 := qH (Rw6.out.below Xw8.out)
   clear Ew8
 all_goals
  refine sg_actB (i := 4) (o := ⟨some 10, _, _, _, _, _⟩) rfl (by kernel_rfl) rfl hX (fun K hK => ?_)
  go_wp2_with fail
  refine (lIn_any (starT tx) HN2.out [UInt8.ofNat 97, UInt8.ofNat 97] (by decide) _ es w8 Rw8.out V8.out).mono ?_
  rintro e w9 ⟨rfl, hb⟩
  rw [HI1.out]
  go_wp2_with fail
  refine hK _ _ (grown_then hX hb) ?_
  clear hK K
  (try simp only [Act.put, qA, qB, qC])
  replace hX := grown_then hX hb
  have Xw9 := qH hb
  clear hb
  have HS9 := qH (show w5.heap.size ≤ w9.heap.size from hX.size)
  refine sg_take (i := 5) (oi := ⟨some 11, _, _, _, _, _⟩) (v := ?_) rfl (by kernel_rfl) (by kernel_rfl) (by kernel_rfl) (fun _ _ _ h => h) rfl hX ?_ ?_; rotate_left; (intro W hW; go_simp; try with_reducible rfl); simp only [Act.put, qA, qB, qC]
  refine sg_take (i := 6) (oi := ⟨some 12, _, _, _, _, _⟩) (v := .agg cs.toArray) rfl (by kernel_rfl) (by kernel_rfl) (by kernel_rfl) (fun _ _ _ h => h) rfl hX (fun W hW => ld_keep 29 _ rfl w3.heap.size 0 rfl _ _ HRC.out (hW.block _ L5.out.lt (by simp)) Tryz.underlying29 rfl (size_rx C6.out)) ?_; simp only [Act.put, qA, qB, qC]
  refine sg_actB (i := 7) (o := ⟨some 13, _, _, _, _, _⟩) rfl (by kernel_rfl) rfl hX (fun K hK => ?_)
  go_wp2_with fail
  obtain ⟨wA, hw9⟩ : ∃ v, v = w9.alloc (.cells #[.int .u8 97, .int .u8 97] 5) := ⟨_, rfl⟩
  have XwA := qH (show Below w9.heap.size w9 wA by rw [hw9]; exact (Below.refl _ _).alloc (Nat.le_refl _) _)
  have YwA := qH (show Blk wA w9.heap.size 5 (bvs [UInt8.ofNat 97, UInt8.ofNat 97]) by rw [hw9]; exact blk_two w9 97 97 (by omega) (by omega))
  rw [← hw9]
  clear hw9
  refine hK _ _ (grown_then hX XwA.out) ?_
  clear hK K
  (try simp only [Act.put, qA, qB, qC])
  replace hX := grown_then hX XwA.out
  refine sg_actB (i := 8) (o := ⟨some 14, _, _, _, _, _⟩) rfl (by kernel_rfl) rfl hX (fun K hK => ?_)
  refine wp_mark 22 5 _ rfl Tryz.underlying22 Tryz.underlying5 w9.heap.size 2 2 (bvs [UInt8.ofNat 97, UInt8.ofNat 97]) rfl YwA.out rfl (by omega) ?_
  intro wB hr9 hg9
  refine hK _ _ (grown_mark hX hg9 HS9.out) ?_
  clear hK K
  (try simp only [Act.put, qA, qB, qC])
  replace hX := grown_mark hX hg9 HS9.out
  have RwB := qH hr9
  have GwB := qH hg9
  clear hr9 hg9
  refine sg_actB (i := 9) (o := ⟨some 15, _, _, _, _, _⟩) rfl (by kernel_rfl) rfl hX (fun K hK => ?_)
  go_wp2_with fail
  refine (lIn_any tx HN3.out [UInt8.ofNat 97, UInt8.ofNat 97] (by decide) _ cs wB RwB.out (RxD.mono (D3.out.stay fun k hk => absurd hk id) fun k hk => absurd hk id)).mono ?_
  rintro e wC ⟨rfl, hb⟩
  rw [HI2.out]
  go_wp2_with fail
  refine hK _ _ (grown_then hX hb) ?_
  clear hK K
  (try simp only [Act.put, qA, qB, qC])
  replace hX := grown_then hX hb
  have XwC := qH hb
  clear hb
  clear V8
  refine sg_take (i := 10) (oi := ⟨some 16, _, _, _, _, _⟩) (v := ?_) rfl (by kernel_rfl) (by kernel_rfl) (by kernel_rfl) (fun _ _ _ h => h) rfl hX ?_ ?_; rotate_left; (intro W hW; go_simp; try with_reducible rfl); simp only [Act.put, qA, qB, qC]
  refine sg_take (i := 11) (oi := ⟨some 17, _, _, _, _, _⟩) (v := ?_) rfl (by kernel_rfl) (by kernel_rfl) (by kernel_rfl) (fun _ _ _ h => h) rfl hX ?_ ?_; rotate_left; (intro W hW; go_simp; try with_reducible rfl); simp only [Act.put, qA, qB, qC]
  refine sg_take (i := 12) (oi := ⟨some 18, _, _, _, _, _⟩) (v := ?_) rfl (by kernel_rfl) (by kernel_rfl) (by kernel_rfl) (fun _ _ _ h => h) rfl hX ?_ ?_; rotate_left; (intro W hW; go_simp; try with_reducible rfl); simp only [Act.put, qA, qB, qC]
  refine sg_take (i := 13) (oi := ⟨some 19, _, _, _, _, _⟩) (v := .agg cs.toArray) rfl (by kernel_rfl) (by kernel_rfl) (by kernel_rfl) (fun _ _ _ h => h) rfl hX (fun W hW => ld_keep 29 _ rfl w3.heap.size 0 rfl _ _ HRC.out (hW.block _ L5.out.lt (by simp)) Tryz.underlying29 rfl (size_rx C6.out)) ?_; simp only [Act.put, qA, qB, qC]
  refine sg_actB (i := 14) (o := ⟨some 20, _, _, _, _, _⟩) rfl (by kernel_rfl) rfl hX (fun K hK => ?_)
  go_wp2_with fail
  refine (refStar_any tx cs wC (D := fun _ => False) (fun k hk => absurd hk id) (D3.out.stay fun k hk => absurd hk id) (by have := HN.out; omega) HG.out).mono ?_
  rintro e wD ⟨es, rfl, hes, hb⟩
  go_wp2_with fail
  refine hK _ _ (grown_then hX hb) ?_
  clear hK K
  (try simp only [Act.put, qA, qB, qC])
  replace hX := grown_then hX hb
  have XwD := qH hb
  have EwD := qH hes
  clear hes hb
  refine sg_actB (i := 15) (o := ⟨some 21, _, _, _, _, _⟩) rfl (by kernel_rfl) rfl hX (fun K hK => ?_)
  go_wp2_with fail
  refine (lNull_any (starT tx) _ wD (RxD.mono EwD.out fun k hk => hk.2)).mono ?_
  rintro e wE ⟨rfl, hb⟩
  rw [HNU.out]
  go_wp2_with fail
  refine hK _ _ (grown_then hX hb) ?_
  clear hK K
  (try simp only [Act.put, qA, qB, qC])
  replace hX := grown_then hX hb
  have XwE := qH hb
  clear hb
  refine sg_take (i := 16) (oi := ⟨some 22, _, _, _, _, _⟩) (v := ?_) rfl (by kernel_rfl) (by kernel_rfl) (by kernel_rfl) (fun _ _ _ h => h) rfl hX ?_ ?_; rotate_left; (intro W hW; go_simp; try with_reducible rfl); simp only [Act.put, qA, qB, qC]
  refine sg_take (i := 17) (oi := ⟨some 23, _, _, _, _, _⟩) (v := ?_) rfl (by kernel_rfl) (by kernel_rfl) (by kernel_rfl) (fun _ _ _ h => h) rfl hX ?_ ?_; rotate_left; (intro W hW; go_simp; try with_reducible rfl); simp only [Act.put, qA, qB, qC]
  refine sg_take (i := 18) (oi := ⟨some 24, _, _, _, _, _⟩) (v := .agg cs.toArray) rfl (by kernel_rfl) (by kernel_rfl) (by kernel_rfl) (fun _ _ _ h => h) rfl hX (fun W hW => ld_keep 29 _ rfl w3.heap.size 0 rfl _ _ HRC.out (hW.block _ L5.out.lt (by simp)) Tryz.underlying29 rfl (size_rx C6.out)) ?_; simp only [Act.put, qA, qB, qC]
  refine sg_actB (i := 19) (o := ⟨some 25, _, _, _, _, _⟩) rfl (by kernel_rfl) rfl hX (fun K hK => ?_)
  go_wp2_with fail
  have hst := lStep_any tx HN4.out HG.out (97 : UInt8) cs wE (RxD.mono (D3.out.stay fun k hk => absurd hk id) fun k hk => absurd hk id)
  rw [show bv (97 : UInt8) = Value.int .u8 97 from rfl, show (97 : UInt8).toNat = 97 from rfl, HST.out] at hst
  refine hst.mono ?_
  clear hst
  rintro e wF ⟨ds, rfl, hds, hb⟩
  obtain ⟨vd, rfl, _⟩ := hds.row
  clear hds
  go_wp2_with fail
  refine hK _ _ (grown_then hX hb) ?_
  clear hK K
  (try simp only [Act.put, qA, qB, qC])
  replace hX := grown_then hX hb
  have XwF := qH hb
  clear hb
  refine sg_take (i := 20) (oi := ⟨some 26, _, _, _, _, _⟩) (v := .int .i64 2) rfl (by kernel_rfl) (by kernel_rfl) (by kernel_rfl) (fun _ _ _ h => h) rfl hX (ex_kind (.tmp 25) rfl 2 _ rfl) ?_; simp only [Act.put, qA, qB, qC]
  refine sg_take (i := 21) (oi := ⟨some 27, _, _, _, _, _⟩) (v := ?_) rfl (by kernel_rfl) (by kernel_rfl) (by kernel_rfl) (fun _ _ _ h => h) rfl hX ?_ ?_; rotate_left; (intro W hW; go_simp; try with_reducible rfl); simp only [Act.put, qA, qB, qC]
  refine sg_take (i := 22) (oi := ⟨some 28, _, _, _, _, _⟩) (v := ?_) rfl (by kernel_rfl) (by kernel_rfl) (by kernel_rfl) (fun _ _ _ h => h) rfl hX ?_ ?_; rotate_left; (intro W hW; go_simp; try with_reducible rfl); simp only [Act.put, qA, qB, qC]
  refine sg_take (i := 23) (oi := ⟨some 29, _, _, _, _, _⟩) (v := ?_) rfl (by kernel_rfl) (by kernel_rfl) (by kernel_rfl) (fun _ _ _ h => h) rfl hX ?_ ?_; rotate_left; (intro W hW; go_simp; try with_reducible rfl); simp only [Act.put, qA, qB, qC]
  refine sg_take (i := 24) (oi := ⟨some 30, _, _, _, _, _⟩) (v := .agg cs.toArray) rfl (by kernel_rfl) (by kernel_rfl) (by kernel_rfl) (fun _ _ _ h => h) rfl hX (fun W hW => ld_keep 29 _ rfl w3.heap.size 0 rfl _ _ HRC.out (hW.block _ L5.out.lt (by simp)) Tryz.underlying29 rfl (size_rx C6.out)) ?_; simp only [Act.put, qA, qB, qC]
  refine sg_take (i := 26) (oi := ⟨some 32, _, _, _, _, _⟩) (v := ?_) rfl (by kernel_rfl) (by kernel_rfl) (by kernel_rfl) (fun _ _ _ h => h) rfl hX ?_ ?_; rotate_left; (intro W hW; go_simp; try with_reducible rfl); simp only [Act.put, qA, qB, qC]
  refine sg_take (i := 27) (oi := ⟨some 33, _, _, _, _, _⟩) (v := .agg (wds q).toArray) rfl (by kernel_rfl) (by kernel_rfl) (by kernel_rfl) (fun _ _ _ h => h) rfl hX (fun W hW => ld_keep 26 _ rfl w3.heap.size 1 rfl _ _ HRQ.out (hW.block _ L5.out.lt (by simp)) Tryz.underlying26 rfl (size_set q)) ?_; simp only [Act.put, qA, qB, qC]
  refine sg_actB (i := 25) (o := ⟨some 31, _, _, _, _, _⟩) rfl (by kernel_rfl) rfl hX (fun K hK => ?_)
  go_wp2_with fail
  refine (lFirst_any tx HN3.out cs wF (RxD.mono (D3.out.stay fun k hk => absurd hk id) fun k hk => absurd hk id)).mono ?_
  rintro e wG ⟨rfl, hb⟩
  rw [HFI.out]
  go_wp2_with fail
  refine hK _ _ (grown_then hX hb) ?_
  clear hK K
  (try simp only [Act.put, qA, qB, qC])
  replace hX := grown_then hX hb
  have XwG := qH hb
  clear hb
  refine sg_take (i := 28) (oi := ⟨some 34, _, _, _, _, _⟩) (v := .bool true) rfl (by kernel_rfl) (by kernel_rfl) (by kernel_rfl) (fun _ _ _ h => h) rfl hX (eq_is (eqS_self _) 26 24 (.tmp 31) (.tmp 33) 26 rfl guard_setB Tryz.underlying26 Tryz.underlying24 size_u64B rfl rfl) ?_; simp only [Act.put, qA, qB, qC]
  refine sg_take (i := 29) (oi := ⟨some 35, _, _, _, _, _⟩) (v := ?_) rfl (by kernel_rfl) (by kernel_rfl) (by kernel_rfl) (fun _ _ _ h => h) rfl hX ?_ ?_; rotate_left; (intro W hW; go_simp; try with_reducible rfl); simp only [Act.put, qA, qB, qC]
  refine sg_take (i := 30) (oi := ⟨some 0, _, _, _, _, _⟩) (v := ?_) rfl (by kernel_rfl) (by kernel_rfl) (by kernel_rfl) (fun _ _ _ h => h) rfl hX ?_ ?_; rotate_left; (intro W hW; go_simp; try with_reducible rfl); simp only [Act.put, qA, qB, qC]
  refine wpAnyH_done (by kernel_rfl) ?_ _
  have BZ := qH (B5.out.trans (Below.mono (show Below w5.heap.size w5 wG from ⟨hX.os, hX.tape, hX.output, hX.size, fun k hk => hX.block k hk (by simp)⟩) B5.out.size))
  clear hX
  go_wp2_with fail
  go_ret
  exact ⟨rfl, BZ.out⟩
end Go.Proofs.YtopnpdobcagcgaaGreat
