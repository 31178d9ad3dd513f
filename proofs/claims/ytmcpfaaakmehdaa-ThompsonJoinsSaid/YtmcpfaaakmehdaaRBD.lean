/-
  Texts of this proof, put together: PyG, LwYa, SpC. No statement is proved here.
-/
import Derived.Test.YtmcpfaaakmehdaaRBC
import Derived.Test.YtmcpfaaakmehdaaRN
import Derived.Test.YtmcpfaaakmehdaaRE
import Derived.Test.YtmcpfaaakmehdaaRO
namespace Go.Proofs.Ytmcpfaaakmehdaa
open Go.RowKit
set_option linter.unusedSimpArgs false
set_option linter.unusedVariables false
def madeT (ps : List UInt8) : T := (rxP ps 10 0 0).1
theorem madeT_good (ps : List UInt8) : good (madeT ps) := rxP_good ps 10 0 0
theorem built_picks (A : Option Addr) (n c : Nat) : Try.prog.built 74 [(0, .slice A n c)] = some #[.slice A n c, .int .i64 0] := by kernel_rfl
set_option maxHeartbeats 4000000 in
set_option maxRecDepth 1000000 in
theorem made_any (V : Value) (ps : List UInt8) (w : World) (hr : Row w V (bvs ps)) (hl : ps.length ≤ 1048576) :
  Calls Try.prog 20 #[V] w fun e w' => e = .returned (.pointer (some ⟨w.heap.size, 0, none⟩)) ∧ Below w.heap.size w w' ∧ Pk w' w.heap.size V ps 0 := by
 have R := qH hr
 obtain ⟨A, cap, rfl, _⟩ := hr
 obtain ⟨n, hn⟩ : ∃ n, n = (bvs ps).length := ⟨_, rfl⟩
 rw [← hn] at R ⊢
 obtain ⟨cs, hcs⟩ : ∃ cs, cs = [Value.slice A n cap, .int .i64 0] := ⟨_, rfl⟩
 have HB := qH (show Try.prog.built 74 [(0, .slice A n cap)] = some cs.toArray by rw [hcs]; exact built_picks A n cap)
 have HC := qH hcs
 clear hn hcs
 go_enter Try.func20, Try.ntmps20
 go_wp2_with (first
  | ((with_reducible refine atDst 4 ?_); refine wpList_bld rfl 74 _ rfl cs HB.out ?_; (try simp only [Act.put, qA, qB, qC]))
  | ((with_reducible refine atDst 5 ?_); refine wpList_box rfl 74 _ rfl cs rfl (Below.refl w.heap.size w) (Nat.le_refl _) ?_; intro w1 hk1 hb1 hs1 _; have K1 := qH hk1; have B1 := qH hb1; clear hk1 hb1 hs1; (try simp only [Act.put, qA, qB, qC])))
 go_ret
 have hk := K1.out
 rw [HC.out] at hk
 exact ⟨rfl, B1.out, ⟨hk, R.out.toB.below B1.out, Nat.zero_le _, hl⟩⟩
set_option maxHeartbeats 4000000 in
set_option maxRecDepth 1000000 in
theorem pickRx_any (g : Nat) (V : Value) (ps : List UInt8) (w : World) (h : Pk w g V ps 0) :
  Calls Try.prog 21 #[.pointer (some ⟨g, 0, none⟩)] w fun e w' => ∃ ds, e = .returned (.agg ds.toArray) ∧ RxD (fun k => w.heap.size ≤ k ∧ k < w'.heap.size) w' ds (madeT ps) ∧ w.grownBy w' (some g) := by
 have HPK := qH h
 have HNE := qH (show some w.heap.size ≠ some g from fun he => by have h1 := Option.some.inj he; have h2 := h.blk.lt; omega)
 obtain ⟨i0, hi0, hz0, hz1, hz2⟩ := inf_rx'
 obtain ⟨z, hz⟩ : ∃ z, z = rxc 0 zeroS (.slice none 0 0) := ⟨_, rfl⟩
 have HZL := qH (show z.length = 6 by rw [hz]; rfl)
 have HZ0 := qH (show i0.zero = some (.agg z.toArray) by rw [hz]; exact hz0)
 clear hz hz0 h
 go_enter Try.func21, Try.ntmps21
 go_wp2_with ((with_reducible refine atDst 2 ?_); refine wpList_new rfl 40 rfl i0 _ z hi0 HZ0.out rfl (Below.refl w.heap.size w) (Nat.le_refl _) ?_; intro w1 hk1 hb1 hs1 _; have K1 := qH hk1; have G1 := qH (below_grownG g hb1); have P1 := qH (HPK.out.below hb1); clear hk1 hb1 hs1; (try simp only [Act.put, qA, qB, qC]))
 refine (rx_any g V ps 10 0 0 w1 (by omega) (by omega) P1.out).mono ?_
 rintro e w2 ⟨es, rfl, hes, hg, hp⟩
 have E10 := qH hes
 have E6 := qH hes.length
 have E1 := qH (show es.all (·.oneCell') = true from List.all_eq_true.2 (RxD.one hes))
 have GX := qH (grownG_trans G1.out hg)
 have KX := qH (K1.out.grown hg HNE.out)
 have SX := qH (show w.heap.size < w1.heap.size from K1.out.lt)
 clear hes hg hp
 go_wp2_with ((with_reducible refine atStore 40 2 4 ?_); refine wpList_stBlk rfl 40 _ _ rfl w.heap.size es rfl rfl 40 _ KX.out (size_rx E6.out) (by rw [HZL.out, E6.out]) E1.out (Below.refl w.heap.size w2) (Nat.le_refl _) ?_; intro w11 hk hb hs ho; have K11 := qH hk; have G11 := qH (grownG_below GX.out hb); have E11 := qH (RxD.mono (E10.out.stay (w' := w11) fun k hk => ho k (by have h1 := hk.1; have h2 := SX.out; omega)) (D' := fun k => w.heap.size ≤ k ∧ k < w11.heap.size) fun k hk => ⟨by have h1 := hk.1; have h2 := SX.out; omega, by have h1 := hk.2; omega⟩); clear hk hb hs ho; (try simp only [Act.put, qA, qB, qC]))
 refine bodyPost_ret (results_blk rfl _ _ w.heap.size 40 _ _ rfl K11.out Try.underlying40 rfl (size_rx E6.out)) rfl ?_
 exact ⟨es, rfl, E11.out, G11.out⟩
theorem setP_few (ps : List UInt8) (n : Nat) : n ≤ (setP ps n).2 ∧ (n ≤ ps.length → (setP ps n).2 ≤ ps.length) := by
 have hge := fun k => numN_ge ps k
 have hle := fun (k : Nat) (h : k ≤ ps.length) => numN_le h
 have a := hge n
 have b := hge (numN ps n)
 have c := hge (numN ps (numN ps n))
 have d := hge (numN ps (numN ps (numN ps n)))
 unfold setP
 by_cases c0 : numV ps n 8 = 0
 ·rw [if_pos c0]; exact ⟨a, fun h => hle n h⟩
 rw [if_neg c0]
 by_cases c1 : numV ps n 8 = 1
 ·rw [if_pos c1]; exact ⟨by show n ≤ numN ps (numN ps (numN ps n)); omega, fun h => hle _ (hle _ (hle _ h))⟩
 rw [if_neg c1]
 by_cases c2 : numV ps n 8 = 2
 ·rw [if_pos c2]; exact ⟨by show n ≤ numN ps (numN ps n); omega, fun h => hle _ (hle _ h)⟩
 rw [if_neg c2]
 by_cases c3 : numV ps n 8 = 3
 ·rw [if_pos c3]; exact ⟨by show n ≤ numN ps (numN ps (numN ps (numN ps n))); omega, fun h => hle _ (hle _ (hle _ (hle _ h)))⟩
 rw [if_neg c3]
 by_cases c4 : numV ps n 8 = 4
 ·rw [if_pos c4]; exact ⟨a, fun h => hle n h⟩
 rw [if_neg c4]
 exact ⟨by show n ≤ numN ps (numN ps n); omega, fun h => hle _ (hle _ h)⟩
theorem bytes_nodes (s : Nat → Bool) : (bytesT s).nodes = 1 := by
 unfold bytesT
 split <;> rfl
theorem rxP_few (ps : List UInt8) : ∀ N deep n, n ≤ ps.length → (rxP ps N deep n).1.nodes + 4 * n ≤ 4 * (rxP ps N deep n).2 + 1 ∧ n ≤ (rxP ps N deep n).2 ∧ (rxP ps N deep n).2 ≤ ps.length
 | 0, _, n, h => ⟨by show 1 + 4 * n ≤ 4 * n + 1; omega, Nat.le_refl _, h⟩
 | N + 1, deep, n, h => by
  have hn1 := numN_le h
  have hge := numN_ge ps n
  obtain ⟨n1, e1⟩ : ∃ x, x = numN ps n := ⟨_, rfl⟩
  have hstep : ps.length ≤ n1 ∨ n1 = n + 1 := by
   rw [e1]
   unfold numN
   by_cases hx : ps.length ≤ n
   ·rw [if_pos hx]; exact .inl hx
   ·rw [if_neg hx]; exact .inr rfl
  rw [← e1] at hn1 hge
  have ih1 := rxP_few ps N (deep + 1) n1 hn1
  obtain ⟨tx, ex⟩ : ∃ x, x = (rxP ps N (deep + 1) n1).1 := ⟨_, rfl⟩
  obtain ⟨n2, e2⟩ : ∃ x, x = (rxP ps N (deep + 1) n1).2 := ⟨_, rfl⟩
  rw [← ex, ← e2] at ih1
  have ih2 := rxP_few ps N (deep + 1) n2 ih1.2.2
  obtain ⟨ty, ey⟩ : ∃ x, x = (rxP ps N (deep + 1) n2).1 := ⟨_, rfl⟩
  obtain ⟨n3, e3⟩ : ∃ x, x = (rxP ps N (deep + 1) n2).2 := ⟨_, rfl⟩
  rw [← ey, ← e3] at ih2
  have hs := setP_few ps n1
  have hb := bytes_nodes (setP ps n1).1
  have hc := catT_nodes [tx, ty]
  have ha := altT_nodes [tx, ty]
  have hst := star_nodes tx
  have hm1 := numN_ge ps n1
  have hm2 := numN_le hn1
  simp only [nodesL] at hc ha
  simp only [rxP]
  rw [← e1, ← ex, ← e2, ← ey, ← e3]
  by_cases hl : ps.length ≤ n1 ∨ 8 < deep ∨ numV ps n 9 < 3
  ·rw [if_pos hl]
   by_cases hl2 : ps.length ≤ n1 ∨ 0 < numV ps n 9
   ·rw [if_pos hl2]
    exact ⟨by show (bytesT (setP ps n1).1).nodes + 4 * n ≤ 4 * (setP ps n1).2 + 1; omega, by show n ≤ (setP ps n1).2; omega, hs.2 hn1⟩
   ·rw [if_neg hl2]
    split
    ·exact ⟨by show 1 + 4 * n ≤ 4 * numN ps n1 + 1; omega, by show n ≤ numN ps n1; omega, hm2⟩
    ·exact ⟨by show 1 + 4 * n ≤ 4 * numN ps n1 + 1; omega, by show n ≤ numN ps n1; omega, hm2⟩
  ·rw [if_neg hl]
   have hno : ¬ ps.length ≤ n1 := fun hq => hl (.inl hq)
   have hn : n1 = n + 1 := hstep.resolve_left hno
   split
   ·exact ⟨by show (catT [tx, ty]).nodes + 4 * n ≤ 4 * n3 + 1; omega, by show n ≤ n3; omega, ih2.2.2⟩
   ·split
    ·exact ⟨by show (altT [tx, ty]).nodes + 4 * n ≤ 4 * n3 + 1; omega, by show n ≤ n3; omega, ih2.2.2⟩
    ·exact ⟨by show (starT tx).nodes + 4 * n ≤ 4 * n2 + 1; omega, by show n ≤ n2; omega, ih1.2.2⟩
theorem madeT_few (ps : List UInt8) : (madeT ps).nodes ≤ 4 * ps.length + 1 := by
 have h1 := rxP_few ps 10 0 0 (Nat.zero_le _)
 have h3 : (madeT ps).nodes = (rxP ps 10 0 0).1.nodes := rfl
 omega
/-! ### words -/
theorem ownG {w w' : World} {g base : Nat} {e : TypeId} {v : Value} {n : Nat} {xs : List Value} (h : w.ownsRow base e 1 v n xs) (hg : w.grownBy w' (some g)) (hlt : g < base) : w'.ownsRow base e 1 v n xs := by
 refine ⟨h.1, ?_⟩
 rcases h.2 with h0 | ⟨k, cap, cur, rfl, hb2, hk, h3⟩
 ·exact .inl h0
 ·exact .inr ⟨k, cap, cur, rfl, hb2, (hg.block k (Array.getElem?_eq_some_iff.1 hk).1 (fun he => by have := Option.some.inj he; omega)).trans hk, h3⟩
theorem grown_app {w0 w w' : World} {g base : Nat} {row : Option Nat} (h : w0.grownBy w (some g)) (ha : w.grownBy w' row) (hb : w0.heap.size ≤ base) (hr : ∀ k, row = some k → base ≤ k) : w0.grownBy w' (some g) :=
 ⟨ha.os.trans h.os, ha.tape.trans h.tape, ha.output.trans h.output, Nat.le_trans h.size ha.size, fun k hk hne => (ha.block k (by have := h.size; omega) (fun he => by have := hr k he.symm; omega)).trans (h.block k hk hne)⟩
theorem Pk.app {w w' : World} {g base : Nat} {V : Value} {ps : List UInt8} {n : Nat} {row : Option Nat} (h : Pk w g V ps n) (ha : w.grownBy w' row) (hg : g < base) (hr : ∀ k, row = some k → base ≤ k) : Pk w' g V ps n :=
 ⟨(ha.block g h.blk.lt (fun he => by have := hr g he.symm; omega)).trans h.blk, h.row.below ⟨ha.os, ha.tape, ha.output, ha.size, fun k hk => ha.block k (by have := h.blk.lt; omega) (fun he => by have := hr k he.symm; omega)⟩, h.le, h.few⟩
theorem one_byte (w : World) (x : Nat) (hx : x < 256) : Row (w.alloc (.cells #[.int .u8 (x : Int)] 5)) (.slice (some ⟨w.heap.size, 0, none⟩) 1 1) (bvs [UInt8.ofNat x]) :=
 rowB (n := 1) (by
  have := Blk.new w 5 (bvs [UInt8.ofNat x])
  rw [show bvs [UInt8.ofNat x] = [.int .u8 (x : Int)] from congrArg (fun x => [x]) (bv_ofNat hx)] at this ⊢
  exact this) rfl (by omega)
theorem wrap_j {j : Nat} (h : j ≤ 200) : wrap64 (j : Int) = (j : Int) := IntWalk.wrap64_in _ (by omega)
theorem meas_lt {j : Nat} (h : wrap64 (j : Int) = (j : Int)) : (intOf (.int .i64 (wrap64 (j : Int)))).toNat < (intOf (.int .i64 ((j + 1 : Nat) : Int))).toNat := by
 rw [h]
 simp only [intOf]
 omega
theorem few_mul {n : Nat} (h : n ≤ 201) : n * 1 ≤ 140737488355328 := by omega
theorem few_sum {j n x0 most : Nat} {b : UInt8} (h : j + 1 + n = x0) (h1 : x0 ≤ most) (h2 : most ≤ 200) : n + (bvs [b]).length ≤ 201 := by
 rw [bvs_length]
 show n + 1 ≤ 201
 omega
theorem few_len {n : Nat} (h : n ≤ 201) : n ≤ maxLen := by unfold maxLen; omega
theorem add_one_left (j n : Nat) : j + (n + 1) = j + 1 + n := by omega
set_option maxHeartbeats 8000000 in
set_option maxRecDepth 1000000 in
theorem pickWord_any (g : Nat) (V : Value) (ps : List UInt8) (n most : Nat) (hmo : most ≤ 200) (w : World) (h : Pk w g V ps n) :
  Calls Try.prog 22 #[.pointer (some ⟨g, 0, none⟩), .int .i64 (most : Int)] w fun e w' => ∃ (v : Value) (W : List UInt8), e = .returned v ∧ Row w' v (bvs W) ∧ W.length ≤ most ∧ w.grownBy w' (some g) := by
 have HPK := qH h
 have HMO := qH hmo
 obtain ⟨i1, hi1, hy0, hy1, hy2⟩ := infoP inf_u8
 obtain ⟨x0, hx0⟩ : ∃ x0, x0 = numV ps n (most + 1) := ⟨_, rfl⟩
 have HX0 := qH (show x0 ≤ most by rw [hx0]; have := numV_lt ps n (m := most + 1) (by omega); omega)
 have HXE := qH hx0
 have HM0 := qH (show 0 < most + 1 from Nat.succ_pos most)
 have HM1 := qH (show most + 1 ≤ 1048576 by omega)
 have m1 : IntKind.i64.wrap ((most : Int) + 1) = ((most + 1 : Nat) : Int) := wrap_one' most (by omega)
 have m2 : wrap64 ((most : Int) + 1) = ((most + 1 : Nat) : Int) := wrap_one most (by omega)
 clear h hx0 hmo
 go_enter Try.func22, Try.ntmps22
 go_wp2_with fail
 refine (num_any w g V ps n (most + 1) HPK.out HM0.out HM1.out).mono ?_
 rintro e w1 ⟨rfl, hg, hp⟩
 rw [← HXE.out]
 have G1 := qH hg
 have P1 := qH hp
 clear hg hp m1 m2
 go_wp2_with fail
 go_loopw [5, 6] (fun v i wl => ∃ (v1 : Value) (k n' : Nat) (W : List UInt8), v1 = v ∧ i = .int .i64 (k : Int) ∧ k + W.length = x0 ∧ wl.ownsRow w1.heap.size 5 1 v1 W.length (bvs W) ∧ Pk wl g V ps n' ∧ w1.grownBy wl (some g)) (fun _ i _ => (intOf i).toNat)
 case atStart => exact ⟨_, x0, _, [], rfl, by simp, by simp, ownN _ _ _, P1.out, World.grownBy.refl _ _⟩
 case round =>
  obtain ⟨v1, k, n', W, rfl, rfl, hk, ho, hp, hg⟩ := hrel
  have HO := qH ho
  have HP := qH hp
  have HG := qH hg
  have HK := qH hk
  clear ho hp hg hk
  rcases Nat.eq_zero_or_pos k with hk0 | hk0
  ·subst hk0
   have i1' : ¬ ((0 : Int) < 0) := by omega
   go_wp2_with fail
   go_ret
   exact ⟨v1, rfl, W, Row.of_own HO.out, by have := HK.out; have := HX0.out; omega, grownG_trans G1.out HG.out⟩
  ·obtain ⟨j, rfl⟩ : ∃ j, k = j + 1 := ⟨k - 1, by omega⟩
   have HJ := qH (show j + 1 ≤ x0 by have := HK.out; omega)
   have HG1 := qH (show g < w1.heap.size from P1.out.blk.lt)
   have j1 : (0 : Int) < ((j + 1 : Nat) : Int) := by omega
   have HJW := qH (show wrap64 (j : Int) = (j : Int) from wrap_j (by have := HJ.out; have := HX0.out; have := HMO.out; omega))
   go_wp2_with fail
   refine (num_any wr g V ps n' 8 HP.out (by decide) (by decide)).mono ?_
   rintro e w3 ⟨rfl, hg, hp⟩
   have G3 := qH (grownG_trans HG.out hg)
   have P3 := qH hp
   have O3 := qH (ownG HO.out hg HG1.out)
   clear hg hp
   obtain ⟨d, hd⟩ : ∃ d, d = numV ps n' 8 := ⟨_, rfl⟩
   rw [← hd]
   clear hd
   by_cases hd : d = 0
   ·have hd' : (d : Int) = 0 := by omega
    go_wp2_with fail
    refine (num_any w3 g V ps _ 256 P3.out (by decide) (by decide)).mono ?_
    rintro e w4 ⟨rfl, hg, hp⟩
    have G4 := qH (grownG_trans G3.out hg)
    have P4 := qH hp
    have O4 := qH (ownG O3.out hg HG1.out)
    clear hg hp
    obtain ⟨x, hx⟩ : ∃ x, x = numV ps (numN ps n') 256 := ⟨_, rfl⟩
    have HX := qH (show x < 256 by rw [hx]; exact numV_lt _ _ (by decide))
    rw [← hx]
    clear hx
    have hw8 : IntKind.u8.wrap (x : Int) = (x : Int) := IntWalk.u8_in _ (by have := HX.out; omega)
    have R1 := qH (one_byte w4 x HX.out)
    have HB4 := qH ((Below.refl w4.heap.size w4).alloc (Nat.le_refl _) (.cells #[.int .u8 (x : Int)] 5))
    have OA4 := qH (O4.out.alloc (.cells #[.int .u8 (x : Int)] 5))
    have HA5 := qH (own_above OA4.out)
    have HS4 := qH (show w1.heap.size ≤ (w4.alloc (.cells #[.int .u8 (x : Int)] 5)).heap.size from Nat.le_trans G4.out.size HB4.out.size)
    have HN1 := qH (show W.length + (bvs [UInt8.ofNat x]).length ≤ 201 from few_sum HK.out HX0.out HMO.out)
    have HN2 := qH (show W.length + (bvs [UInt8.ofNat x]).length ≤ maxLen from few_len HN1.out)
    have HN3 := qH (show (W.length + (bvs [UInt8.ofNat x]).length) * 1 ≤ 140737488355328 from few_mul HN1.out)
    go_wp2_with ((with_reducible refine atDst 23 ?_); refine wpList_app rfl (.tmp 18) (.tmp 22) 26 rfl w1.heap.size 5 i1 (.int .u8 0) 1 Try.underlying26 hi1 hy0 hy1 hy2 rfl _ _ _ rfl OA4.out _ (bvs [UInt8.ofNat x]) rfl R1.out (bvs_one _) HN2.out HN3.out HS4.out ?_; intro v3 w5 ho5 hg5; have O5 := qH ho5; have P5 := qH ((P4.out.below HB4.out).app hg5 HG1.out HA5.out); have G5 := qH (grown_app (grownG_trans G4.out (below_grownG g HB4.out)) hg5 (Nat.le_refl _) HA5.out); clear ho5 hg5; (try simp only [Act.put, qA, qB, qC]))
    refine ⟨⟨_, j, _, W ++ [UInt8.ofNat x], rfl, congrArg (Value.int .i64) HJW.out, by rw [← HK.out, List.length_append]; exact add_one_left j W.length, ?_, P5.out, G5.out⟩, meas_lt HJW.out⟩
    have := O5.out
    simp only [bvs_append, List.length_append]
    exact this
   ·have hd' : ¬ ((d : Int) = 0) := by omega
    go_wp2_with fail
    refine (num_any w3 g V ps _ 4 P3.out (by decide) (by decide)).mono ?_
    rintro e w4 ⟨rfl, hg, hp⟩
    have G4 := qH (grownG_trans G3.out hg)
    have P4 := qH hp
    have O4 := qH (ownG O3.out hg HG1.out)
    clear hg hp
    obtain ⟨y, hy⟩ : ∃ y, y = numV ps (numN ps n') 4 := ⟨_, rfl⟩
    have HY := qH (show y < 4 by rw [hy]; exact numV_lt _ _ (by decide))
    rw [← hy]
    clear hy
    obtain ⟨x, hx⟩ : ∃ x, x = 97 + y := ⟨_, rfl⟩
    have HX := qH (show x < 256 by have := HY.out; omega)
    have hxi : (97 + (y : Int)) = ((x : Nat) : Int) := by omega
    have hw64 : IntKind.i64.wrap (97 + (y : Int)) = (x : Int) := by rw [hxi]; exact IntWalk.i64_in _ (by have := HX.out; omega)
    have hw64' : wrap64 (97 + (y : Int)) = (x : Int) := by rw [hxi]; exact IntWalk.wrap64_in _ (by have := HX.out; omega)
    clear hxi
    have hw8 : IntKind.u8.wrap (x : Int) = (x : Int) := IntWalk.u8_in _ (by have := HX.out; omega)
    clear hx
    have R1 := qH (one_byte w4 x HX.out)
    have HB4 := qH ((Below.refl w4.heap.size w4).alloc (Nat.le_refl _) (.cells #[.int .u8 (x : Int)] 5))
    have OA4 := qH (O4.out.alloc (.cells #[.int .u8 (x : Int)] 5))
    have HA5 := qH (own_above OA4.out)
    have HS4 := qH (show w1.heap.size ≤ (w4.alloc (.cells #[.int .u8 (x : Int)] 5)).heap.size from Nat.le_trans G4.out.size HB4.out.size)
    have HN1 := qH (show W.length + (bvs [UInt8.ofNat x]).length ≤ 201 from few_sum HK.out HX0.out HMO.out)
    have HN2 := qH (show W.length + (bvs [UInt8.ofNat x]).length ≤ maxLen from few_len HN1.out)
    have HN3 := qH (show (W.length + (bvs [UInt8.ofNat x]).length) * 1 ≤ 140737488355328 from few_mul HN1.out)
    go_wp2_with ((with_reducible refine atDst 30 ?_); refine wpList_app rfl (.tmp 24) (.tmp 29) 26 rfl w1.heap.size 5 i1 (.int .u8 0) 1 Try.underlying26 hi1 hy0 hy1 hy2 rfl _ _ _ rfl OA4.out _ (bvs [UInt8.ofNat x]) rfl R1.out (bvs_one _) HN2.out HN3.out HS4.out ?_; intro v3 w5 ho5 hg5; have O5 := qH ho5; have P5 := qH ((P4.out.below HB4.out).app hg5 HG1.out HA5.out); have G5 := qH (grown_app (grownG_trans G4.out (below_grownG g HB4.out)) hg5 (Nat.le_refl _) HA5.out); clear ho5 hg5; (try simp only [Act.put, qA, qB, qC]))
    refine ⟨⟨_, j, _, W ++ [UInt8.ofNat x], rfl, congrArg (Value.int .i64) HJW.out, by rw [← HK.out, List.length_append]; exact add_one_left j W.length, ?_, P5.out, G5.out⟩, meas_lt HJW.out⟩
    have := O5.out
    simp only [bvs_append, List.length_append]
    exact this
def jnI (f u : Nat → Nat → Bool) (i j p q : Nat) : Bool := if p < i ∨ (p = i ∧ q < j) then f p q || u p q else f p q
theorem jnI_at (f u : Nat → Nat → Bool) (i j : Nat) : jnI f u i j i j = f i j := by unfold jnI; rw [if_neg (by omega)]
theorem jnI_put (f u : Nat → Nat → Bool) (i j : Nat) : upd2 (jnI f u i j) i j (f i j || u i j) = jnI f u i (j + 1) := by
 funext p q
 unfold upd2 updB jnI
 by_cases hp : p = i
 ·subst hp
  rw [if_pos rfl]
  by_cases hq : q = j
  ·subst hq
   rw [if_pos rfl, if_pos (.inr ⟨rfl, by omega⟩)]
  ·rw [if_neg hq]
   by_cases h : q < j
   ·rw [if_pos (.inr ⟨rfl, h⟩), if_pos (.inr ⟨rfl, by omega⟩)]
   ·rw [if_neg (by omega), if_neg (by omega)]
 ·rw [if_neg hp]
  by_cases h : p < i
  ·rw [if_pos (.inl h), if_pos (.inl h)]
  ·rw [if_neg (by omega), if_neg (by omega)]
theorem jnI_zero (f u : Nat → Nat → Bool) : jnI f u 0 0 = f := by funext p q; unfold jnI; rw [if_neg (by omega)]
theorem jnI_next {f u : Nat → Nat → Bool} {n i p q : Nat} (hq : q < n) : jnI f u i n p q = jnI f u (i + 1) 0 p q := by
 unfold jnI
 by_cases h : p < i ∨ (p = i ∧ q < n)
 ·rw [if_pos h, if_pos (by omega)]
 ·rw [if_neg h, if_neg (by omega)]
theorem jnI_all {f u : Nat → Nat → Bool} {n p q : Nat} (hp : p < n) : jnI f u n 0 p q = (f p q || u p q) := by unfold jnI; rw [if_pos (.inl hp)]
set_option maxHeartbeats 4000000 in
set_option maxRecDepth 1000000 in
theorem refJoin_any (n : Nat) (hn : n ≤ 1048576) {Bt gt Bu gu : Nat} {bt bu : Nat → Nat} {ft fu : Nat → Nat → Bool} (w : World) (ht : Tbl w Bt gt bt n n ft) (hu : Tbl w Bu gu bu n n fu) (hlt : ∀ p, p < n → bt p < Bu) :
  Calls Try.prog 69 #[.slice (some ⟨gt, 0, none⟩) n n, .slice (some ⟨gu, 0, none⟩) n n] w fun e w' => e = .returned (.tuple #[]) ∧ Tbl w' Bt gt bt n n (fun p q => ft p q || fu p q) ∧ Tbl w' Bu gu bu n n fu ∧ Below Bt w w' := by
 have HN := qH hn
 have T0 := qH ht
 have U0 := qH hu
 have HLT := qH hlt
 clear hn ht hu hlt
 go_enter Try.func69, Try.ntmps69
 go_wp2_with fail
 go_loopw [4] (fun iv wl => ∃ i : Nat, i ≤ n ∧ iv = .int .i64 (i : Int) ∧ Tbl wl Bt gt bt n n (jnI ft fu i 0) ∧ Tbl wl Bu gu bu n n fu ∧ Below Bt w wl) (fun iv _ => n - (intOf iv).toNat)
 case atStart => exact ⟨0, Nat.zero_le _, by simp, by rw [jnI_zero]; exact T0.out, U0.out, Below.refl _ _⟩
 case round =>
  obtain ⟨i, hi, rfl, hT, hU, hB⟩ := hrel
  have TQ := qH hT
  have UQ := qH hU
  have BQ := qH hB
  clear hT hU hB
  by_cases hin : i < n
  ·have i1 : (i : Int) < (n : Int) := Int.ofNat_lt.2 hin
   have HI := qH hin
   have HMI := qH (sub_next hin)
   have e3 := wrap_one i (by have := HN.out; omega)
   have e4 := wrap_one' i (by have := HN.out; omega)
   clear hi hin
   rename_i wq
   go_wp2_with fail
   go_loopw [5] (fun jv wl => ∃ j : Nat, j ≤ n ∧ jv = .int .i64 (j : Int) ∧ Tbl wl Bt gt bt n n (jnI ft fu i j) ∧ Tbl wl Bu gu bu n n fu ∧ Below Bt w wl) (fun jv _ => n - (intOf jv).toNat)
   case atStart => exact ⟨0, Nat.zero_le _, by simp, TQ.out, UQ.out, BQ.out⟩
   case round =>
    obtain ⟨j, hj, rfl, hT, hU, hB⟩ := hrel
    have TR := qH hT
    have UR := qH hU
    have BR := qH hB
    clear hT hU hB
    by_cases hjn : j < n
    ·have j1 : (j : Int) < (n : Int) := Int.ofNat_lt.2 hjn
     have HJ := qH hjn
     have HMJ := qH (sub_next hjn)
     have f3 := wrap_one j (by have := HN.out; omega)
     have f4 := wrap_one' j (by have := HN.out; omega)
     clear hj hjn
     obtain ⟨c, hc⟩ : ∃ c, ft i j = c := ⟨_, rfl⟩
     obtain ⟨u, hu⟩ : ∃ c, fu i j = c := ⟨_, rfl⟩
     have HUV := qH hu
     clear hu
     cases c with
     | true =>
      have HC := qH hc
      clear hc
      go_wp2_with fail
      refine sg_start (S := fun V => wr.grownBy V (some (bt i))) (by kernel_rfl) (grown_start _ _) (fun wd hwd => ?_)
      have hX : wr.grownBy wd (some (bt i)) := by rw [hwd]; exact grown_start _ _
      have TD := qH (show Tbl wd Bt gt bt n n (jnI ft fu i j) by rw [hwd]; exact TR.out.drew)
      have UD := qH (show Tbl wd Bu gu bu n n fu by rw [hwd]; exact UR.out.drew)
      have BD := qH (show Below Bt w wd by rw [hwd]; exact BR.out.drew)
      clear hwd
      have HT1 := qH (TR.out.at_ HI.out HI.out)
      have HU1 := qH (UR.out.at_ HI.out HI.out)
      have HU2 := qH (UR.out.cell HI.out HJ.out)
      have HT2 := qH (show wd.cell? ⟨bt i, j, none⟩ = some (.bool true) by rw [TD.out.cell HI.out HJ.out, jnI_at, HC.out])
      have HL1 := qH TR.out.top.lt
      have HL3 := qH UR.out.top.lt
      have HL4 := qH (UR.out.row i HI.out).lt
      have HE1 := qH (show some gt ≠ some (bt i) from fun h => TR.out.ne i HI.out (Option.some.inj h).symm)
      have HE3 := qH (show some gu ≠ some (bt i) from fun h => by have h1 := Option.some.inj h; have h2 := HLT.out i HI.out; have h3 := UR.out.base; omega)
      have HE4 := qH (show some (bu i) ≠ some (bt i) from fun h => by have h1 := Option.some.inj h; have h2 := HLT.out i HI.out; have h3 := UR.out.bbase i HI.out; omega)
      refine sg_take (i := 0) (oi := ⟨some 18, _, _, _, _, _⟩) (v := ?_) rfl (by kernel_rfl) (by kernel_rfl) (by kernel_rfl) (fun _ _ _ h => h) rfl hX ?_ ?_; rotate_left; (intro W hW; go_simp; try with_reducible rfl); simp only [Act.put, qA, qB, qC]
      refine sg_take (i := 1) (oi := ⟨some 19, _, _, _, _, _⟩) (v := ?_) rfl (by kernel_rfl) (by kernel_rfl) (by kernel_rfl) (fun _ _ _ h => h) rfl hX ?_ ?_; rotate_left; (intro W hW; go_simp; try with_reducible rfl); simp only [Act.put, qA, qB, qC]
      refine sg_take (i := 2) (oi := ⟨some 20, _, _, _, _, _⟩) (v := ?_) rfl (by kernel_rfl) (by kernel_rfl) (by kernel_rfl) (fun _ _ _ h => h) rfl hX ?_ ?_; rotate_left; (intro W hW; go_simp; try with_reducible rfl); simp only [Act.put, qA, qB, qC]
      refine sg_take (i := 3) (oi := ⟨some 21, _, _, _, _, _⟩) (v := .slice (some ⟨bt i, 0, none⟩) n n) rfl (by kernel_rfl) (by kernel_rfl) (by kernel_rfl) (fun _ _ _ h => h) rfl hX (fun V hV => ld_bs (.tmp 20) rfl rfl (grown_cell hV HL1.out HE1.out HT1.out)) ?_; simp only [Act.put, qA, qB, qC]
      refine sg_take (i := 4) (oi := ⟨some 22, _, _, _, _, _⟩) (v := ?_) rfl (by kernel_rfl) (by kernel_rfl) (by kernel_rfl) (fun _ _ _ h => h) rfl hX ?_ ?_; rotate_left; (intro W hW; go_simp; try with_reducible rfl); simp only [Act.put, qA, qB, qC]
      refine sg_take (i := 5) (oi := ⟨some 23, _, _, _, _, _⟩) (v := ?_) rfl (by kernel_rfl) (by kernel_rfl) (by kernel_rfl) (fun _ _ _ h => h) rfl hX ?_ ?_; rotate_left; (intro W hW; go_simp; try with_reducible rfl); simp only [Act.put, qA, qB, qC]
      refine sg_take (i := 6) (oi := ⟨some 24, _, _, _, _, _⟩) (v := ?_) rfl (by kernel_rfl) (by kernel_rfl) (by kernel_rfl) (fun _ _ _ h => h) rfl hX ?_ ?_; rotate_left; (intro W hW; go_simp; try with_reducible rfl); simp only [Act.put, qA, qB, qC]
      refine sg_take (i := 7) (oi := ⟨some 25, _, _, _, _, _⟩) (v := ?_) rfl (by kernel_rfl) (by kernel_rfl) (by kernel_rfl) (fun _ _ _ h => h) rfl hX ?_ ?_; rotate_left; (intro W hW; go_simp; try with_reducible rfl); simp only [Act.put, qA, qB, qC]
      refine sg_take (i := 8) (oi := ⟨some 26, _, _, _, _, _⟩) (v := .slice (some ⟨bt i, 0, none⟩) n n) rfl (by kernel_rfl) (by kernel_rfl) (by kernel_rfl) (fun _ _ _ h => h) rfl hX (fun V hV => ld_bs (.tmp 25) rfl rfl (grown_cell hV HL1.out HE1.out HT1.out)) ?_; simp only [Act.put, qA, qB, qC]
      refine sg_take (i := 9) (oi := ⟨some 27, _, _, _, _, _⟩) (v := ?_) rfl (by kernel_rfl) (by kernel_rfl) (by kernel_rfl) (fun _ _ _ h => h) rfl hX ?_ ?_; rotate_left; (intro W hW; go_simp; try with_reducible rfl); simp only [Act.put, qA, qB, qC]
      refine sg_take (i := 10) (oi := ⟨some 28, _, _, _, _, _⟩) (v := ?_) rfl (by kernel_rfl) (by kernel_rfl) (by kernel_rfl) (fun _ _ _ h => h) rfl hX ?_ ?_; rotate_left; (intro W hW; go_simp; try with_reducible rfl); simp only [Act.put, qA, qB, qC]
      refine sg_actB (i := 11) (o := ⟨some 29, _, _, _, _, _⟩) rfl (by kernel_rfl) rfl hX (fun K hK => ?_)
      refine wp_ldB (.tmp 28) rfl rfl HT2.out ?_
      refine hK _ _ hX ?_
      clear hK K
      (try simp only [Act.put, qA, qB, qC])
      refine sg_take (i := 12) (oi := ⟨some 30, _, _, _, _, _⟩) (v := ?_) rfl (by kernel_rfl) (by kernel_rfl) (by kernel_rfl) (fun _ _ _ h => h) rfl hX ?_ ?_; rotate_left; (intro W hW; go_simp; try with_reducible rfl); simp only [Act.put, qA, qB, qC]
      refine sg_skip (i := 13) (oi := ⟨some 31, _, _, _, _, _⟩) rfl (by kernel_rfl) (by kernel_rfl) (by kernel_rfl) (fun _ _ _ h => h) rfl hX ?_; simp only [Act.put, qA, qB, qC]
      refine sg_skip (i := 14) (oi := ⟨some 32, _, _, _, _, _⟩) rfl (by kernel_rfl) (by kernel_rfl) (by kernel_rfl) (fun _ _ _ h => h) rfl hX ?_; simp only [Act.put, qA, qB, qC]
      refine sg_skip (i := 15) (oi := ⟨some 33, _, _, _, _, _⟩) rfl (by kernel_rfl) (by kernel_rfl) (by kernel_rfl) (fun _ _ _ h => h) rfl hX ?_; simp only [Act.put, qA, qB, qC]
      refine sg_skip (i := 16) (oi := ⟨some 34, _, _, _, _, _⟩) rfl (by kernel_rfl) (by kernel_rfl) (by kernel_rfl) (fun _ _ _ h => h) rfl hX ?_; simp only [Act.put, qA, qB, qC]
      refine sg_skip (i := 17) (oi := ⟨some 35, _, _, _, _, _⟩) rfl (by kernel_rfl) (by kernel_rfl) (by kernel_rfl) (fun _ _ _ h => h) rfl hX ?_; simp only [Act.put, qA, qB, qC]
      refine sg_skip (i := 18) (oi := ⟨some 36, _, _, _, _, _⟩) rfl (by kernel_rfl) (by kernel_rfl) (by kernel_rfl) (fun _ _ _ h => h) rfl hX ?_; simp only [Act.put, qA, qB, qC]
      refine sg_skip (i := 19) (oi := ⟨some 37, _, _, _, _, _⟩) rfl (by kernel_rfl) (by kernel_rfl) (by kernel_rfl) (fun _ _ _ h => h) rfl hX ?_; simp only [Act.put, qA, qB, qC]
      refine sg_take (i := 20) (oi := ⟨some 38, _, _, _, _, _⟩) (v := ?_) rfl (by kernel_rfl) (by kernel_rfl) (by kernel_rfl) (fun _ _ _ h => h) rfl hX ?_ ?_; rotate_left; (intro W hW; go_simp; try with_reducible rfl); simp only [Act.put, qA, qB, qC]
      refine sg_take (i := 21) (oi := ⟨some 39, _, _, _, _, _⟩) (v := ?_) rfl (by kernel_rfl) (by kernel_rfl) (by kernel_rfl) (fun _ _ _ h => h) rfl hX ?_ ?_; rotate_left; (intro W hW; go_simp; try with_reducible rfl); simp only [Act.put, qA, qB, qC]
      refine sg_actB (i := 22) (o := ⟨none, _, _, _, _, _⟩) rfl (by kernel_rfl) rfl hX (fun K hK => ?_)
      refine wp_stB (.tmp 39) (.tmp 38) rfl (bt i) j rfl true rfl _ HT2.out (TD.out.frozen HI.out j) ?_
      refine hK _ _ (grown_set hX j _) ?_
      clear hK K
      refine wpAnyH_done (by kernel_rfl) ?_ _
      have TE := qH (TD.out.put HI.out j true)
      have UE := qH (TD.out.apart UD.out HI.out (HLT.out i HI.out) j true)
      have BE := qH (BD.out.setCell (p := ⟨bt i, j, none⟩) (TR.out.bbase i HI.out) (Value.bool true))
      have HV := qH (show (true : Bool) = (ft i j || fu i j) by rw [HC.out, HUV.out]; rfl)
      clear hX
      go_wp2_with fail
      refine ⟨⟨j + 1, HJ.out, by congr 1, ?_, UE.out, BE.out⟩, by simpa [intOf] using HMJ.out⟩
      rw [← jnI_put, ← HV.out]
      exact TE.out
     | false =>
      have HC := qH hc
      clear hc
      go_wp2_with fail
      refine sg_start (S := fun V => wr.grownBy V (some (bt i))) (by kernel_rfl) (grown_start _ _) (fun wd hwd => ?_)
      have hX : wr.grownBy wd (some (bt i)) := by rw [hwd]; exact grown_start _ _
      have TD := qH (show Tbl wd Bt gt bt n n (jnI ft fu i j) by rw [hwd]; exact TR.out.drew)
      have UD := qH (show Tbl wd Bu gu bu n n fu by rw [hwd]; exact UR.out.drew)
      have BD := qH (show Below Bt w wd by rw [hwd]; exact BR.out.drew)
      clear hwd
      have HT1 := qH (TR.out.at_ HI.out HI.out)
      have HU1 := qH (UR.out.at_ HI.out HI.out)
      have HU2 := qH (UR.out.cell HI.out HJ.out)
      have HT2 := qH (show wd.cell? ⟨bt i, j, none⟩ = some (.bool false) by rw [TD.out.cell HI.out HJ.out, jnI_at, HC.out])
      have HL1 := qH TR.out.top.lt
      have HL3 := qH UR.out.top.lt
      have HL4 := qH (UR.out.row i HI.out).lt
      have HE1 := qH (show some gt ≠ some (bt i) from fun h => TR.out.ne i HI.out (Option.some.inj h).symm)
      have HE3 := qH (show some gu ≠ some (bt i) from fun h => by have h1 := Option.some.inj h; have h2 := HLT.out i HI.out; have h3 := UR.out.base; omega)
      have HE4 := qH (show some (bu i) ≠ some (bt i) from fun h => by have h1 := Option.some.inj h; have h2 := HLT.out i HI.out; have h3 := UR.out.bbase i HI.out; omega)
      refine sg_take (i := 0) (oi := ⟨some 18, _, _, _, _, _⟩) (v := ?_) rfl (by kernel_rfl) (by kernel_rfl) (by kernel_rfl) (fun _ _ _ h => h) rfl hX ?_ ?_; rotate_left; (intro W hW; go_simp; try with_reducible rfl); simp only [Act.put, qA, qB, qC]
      refine sg_take (i := 1) (oi := ⟨some 19, _, _, _, _, _⟩) (v := ?_) rfl (by kernel_rfl) (by kernel_rfl) (by kernel_rfl) (fun _ _ _ h => h) rfl hX ?_ ?_; rotate_left; (intro W hW; go_simp; try with_reducible rfl); simp only [Act.put, qA, qB, qC]
      refine sg_take (i := 2) (oi := ⟨some 20, _, _, _, _, _⟩) (v := ?_) rfl (by kernel_rfl) (by kernel_rfl) (by kernel_rfl) (fun _ _ _ h => h) rfl hX ?_ ?_; rotate_left; (intro W hW; go_simp; try with_reducible rfl); simp only [Act.put, qA, qB, qC]
      refine sg_take (i := 3) (oi := ⟨some 21, _, _, _, _, _⟩) (v := .slice (some ⟨bt i, 0, none⟩) n n) rfl (by kernel_rfl) (by kernel_rfl) (by kernel_rfl) (fun _ _ _ h => h) rfl hX (fun V hV => ld_bs (.tmp 20) rfl rfl (grown_cell hV HL1.out HE1.out HT1.out)) ?_; simp only [Act.put, qA, qB, qC]
      refine sg_take (i := 4) (oi := ⟨some 22, _, _, _, _, _⟩) (v := ?_) rfl (by kernel_rfl) (by kernel_rfl) (by kernel_rfl) (fun _ _ _ h => h) rfl hX ?_ ?_; rotate_left; (intro W hW; go_simp; try with_reducible rfl); simp only [Act.put, qA, qB, qC]
      refine sg_take (i := 5) (oi := ⟨some 23, _, _, _, _, _⟩) (v := ?_) rfl (by kernel_rfl) (by kernel_rfl) (by kernel_rfl) (fun _ _ _ h => h) rfl hX ?_ ?_; rotate_left; (intro W hW; go_simp; try with_reducible rfl); simp only [Act.put, qA, qB, qC]
      refine sg_take (i := 6) (oi := ⟨some 24, _, _, _, _, _⟩) (v := ?_) rfl (by kernel_rfl) (by kernel_rfl) (by kernel_rfl) (fun _ _ _ h => h) rfl hX ?_ ?_; rotate_left; (intro W hW; go_simp; try with_reducible rfl); simp only [Act.put, qA, qB, qC]
      refine sg_take (i := 7) (oi := ⟨some 25, _, _, _, _, _⟩) (v := ?_) rfl (by kernel_rfl) (by kernel_rfl) (by kernel_rfl) (fun _ _ _ h => h) rfl hX ?_ ?_; rotate_left; (intro W hW; go_simp; try with_reducible rfl); simp only [Act.put, qA, qB, qC]
      refine sg_take (i := 8) (oi := ⟨some 26, _, _, _, _, _⟩) (v := .slice (some ⟨bt i, 0, none⟩) n n) rfl (by kernel_rfl) (by kernel_rfl) (by kernel_rfl) (fun _ _ _ h => h) rfl hX (fun V hV => ld_bs (.tmp 25) rfl rfl (grown_cell hV HL1.out HE1.out HT1.out)) ?_; simp only [Act.put, qA, qB, qC]
      refine sg_take (i := 9) (oi := ⟨some 27, _, _, _, _, _⟩) (v := ?_) rfl (by kernel_rfl) (by kernel_rfl) (by kernel_rfl) (fun _ _ _ h => h) rfl hX ?_ ?_; rotate_left; (intro W hW; go_simp; try with_reducible rfl); simp only [Act.put, qA, qB, qC]
      refine sg_take (i := 10) (oi := ⟨some 28, _, _, _, _, _⟩) (v := ?_) rfl (by kernel_rfl) (by kernel_rfl) (by kernel_rfl) (fun _ _ _ h => h) rfl hX ?_ ?_; rotate_left; (intro W hW; go_simp; try with_reducible rfl); simp only [Act.put, qA, qB, qC]
      refine sg_actB (i := 11) (o := ⟨some 29, _, _, _, _, _⟩) rfl (by kernel_rfl) rfl hX (fun K hK => ?_)
      refine wp_ldB (.tmp 28) rfl rfl HT2.out ?_
      refine hK _ _ hX ?_
      clear hK K
      (try simp only [Act.put, qA, qB, qC])
      refine sg_take (i := 12) (oi := ⟨some 30, _, _, _, _, _⟩) (v := ?_) rfl (by kernel_rfl) (by kernel_rfl) (by kernel_rfl) (fun _ _ _ h => h) rfl hX ?_ ?_; rotate_left; (intro W hW; go_simp; try with_reducible rfl); simp only [Act.put, qA, qB, qC]
      refine sg_take (i := 13) (oi := ⟨some 31, _, _, _, _, _⟩) (v := ?_) rfl (by kernel_rfl) (by kernel_rfl) (by kernel_rfl) (fun _ _ _ h => h) rfl hX ?_ ?_; rotate_left; (intro W hW; go_simp; try with_reducible rfl); simp only [Act.put, qA, qB, qC]
      refine sg_take (i := 14) (oi := ⟨some 32, _, _, _, _, _⟩) (v := ?_) rfl (by kernel_rfl) (by kernel_rfl) (by kernel_rfl) (fun _ _ _ h => h) rfl hX ?_ ?_; rotate_left; (intro W hW; go_simp; try with_reducible rfl); simp only [Act.put, qA, qB, qC]
      refine sg_take (i := 15) (oi := ⟨some 33, _, _, _, _, _⟩) (v := ?_) rfl (by kernel_rfl) (by kernel_rfl) (by kernel_rfl) (fun _ _ _ h => h) rfl hX ?_ ?_; rotate_left; (intro W hW; go_simp; try with_reducible rfl); simp only [Act.put, qA, qB, qC]
      refine sg_take (i := 16) (oi := ⟨some 34, _, _, _, _, _⟩) (v := .slice (some ⟨bu i, 0, none⟩) n n) rfl (by kernel_rfl) (by kernel_rfl) (by kernel_rfl) (fun _ _ _ h => h) rfl hX (fun V hV => ld_bs (.tmp 33) rfl rfl (grown_cell hV HL3.out HE3.out HU1.out)) ?_; simp only [Act.put, qA, qB, qC]
      refine sg_take (i := 17) (oi := ⟨some 35, _, _, _, _, _⟩) (v := ?_) rfl (by kernel_rfl) (by kernel_rfl) (by kernel_rfl) (fun _ _ _ h => h) rfl hX ?_ ?_; rotate_left; (intro W hW; go_simp; try with_reducible rfl); simp only [Act.put, qA, qB, qC]
      refine sg_take (i := 18) (oi := ⟨some 36, _, _, _, _, _⟩) (v := ?_) rfl (by kernel_rfl) (by kernel_rfl) (by kernel_rfl) (fun _ _ _ h => h) rfl hX ?_ ?_; rotate_left; (intro W hW; go_simp; try with_reducible rfl); simp only [Act.put, qA, qB, qC]
      refine sg_take (i := 19) (oi := ⟨some 37, _, _, _, _, _⟩) (v := .bool u) rfl (by kernel_rfl) (by kernel_rfl) (by kernel_rfl) (fun _ _ _ h => h) rfl hX (fun V hV => ld_b (.tmp 36) rfl rfl (grown_cell hV HL4.out HE4.out (HU2.out.trans (congrArg (fun x => some (Value.bool x)) HUV.out)))) ?_; simp only [Act.put, qA, qB, qC]
      refine sg_take (i := 20) (oi := ⟨some 38, _, _, _, _, _⟩) (v := ?_) rfl (by kernel_rfl) (by kernel_rfl) (by kernel_rfl) (fun _ _ _ h => h) rfl hX ?_ ?_; rotate_left; (intro W hW; go_simp; try with_reducible rfl); simp only [Act.put, qA, qB, qC]
      refine sg_take (i := 21) (oi := ⟨some 39, _, _, _, _, _⟩) (v := ?_) rfl (by kernel_rfl) (by kernel_rfl) (by kernel_rfl) (fun _ _ _ h => h) rfl hX ?_ ?_; rotate_left; (intro W hW; go_simp; try with_reducible rfl); simp only [Act.put, qA, qB, qC]
      refine sg_actB (i := 22) (o := ⟨none, _, _, _, _, _⟩) rfl (by kernel_rfl) rfl hX (fun K hK => ?_)
      refine wp_stB (.tmp 39) (.tmp 38) rfl (bt i) j rfl u rfl _ HT2.out (TD.out.frozen HI.out j) ?_
      refine hK _ _ (grown_set hX j _) ?_
      clear hK K
      refine wpAnyH_done (by kernel_rfl) ?_ _
      have TE := qH (TD.out.put HI.out j u)
      have UE := qH (TD.out.apart UD.out HI.out (HLT.out i HI.out) j u)
      have BE := qH (BD.out.setCell (p := ⟨bt i, j, none⟩) (TR.out.bbase i HI.out) (Value.bool u))
      have HV := qH (show (u : Bool) = (ft i j || fu i j) by rw [HC.out, HUV.out]; rfl)
      clear hX
      go_wp2_with fail
      refine ⟨⟨j + 1, HJ.out, by congr 1, ?_, UE.out, BE.out⟩, by simpa [intOf] using HMJ.out⟩
      rw [← jnI_put, ← HV.out]
      exact TE.out
    ·obtain rfl : j = n := by omega
     have j1 : ¬ ((j : Int) < (j : Int)) := by omega
     go_wp2_with fail
     refine ⟨⟨i + 1, HI.out, by congr 1, TR.out.congr fun p q _ hq => jnI_next hq, UR.out, BR.out⟩, by simpa [intOf] using HMI.out⟩
  ·obtain rfl : i = n := by omega
   have i1 : ¬ ((i : Int) < (i : Int)) := by omega
   go_wp2_with fail
   refine bodyPost_end (results_none rfl _ _ _) rfl ?_
   exact ⟨rfl, TQ.out.congr fun p q hp _ => jnI_all hp, UQ.out, BQ.out⟩
end Go.Proofs.Ytmcpfaaakmehdaa
