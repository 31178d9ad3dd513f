/-
  Texts of this proof, put together: PdB. No statement is proved here.
-/
import Derived.Test.YtaakdebcagdfgaaZH
namespace Go.Proofs.Ytaakdebcagdfgaa
open Go.RowKit
set_option linter.unusedSimpArgs false
set_option linter.unusedVariables false
theorem dcl_setc {cl : List UInt8} {vn ve : Value} (hl : cl.length = 256) {i : Nat} (hi : i < 256) (b : UInt8) : (dcl cl vn ve).set i (bv b) = dcl (cl.set i b) vn ve := by
 unfold dcl
 rw [List.set_append_left _ _ (by rw [bvs_length]; omega), bvs, bvs, List.map_set]
theorem clsQ_in {m i : Nat} (h : 97 ≤ i) (h2 : i < 97 + m) : clsQ m i = i - 97 := by unfold clsQ; rw [if_pos ⟨h, h2⟩]
theorem clsQ_out {m i : Nat} (h : ¬ (97 ≤ i ∧ i < 97 + m)) : clsQ m i = i % 7 % m := by unfold clsQ; rw [if_neg h]
theorem u8_wr {x : Nat} (h : x < 256) : IntKind.u8.wrap (x : Int) = (x : Int) := IntWalk.u8_in _ (by omega)
theorem cls_sub {N m x : Nat} (hx : x = clsQ m N) (h1 : 97 ≤ N) (h2 : N < 97 + m) : (N : Int) - 97 = (x : Int) := by
 rw [hx, clsQ_in h1 h2]
 omega
theorem sub_97 {N x : Nat} (h : (N : Int) - 97 = (x : Int)) (hx : x < 256) : wrap64 ((N : Int) - 97) = (x : Int) ∧ IntKind.i64.wrap ((N : Int) - 97) = (x : Int) := by
 rw [h]
 exact ⟨w64S x (by omega), k64S x (by omega)⟩
theorem lt_97 {N m tt : Nat} (ht : tt = 97 + m) (h : N < 97 + m) : (N : Int) < (tt : Int) := by omega
theorem nlt_97 {N m tt : Nat} (ht : tt = 97 + m) (h : ¬ N < 97 + m) : ¬ (N : Int) < (tt : Int) := by omega
theorem sum_97 {m tt : Nat} (ht : tt = 97 + m) : (97 : Int) + (m : Int) = (tt : Int) := by omega
theorem cls_256 {N m x : Nat} (hx : x = clsQ m N) (hm : 0 < m) (h4 : m ≤ 4) : x < 256 := by
 rw [hx]
 have := clsQ_lt hm N
 omega
theorem pos_ne {m : Nat} (h : 0 < m) : ¬ ((m : Int) = 0) := by omega
theorem mod_7 (N p : Nat) (h : p = N % 7) : (N : Int).tmod 7 = (p : Int) := by
 subst h
 rfl
theorem mod_m (p m y : Nat) (h : y = p % m) : (p : Int).tmod (m : Int) = (y : Int) := by
 subst h
 rfl
theorem cls_rem {N m x p y : Nat} (hx : x = clsQ m N) (hp : p = N % 7) (hy : y = p % m) (h : ¬ (97 ≤ N ∧ N < 97 + m)) : y = x := by rw [hx, clsQ_out h, hy, hp]
theorem Apt.none {w : World} {H : Nat} : Apt w H 2 (fun _ => .slice none 0 0) (fun _ => []) :=
 ⟨fun i hi => ownC_nil _ _ _, fun i j _ _ _ k hk => (by cases (show (Option.none : Option Nat) = some k from hk))⟩
structure EnvQ (w0 wl : World) (gp gd : Nat) (V : Value) (ps : List UInt8) (cl : List UInt8) (vn ve : Value) (n : Nat) : Prop where
 blk : Blk wl gd 28 (dcl cl vn ve)
 pk : Pk wl gp V ps n
 bel : Below gp w0 wl
section
variable {w0 wl w' : World} {gp gd H : Nat} {V : Value} {ps cl : List UInt8} {vn ve : Value} {n n' : Nat}
theorem EnvQ.off (h : EnvQ w0 wl gp gd V ps cl vn ve n) (hg : gp < gd) (hd : gd < H) (hb : Below H wl w') : EnvQ w0 w' gp gd V ps cl vn ve n :=
 ⟨(hb.block gd hd).trans h.blk, ⟨(hb.block gp (Nat.lt_trans hg hd)).trans h.pk.blk, h.pk.row.below (hb.mono (Nat.le_of_lt (Nat.lt_trans hg hd))), h.pk.le, h.pk.few⟩, h.bel.trans (hb.mono (Nat.le_of_lt (Nat.lt_trans hg hd)))⟩
theorem EnvQ.below (h : EnvQ w0 wl gp gd V ps cl vn ve n) (hb : Below wl.heap.size wl w') : EnvQ w0 w' gp gd V ps cl vn ve n :=
 ⟨h.blk.below hb h.blk.lt, h.pk.below hb, h.bel.trans (hb.mono (Nat.le_of_lt h.pk.blk.lt))⟩
theorem EnvQ.num (h : EnvQ w0 wl gp gd V ps cl vn ve n) (hg : gp < gd) (hw : wl.grownBy w' (some gp)) (hp : Pk w' gp V ps n') : EnvQ w0 w' gp gd V ps cl vn ve n' :=
 ⟨(hw.block gd h.blk.lt fun e => by have := Option.some.inj e; omega).trans h.blk, hp, h.bel.trans (grown_belowG hw h.pk.blk.lt)⟩
end
structure MadeQ (ps : List UInt8) (k m i : Nat) (U : Nat → Value) (X : Nat → List Value) : Prop where
 x0 : X 0 = (List.range i).map fun q => U (q + 2)
 x1 : X 1 = bools (stQ ps k m i).2.1
 xr : ∀ q r, (stQ ps k m i).1[q]? = some r → X (q + 2) = nums .i64 r
theorem MadeQ.zero (ps : List UInt8) (k m : Nat) : MadeQ ps k m 0 (fun _ => .slice none 0 0) (fun _ => []) :=
 ⟨rfl, rfl, fun q r h => by cases h⟩
theorem MadeQ.more {ps : List UInt8} {k m i : Nat} {U : Nat → Value} {X : Nat → List Value} (h : MadeQ ps k m i U X) {v : Value} {l : List Value} : MadeQ ps k m i (putV U (2 + i) v) (putX X (2 + i) l) := by
 refine ⟨?_, by rw [putX_ne (by omega)]; exact h.x1, fun q r hr => ?_⟩
 ·rw [putX_ne (by omega), h.x0]
  refine List.map_congr_left fun q hq => ?_
  have := List.mem_range.1 hq
  rw [putV_ne (by omega)]
 ·have hq := (List.getElem?_eq_some_iff.1 hr).1
  rw [(stQ_len _ _ _ _).1] at hq
  rw [putX_ne (by omega)]
  exact h.xr q r hr
theorem putV_0 (U : Nat → Value) (i : Nat) (v : Value) : putV U (2 + i) v 0 = U 0 := putV_ne (by omega)
theorem putV_1 (U : Nat → Value) (i : Nat) (v : Value) : putV U (2 + i) v 1 = U 1 := putV_ne (by omega)
theorem putV_2 (U : Nat → Value) (i : Nat) (v : Value) : putV U (2 + i) v (i + 2) = v := by rw [Nat.add_comm i 2, putV_at]
theorem putX_2 (X : Nat → List Value) (i : Nat) (l : List Value) : putX X (2 + i) l (i + 2) = l := by rw [Nat.add_comm i 2, putX_at]
theorem own_at {w : World} {H i n : Nat} {U : Nat → Value} {X : Nat → List Value} {v : Value} {r : List Int} (h : Apt w H (2 + i + 1) U X) (hv : U (i + 2) = v) (hx : X (i + 2) = nums .i64 r) (hr : r.length = n) : w.ownsRow H 3 1 v n (nums .i64 r) := by
 have h1 := h.own (2 + i) (Nat.lt_succ_self _)
 rw [Nat.add_comm 2 i, show tyU (i + 2) = 3 from rfl, hx, nums_length, hv, hr] at h1
 exact h1
theorem bnd_rw {j m : Nat} (h : j < m) (h4 : m ≤ 4) : j + 1 ≤ 2097152 := by omega
theorem ex_eqI {ev : Operand → Value} {o : Oper} (x : Operand) {r : TypeId} (ho : o.op = .binOp .eql 3 x (.const (.int .i64 1)) r) {p : Int} (hx : ev x = .int .i64 p) (hc : ev (.const (.int .i64 1)) = .int .i64 1) {b : Bool} (hb : decide (p = 1) = b) (W : World) : (execOp ev o).run Try.prog W = .ok (.value (.bool b)) W := by
 have h2 : (p == 1) = b := by rw [← hb]; exact Bool.eq_iff_iff.2 (by simp)
 simp only [execOp, ho, hx, hc]
 rw [← h2]
 go_simp
theorem EnvQ.setn {w0 wl : World} {gp gd : Nat} {V : Value} {ps cl : List UInt8} {vn ve : Value} {n : Nat} (h : EnvQ w0 wl gp gd V ps cl vn ve n) (hl : cl.length = 256) (hg : gp < gd) (v : Value) : EnvQ w0 (wl.setCell ⟨gd, 256, none⟩ v) gp gd V ps cl v ve n := by
 have hb : Below gd wl (wl.setCell ⟨gd, 256, none⟩ v) := (Below.refl _ _).setCell (p := ⟨gd, 256, none⟩) (Nat.le_refl _) v
 have h1 := h.blk.set 256 v
 rw [dcl_setn hl] at h1
 exact ⟨h1, ⟨(hb.block gp hg).trans h.pk.blk, h.pk.row.below (hb.mono (Nat.le_of_lt hg)), h.pk.le, h.pk.few⟩, h.bel.trans (hb.mono (Nat.le_of_lt hg))⟩
theorem EnvQ.sete {w0 wl : World} {gp gd : Nat} {V : Value} {ps cl : List UInt8} {vn ve : Value} {n : Nat} (h : EnvQ w0 wl gp gd V ps cl vn ve n) (hl : cl.length = 256) (hg : gp < gd) (v : Value) : EnvQ w0 (wl.setCell ⟨gd, 257, none⟩ v) gp gd V ps cl vn v n := by
 have hb : Below gd wl (wl.setCell ⟨gd, 257, none⟩ v) := (Below.refl _ _).setCell (p := ⟨gd, 257, none⟩) (Nat.le_refl _) v
 have h1 := h.blk.set 257 v
 rw [dcl_sete hl] at h1
 exact ⟨h1, ⟨(hb.block gp hg).trans h.pk.blk, h.pk.row.below (hb.mono (Nat.le_of_lt hg)), h.pk.le, h.pk.few⟩, h.bel.trans (hb.mono (Nat.le_of_lt hg))⟩
theorem MadeQ.next {ps : List UInt8} {k m i : Nat} {U : Nat → Value} {X : Nat → List Value} (h : MadeQ ps k m i U X) {v vn ve : Value} {r : List Int} {b : Bool} {q nv : Nat} (hr : r = (rowQ ps k (stQ ps k m i).2.2 m).1) (hq : q = (rowQ ps k (stQ ps k m i).2.2 m).2) (hn : nv = numV ps q 2) (hb : decide ((nv : Int) = 1) = b) (hu : U (i + 2) = v) (hx : X (i + 2) = nums .i64 r) :
  MadeQ ps k m (i + 1) (putV (putV U 0 vn) 1 ve) (putX (putX X 0 ((List.range i).map (fun q => U (q + 2)) ++ [v])) 1 (bools (stQ ps k m i).2.1 ++ [.bool b])) := by
 refine ⟨?_, ?_, fun p y hy => ?_⟩
 ·rw [putX_ne (by omega), putX_at, List.range_succ, List.map_append]
  have e1 : (List.range i).map (fun q => putV (putV U 0 vn) 1 ve (q + 2)) = (List.range i).map fun q => U (q + 2) := List.map_congr_left fun p _ => by rw [putV_ne (by omega), putV_ne (by omega)]
  have e2 : putV (putV U 0 vn) 1 ve (i + 2) = v := by rw [putV_ne (by omega), putV_ne (by omega), hu]
  rw [e1, List.map_cons, List.map_nil, e2]
 ·rw [putX_at]
  show _ = bools ((stQ ps k m i).2.1 ++ [decide ((numV ps (rowQ ps k (stQ ps k m i).2.2 m).2 2 : Int) = 1)])
  rw [← hq, ← hn, hb]
  simp [bools]
 ·rw [putX_ne (by omega), putX_ne (by omega)]
  have hy : ((stQ ps k m i).1 ++ [(rowQ ps k (stQ ps k m i).2.2 m).1])[p]? = some y := hy
  have hl := (stQ_len ps k m i).1
  by_cases hp : p < i
  ·rw [List.getElem?_append_left (by omega)] at hy
   exact h.xr p y hy
  ·have hp2 := (List.getElem?_eq_some_iff.1 hy).1
   rw [List.length_append, hl] at hp2
   obtain rfl : p = i := by simp only [List.length_cons, List.length_nil] at hp2; omega
   rw [List.getElem?_append_right (by omega), hl, Nat.sub_self] at hy
   have e := Option.some.inj hy
   rw [hx, hr, e]
theorem bnd_i {i k : Nat} (h : i < k) (h8 : k ≤ 8) : i + 1 ≤ 2097152 := by omega
theorem Apt.mono {w : World} {H B m : Nat} {U : Nat → Value} {X : Nat → List Value} (h : Apt w H m U X) (hB : B ≤ H) : Apt w B m U X := ⟨fun i hi => own_mono (h.own i hi) hB, h.inj⟩
set_option maxHeartbeats 8000000 in
set_option maxRecDepth 1000000 in
theorem playDfa_any (n c : Nat) (ps : List UInt8) (V : Value) (w : World) (hn : n < 256) (hc : c < 256) (hr : Row w V (bvs ps)) (hl : ps.length ≤ 60) :
  Calls Try.prog 10 #[.int .u8 (n : Int), .int .u8 (c : Int), V] w fun e w' => ∃ cs, e = .returned (.agg cs.toArray) ∧ DfaA w' w.heap.size cs (dfaQ n c ps) ∧ Below w.heap.size w w' := by
 have HRV := qH hr
 have HPL := qH hl
 obtain ⟨d0, hd0⟩ : ∃ d0, d0 = dcl (ctab [] 0) (.slice none 0 0) (.slice none 0 0) := ⟨_, rfl⟩
 have HD0 := qH hd0
 have HDL := qH (show d0.length = 258 by rw [hd0]; exact dcl_len (ctab_length _ _))
 obtain ⟨id, hid, hdz⟩ := Option.map_eq_some_iff.1 inf_dfa
 rw [← hd0] at hdz
 obtain ⟨i1, hi1, hy0, hy1, hy2⟩ := infoP inf_int
 obtain ⟨i2, hi2, hb0, hb1, hb2⟩ := infoP inf_bool
 obtain ⟨il, hil, hl0, hl1, hl2⟩ := infoP inf_sl
 obtain ⟨k, hk⟩ : ∃ k, k = 1 + n % 8 := ⟨_, rfl⟩
 obtain ⟨m, hm⟩ : ∃ m, m = 1 + c % 4 := ⟨_, rfl⟩
 have HKE := qH hk
 have HME := qH hm
 have HKP := qH (show 0 < k by omega)
 have HMP := qH (show 0 < m by omega)
 have HK8 := qH (show k ≤ 8 by omega)
 have HM4 := qH (show m ≤ 4 by omega)
 have r5 : (1 : Int) + (n : Int) % 8 = (k : Int) := by omega
 have r6 : (1 : Int) + (c : Int) % 4 = (m : Int) := by omega
 clear hr hl hd0 hk hm
 go_enter Try.func10, Try.ntmps10
 go_wp2_with ((with_reducible refine atDst 6 ?_); refine wpList_new rfl 28 rfl id _ d0 hid hdz rfl (Below.refl w.heap.size w) (Nat.le_refl _) ?_; intro w1 hk hb hs _; have K1 := qH hk; have B1 := qH hb; clear hk hb hs; (try simp only [Act.put, qA, qB, qC]))
 refine (made_any V ps w1 (HRV.out.below B1.out) (Nat.le_trans HPL.out (by decide))).mono ?_
 rintro e w2 ⟨rfl, hb, hp⟩
 have K2 := qH (K1.out.below hb K1.out.lt)
 have B2 := qH (B1.out.trans (hb.mono B1.out.size))
 have P2 := qH hp
 clear hb hp
 go_wp2_with ((with_reducible refine atDst 10 ?_); refine wpList_new rfl 28 rfl id _ d0 hid hdz rfl (Below.refl w2.heap.size w2) (Nat.le_refl _) ?_; intro w3 hk hb hs _; have D3 := qH hk; have K3 := qH (K2.out.below hb K2.out.lt); have P3 := qH (P2.out.below hb); have B3 := qH (B2.out.trans (hb.mono B2.out.size)); clear hk hb hs; (try simp only [Act.put, qA, qB, qC]))
 obtain ⟨gd, hgd⟩ : ∃ g, g = w2.heap.size := ⟨_, rfl⟩
 have HGD := qH hgd
 rw [← hgd] at D3
 rw [← hgd]
 have D4 := qH (show Blk w3 gd 28 (dcl (tabQ m 0) (.slice none 0 0) (.slice none 0 0)) by rw [tabQ_zero, ← HD0.out]; exact D3.out)
 have HD3 := qH (show gd < w3.heap.size from D4.out.lt)
 clear hgd D3
 go_loopw [11] (fun v wl => ∃ N : Nat, N ≤ 256 ∧ v = .int .i64 (N : Int) ∧ Blk wl gd 28 (dcl (tabQ m N) (.slice none 0 0) (.slice none 0 0)) ∧ Below gd w3 wl) (fun v _ => 256 - (intOf v).toNat)
 case atStart => exact ⟨0, by decide, rfl, D4.out, Below.refl _ _⟩
 clear D4
 obtain ⟨N, hN, rfl, hd, hb⟩ := hrel
 have HN := qH hN
 have DN := qH hd
 have BN := qH hb
 clear hN hd hb
 by_cases hlt : N < 256
 ·have x1 : (N : Int) < 256 := Int.ofNat_lt.2 hlt
  have HMN := qH (sub_next hlt)
  have HNL := qH hlt
  have e3 := wrap_one N (Nat.le_trans (Nat.le_of_lt hlt) (by decide))
  have e4 := wrap_one' N (Nat.le_trans (Nat.le_of_lt hlt) (by decide))
  obtain ⟨x, hx⟩ : ∃ x, x = clsQ m N := ⟨_, rfl⟩
  have hx4 := cls_256 hx HMP.out HM4.out
  have HX := qH hx
  have hbv : bv (UInt8.ofNat x) = .int .u8 (x : Int) := by unfold bv; rw [toNat_ofNatQ hx4]
  have DZ := qH (show Blk (wr.setCell ⟨gd, N, none⟩ (.int .u8 (x : Int))) gd 28 (dcl (tabQ m (N + 1)) (.slice none 0 0) (.slice none 0 0)) by
   have h1 := DN.out.set N (bv (UInt8.ofNat x))
   rw [dcl_setc (tabQ_len _ _) hlt, hx, tabQ_set hlt, ← hx, hbv] at h1
   exact h1)
  have z0 := u8_wr hx4
  have z1 := pos_ne HMP.out
  obtain ⟨tt, htt⟩ : ∃ t, t = 97 + m := ⟨_, rfl⟩
  have HTT := qH htt
  have z9 := sum_97 htt
  clear htt
  obtain ⟨p, hp⟩ : ∃ p, p = N % 7 := ⟨_, rfl⟩
  obtain ⟨y, hy⟩ : ∃ y, y = p % m := ⟨_, rfl⟩
  have HPP := qH hp
  have HYY := qH hy
  have z5 := mod_7 N p hp
  have z6 := mod_m p m y hy
  clear hp hy
  have z2 : ((m : Int) == 0) = false := by rw [beq_eq_false_iff_ne]; exact z1
  obtain ⟨u0, hc1⟩ : ∃ u, wr.cell? ⟨gd, N, none⟩ = some u := ⟨_, (DN.out.cell N).trans (List.getElem?_eq_getElem (by rw [dcl_len (tabQ_len _ _)]; exact Nat.lt_of_lt_of_le hlt (by decide)))⟩
  have hf1 : wr.frozen? ⟨gd, N, none⟩ = false := DN.out.frozen N
  clear hx hbv hlt
  by_cases h1 : 97 ≤ N
  ·have y1 : (97 : Int) ≤ (N : Int) := Int.ofNat_le.2 h1
   by_cases h2 : N < 97 + m
   ·have y2 := lt_97 HTT.out h2
    have z3 := sub_97 (cls_sub HX.out h1 h2) hx4
    have z3b := z3.2
    replace z3 := z3.1
    clear h1 h2
    go_wp2_with fail
    exact ⟨⟨N + 1, HNL.out, rfl, DZ.out, BN.out.setCell (p := ⟨gd, N, none⟩) (Nat.le_refl _) _⟩, by simpa [intOf] using HMN.out⟩
   ·have y2 := nlt_97 HTT.out h2
    have HYX := qH (cls_rem HX.out HPP.out HYY.out fun h => h2 h.2)
    obtain rfl := HYX.out
    clear h1 h2
    go_wp2_with fail
    exact ⟨⟨N + 1, HNL.out, rfl, DZ.out, BN.out.setCell (p := ⟨gd, N, none⟩) (Nat.le_refl _) _⟩, by simpa [intOf] using HMN.out⟩
  ·have y1 : ¬ (97 : Int) ≤ (N : Int) := fun h => h1 (Int.ofNat_le.1 h)
   have HYX := qH (cls_rem HX.out HPP.out HYY.out fun h => h1 h.1)
   obtain rfl := HYX.out
   clear h1
   go_wp2_with fail
   exact ⟨⟨N + 1, HNL.out, rfl, DZ.out, BN.out.setCell (p := ⟨gd, N, none⟩) (Nat.le_refl _) _⟩, by simpa [intOf] using HMN.out⟩
 ·obtain rfl : N = 256 := Nat.le_antisymm HN.out (Nat.le_of_not_lt hlt)
  have x1 : ¬ ((256 : Int) < 256) := by decide
  obtain ⟨cl, hcl⟩ : ∃ cl, cl = tabQ m 256 := ⟨_, rfl⟩
  have HCL := qH hcl
  have CLN := qH (show cl.length = 256 by rw [hcl]; exact tabQ_len _ _)
  rw [← hcl] at DN
  clear hcl
  obtain ⟨gp, hgp⟩ : ∃ g, g = w1.heap.size := ⟨_, rfl⟩
  have HGP := qH hgp
  have HWG := qH (show w.heap.size < gp by rw [hgp]; exact K1.out.lt)
  have HGG := qH (show gp < gd by rw [hgp, HGD.out]; exact P2.out.blk.lt)
  obtain ⟨H, hH⟩ : ∃ H, H = w3.heap.size := ⟨_, rfl⟩
  have HH3 := qH hH
  have HH := qH (show gd < H by rw [hH]; exact HD3.out)
  have E0 := qH (show EnvQ w3 wr gp gd V ps cl (.slice none 0 0) (.slice none 0 0) 0 from ⟨DN.out, ⟨(BN.out.block gp HGG.out).trans (by rw [hgp]; exact P3.out.blk), (by rw [hgp]; exact P3.out.row.below (BN.out.mono (by rw [← hgp]; exact Nat.le_of_lt HGG.out))), P3.out.le, P3.out.few⟩, BN.out.mono (Nat.le_of_lt HGG.out)⟩)
  have A0 := qH (show Apt wr H 2 (fun _ => .slice none 0 0) (fun _ => []) from Apt.none)
  rw [← hgp]
  clear hlt hgp hH
  go_wp2_with fail
  go_loopw [13] (fun v wl => ∃ (i : Nat) (U : Nat → Value) (X : Nat → List Value), v = .int .i64 (i : Int) ∧ i ≤ k ∧ Apt wl H (2 + i) U X ∧ EnvQ w3 wl gp gd V ps cl (U 0) (U 1) (stQ ps k m i).2.2 ∧ MadeQ ps k m i U X) (fun v _ => k - (intOf v).toNat)
  case atStart => exact ⟨0, _, _, rfl, Nat.zero_le _, A0.out, E0.out, MadeQ.zero ps k m⟩
  clear A0 E0 DN BN P2
  obtain ⟨i, U, X, rfl, hi, ha, he, hx⟩ := hrel
  have HI := qH hi
  have AI := qH ha
  have EI := qH he
  have XI := qH hx
  clear hi ha he hx
  by_cases hik : i < k
  ·have x2 : (i : Int) < (k : Int) := Int.ofNat_lt.2 hik
   have HIK := qH hik
   have HMI := qH (sub_next hik)
   have e3 := wrap_one i (lt_bigN hik (Nat.le_trans HK8.out (by decide)))
   have e4 := wrap_one' i (lt_bigN hik (Nat.le_trans HK8.out (by decide)))
   clear hik
   go_wp2_with fail
   go_loopw [14, 15] (fun rv jv wl => ∃ (j : Nat) (U : Nat → Value) (X : Nat → List Value), jv = .int .i64 (j : Int) ∧ j ≤ m ∧ rv = U (i + 2) ∧ Apt wl H (2 + i + 1) U X ∧ EnvQ w3 wl gp gd V ps cl (U 0) (U 1) (rowQ ps k (stQ ps k m i).2.2 j).2 ∧ MadeQ ps k m i U X ∧ X (i + 2) = nums .i64 (rowQ ps k (stQ ps k m i).2.2 j).1) (fun _ jv _ => m - (intOf jv).toNat)
   case atStart =>
    refine ⟨0, putV U (2 + i) (.slice none 0 0), putX X (2 + i) [], rfl, Nat.zero_le _, ?_, AI.out.more, ?_, XI.out.more, ?_⟩
    ·exact (putV_2 U i _).symm
    ·rw [putV_0, putV_1]; exact EI.out
    ·exact putX_2 X i []
   clear AI EI XI
   obtain ⟨j, U, X, rfl, hj, hrv, ha, he, hx, hxr⟩ := hrel
   have HJ := qH hj
   have AJ := qH ha
   have EJ := qH he
   have XJ := qH hx
   have XR := qH hxr
   obtain ⟨qj, hqj⟩ : ∃ q, q = (rowQ ps k (stQ ps k m i).2.2 j).2 := ⟨_, rfl⟩
   have HQJ := qH hqj
   rw [← hqj] at EJ
   obtain ⟨rw_, hrw⟩ : ∃ r, r = (rowQ ps k (stQ ps k m i).2.2 j).1 := ⟨_, rfl⟩
   have HRW := qH hrw
   rw [← hrw] at XR
   have HRL := qH (show rw_.length = j by rw [hrw]; exact rowQ_len _ _ _ _)
   have HO := qH (show wr.ownsRow H 3 1 (U (i + 2)) rw_.length (nums .i64 rw_) by
    have h1 := ha.own (2 + i) (Nat.lt_succ_self _)
    rw [Nat.add_comm 2 i, show tyU (i + 2) = 3 from rfl, XR.out, nums_length] at h1
    exact h1)
   obtain ⟨Ar, cr, hur⟩ := ownC_slice HO.out
   rw [HRL.out] at hur
   rw [hur] at hrv
   have HUR := qH hur
   subst hrv
   clear hj ha he hx hxr hqj hrw hur
   obtain ⟨wi, hwi⟩ : ∃ v : World, v = wr := ⟨_, rfl⟩
   subst hwi
   by_cases hjm : j < m
   ·have y1 : (j : Int) < (m : Int) := Int.ofNat_lt.2 hjm
    have HJM := qH hjm
    have HMJ := qH (sub_next hjm)
    have f3 := wrap_one j (lt_bigN hjm (Nat.le_trans HM4.out (by decide)))
    have f4 := wrap_one' j (lt_bigN hjm (Nat.le_trans HM4.out (by decide)))
    clear hjm
    go_wp2_with fail
    refine (num_any wi gp V ps qj k EJ.out.pk HKP.out (Nat.le_trans HK8.out (by decide))).mono ?_
    rintro e wa ⟨rfl, hg, hp⟩
    have EA := qH (EJ.out.num HGG.out hg hp)
    have AA := qH (AJ.out.stay (w' := wa) fun q hq hql => hg.block q hql fun e => ne_of_ltG (Nat.lt_of_lt_of_le HGG.out (Nat.le_trans (Nat.le_of_lt HH.out) hq)) (Nat.le_refl _) (by first | exact e | exact e.symm))
    clear hg hp
    obtain ⟨nv, hnv⟩ : ∃ x, x = numV ps qj k := ⟨_, rfl⟩
    have HNV := qH hnv
    rw [← hnv]
    have HB1 := qH (show j + (nums .i64 [(nv : Int)]).length ≤ 2097152 from bnd_rw HJM.out HM4.out)
    clear hnv
    go_wp2_with (first
     | ((with_reducible refine atDst 63 ?_); refine wpList_plain rfl fun K hK => wp_bldI 47 3 (.tmp 62) rfl i1 Try.underlying47 hi1 0 hy0 hy1 (nv : Int) rfl ?_; intro wb hr hb; have RB := qH hr; have EB := qH (EA.out.below hb); have AB := qH (AA.out.below hb); have HB2 := qH (show H ≤ wb.heap.size from HH3.out ▸ EB.out.bel.size); have OB := qH (own_at AB.out HUR.out XR.out HRL.out); clear hr hb; refine hK _ _ ?_; clear hK K; (try simp only [Act.put, qA, qB, qC]))
     | ((with_reducible refine atDst 64 ?_); refine wpList_appW (base := H) rfl (.tmp 59) (.tmp 63) 47 rfl 3 i1 (.int .i64 0) 8 Try.underlying47 hi1 hy0 hy1 hy2 rfl _ _ (nums .i64 rw_) rfl OB.out _ (nums .i64 [(nv : Int)]) rfl RB.out (fun u hu => by obtain rfl := List.mem_singleton.1 hu; rfl) HB1.out (by decide) HB2.out ?_; intro v2 wc ho hgr hwr; have HO2 := qH (show wc.ownsRow H 3 1 v2 (nums .i64 (rw_ ++ [(nv : Int)])).length (nums .i64 (rw_ ++ [(nv : Int)])) by (rw [nums_length, List.length_append, HRL.out, nums, List.map_append]; exact ho)); have HGR := qH hgr; have HWR := qH hwr; have HSL := qH (show ∃ A c, v2 = .slice A (j + 1) c from ownC_slice ho); clear ho hgr hwr; (try simp only [Act.put, qA, qB, qC])))
    obtain ⟨A3, c3, rfl⟩ := HSL.out
    have BC := qH (show Below H wb wc from below_own (Below.refl H wb) (by rw [HH3.out]; exact EB.out.bel.size) HGR.out fun q hq => (own6_lt OB.out q hq).2)
    have HUB := qH (show wb.grownBy wc (U (2 + i)).ownBlock by rw [Nat.add_comm 2 i, HUR.out]; exact HGR.out)
    have HUW := qH (show ∀ q, (Value.slice A3 (j + 1) c3).ownBlock = some q → (U (2 + i)).ownBlock = some q ∨ wb.heap.size ≤ q by rw [Nat.add_comm 2 i, HUR.out]; exact HWR.out)
    have AC := qH (AB.out.grow (s := 2 + i) (Nat.lt_succ_self _) (by rw [Nat.add_comm 2 i]; exact HO2.out) HUB.out HUW.out)
    have EC := qH (EB.out.off HGG.out HH.out BC.out)
    refine ⟨⟨j + 1, _, _, rfl, HJM.out, (putV_2 U i _).symm, AC.out, ?_, XJ.out.more, ?_⟩, by simpa [intOf] using HMJ.out⟩
    ·rw [putV_0, putV_1]
     show EnvQ w3 wc gp gd V ps cl (U 0) (U 1) (numN ps (rowQ ps k (stQ ps k m i).2.2 j).2)
     rw [← HQJ.out]
     exact EC.out
    ·rw [putX_2]
     show _ = nums .i64 ((rowQ ps k (stQ ps k m i).2.2 j).1 ++ [(numV ps (rowQ ps k (stQ ps k m i).2.2 j).2 k : Int)])
     rw [← HQJ.out, ← HRW.out, ← HNV.out]
   ·obtain rfl : j = m := Nat.le_antisymm HJ.out (Nat.le_of_not_lt hjm)
    have y1 : ¬ ((j : Int) < (j : Int)) := Int.lt_irrefl _
    clear hjm
    obtain ⟨E, hE⟩ : ∃ E, E = (stQ ps k j i).2.1 := ⟨_, rfl⟩
    have HE := qH hE
    have X1 := qH (show X 1 = bools E by rw [hE]; exact XJ.out.x1)
    have HEL := qH (show E.length = i by rw [hE]; exact (stQ_len _ _ _ _).2)
    have ON := qH (show wi.ownsRow H 47 1 (U 0) i ((List.range i).map fun q => U (q + 2)) by
     have h1 := AJ.out.own 0 (Nat.succ_pos _)
     rw [XJ.out.x0, List.length_map, List.length_range] at h1
     exact h1)
    have OE := qH (show wi.ownsRow H 4 1 (U 1) i (bools E) by
     have h1 := AJ.out.own 1 (Nat.lt_of_lt_of_le (by decide) (Nat.le_add_right 2 (i + 1)))
     rw [X1.out, bools_length, HEL.out] at h1
     exact h1)
    obtain ⟨An, cn, hu0⟩ := ownC_slice ON.out
    obtain ⟨Ae, ce, hu1⟩ := ownC_slice OE.out
    have HU0 := qH hu0
    have HU1 := qH hu1
    rw [hu0, hu1] at EJ
    clear hu0 hu1 hE
    go_wp2_with fail
    refine mc_start (fun _ => True) (fun W => Blk W gd 28 (dcl cl (.slice An i cn) (.slice Ae i ce))) 13 (by kernel_rfl) (fun wd hwd => ?_)
    have hX : True := trivial
    have hBD : Below wi.heap.size wi wd := by rw [hwd]; exact (Below.refl _ _).drew
    have ED := qH (EJ.out.below hBD)
    have AD := qH (AJ.out.below hBD)
    have hY : Blk wd gd 28 (dcl cl (.slice An i cn) (.slice Ae i ce)) := ED.out.blk
    clear hwd hBD
    refine mc_take (i := 0) (oi := ⟨some 65, _, _, _, _, _⟩) (v := ?_) rfl (by kernel_rfl) (by kernel_rfl) (by kernel_rfl) (fun _ _ _ h => h) rfl hX ?_ ?_; rotate_left; (intro W hW; go_simp; try with_reducible rfl); simp only [Act.put, qA, qB, qC]
    refine mc_takeS (i := 1) (oi := ⟨some 66, _, _, _, _, _⟩) (v := .slice An i cn) rfl (by kernel_rfl) (by kernel_rfl) (by kernel_rfl) (fun _ _ _ h => h) rfl hX hY (fun W _ hS => ld_inss (.tmp 65) rfl rfl (by have := Blk.cell hS 256; rw [dcl_n CLN.out] at this; exact this)) ?_; simp only [Act.put, qA, qB, qC]
    refine mc_take (i := 2) (oi := ⟨some 67, _, _, _, _, _⟩) (v := ?_) rfl (by kernel_rfl) (by kernel_rfl) (by kernel_rfl) (fun _ _ _ h => h) rfl hX ?_ ?_; rotate_left; (intro W hW; go_simp; try with_reducible rfl); simp only [Act.put, qA, qB, qC]
    refine mc_take (i := 5) (oi := ⟨some 70, _, _, _, _, _⟩) (v := ?_) rfl (by kernel_rfl) (by kernel_rfl) (by kernel_rfl) (fun _ _ _ h => h) rfl hX ?_ ?_; rotate_left; (intro W hW; go_simp; try with_reducible rfl); simp only [Act.put, qA, qB, qC]
    refine mc_takeS (i := 6) (oi := ⟨some 71, _, _, _, _, _⟩) (v := .slice Ae i ce) rfl (by kernel_rfl) (by kernel_rfl) (by kernel_rfl) (fun _ _ _ h => h) rfl hX hY (fun W _ hS => ld_bls (.tmp 70) rfl rfl (by have := Blk.cell hS 257; rw [dcl_e CLN.out] at this; exact this)) ?_; simp only [Act.put, qA, qB, qC]
    refine mc_take (i := 7) (oi := ⟨some 72, _, _, _, _, _⟩) (v := ?_) rfl (by kernel_rfl) (by kernel_rfl) (by kernel_rfl) (fun _ _ _ h => h) rfl hX ?_ ?_; rotate_left; (intro W hW; go_simp; try with_reducible rfl); simp only [Act.put, qA, qB, qC]
    refine mc_actB (i := 3) (o := ⟨some 68, _, _, _, _, _⟩) rfl (by kernel_rfl) rfl (fun K hK => ?_)
    refine wp_bldV 25 47 (.tmp 67) rfl il (.slice none 0 0) Try.underlying25 hil hl0 hl1 rfl (.slice Ar j cr) rfl rfl ?_
    intro wb hr hb
    have RB := qH hr
    have EB := qH (ED.out.below hb)
    have AB := qH (AD.out.below hb)
    refine hK _ _ trivial EB.out.blk ?_
    clear hK K hY
    (try simp only [Act.put, qA, qB, qC])
    clear hr hb
    have hY := EB.out.blk
    have HB2 := qH (show H ≤ wb.heap.size from HH3.out ▸ EB.out.bel.size)
    have ONB := qH (show wb.ownsRow H 47 1 (.slice An i cn) i ((List.range i).map fun q => U (q + 2)) by
     have h1 := AB.out.own 0 (Nat.succ_pos _)
     rw [XJ.out.x0, List.length_map, List.length_range, HU0.out] at h1
     exact h1)
    have HB1 := qH (show i + [Value.slice Ar j cr].length ≤ 2097152 from bnd_i HIK.out HK8.out)
    refine mc_actB (i := 4) (o := ⟨some 69, _, _, _, _, _⟩) rfl (by kernel_rfl) rfl (fun K hK => ?_)
    refine wp_appW (base := H) (.tmp 66) (.tmp 68) 25 rfl 47 il (.slice none 0 0) 24 Try.underlying25 hil hl0 hl1 hl2 rfl _ i ((List.range i).map fun q => U (q + 2)) rfl ONB.out _ [.slice Ar j cr] rfl RB.out (fun u hu => by obtain rfl := List.mem_singleton.1 hu; rfl) HB1.out (by decide) HB2.out ?_
    intro vn2 wc ho hg hw
    have BC := qH (show Below H wb wc from below_own (Below.refl H wb) HB2.out hg fun q hq => (own6_lt ONB.out q hq).2)
    have EC := qH (EB.out.off HGG.out HH.out BC.out)
    have AC := qH (AB.out.grow (s := 0) (v := vn2) (l := (List.range i).map (fun q => U (q + 2)) ++ [.slice Ar j cr]) (Nat.succ_pos _) (by rw [List.length_append, List.length_map, List.length_range]; exact ho) (by rw [HU0.out]; exact hg) (by rw [HU0.out]; exact hw))
    obtain ⟨A2, c2, rfl⟩ := ownC_slice ho
    refine hK _ _ trivial EC.out.blk ?_
    clear hK K hY
    (try simp only [Act.put, qA, qB, qC])
    clear ho hg hw
    have hY := EC.out.blk
    refine mc_take (i := 12) (oi := ⟨some 77, _, _, _, _, _⟩) (v := ?_) rfl (by kernel_rfl) (by kernel_rfl) (by kernel_rfl) (fun _ _ _ h => h) rfl hX ?_ ?_; rotate_left; (intro W hW; go_simp; try with_reducible rfl); simp only [Act.put, qA, qB, qC]
    refine mc_actB (i := 8) (o := ⟨some 73, _, _, _, _, _⟩) rfl (by kernel_rfl) rfl (fun K hK => ?_)
    go_wp2_with fail
    refine (num_any wc gp V ps qj 2 EC.out.pk (by decide) (by decide)).mono ?_
    rintro e wn ⟨rfl, hg, hp⟩
    have EN := qH (EC.out.num HGG.out hg hp)
    have AN := qH (AC.out.stay (w' := wn) fun q hq hql => hg.block q hql fun e => ne_of_ltG (Nat.lt_of_lt_of_le HGG.out (Nat.le_trans (Nat.le_of_lt HH.out) hq)) (Nat.le_refl _) (by first | exact e | exact e.symm))
    obtain ⟨nv, hnv⟩ : ∃ x, x = numV ps qj 2 := ⟨_, rfl⟩
    have HNV := qH hnv
    rw [← hnv]
    obtain ⟨bz, hbz⟩ : ∃ b, decide ((nv : Int) = 1) = b := ⟨_, rfl⟩
    have HBZ := qH hbz
    clear hnv hbz hg hp
    go_wp2_with fail
    refine hK _ _ trivial EN.out.blk ?_
    clear hK K hY
    (try simp only [Act.put, qA, qB, qC])
    have hY := EN.out.blk
    refine mc_take (i := 9) (oi := ⟨some 74, _, _, _, _, _⟩) (v := .bool bz) rfl (by kernel_rfl) (by kernel_rfl) (by kernel_rfl) (fun _ _ _ h => h) rfl hX (fun W _ => ex_eqI (.tmp 73) rfl rfl rfl HBZ.out W) ?_; simp only [Act.put, qA, qB, qC]
    refine mc_actB (i := 10) (o := ⟨some 75, _, _, _, _, _⟩) rfl (by kernel_rfl) rfl (fun K hK => ?_)
    refine wp_bldV 26 4 (.tmp 74) rfl i2 (.bool false) Try.underlying26 hi2 hb0 hb1 rfl (.bool bz) rfl rfl ?_
    intro we hr hb
    have RE := qH hr
    have EE := qH (EN.out.below hb)
    have AE := qH (AN.out.below hb)
    refine hK _ _ trivial EE.out.blk ?_
    clear hK K hY
    (try simp only [Act.put, qA, qB, qC])
    clear hr hb
    have hY := EE.out.blk
    have HB3 := qH (show H ≤ we.heap.size from HH3.out ▸ EE.out.bel.size)
    have OEB := qH (show we.ownsRow H 4 1 (.slice Ae i ce) i (bools E) by
     have h1 := AE.out.own 1 (Nat.lt_of_lt_of_le (by decide) (Nat.le_add_right 2 (i + 1)))
     rw [putV_ne (by decide), putX_ne (by decide), X1.out, bools_length, HEL.out, HU1.out] at h1
     exact h1)
    have HB4 := qH (show i + [Value.bool bz].length ≤ 2097152 from bnd_i HIK.out HK8.out)
    refine mc_actB (i := 11) (o := ⟨some 76, _, _, _, _, _⟩) rfl (by kernel_rfl) rfl (fun K hK => ?_)
    refine wp_appW (base := H) (.tmp 71) (.tmp 75) 26 rfl 4 i2 (.bool false) 1 Try.underlying26 hi2 hb0 hb1 hb2 rfl _ i (bools E) rfl OEB.out _ [.bool bz] rfl RE.out (fun u hu => by obtain rfl := List.mem_singleton.1 hu; rfl) HB4.out (by decide) HB3.out ?_
    intro ve2 wf ho hg hw
    have BF := qH (show Below H we wf from below_own (Below.refl H we) HB3.out hg fun q hq => (own6_lt OEB.out q hq).2)
    have EF := qH (EE.out.off HGG.out HH.out BF.out)
    have AF := qH (AE.out.grow (s := 1) (v := ve2) (l := bools E ++ [.bool bz]) (Nat.lt_of_lt_of_le (by decide) (Nat.le_add_right 2 (i + 1))) (by rw [List.length_append, bools_length, HEL.out]; exact ho) (by rw [putV_ne (by decide), HU1.out]; exact hg) (by rw [putV_ne (by decide), HU1.out]; exact hw))
    obtain ⟨A3, c3, rfl⟩ := ownC_slice ho
    have EG := qH (EF.out.setn CLN.out HGG.out (.slice A2 (i + 1) c2))
    have EZ := qH (EG.out.sete CLN.out HGG.out (.slice A3 (i + 1) c3))
    have HC6 := qH (show wf.cell? ⟨gd, 256, none⟩ = some (.slice An i cn) from (EF.out.blk.cell 256).trans (dcl_n CLN.out))
    have HF6 := qH (EF.out.blk.frozen 256)
    have HC7 := qH (show (wf.setCell ⟨gd, 256, none⟩ (.slice A2 (i + 1) c2)).cell? ⟨gd, 257, none⟩ = some (.slice Ae i ce) from (EG.out.blk.cell 257).trans (dcl_e CLN.out))
    have HF7 := qH (EG.out.blk.frozen 257)
    refine hK _ _ trivial EF.out.blk ?_
    clear hK K hY
    (try simp only [Act.put, qA, qB, qC])
    clear ho hg hw
    refine mc_last (i := 13) (o := ⟨none, _, _, _, _, _⟩) rfl (by kernel_rfl) rfl (fun K hK => ?_)
    refine wp_stIns (.tmp 77) (.tmp 69) rfl rfl rfl HC6.out HF6.out ?_
    refine hK _ _ trivial ?_
    clear hK K
    (try simp only [Act.put, qA, qB, qC])
    refine mc_take (i := 14) (oi := ⟨some 78, _, _, _, _, _⟩) (v := ?_) rfl (by kernel_rfl) (by kernel_rfl) (by kernel_rfl) (fun _ _ _ h => h) rfl hX ?_ ?_; rotate_left; (intro W hW; go_simp; try with_reducible rfl); simp only [Act.put, qA, qB, qC]
    refine mc_last (i := 15) (o := ⟨none, _, _, _, _, _⟩) rfl (by kernel_rfl) rfl (fun K hK => ?_)
    refine wp_stBls (.tmp 78) (.tmp 76) rfl rfl rfl HC7.out HF7.out ?_
    refine hK _ _ trivial ?_
    clear hK K hX
    (try simp only [Act.put, qA, qB, qC])
    refine wpAnyC_done (by kernel_rfl) ?_ _
    have AZ := qH (AF.out.stay (w' := (wf.setCell ⟨gd, 256, none⟩ (.slice A2 (i + 1) c2)).setCell ⟨gd, 257, none⟩ (.slice A3 (i + 1) c3)) fun q hq _ => by
     have hne : q ≠ gd := Nat.ne_of_gt (Nat.lt_of_lt_of_le HH.out hq)
     exact (Below.heap_setCell _ ⟨gd, 257, none⟩ _ q hne).trans (Below.heap_setCell _ ⟨gd, 256, none⟩ _ q hne))
    have MZ := qH (XJ.out.next (v := .slice Ar j cr) (vn := .slice A2 (i + 1) c2) (ve := .slice A3 (i + 1) c3) HRW.out HQJ.out HNV.out HBZ.out HUR.out XR.out)
    rw [← HE.out] at MZ
    go_wp2_with fail
    refine ⟨⟨i + 1, _, _, by congr 1, HIK.out, AZ.out, ?_, MZ.out⟩, by simpa [intOf] using HMI.out⟩
    rw [putV_ne (by decide), putV_at, putV_at]
    show EnvQ w3 _ gp gd V ps cl _ _ (numN ps (rowQ ps k (stQ ps k j i).2.2 j).2)
    rw [← HQJ.out]
    exact EZ.out
  ·obtain rfl : i = k := Nat.le_antisymm HI.out (Nat.le_of_not_lt hik)
   have x2 : ¬ ((i : Int) < (i : Int)) := Int.lt_irrefl _
   have ON := qH (show wr.ownsRow H 47 1 (U 0) i ((List.range i).map fun q => U (q + 2)) by
    have h1 := AI.out.own 0 (Nat.lt_of_lt_of_le (by decide) (Nat.le_add_right 2 i))
    rw [XI.out.x0, List.length_map, List.length_range] at h1
    exact h1)
   have OE := qH (show wr.ownsRow H 4 1 (U 1) i (bools (stQ ps i m i).2.1) by
    have h1 := AI.out.own 1 (Nat.lt_of_lt_of_le (by decide) (Nat.le_add_right 2 i))
    rw [XI.out.x1, bools_length, (stQ_len _ _ _ _).2] at h1
    exact h1)
   obtain ⟨An, cn, hu0⟩ := ownC_slice ON.out
   obtain ⟨Ae, ce, hu1⟩ := ownC_slice OE.out
   have HDQ := qH (show dfaQ n c ps = ⟨cl, (stQ ps i m i).1, (stQ ps i m i).2.1⟩ by rw [HCL.out, HKE.out, HME.out]; rfl)
   obtain ⟨da, hda⟩ : ∃ da, da = dcl cl (U 0) (U 1) := ⟨_, rfl⟩
   have HDA := qH hda
   have HDLa := qH (show da.length = 258 by rw [hda]; exact dcl_len CLN.out)
   have HDOa := qH (show da.all (·.oneCell') = true by rw [hda, hu0, hu1]; exact dcl_one)
   have HDSa := qH (show (Try.prog.info? 28).map (·.size) = some da.length by rw [hda]; exact size_dfa CLN.out)
   have KDa := qH (show Blk wr gd 28 da by rw [hda]; exact EI.out.blk)
   have KR := qH (show Blk wr w.heap.size 28 d0 from (EI.out.bel.block w.heap.size HWG.out).trans K3.out)
   clear hik hda hu0 hu1
   go_wp2_with (first
    | ((with_reducible refine atDst 79 ?_); refine wpList_ldArr rfl 28 _ rfl gd rfl 28 _ _ KDa.out Try.underlying28 rfl HDSa.out ?_; (try simp only [Act.put, qA, qB, qC]))
    | ((with_reducible refine atStore 28 6 79 ?_); refine wpList_stBlk rfl 28 _ _ rfl w.heap.size da rfl rfl 28 _ KR.out HDSa.out (by rw [HDL.out, HDLa.out]) HDOa.out (Below.refl w.heap.size wr) (Nat.le_refl _) ?_; intro we hk hb hs ho; have KE := qH hk; have HO9 := qH ho; have BE := qH hb; clear hk hb hs ho; (try simp only [Act.put, qA, qB, qC])))
   refine bodyPost_ret (results_blk rfl _ _ w.heap.size 28 _ _ rfl KE.out Try.underlying28 rfl HDSa.out) rfl ?_
   have st : ∀ k, H ≤ k → we.heap[k]? = wr.heap[k]? := fun q hq => HO9.out q (Nat.ne_of_gt (Nat.lt_of_lt_of_le (Nat.lt_trans HWG.out (Nat.lt_trans HGG.out HH.out)) hq))
   refine ⟨da, rfl, ?_, (B3.out.trans (EI.out.bel.mono (Nat.le_of_lt HWG.out))).trans BE.out⟩
   rw [HDQ.out]
   refine ⟨U, X, CLN.out, HDA.out, ?_, ?_, XI.out.x1, XI.out.xr⟩
   ·rw [(stQ_len _ _ _ _).1]
    exact (AI.out.stay fun q hq _ => st q hq).mono (Nat.le_of_lt (Nat.lt_trans HWG.out (Nat.lt_trans HGG.out HH.out)))
   ·rw [(stQ_len _ _ _ _).1]
    exact XI.out.x0
end Go.Proofs.Ytaakdebcagdfgaa
