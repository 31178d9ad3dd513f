/-
  Texts of this proof, put together: RmD. No statement is proved here.
-/
import Derived.Test.YteadghoojeehlaaGreatDoorXBG
namespace Go.Proofs.YteadghoojeehlaaGreatDoor
open Go.RowKit
set_option linter.unusedSimpArgs false
set_option linter.unusedVariables false
theorem ascF_at : ∀ {l : List T}, ascF l = true ↔ ∀ (i : Nat) (a b : T), l[i]? = some a → l[i + 1]? = some b → folT b a = true
 | [] => by simp [ascF]
 | [a] => by simp [ascF]
 | a :: b :: r => by
  simp only [ascF, Bool.and_eq_true, @ascF_at (b :: r)]
  constructor
  ·rintro ⟨h1, h2⟩ i x y hx hy
   cases i with
   | zero =>
    simp at hx hy
    rw [← hx, ← hy]
    exact h1
   | succ i => exact h2 i x y (by simpa using hx) (by simpa using hy)
  ·intro h
   exact ⟨h 0 a b rfl rfl, fun i x y hx hy => h (i + 1) x y (by simpa using hx) (by simpa using hy)⟩
structure Pj (k : Int) (l : List T) (j : Nat) : Prop where
 fit : ∀ i t, i < j → l[i]? = some t → fitsT t.kind k = true ∧ plainT t = true
 asc : k = 5 → ∀ i a b, i + 1 < j → l[i]? = some a → l[i + 1]? = some b → folT b a = true
theorem Pj.start (k : Int) (l : List T) : Pj k l 0 := ⟨fun i t h => absurd h (Nat.not_lt_zero i), fun _ i a b h => absurd h (Nat.not_lt_zero _)⟩
theorem Pj.next {k : Int} {l : List T} {j : Nat} (h : Pj k l j) {x : T} (hx : l[j]? = some x) (h1 : fitsT x.kind k = true) (h2 : plainT x = true) (h3 : k = 5 → ∀ p y, j = p + 1 → l[p]? = some y → folT x y = true) : Pj k l (j + 1) := by
 refine ⟨fun i t hi ht => ?_, fun hk i a b hi ha hb => ?_⟩
 ·rcases Nat.lt_or_ge i j with hlt | hge
  ·exact h.fit i t hlt ht
  ·obtain rfl : i = j := by omega
   rw [hx] at ht
   injection ht with ht
   subst ht
   exact ⟨h1, h2⟩
 ·rcases Nat.lt_or_ge (i + 1) j with hlt | hge
  ·exact h.asc hk i a b hlt ha hb
  ·obtain rfl : j = i + 1 := by omega
   rw [hx] at hb
   injection hb with hb
   subst hb
   exact h3 hk i a rfl ha
theorem Pj.all {k : Int} {s : Nat → Bool} {l : List T} (h : Pj k l l.length) (h1 : k = 3 ∨ eqS s zeroS = true) (h2 : countT k s l.length = true) : plainT (.node k s l) = true := by
 simp only [plainT, Bool.and_eq_true, Bool.or_eq_true, decide_eq_true_eq]
 refine ⟨⟨⟨h1, h2⟩, plainL_iff.2 fun t ht => ?_⟩, ?_⟩
 ·obtain ⟨i, hi, rfl⟩ := List.getElem_of_mem ht
  exact h.fit i _ hi (List.getElem?_eq_getElem hi)
 ·by_cases hk : k = 5
  ·right
   exact ascF_at.2 fun i a b ha hb => h.asc hk i a b (List.getElem?_eq_some_iff.1 hb).1 ha hb
  ·exact .inl hk
theorem plain_no1 {k : Int} {s : Nat → Bool} {l : List T} (h1 : k ≠ 3) (h2 : eqS s zeroS = false) : plainT (.node k s l) = false := by
 simp [plainT, h1, h2]
theorem plain_no2 {k : Int} {s : Nat → Bool} {l : List T} (h : countT k s l.length = false) : plainT (.node k s l) = false := by
 simp [plainT, h]
theorem plain_no3 {k : Int} {s : Nat → Bool} {l : List T} {j : Nat} {x : T} (hx : l[j]? = some x) (h : ¬ (fitsT x.kind k = true ∧ plainT x = true)) : plainT (.node k s l) = false := by
 have : plainL k l = false := by
  cases hp : plainL k l with
  | false => rfl
  | true => exact absurd (plainL_iff.1 hp x (List.mem_of_getElem? hx)) h
 simp [plainT, this]
theorem plain_no4 {s : Nat → Bool} {l : List T} {p : Nat} {x y : T} (hy : l[p]? = some y) (hx : l[p + 1]? = some x) (h : folT x y = false) : plainT (.node 5 s l) = false := by
 have : ascF l = false := by
  cases hp : ascF l with
  | false => rfl
  | true => have := ascF_at.1 hp p y x hy hx; rw [h] at this; cases this
 simp [plainT, this]
theorem pred_wrapR {p n cap : Nat} (h : p < n) (h1 : n ≤ cap) (h2 : cap ≤ maxLen) : IntKind.i64.wrap (((p + 1 : Nat) : Int) - 1) = (p : Int) := by
 rw [IntWalk.i64_in _ (by unfold maxLen at h2; omega)]
 omega
theorem ld_int8 {ev : Operand → Value} {o : Oper} (x : Operand) (ho : o.op = .load 3 x) {p : Addr} (hx : ev x = .pointer (some p)) {k : Int} {W : World} (hc : W.cell? p = some (.int .i64 k)) : (execOp ev o).run Tryz.prog W = .ok (.value (.int .i64 k)) W := by
 simp only [execOp, ho, hx]
 go_simp
theorem ld_rxsM {ev : Operand → Value} {o : Oper} (x : Operand) (ho : o.op = .load 44 x) {p : Addr} (hx : ev x = .pointer (some p)) {A : Option Addr} {n c : Nat} {W : World} (hc : W.cell? p = some (.slice A n c)) : (execOp ev o).run Tryz.prog W = .ok (.value (.slice A n c)) W := by
 simp only [execOp, ho, hx]
 go_simp
theorem ex_pred {ev : Operand → Value} {o : Oper} (x : Operand) (ho : o.op = .binOp .sub 3 x (.const (.int .i64 1)) 3) {k m : Int} (hx : ev x = .int .i64 k) (hc : ev (.const (.int .i64 1)) = .int .i64 1) (hm : IntKind.i64.wrap (k - 1) = m) (W : World) : (execOp ev o).run Tryz.prog W = .ok (.value (.int .i64 m)) W := by
 subst hm
 simp only [execOp, ho, hx, hc]
 go_simp
theorem ex_pos {ev : Operand → Value} {o : Oper} (x : Operand) (ho : o.op = .binOp .gtr 3 x (.const (.int .i64 0)) 3) {k : Int} (hx : ev x = .int .i64 k) (hc : ev (.const (.int .i64 0)) = .int .i64 0) (hm : 0 < k) (W : World) : (execOp ev o).run Tryz.prog W = .ok (.value (.bool true)) W := by
 have h : decide (0 < k) = true := decide_eq_true hm
 simp only [execOp, ho, hx, hc]
 go_simp
set_option maxHeartbeats 8000000 in
set_option maxRecDepth 1000000 in
theorem rxPlain_any : ∀ (N : Nat) (t : T), t.nodes ≤ N → t.nodes ≤ 1099511627776 → ∀ (cs : List Value) (w : World), RxV w.heap.size w cs t →
  Calls Tryz.prog 56 #[.agg cs.toArray] w fun e w' => e = .returned (.bool (plainT t)) ∧ Below w.heap.size w w' := by
 intro N
 induction N with
 | zero => intro t h; have := nodes_pos t; omega
 | succ N ih =>
  rintro ⟨k, s, l⟩ hN hM cs w hv
  have IH := qH ih
  clear ih
  obtain ⟨A, cap, f, rfl, h1, h2, h0, h3, h4⟩ := hv.opened
  have H3 := qH h3
  have H4 := qH h4
  have HNN := qH (show T.nodes (.node k s l) = 1 + nodesL l by simp only [T.nodes])
  rw [HNN.out] at hN hM
  have HN := qH hN
  have HM := qH hM
  have HCM := qH h2
  have HCC := qH h1
  obtain ⟨q, hq⟩ : ∃ q, plainT (.node k s l) = q := ⟨_, rfl⟩
  have HQ := qH hq
  obtain ⟨cs, hcs⟩ : ∃ cs, cs = Value.int .i64 k :: (wds s ++ [.slice A l.length cap]) := ⟨_, rfl⟩
  have HCS := qH hcs
  have HCL := qH (show cs.length = 6 by rw [hcs]; rfl)
  have HC0 := qH (show cs[0]? = some (.int .i64 k) by rw [hcs]; rfl)
  have HC5 := qH (show cs[5]? = some (.slice A l.length cap) by rw [hcs]; rfl)
  have HBS := qH builtS
  obtain ⟨zs, hzs⟩ : ∃ zs, zs = zeroS := ⟨_, rfl⟩
  have HZS := qH hzs
  rw [← hzs] at HBS
  obtain ⟨b, hb⟩ : ∃ b, eqS s zeroS = b := ⟨_, rfl⟩
  have HNE := qH (show (!eqS s zs) = !b by rw [hzs, hb])
  have HEQ := qH hb
  rw [← hcs, hq]
  obtain ⟨i0, hi0, hz0, hz1, hz2⟩ := inf_rx'
  obtain ⟨z, hz⟩ : ∃ z, z = rxc 0 zeroS (.slice none 0 0) := ⟨_, rfl⟩
  have HZL := qH (show z.length = 6 by rw [hz]; rfl)
  have HZ0 := qH (show i0.zero = some (.agg z.toArray) by rw [hz]; exact hz0)
  have HZ1 := qH hz0
  clear hz hz0
  clear hv h1 h2 h0 h3 h4 hcs hN hM hq hzs hb
  have hcase : k = 3 ∨ (k ≠ 3 ∧ b = true) ∨ (k ≠ 3 ∧ b = false) := by
   by_cases h : k = 3
   ·exact .inl h
   ·cases b
    ·exact .inr (.inr ⟨h, rfl⟩)
    ·exact .inr (.inl ⟨h, rfl⟩)
  go_enter Tryz.func56, Tryz.ntmps56
  rcases hcase with h | h | h
  focus
   have HK3 := qH (show k = 3 ∨ eqS s zeroS = true from .inl h)
   have n1 : (k != 3) = false := by simp [h]
   clear h
   go_wp2_with (first
    | ((with_reducible refine atDst 1 ?_); refine wpList_box rfl 46 _ rfl cs rfl (Below.refl w.heap.size w) (Nat.le_refl _) ?_; intro w1 hk1 hb1 hs1 _; have K1 := qH hk1; have B1 := qH hb1; have k0 := hk1.cell 0; rw [HC0.out] at k0; have RS := qH (set_range' HCS.out hk1); clear hk1 hb1 hs1; (try simp only [Act.put, qA, qB, qC]))
    | ((with_reducible refine atDst 10 ?_); refine wpList_ldMidG rfl 43 _ rfl w.heap.size 1 rfl (wds s) _ RS.out Tryz.underlying43 rfl (size_set s) ?_; (try simp only [Act.put, qA, qB, qC]))
    | ((with_reducible refine atDst 11 ?_); refine wpList_bld rfl 43 _ rfl (wds zs) HBS.out ?_; (try simp only [Act.put, qA, qB, qC]))
    | ((with_reducible refine atDst 12 ?_); refine wpList_neSetG rfl HNE.out 43 41 (.tmp 10) (.tmp 11) 43 rfl guardSet Tryz.underlying43 Tryz.underlying41 sizeU64 rfl rfl ?_; (try simp only [Act.put, qA, qB, qC]))
    | ((with_reducible refine atDst 15 ?_); refine wpList_ldArr rfl 46 _ rfl w.heap.size rfl 46 _ _ K1.out Tryz.underlying46 rfl (size_rx HCL.out) ?_; (try simp only [Act.put, qA, qB, qC])))
  rotate_left
  focus
   have n1 : (k != 3) = true := by simp [h.1]
   obtain ⟨_, rfl⟩ := h
   have HK3 := qH (show k = 3 ∨ eqS s zeroS = true from .inr HEQ.out)
   go_wp2_with (first
    | ((with_reducible refine atDst 1 ?_); refine wpList_box rfl 46 _ rfl cs rfl (Below.refl w.heap.size w) (Nat.le_refl _) ?_; intro w1 hk1 hb1 hs1 _; have K1 := qH hk1; have B1 := qH hb1; have k0 := hk1.cell 0; rw [HC0.out] at k0; have RS := qH (set_range' HCS.out hk1); clear hk1 hb1 hs1; (try simp only [Act.put, qA, qB, qC]))
    | ((with_reducible refine atDst 10 ?_); refine wpList_ldMidG rfl 43 _ rfl w.heap.size 1 rfl (wds s) _ RS.out Tryz.underlying43 rfl (size_set s) ?_; (try simp only [Act.put, qA, qB, qC]))
    | ((with_reducible refine atDst 11 ?_); refine wpList_bld rfl 43 _ rfl (wds zs) HBS.out ?_; (try simp only [Act.put, qA, qB, qC]))
    | ((with_reducible refine atDst 12 ?_); refine wpList_neSetG rfl HNE.out 43 41 (.tmp 10) (.tmp 11) 43 rfl guardSet Tryz.underlying43 Tryz.underlying41 sizeU64 rfl rfl ?_; (try simp only [Act.put, qA, qB, qC]))
    | ((with_reducible refine atDst 15 ?_); refine wpList_ldArr rfl 46 _ rfl w.heap.size rfl 46 _ _ K1.out Tryz.underlying46 rfl (size_rx HCL.out) ?_; (try simp only [Act.put, qA, qB, qC])))
  rotate_left
  focus
   have n1 : (k != 3) = true := by simp [h.1]
   have HR := qH (show q = false by rw [← HQ.out]; exact plain_no1 h.1 (by rw [HEQ.out]; exact h.2))
   obtain ⟨_, rfl⟩ := h
   go_wp2_with (first
    | ((with_reducible refine atDst 1 ?_); refine wpList_box rfl 46 _ rfl cs rfl (Below.refl w.heap.size w) (Nat.le_refl _) ?_; intro w1 hk1 hb1 hs1 _; have K1 := qH hk1; have B1 := qH hb1; have k0 := hk1.cell 0; rw [HC0.out] at k0; have RS := qH (set_range' HCS.out hk1); clear hk1 hb1 hs1; (try simp only [Act.put, qA, qB, qC]))
    | ((with_reducible refine atDst 10 ?_); refine wpList_ldMidG rfl 43 _ rfl w.heap.size 1 rfl (wds s) _ RS.out Tryz.underlying43 rfl (size_set s) ?_; (try simp only [Act.put, qA, qB, qC]))
    | ((with_reducible refine atDst 11 ?_); refine wpList_bld rfl 43 _ rfl (wds zs) HBS.out ?_; (try simp only [Act.put, qA, qB, qC]))
    | ((with_reducible refine atDst 12 ?_); refine wpList_neSetG rfl HNE.out 43 41 (.tmp 10) (.tmp 11) 43 rfl guardSet Tryz.underlying43 Tryz.underlying41 sizeU64 rfl rfl ?_; (try simp only [Act.put, qA, qB, qC]))
    | ((with_reducible refine atDst 15 ?_); refine wpList_ldArr rfl 46 _ rfl w.heap.size rfl 46 _ _ K1.out Tryz.underlying46 rfl (size_rx HCL.out) ?_; (try simp only [Act.put, qA, qB, qC])))
   go_ret
   rw [HR.out]
   exact ⟨rfl, B1.out⟩
  all_goals
   clear n1
   refine (rxCounted_any k s A l.length cap cs HCS.out w1).mono ?_
   rintro e w2 ⟨rfl, hb2⟩
   have B2 := qH (B1.out.trans (hb2.mono B1.out.size))
   have K2 := qH (K1.out.below hb2 K1.out.lt)
   clear hb2 k0
   obtain ⟨ct, hct⟩ : ∃ c, countT k s l.length = c := ⟨_, rfl⟩
   rw [hct]
   cases ct with
   | false =>
    have HR := qH (show q = false by rw [← HQ.out]; exact plain_no2 hct)
    clear hct
    go_wp2_with fail
    go_ret
    rw [HR.out]
    exact ⟨rfl, B2.out⟩
   | true =>
    have HCT := qH hct
    have c5 := K2.out.cell 5
    rw [HC5.out] at c5
    clear hct
    go_wp2_with fail
    go_loopw [22] (fun iv wl => ∃ j : Nat, j ≤ l.length ∧ iv = .int .i64 (j : Int) ∧ Hid (Pj k l j) ∧ Below w2.heap.size w2 wl) (fun iv _ => l.length - (intOf iv).toNat)
    case atStart => exact ⟨0, Nat.zero_le _, by simp, Lib.hid (Pj.start k l), Below.refl _ _⟩
    clear c5
    obtain ⟨j, hj, rfl, HP, hb⟩ := hrel
    have HB := qH hb
    have BW := qH (B2.out.trans (hb.mono B2.out.size))
    have KR := qH (K2.out.below hb K2.out.lt)
    clear hb
    obtain ⟨wq, hwq⟩ : ∃ v : World, v = wr := ⟨_, rfl⟩
    subst hwq
    by_cases hjl : j < l.length
    ·have j1 : (j : Int) < (l.length : Int) := Int.ofNat_lt.2 hjl
     obtain ⟨b0, off, rfl, hb, hrng⟩ := H3.out (by rintro rfl; simp at hjl)
     obtain ⟨x, hx⟩ : ∃ x, l[j]? = some x := ⟨_, List.getElem?_eq_getElem hjl⟩
     have HV := qH (RxV.part H4.out BW.out BW.out.size hx)
     have HV6 := qH HV.out.length
     have HX0 := qH (rx_kind HV.out)
     have HV1 := qH (show (f j).all (·.oneCell') = true from List.all_eq_true.2 (RxD.one HV.out))
     have HRG := qH (range_below (hrng j hjl) BW.out hb)
     have HRA := qH (fun i (hi : i < l.length) => range_below (hrng i hi) BW.out hb)
     have HBB := qH (Nat.lt_of_lt_of_le hb BW.out.size)
     have HX := qH hx
     have HXN := qH (show x.nodes ≤ N by have h1 := nodes_mem (List.mem_of_getElem? hx); have := HN.out; omega)
     have HXM := qH (show x.nodes ≤ 1099511627776 by have h1 := nodes_mem (List.mem_of_getElem? hx); have := HM.out; omega)
     have HJ1 := qH hjl
     have e3 := wrap_len hjl HCC.out HCM.out
     have e4 := wrap_len' hjl HCC.out HCM.out
     clear hrng hx hb hj hjl
     go_wp2_with (first
      | ((with_reducible refine atDst 26 ?_); refine wpList_load_mid rfl 46 _ rfl b0 (off + j * 6) rfl (f j) _ HRG.out Tryz.underlying46 rfl (size_rx HV6.out) ?_; (try simp only [Act.put, qA, qB, qC]))
      | ((with_reducible refine atDst 4 ?_); refine wpList_new rfl 46 rfl i0 _ z hi0 HZ0.out rfl (Below.refl wq.heap.size wq) (Nat.le_refl _) ?_; intro w4 hk4 hb4 hs4 _; have K4 := qH hk4; have B4 := qH hb4; clear hk4 hb4 hs4; (try simp only [Act.put, qA, qB, qC]))
      | ((with_reducible refine atStore 46 4 26 ?_); refine wpList_stBlk rfl 46 _ _ rfl wq.heap.size (f j) rfl rfl 46 _ K4.out (size_rx HV6.out) (by rw [HZL.out, HV6.out]) HV1.out B4.out (Nat.le_refl _) ?_; intro w5 hk5 hb5 hs5 _; have K5 := qH hk5; have B5 := qH hb5; have k0 := (KR.out.below hb5 KR.out.lt).cell 0; rw [HC0.out] at k0; have x0 := hk5.cell 0; rw [HX0.out] at x0; clear hk5 hb5 hs5; (try simp only [Act.put, qA, qB, qC])))
     refine (rxFits_any x.kind k w5).mono ?_
     rintro e w6 ⟨rfl, hw6⟩
     have hw7 := hw6.symm
     subst hw7
     clear hw6
     obtain ⟨ft, hft⟩ : ∃ c, fitsT x.kind k = c := ⟨_, rfl⟩
     rw [hft]
     have BX := qH (HB.out.trans (B5.out.mono HB.out.size))
     have BX2 := qH (BW.out.trans (B5.out.mono BW.out.size))
     cases ft with
     | false =>
      have HR := qH (show q = false by rw [← HQ.out]; exact plain_no3 HX.out (fun h => by rw [hft] at h; cases h.1))
      clear hft
      go_wp2_with fail
      go_ret
      rw [HR.out]
      exact ⟨rfl, BX2.out⟩
     | true =>
      have HFT := qH hft
      clear hft x0 k0
      go_wp2_with ((with_reducible refine atDst 34 ?_); refine wpList_ldArr rfl 46 _ rfl wq.heap.size rfl 46 _ _ K5.out Tryz.underlying46 rfl (size_rx HV6.out) ?_; (try simp only [Act.put, qA, qB, qC]))
      refine (IH.out x HXN.out HXM.out (f j) w5 (RxV.mono (HV.out.stay B5.out) B5.out.size)).mono ?_
      rintro e w7 ⟨rfl, hb7⟩
      have B7 := qH (BX.out.trans (hb7.mono BX.out.size))
      have B72 := qH (BX2.out.trans (hb7.mono BX2.out.size))
      have K7 := qH (K5.out.below hb7 K5.out.lt)
      have KR7 := qH ((KR.out.below B5.out KR.out.lt).below hb7 (Nat.lt_of_lt_of_le KR.out.lt B5.out.size))
      have B57 := qH (B5.out.trans (hb7.mono B5.out.size))
      clear hb7
      obtain ⟨pt, hpt⟩ : ∃ c, plainT x = c := ⟨_, rfl⟩
      rw [hpt]
      cases pt with
      | false =>
       have HR := qH (show q = false by rw [← HQ.out]; exact plain_no3 HX.out (fun h => by rw [hpt] at h; cases h.2))
       clear hpt
       go_wp2_with fail
       go_ret
       rw [HR.out]
       exact ⟨rfl, B72.out⟩
      | true =>
       have HPT := qH hpt
       clear hpt
       have x0 := K7.out.cell 0
       rw [HX0.out] at x0
       have HXC0 := qH (KR7.out.cell 0)
       rw [HC0.out] at HXC0
       have HXC5 := qH (KR7.out.cell 5)
       rw [HC5.out] at HXC5
       clear x0
       have NOT5 := qH (fun h : k ≠ 5 => HP.out.next HX.out HFT.out HPT.out fun h5 => absurd h5 h)
       have hc5 : k ≠ 5 ∨ (k = 5 ∧ j = 0) ∨ (k = 5 ∧ ∃ p, j = p + 1) := by
        by_cases h : k = 5
        ·cases j with
         | zero => exact .inr (.inl ⟨h, rfl⟩)
         | succ p => exact .inr (.inr ⟨h, p, rfl⟩)
        ·exact .inl h
       have HLT := qH KR7.out.lt
       rcases hc5 with h | ⟨rfl, rfl⟩ | ⟨rfl, p, hjp⟩
       ·have HPN := qH (NOT5.out h)
        have n1 : (k == 5) = false := by simp [h]
        clear h
        go_wp2_with fail
        refine sx_startB (B := w7.heap.size) (w0 := w7) (by kernel_rfl) (Below.refl _ _) (fun wd hwd hX => ?_)
        clear hwd
        refine sx_take (i := 0) (oi := ⟨some 38, _, _, _, _, _⟩) (v := ?_) rfl (by kernel_rfl) (by kernel_rfl) (by kernel_rfl) (fun _ _ _ h => h) rfl hX ?_ ?_; rotate_left; (intro W hW; go_simp; try with_reducible rfl); simp only [Act.put, qA, qB, qC]
        refine sx_take (i := 1) (oi := ⟨some 39, _, _, _, _, _⟩) (v := .int .i64 k) rfl (by kernel_rfl) (by kernel_rfl) (by kernel_rfl) (fun _ _ _ h => h) rfl hX (fun W hW => ld_int8 (.tmp 38) rfl rfl ((hW.cell (p := ⟨w.heap.size, 0, none⟩) HLT.out).trans HXC0.out)) ?_; simp only [Act.put, qA, qB, qC]
        refine sx_take (i := 2) (oi := ⟨some 40, _, _, _, _, _⟩) (v := ?_) rfl (by kernel_rfl) (by kernel_rfl) (by kernel_rfl) (fun _ _ _ h => h) rfl hX ?_ ?_; rotate_left; (intro W hW; go_simp; try with_reducible rfl); simp only [Act.put, qA, qB, qC]
        refine sx_take (i := 3) (oi := ⟨some 41, _, _, _, _, _⟩) (v := ?_) rfl (by kernel_rfl) (by kernel_rfl) (by kernel_rfl) (fun _ _ _ h => h) rfl hX ?_ ?_; rotate_left; (intro W hW; go_simp; try with_reducible rfl); simp only [Act.put, qA, qB, qC]
        refine sx_skip (i := 4) (oi := ⟨some 42, _, _, _, _, _⟩) rfl (by kernel_rfl) (by kernel_rfl) (by kernel_rfl) (fun _ _ _ h => h) rfl hX ?_; simp only [Act.put, qA, qB, qC]
        refine sx_skip (i := 5) (oi := ⟨some 43, _, _, _, _, _⟩) rfl (by kernel_rfl) (by kernel_rfl) (by kernel_rfl) (fun _ _ _ h => h) rfl hX ?_; simp only [Act.put, qA, qB, qC]
        refine sx_take (i := 6) (oi := ⟨some 44, _, _, _, _, _⟩) (v := ?_) rfl (by kernel_rfl) (by kernel_rfl) (by kernel_rfl) (fun _ _ _ h => h) rfl hX ?_ ?_; rotate_left; (intro W hW; go_simp; try with_reducible rfl); simp only [Act.put, qA, qB, qC]
        refine sx_take (i := 7) (oi := ⟨some 45, _, _, _, _, _⟩) (v := ?_) rfl (by kernel_rfl) (by kernel_rfl) (by kernel_rfl) (fun _ _ _ h => h) rfl hX ?_ ?_; rotate_left; (intro W hW; go_simp; try with_reducible rfl); simp only [Act.put, qA, qB, qC]
        refine sx_skip (i := 8) (oi := ⟨some 46, _, _, _, _, _⟩) rfl (by kernel_rfl) (by kernel_rfl) (by kernel_rfl) (fun _ _ _ h => h) rfl hX ?_; simp only [Act.put, qA, qB, qC]
        refine sx_skip (i := 9) (oi := ⟨some 47, _, _, _, _, _⟩) rfl (by kernel_rfl) (by kernel_rfl) (by kernel_rfl) (fun _ _ _ h => h) rfl hX ?_; simp only [Act.put, qA, qB, qC]
        refine sx_skip (i := 10) (oi := ⟨some 48, _, _, _, _, _⟩) rfl (by kernel_rfl) (by kernel_rfl) (by kernel_rfl) (fun _ _ _ h => h) rfl hX ?_; simp only [Act.put, qA, qB, qC]
        refine sx_skip (i := 11) (oi := ⟨some 49, _, _, _, _, _⟩) rfl (by kernel_rfl) (by kernel_rfl) (by kernel_rfl) (fun _ _ _ h => h) rfl hX ?_; simp only [Act.put, qA, qB, qC]
        refine sx_skip (i := 12) (oi := ⟨some 50, _, _, _, _, _⟩) rfl (by kernel_rfl) (by kernel_rfl) (by kernel_rfl) (fun _ _ _ h => h) rfl hX ?_; simp only [Act.put, qA, qB, qC]
        refine sx_skip (i := 13) (oi := ⟨some 51, _, _, _, _, _⟩) rfl (by kernel_rfl) (by kernel_rfl) (by kernel_rfl) (fun _ _ _ h => h) rfl hX ?_; simp only [Act.put, qA, qB, qC]
        refine sx_skip (i := 14) (oi := ⟨some 52, _, _, _, _, _⟩) rfl (by kernel_rfl) (by kernel_rfl) (by kernel_rfl) (fun _ _ _ h => h) rfl hX ?_; simp only [Act.put, qA, qB, qC]
        refine sx_skip (i := 15) (oi := ⟨some 53, _, _, _, _, _⟩) rfl (by kernel_rfl) (by kernel_rfl) (by kernel_rfl) (fun _ _ _ h => h) rfl hX ?_; simp only [Act.put, qA, qB, qC]
        refine sx_skip (i := 16) (oi := ⟨some 54, _, _, _, _, _⟩) rfl (by kernel_rfl) (by kernel_rfl) (by kernel_rfl) (fun _ _ _ h => h) rfl hX ?_; simp only [Act.put, qA, qB, qC]
        refine sx_take (i := 17) (oi := ⟨some 55, _, _, _, _, _⟩) (v := ?_) rfl (by kernel_rfl) (by kernel_rfl) (by kernel_rfl) (fun _ _ _ h => h) rfl hX ?_ ?_; rotate_left; (intro W hW; go_simp; try with_reducible rfl); simp only [Act.put, qA, qB, qC]
        refine wpAnyH_done (by kernel_rfl) ?_ _
        have BE := qH (B7.out.trans (hX.mono B7.out.size))
        clear hX
        go_wp2_with fail
        exact ⟨⟨j + 1, HJ1.out, by congr 1, Lib.hid HPN.out, BE.out⟩, by simpa [intOf] using sub_next HJ1.out⟩
       ·have HPN := qH (HP.out.next HX.out HFT.out HPT.out fun _ p y h => by cases h)
        go_wp2_with fail
        refine sx_startB (B := w7.heap.size) (w0 := w7) (by kernel_rfl) (Below.refl _ _) (fun wd hwd hX => ?_)
        clear hwd
        refine sx_take (i := 0) (oi := ⟨some 38, _, _, _, _, _⟩) (v := ?_) rfl (by kernel_rfl) (by kernel_rfl) (by kernel_rfl) (fun _ _ _ h => h) rfl hX ?_ ?_; rotate_left; (intro W hW; go_simp; try with_reducible rfl); simp only [Act.put, qA, qB, qC]
        refine sx_take (i := 1) (oi := ⟨some 39, _, _, _, _, _⟩) (v := .int .i64 5) rfl (by kernel_rfl) (by kernel_rfl) (by kernel_rfl) (fun _ _ _ h => h) rfl hX (fun W hW => ld_int8 (.tmp 38) rfl rfl ((hW.cell (p := ⟨w.heap.size, 0, none⟩) HLT.out).trans HXC0.out)) ?_; simp only [Act.put, qA, qB, qC]
        refine sx_take (i := 2) (oi := ⟨some 40, _, _, _, _, _⟩) (v := ?_) rfl (by kernel_rfl) (by kernel_rfl) (by kernel_rfl) (fun _ _ _ h => h) rfl hX ?_ ?_; rotate_left; (intro W hW; go_simp; try with_reducible rfl); simp only [Act.put, qA, qB, qC]
        refine sx_take (i := 3) (oi := ⟨some 41, _, _, _, _, _⟩) (v := ?_) rfl (by kernel_rfl) (by kernel_rfl) (by kernel_rfl) (fun _ _ _ h => h) rfl hX ?_ ?_; rotate_left; (intro W hW; go_simp; try with_reducible rfl); simp only [Act.put, qA, qB, qC]
        refine sx_take (i := 4) (oi := ⟨some 42, _, _, _, _, _⟩) (v := ?_) rfl (by kernel_rfl) (by kernel_rfl) (by kernel_rfl) (fun _ _ _ h => h) rfl hX ?_ ?_; rotate_left; (intro W hW; go_simp; try with_reducible rfl); simp only [Act.put, qA, qB, qC]
        refine sx_take (i := 5) (oi := ⟨some 43, _, _, _, _, _⟩) (v := ?_) rfl (by kernel_rfl) (by kernel_rfl) (by kernel_rfl) (fun _ _ _ h => h) rfl hX ?_ ?_; rotate_left; (intro W hW; go_simp; try with_reducible rfl); simp only [Act.put, qA, qB, qC]
        refine sx_take (i := 6) (oi := ⟨some 44, _, _, _, _, _⟩) (v := ?_) rfl (by kernel_rfl) (by kernel_rfl) (by kernel_rfl) (fun _ _ _ h => h) rfl hX ?_ ?_; rotate_left; (intro W hW; go_simp; try with_reducible rfl); simp only [Act.put, qA, qB, qC]
        refine sx_take (i := 7) (oi := ⟨some 45, _, _, _, _, _⟩) (v := ?_) rfl (by kernel_rfl) (by kernel_rfl) (by kernel_rfl) (fun _ _ _ h => h) rfl hX ?_ ?_; rotate_left; (intro W hW; go_simp; try with_reducible rfl); simp only [Act.put, qA, qB, qC]
        refine sx_skip (i := 8) (oi := ⟨some 46, _, _, _, _, _⟩) rfl (by kernel_rfl) (by kernel_rfl) (by kernel_rfl) (fun _ _ _ h => h) rfl hX ?_; simp only [Act.put, qA, qB, qC]
        refine sx_skip (i := 9) (oi := ⟨some 47, _, _, _, _, _⟩) rfl (by kernel_rfl) (by kernel_rfl) (by kernel_rfl) (fun _ _ _ h => h) rfl hX ?_; simp only [Act.put, qA, qB, qC]
        refine sx_skip (i := 10) (oi := ⟨some 48, _, _, _, _, _⟩) rfl (by kernel_rfl) (by kernel_rfl) (by kernel_rfl) (fun _ _ _ h => h) rfl hX ?_; simp only [Act.put, qA, qB, qC]
        refine sx_skip (i := 11) (oi := ⟨some 49, _, _, _, _, _⟩) rfl (by kernel_rfl) (by kernel_rfl) (by kernel_rfl) (fun _ _ _ h => h) rfl hX ?_; simp only [Act.put, qA, qB, qC]
        refine sx_skip (i := 12) (oi := ⟨some 50, _, _, _, _, _⟩) rfl (by kernel_rfl) (by kernel_rfl) (by kernel_rfl) (fun _ _ _ h => h) rfl hX ?_; simp only [Act.put, qA, qB, qC]
        refine sx_skip (i := 13) (oi := ⟨some 51, _, _, _, _, _⟩) rfl (by kernel_rfl) (by kernel_rfl) (by kernel_rfl) (fun _ _ _ h => h) rfl hX ?_; simp only [Act.put, qA, qB, qC]
        refine sx_skip (i := 14) (oi := ⟨some 52, _, _, _, _, _⟩) rfl (by kernel_rfl) (by kernel_rfl) (by kernel_rfl) (fun _ _ _ h => h) rfl hX ?_; simp only [Act.put, qA, qB, qC]
        refine sx_skip (i := 15) (oi := ⟨some 53, _, _, _, _, _⟩) rfl (by kernel_rfl) (by kernel_rfl) (by kernel_rfl) (fun _ _ _ h => h) rfl hX ?_; simp only [Act.put, qA, qB, qC]
        refine sx_skip (i := 16) (oi := ⟨some 54, _, _, _, _, _⟩) rfl (by kernel_rfl) (by kernel_rfl) (by kernel_rfl) (fun _ _ _ h => h) rfl hX ?_; simp only [Act.put, qA, qB, qC]
        refine sx_take (i := 17) (oi := ⟨some 55, _, _, _, _, _⟩) (v := ?_) rfl (by kernel_rfl) (by kernel_rfl) (by kernel_rfl) (fun _ _ _ h => h) rfl hX ?_ ?_; rotate_left; (intro W hW; go_simp; try with_reducible rfl); simp only [Act.put, qA, qB, qC]
        refine wpAnyH_done (by kernel_rfl) ?_ _
        have BE := qH (B7.out.trans (hX.mono B7.out.size))
        clear hX
        go_wp2_with fail
        exact ⟨⟨1, HJ1.out, by congr 1, Lib.hid HPN.out, BE.out⟩, by simpa [intOf] using sub_next HJ1.out⟩
       ·have HJP := qH hjp
        have hpl : p < l.length := by have := HJ1.out; rw [hjp] at this; exact Nat.lt_of_succ_lt this
        obtain ⟨y, hy⟩ : ∃ y, l[p]? = some y := ⟨_, List.getElem?_eq_getElem hpl⟩
        have HY := qH hy
        have HVY := qH (RxV.part H4.out B72.out B72.out.size hy)
        have HY6 := qH HVY.out.length
        have HRY := qH (range_below (HRA.out p hpl) B57.out HBB.out)
        have HB7 := qH (Nat.lt_of_lt_of_le HBB.out B57.out.size)
        have HVX := qH ((HV.out.stay B57.out).mono B57.out.size)
        have HYM := qH (show y.nodes ≤ 1099511627776 by have h1 := nodes_mem (List.mem_of_getElem? hy); have := HM.out; clear e3 e4; omega)
        have p3 : (p : Int) < (l.length : Int) := Int.ofNat_lt.2 hpl
        have p4 : (0 : Int) < (j : Int) := by rw [hjp]; exact Int.natCast_pos.2 (Nat.succ_pos p)
        have HPW := qH (show IntKind.i64.wrap ((j : Int) - 1) = (p : Int) by rw [hjp]; exact pred_wrapR hpl HCC.out HCM.out)
        have HP4 := qH p4
        clear hpl hy hjp
        go_wp2_with fail
        refine sx_startB (B := w7.heap.size) (w0 := w7) (by kernel_rfl) (Below.refl _ _) (fun wd hwd hX => ?_)
        clear hwd
        refine sx_take (i := 0) (oi := ⟨some 38, _, _, _, _, _⟩) (v := ?_) rfl (by kernel_rfl) (by kernel_rfl) (by kernel_rfl) (fun _ _ _ h => h) rfl hX ?_ ?_; rotate_left; (intro W hW; go_simp; try with_reducible rfl); simp only [Act.put, qA, qB, qC]
        refine sx_take (i := 1) (oi := ⟨some 39, _, _, _, _, _⟩) (v := .int .i64 5) rfl (by kernel_rfl) (by kernel_rfl) (by kernel_rfl) (fun _ _ _ h => h) rfl hX (fun W hW => ld_int8 (.tmp 38) rfl rfl ((hW.cell (p := ⟨w.heap.size, 0, none⟩) HLT.out).trans HXC0.out)) ?_; simp only [Act.put, qA, qB, qC]
        refine sx_take (i := 2) (oi := ⟨some 40, _, _, _, _, _⟩) (v := ?_) rfl (by kernel_rfl) (by kernel_rfl) (by kernel_rfl) (fun _ _ _ h => h) rfl hX ?_ ?_; rotate_left; (intro W hW; go_simp; try with_reducible rfl); simp only [Act.put, qA, qB, qC]
        refine sx_take (i := 3) (oi := ⟨some 41, _, _, _, _, _⟩) (v := ?_) rfl (by kernel_rfl) (by kernel_rfl) (by kernel_rfl) (fun _ _ _ h => h) rfl hX ?_ ?_; rotate_left; (intro W hW; go_simp; try with_reducible rfl); simp only [Act.put, qA, qB, qC]
        refine sx_take (i := 4) (oi := ⟨some 42, _, _, _, _, _⟩) (v := ?_) rfl (by kernel_rfl) (by kernel_rfl) (by kernel_rfl) (fun _ _ _ h => h) rfl hX ?_ ?_; rotate_left; (intro W hW; go_simp; try with_reducible rfl); simp only [Act.put, qA, qB, qC]
        refine sx_take (i := 5) (oi := ⟨some 43, _, _, _, _, _⟩) (v := .bool true) rfl (by kernel_rfl) (by kernel_rfl) (by kernel_rfl) (fun _ _ _ h => h) rfl hX (fun W _ => ex_pos (.tmp 42) rfl rfl rfl HP4.out W) ?_; simp only [Act.put, qA, qB, qC]
        refine sx_take (i := 6) (oi := ⟨some 44, _, _, _, _, _⟩) (v := ?_) rfl (by kernel_rfl) (by kernel_rfl) (by kernel_rfl) (fun _ _ _ h => h) rfl hX ?_ ?_; rotate_left; (intro W hW; go_simp; try with_reducible rfl); simp only [Act.put, qA, qB, qC]
        refine sx_take (i := 7) (oi := ⟨some 45, _, _, _, _, _⟩) (v := ?_) rfl (by kernel_rfl) (by kernel_rfl) (by kernel_rfl) (fun _ _ _ h => h) rfl hX ?_ ?_; rotate_left; (intro W hW; go_simp; try with_reducible rfl); simp only [Act.put, qA, qB, qC]
        refine sx_take (i := 8) (oi := ⟨some 46, _, _, _, _, _⟩) (v := .agg (f j).toArray) rfl (by kernel_rfl) (by kernel_rfl) (by kernel_rfl) (fun _ _ _ h => h) rfl hX (ld_blk 46 _ rfl wq.heap.size rfl 46 (f j) _ K7.out K7.out.lt Tryz.underlying46 rfl (size_rx HV6.out)) ?_; simp only [Act.put, qA, qB, qC]
        refine sx_take (i := 9) (oi := ⟨some 47, _, _, _, _, _⟩) (v := ?_) rfl (by kernel_rfl) (by kernel_rfl) (by kernel_rfl) (fun _ _ _ h => h) rfl hX ?_ ?_; rotate_left; (intro W hW; go_simp; try with_reducible rfl); simp only [Act.put, qA, qB, qC]
        refine sx_take (i := 10) (oi := ⟨some 48, _, _, _, _, _⟩) (v := .slice (some ⟨b0, off, none⟩) l.length cap) rfl (by kernel_rfl) (by kernel_rfl) (by kernel_rfl) (fun _ _ _ h => h) rfl hX (fun W hW => ld_rxsM (.tmp 47) rfl rfl ((hW.cell (p := ⟨w.heap.size, 5, none⟩) HLT.out).trans HXC5.out)) ?_; simp only [Act.put, qA, qB, qC]
        refine sx_take (i := 11) (oi := ⟨some 49, _, _, _, _, _⟩) (v := ?_) rfl (by kernel_rfl) (by kernel_rfl) (by kernel_rfl) (fun _ _ _ h => h) rfl hX ?_ ?_; rotate_left; (intro W hW; go_simp; try with_reducible rfl); simp only [Act.put, qA, qB, qC]
        refine sx_take (i := 12) (oi := ⟨some 50, _, _, _, _, _⟩) (v := .int .i64 (p : Int)) rfl (by kernel_rfl) (by kernel_rfl) (by kernel_rfl) (fun _ _ _ h => h) rfl hX (fun W _ => ex_pred (.tmp 49) rfl rfl rfl HPW.out W) ?_; simp only [Act.put, qA, qB, qC]
        refine sx_take (i := 13) (oi := ⟨some 51, _, _, _, _, _⟩) (v := ?_) rfl (by kernel_rfl) (by kernel_rfl) (by kernel_rfl) (fun _ _ _ h => h) rfl hX ?_ ?_; rotate_left; (intro W hW; go_simp; try with_reducible rfl); simp only [Act.put, qA, qB, qC]
        refine sx_take (i := 14) (oi := ⟨some 52, _, _, _, _, _⟩) (v := .agg (f p).toArray) rfl (by kernel_rfl) (by kernel_rfl) (by kernel_rfl) (fun _ _ _ h => h) rfl hX (ld_mid 46 _ rfl b0 (off + p * 6) rfl (f p) _ HRY.out HB7.out Tryz.underlying46 rfl (size_rx HY6.out)) ?_; simp only [Act.put, qA, qB, qC]
        refine sx_actB (i := 15) (o := ⟨some 53, _, _, _, _, _⟩) rfl (by kernel_rfl) rfl hX (fun K hK => ?_)
        go_wp2_with fail
        refine (rxFollows_any x y HYM.out (f j) (f p) wd ((HVX.out.stay hX).mono hX.size) ((HVY.out.stay hX).mono hX.size)).mono ?_
        rintro e w8 ⟨rfl, hb8⟩
        obtain ⟨fo, hfo⟩ : ∃ c, folT x y = c := ⟨_, rfl⟩
        rw [hfo]
        have HFO := qH hfo
        go_wp2_with fail
        refine hK _ _ (hb8.mono hX.size) ?_
        clear hK K
        (try simp only [Act.put, qA, qB, qC])
        replace hX := hX.trans (hb8.mono hX.size)
        clear hb8 hfo
        refine sx_take (i := 16) (oi := ⟨some 54, _, _, _, _, _⟩) (v := ?_) rfl (by kernel_rfl) (by kernel_rfl) (by kernel_rfl) (fun _ _ _ h => h) rfl hX ?_ ?_; rotate_left; (intro W hW; go_simp; try with_reducible rfl); simp only [Act.put, qA, qB, qC]
        refine sx_take (i := 17) (oi := ⟨some 55, _, _, _, _, _⟩) (v := ?_) rfl (by kernel_rfl) (by kernel_rfl) (by kernel_rfl) (fun _ _ _ h => h) rfl hX ?_ ?_; rotate_left; (intro W hW; go_simp; try with_reducible rfl); simp only [Act.put, qA, qB, qC]
        cases fo with
        | false =>
         have HR := qH (show q = false by rw [← HQ.out]; exact plain_no4 HY.out (by rw [← HJP.out]; exact HX.out) HFO.out)
         refine wpAnyH_done (by kernel_rfl) ?_ _
         have BE := qH (B72.out.trans (hX.mono B72.out.size))
         clear hX
         go_wp2_with fail
         go_ret
         rw [HR.out]
         exact ⟨rfl, BE.out⟩
        | true =>
         have HPN := qH (HP.out.next HX.out HFT.out HPT.out fun _ p' y' h hy' => by
          have h := Nat.succ.inj (HJP.out.symm.trans h)
          subst h
          rw [HY.out] at hy'
          injection hy' with hy'
          subst hy'
          exact HFO.out)
         refine wpAnyH_done (by kernel_rfl) ?_ _
         have BE := qH (B7.out.trans (hX.mono B7.out.size))
         clear hX
         go_wp2_with fail
         exact ⟨⟨j + 1, HJ1.out, by congr 1, Lib.hid HPN.out, BE.out⟩, by simpa [intOf] using sub_next HJ1.out⟩
    ·obtain rfl : j = l.length := Nat.le_antisymm hj (Nat.not_lt.1 hjl)
     have j1 : ¬ ((l.length : Int) < (l.length : Int)) := Int.lt_irrefl _
     have HR := qH (show q = true by rw [← HQ.out]; exact HP.out.all HK3.out HCT.out)
     go_wp2_with fail
     go_ret
     rw [HR.out]
     exact ⟨rfl, BW.out⟩
end Go.Proofs.YteadghoojeehlaaGreatDoor
