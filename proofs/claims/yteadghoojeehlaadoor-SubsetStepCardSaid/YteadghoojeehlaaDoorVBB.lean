/-
  Texts of this proof, put together: ScD. No statement is proved here.
-/
import Derived.Test.YteadghoojeehlaaDoorVBA
namespace Go.Proofs.YteadghoojeehlaaDoor
open Go.RowKit
set_option linter.unusedSimpArgs false
set_option linter.unusedVariables false
def alk (X Y : List Int) (j : Nat) : Bool := decide (X.length = Y.length ∧ X.take j = Y.take j)
theorem alk_zero (X Y : List Int) : alk X Y 0 = decide ((X.length : Int) = (Y.length : Int)) := by
 unfold alk
 refine decide_eq_decide.2 ?_
 simp only [List.take_zero, and_true]
 omega
theorem alk_len {X Y : List Int} {j : Nat} (h : alk X Y j = true) : X.length = Y.length := (of_decide_eq_true h).1
theorem alk_next {X Y : List Int} {j : Nat} {x y : Int} (h : alk X Y j = true) (hx : X[j]? = some x) (hy : Y[j]? = some y) : decide (x = y) = alk X Y (j + 1) := by
 obtain ⟨h1, h2⟩ := of_decide_eq_true h
 unfold alk
 refine decide_eq_decide.2 ?_
 rw [List.take_add_one, List.take_add_one, hx, hy, h2]
 constructor
 ·rintro rfl
  exact ⟨h1, rfl⟩
 ·rintro ⟨_, h3⟩
  simpa using h3
theorem alk_no {X Y : List Int} {j : Nat} (h : alk X Y j = false) : decide (X = Y) = false := by
 refine decide_eq_false fun e => ?_
 subst e
 unfold alk at h
 simp at h
theorem alk_yes {X Y : List Int} (h : alk X Y X.length = true) : decide (X = Y) = true := by
 obtain ⟨h1, h2⟩ := of_decide_eq_true h
 refine decide_eq_true ?_
 rw [List.take_length] at h2
 rw [h2, h1, List.take_length]
theorem ex_eqk {ev : Operand → Value} {o : Oper} (x y : Operand) (ho : o.op = .binOp .eql 3 x y 3) {k m : Int} (hx : ev x = .int .i64 k) (hy : ev y = .int .i64 m) {b : Bool} (hb : decide (k = m) = b) (W : World) : (execOp ev o).run Tryd.prog W = .ok (.value (.bool b)) W := by
 subst hb
 simp only [execOp, ho, hx, hy]
 go_simp
 try rfl
theorem ex_eqB9 {ev : Operand → Value} {o : Oper} (x y : Operand) (ho : o.op = .binOp .eql 4 x y 4) {b : Bool} (hx : ev x = .bool b) (hy : ev y = .bool b) (W : World) : (execOp ev o).run Tryd.prog W = .ok (.value (.bool true)) W := by
 simp only [execOp, ho, hx, hy]
 cases b <;> go_simp
theorem oneEnd4 {H X : Value → Value → Value → Value → World → Prop} {G : Prop} (main : (∀ a b c d w', H a b c d w' → X a b c d w') → G) (fin : ∀ a b c d w', H a b c d w' → X a b c d w') : G := main fin
theorem to_same {S : List St} {a z : Int} {n : Nat} (h : FitN S a n) (w v : List UInt8) :
  decide (((toD (machN S a z n) 0 w : Nat) : Int) = ((toD (machN S a z n) 0 v : Nat) : Int)) = decide (behN S (clsN S [a]) w = behN S (clsN S [a]) v) := by
 have h0 : (LN S a n)[0]? = some (clsN S [a]) := Lq_zero n
 have h1 := toD_machN (z := z) h w 0 _ h0
 have h2 := toD_machN (z := z) h v 0 _ h0
 refine decide_eq_decide.2 ?_
 constructor
 ·intro e
  have e' : toD (machN S a z n) 0 w = toD (machN S a z n) 0 v := by omega
  rw [e', h2] at h1
  injection h1 with h1
  exact h1.symm
 ·intro e
  have hn := Lq_nodup (f := sucN S) (x0 := clsN S [a]) n
  have i1 := idx_is hn h1
  have i2 := idx_is hn h2
  rw [← i1, ← i2, e]
set_option maxHeartbeats 8000000 in
set_option maxRecDepth 1000000 in
theorem substep_walk (S : List St) (a z : Int) (W Y : List UInt8) (cs : List Value) (U X : Value) (w : World) (hv : NfaV w cs S a z) (hw : Row w U (bvs W)) (hy : Row w X (bvs Y)) (hlo : ∀ s ∈ S, -9223372036854775808 ≤ s.to) (hT : Tb w) :
  Calls Tryd.prog 6 #[.agg cs.toArray, U, X] w fun e w' => e = .returned (.bool true) ∧ Below w.heap.size w w' := by
 have N0 := qH hv
 have W0 := qH hw
 have Y0 := qH hy
 have HLO := qH hlo
 have HT := qH hT
 obtain ⟨A, cap, rfl, hlc, hcm, hA0⟩ := hv.len
 obtain ⟨A2, cap2, rfl, a1, a2, _⟩ := hw
 obtain ⟨A3, cap3, rfl, b1, b2, _⟩ := hy
 rw [bvs_length] at W0 Y0 a1 b1 ⊢
 rw [bvs_length]
 have HLW := qH (And.intro a1 a2)
 have HLY := qH (And.intro b1 b2)
 obtain ⟨id, d0, hid, hdz, hdl⟩ := zero_dfa
 have HDZ := qH hdz
 have HDL := qH hdl
 clear hv hlo hT hlc hcm hA0 hdz hdl a1 a2 b1 b2
 obtain ⟨i1, hi1, hy0, hy1, hy2⟩ := infoP inf_int
 go_enter Tryd.func6, Tryd.ntmps6
 go_wp2_with ((with_reducible refine atDst 3 ?_); refine wpList_box rfl 24 _ rfl [.slice A S.length cap, .int .i64 a, .int .i64 z] rfl (Below.refl w.heap.size w) (Nat.le_refl _) ?_; intro w1 hk1 hb1 hs1 _; have K1 := qH hk1; have B1 := qH hb1; clear hk1 hb1 hs1; (try simp only [Act.put, qA, qB, qC]))
 refine (begun10_any w1 (HT.out.belowG B1.out HT.out.lt)).mono ?_
 rintro e w2 ⟨rfl, hb⟩
 have K2 := qH (K1.out.below hb K1.out.lt)
 have B2 := qH (B1.out.trans (hb.mono B1.out.size))
 clear hb
 go_wp2_with ((with_reducible refine atDst 19 ?_); refine wpList_ldArr rfl 24 _ rfl w.heap.size rfl 24 _ _ K2.out Tryd.underlying24 rfl (size_nfa rfl) ?_; (try simp only [Act.put, qA, qB, qC]))
 refine (lightN_any S a z 12 _ w2 (N0.out.below B2.out)).mono ?_
 rintro e w3 ⟨rfl, hb⟩
 have K3 := qH (K2.out.below hb K2.out.lt)
 have B3 := qH (B2.out.trans (hb.mono B2.out.size))
 clear hb
 obtain ⟨lt, hlt⟩ : ∃ m, lightB S 12 = m := ⟨_, rfl⟩
 rw [hlt]
 clear hlt
 cases lt with
 | false =>
  go_wp2_with fail
  go_ret
  exact ⟨rfl, B3.out⟩
 | true =>
  by_cases hw10 : (10 : Int) < (W.length : Int)
  ·have hd10 : decide ((10 : Int) < (W.length : Int)) = true := decide_eq_true hw10
   go_wp2_with fail
   go_ret
   exact ⟨rfl, B3.out⟩
  by_cases hv10 : (10 : Int) < (Y.length : Int)
  ·have hd10 : decide ((10 : Int) < (W.length : Int)) = false := decide_eq_false hw10
   have he10 : decide ((10 : Int) < (Y.length : Int)) = true := decide_eq_true hv10
   go_wp2_with fail
   go_ret
   exact ⟨rfl, B3.out⟩
  have hd10 : decide ((10 : Int) < (W.length : Int)) = false := decide_eq_false hw10
  have he10 : decide ((10 : Int) < (Y.length : Int)) = false := decide_eq_false hv10
  go_wp2_with ((with_reducible refine atDst 33 ?_); refine wpList_ldArr rfl 24 _ rfl w.heap.size rfl 24 _ _ K3.out Tryd.underlying24 rfl (size_nfa rfl) ?_; (try simp only [Act.put, qA, qB, qC]))
  clear hd10 he10 hw10 hv10
  have hmk := sbMake_any S a z 60 _ w3 (N0.out.below B3.out) HLO.out (by decide) (HT.out.belowG B3.out HT.out.lt)
  refine hmk.mono ?_
  clear hmk
  rintro e w4 ⟨c4, rfl, hd, hb⟩
  have K4 := qH (K3.out.below hb K3.out.lt)
  have B4 := qH (B3.out.trans (hb.mono B3.out.size))
  have V4 := qH hd
  clear hd hb
  obtain ⟨D, hD⟩ : ∃ D, D = (mkN S a z 60).1 := ⟨_, rfl⟩
  obtain ⟨er, her⟩ : ∃ er, er = (mkN S a z 60).2 := ⟨_, rfl⟩
  rw [← hD] at V4
  rw [← her]
  have HQ := qH (mkN_case S a z 60 (show mkN S a z 60 = (D, er) by rw [hD, her]))
  clear hD her
  by_cases he0 : er = 0
  ·subst he0
   obtain ⟨n, hm, hf, hn, hdm⟩ : ∃ n : Nat, MayN S a z ∧ FitN S a n ∧ (n : Int) ≤ 60 ∧ D = machN S a z n := by
    rcases HQ.out with ⟨h, _⟩ | h | ⟨_, h⟩
    ·cases h
    ·cases h
    ·exact h
   have HM := qH hm
   have HMD := qH (show MayD D by rw [hdm]; exact machN_may hf (by omega))
   have HRD := qH (show runD D W = runB S a z W by rw [hdm]; exact runD_machN hf hm W)
   have HTS := qH (show decide (((toD D 0 W : Nat) : Int) = ((toD D 0 Y : Nat) : Int)) = decide (behN S (clsN S [a]) W = behN S (clsN S [a]) Y) by rw [hdm]; exact to_same hf W Y)
   have HCL := qH (show D.cl.length = 256 by rw [hdm]; exact machN_cl)
   have HCY := qH (show ∀ l, cloN S a z l = clsN S l from fun l => cloN_yes (mayNB_yes hm))
   have HSY := qH (show ∀ l b, steN S a z l b = stpN S l b from fun l b => (steN_yes (mayNB_yes hm)).trans (cloN_yes (mayNB_yes hm)))
   clear hm hf hn hdm
   go_wp2_with (first
    | ((with_reducible refine atDst 7 ?_); refine wpList_new rfl 32 rfl id _ d0 hid HDZ.out rfl (Below.refl w4.heap.size w4) (Nat.le_refl _) ?_; intro w5 hk hb hs ho; have L5 := qH hk; have B5 := qH hb; clear hk hb hs ho; (try simp only [Act.put, qA, qB, qC]))
    | ((with_reducible refine atStore 32 7 35 ?_); refine wpList_stBlk rfl 32 _ _ rfl w4.heap.size c4 rfl rfl 32 _ L5.out V4.out.size (by rw [HDL.out, V4.out.length]) V4.out.one B5.out (Nat.le_refl _) ?_; intro w6 hk hb hs ho; have L6 := qH hk; have V6 := qH (V4.out.below hb); have K6 := qH (K4.out.below hb K4.out.lt); have B6 := qH (B4.out.trans (hb.mono B4.out.size)); clear hk hb hs ho; (try simp only [Act.put, qA, qB, qC])))
   have N6 := qH (N0.out.below B6.out)
   have W6 := qH (W0.out.below B6.out)
   have Y6 := qH (Y0.out.below B6.out)
   have HSZ := qH V6.out.size
   have HC1 := qH (K6.out.cell 1)
   have HKL := qH K6.out.lt
   refine sx_startB (B := w6.heap.size) (w0 := w6) (by kernel_rfl) (Below.refl _ _) (fun wd hwd hX => ?_)
   clear hwd
   refine sx_take (i := 0) (oi := ⟨some 39, _, _, _, _, _⟩) (v := .agg #[.slice A S.length cap, .int .i64 a, .int .i64 z]) rfl (by kernel_rfl) (by kernel_rfl) (by kernel_rfl) (fun _ _ _ h => h) rfl hX (ld_blk 24 _ rfl w.heap.size rfl 24 [.slice A S.length cap, .int .i64 a, .int .i64 z] _ K6.out K6.out.lt Tryd.underlying24 rfl (size_nfa rfl)) ?_; simp only [Act.put, qA, qB, qC]
   refine sx_take (i := 1) (oi := ⟨some 40, _, _, _, _, _⟩) (v := ?_) rfl (by kernel_rfl) (by kernel_rfl) (by kernel_rfl) (fun _ _ _ h => h) rfl hX ?_ ?_; rotate_left; (intro W hW; go_simp; try with_reducible rfl); simp only [Act.put, qA, qB, qC]
   refine sx_take (i := 2) (oi := ⟨some 41, _, _, _, _, _⟩) (v := .int .i64 a) rfl (by kernel_rfl) (by kernel_rfl) (by kernel_rfl) (fun _ _ _ h => h) rfl hX (fun V hV => ld_int9 (.tmp 40) rfl rfl ((hV.cell (p := ⟨w.heap.size, 1, none⟩) HKL.out).trans HC1.out)) ?_; simp only [Act.put, qA, qB, qC]
   refine sx_take (i := 5) (oi := ⟨some 44, _, _, _, _, _⟩) (v := .agg #[.slice A S.length cap, .int .i64 a, .int .i64 z]) rfl (by kernel_rfl) (by kernel_rfl) (by kernel_rfl) (fun _ _ _ h => h) rfl hX (ld_blk 24 _ rfl w.heap.size rfl 24 [.slice A S.length cap, .int .i64 a, .int .i64 z] _ K6.out K6.out.lt Tryd.underlying24 rfl (size_nfa rfl)) ?_; simp only [Act.put, qA, qB, qC]
   refine sx_take (i := 6) (oi := ⟨some 45, _, _, _, _, _⟩) (v := ?_) rfl (by kernel_rfl) (by kernel_rfl) (by kernel_rfl) (fun _ _ _ h => h) rfl hX ?_ ?_; rotate_left; (intro W hW; go_simp; try with_reducible rfl); simp only [Act.put, qA, qB, qC]
   refine sx_take (i := 7) (oi := ⟨some 46, _, _, _, _, _⟩) (v := .int .i64 a) rfl (by kernel_rfl) (by kernel_rfl) (by kernel_rfl) (fun _ _ _ h => h) rfl hX (fun V hV => ld_int9 (.tmp 45) rfl rfl ((hV.cell (p := ⟨w.heap.size, 1, none⟩) HKL.out).trans HC1.out)) ?_; simp only [Act.put, qA, qB, qC]
   apply oneEnd4 (H := fun v42 v43 v47 v48 w' => Row w' v43 (nums .i64 (clsN S [a])) ∧ Row w' v48 (nums .i64 (clsN S [a])) ∧ Below w6.heap.size w6 w')
   case main =>
    intro fin
    have FIN := qH fin
    clear fin
    refine sx_two (i := 3) (j := 8) (oi := ⟨some 42, _, _, _, _, _⟩) (oj := ⟨some 47, _, _, _, _, _⟩) rfl rfl (by kernel_rfl) rfl rfl hX (fun K hK => ?_) (fun K hK => ?_)
    ·refine wp_bldI 43 3 (.tmp 41) rfl i1 Tryd.underlying43 hi1 0 hy0 hy1 a rfl ?_
     intro x1 hr hb
     refine hK _ _ (hb.mono hX.size) ?_
     clear hK K
     obtain ⟨v42, hv⟩ : ∃ v, v = Value.slice (some ⟨wd.heap.size, 0, none⟩) 1 1 := ⟨_, rfl⟩
     rw [← hv] at hr ⊢
     (try simp only [Act.put, qA, qB, qC])
     replace hX := hX.trans (hb.mono hX.size)
     try (replace R42 := qH (R42.out.below hb))
     try (replace R47 := qH (R47.out.below hb))
     try (replace R43 := qH (R43.out.below hb))
     try (replace R48 := qH (R48.out.below hb))
     have R42 := qH hr
     clear hr hb hv
     refine sx_two (i := 4) (j := 8) (oi := ⟨some 43, _, _, _, _, _⟩) (oj := ⟨some 47, _, _, _, _, _⟩) rfl rfl (by kernel_rfl) rfl rfl hX (fun K hK => ?_) (fun K hK => ?_)
     ·go_wp2_with fail
      refine (refCloseN_any S a z [.slice A S.length cap, .int .i64 a, .int .i64 z] [a] _ x1 (N6.out.below hX) R42.out).mono ?_
      rintro e x2 ⟨v43, rfl, hr, hb⟩
      go_wp2_with fail
      refine hK _ _ (hb.mono hX.size) ?_
      clear hK K
      (try simp only [Act.put, qA, qB, qC])
      replace hX := hX.trans (hb.mono hX.size)
      try (replace R42 := qH (R42.out.below hb))
      try (replace R47 := qH (R47.out.below hb))
      try (replace R43 := qH (R43.out.below hb))
      try (replace R48 := qH (R48.out.below hb))
      rw [HCY.out] at hr
      have R43 := qH hr
      clear hr hb
      refine sx_actB (i := 8) (o := ⟨some 47, _, _, _, _, _⟩) rfl (by kernel_rfl) rfl hX (fun K hK => ?_)
      refine wp_bldI 43 3 (.tmp 46) rfl i1 Tryd.underlying43 hi1 0 hy0 hy1 a rfl ?_
      intro x3 hr hb
      refine hK _ _ (hb.mono hX.size) ?_
      clear hK K
      obtain ⟨v47, hv⟩ : ∃ v, v = Value.slice (some ⟨x2.heap.size, 0, none⟩) 1 1 := ⟨_, rfl⟩
      rw [← hv] at hr ⊢
      (try simp only [Act.put, qA, qB, qC])
      replace hX := hX.trans (hb.mono hX.size)
      try (replace R42 := qH (R42.out.below hb))
      try (replace R47 := qH (R47.out.below hb))
      try (replace R43 := qH (R43.out.below hb))
      try (replace R48 := qH (R48.out.below hb))
      have R47 := qH hr
      clear hr hb hv
      refine sx_actB (i := 9) (o := ⟨some 48, _, _, _, _, _⟩) rfl (by kernel_rfl) rfl hX (fun K hK => ?_)
      go_wp2_with fail
      refine (refCloseN_any S a z [.slice A S.length cap, .int .i64 a, .int .i64 z] [a] _ x3 (N6.out.below hX) R47.out).mono ?_
      rintro e x4 ⟨v48, rfl, hr, hb⟩
      go_wp2_with fail
      refine hK _ _ (hb.mono hX.size) ?_
      clear hK K
      (try simp only [Act.put, qA, qB, qC])
      replace hX := hX.trans (hb.mono hX.size)
      try (replace R42 := qH (R42.out.below hb))
      try (replace R47 := qH (R47.out.below hb))
      try (replace R43 := qH (R43.out.below hb))
      try (replace R48 := qH (R48.out.below hb))
      rw [HCY.out] at hr
      have R48 := qH hr
      clear hr hb
      refine sx_take (i := 10) (oi := ⟨some 9, _, _, _, _, _⟩) (v := ?_) rfl (by kernel_rfl) (by kernel_rfl) (by kernel_rfl) (fun _ _ _ h => h) rfl hX ?_ ?_; rotate_left; (intro W hW; go_simp; try with_reducible rfl); simp only [Act.put, qA, qB, qC]
      refine sx_take (i := 11) (oi := ⟨some 10, _, _, _, _, _⟩) (v := ?_) rfl (by kernel_rfl) (by kernel_rfl) (by kernel_rfl) (fun _ _ _ h => h) rfl hX ?_ ?_; rotate_left; (intro W hW; go_simp; try with_reducible rfl); simp only [Act.put, qA, qB, qC]
      refine wpAnyH_done (by kernel_rfl) ?_ _
      exact FIN.out v42 v43 v47 v48 x4 ⟨R43.out, R48.out, hX⟩
     ·refine wp_bldI 43 3 (.tmp 46) rfl i1 Tryd.underlying43 hi1 0 hy0 hy1 a rfl ?_
      intro x2 hr hb
      refine hK _ _ (hb.mono hX.size) ?_
      clear hK K
      obtain ⟨v47, hv⟩ : ∃ v, v = Value.slice (some ⟨x1.heap.size, 0, none⟩) 1 1 := ⟨_, rfl⟩
      rw [← hv] at hr ⊢
      (try simp only [Act.put, qA, qB, qC])
      replace hX := hX.trans (hb.mono hX.size)
      try (replace R42 := qH (R42.out.below hb))
      try (replace R47 := qH (R47.out.below hb))
      try (replace R43 := qH (R43.out.below hb))
      try (replace R48 := qH (R48.out.below hb))
      have R47 := qH hr
      clear hr hb hv
      refine sx_actB (i := 4) (o := ⟨some 43, _, _, _, _, _⟩) rfl (by kernel_rfl) rfl hX (fun K hK => ?_)
      go_wp2_with fail
      refine (refCloseN_any S a z [.slice A S.length cap, .int .i64 a, .int .i64 z] [a] _ x2 (N6.out.below hX) R42.out).mono ?_
      rintro e x3 ⟨v43, rfl, hr, hb⟩
      go_wp2_with fail
      refine hK _ _ (hb.mono hX.size) ?_
      clear hK K
      (try simp only [Act.put, qA, qB, qC])
      replace hX := hX.trans (hb.mono hX.size)
      try (replace R42 := qH (R42.out.below hb))
      try (replace R47 := qH (R47.out.below hb))
      try (replace R43 := qH (R43.out.below hb))
      try (replace R48 := qH (R48.out.below hb))
      rw [HCY.out] at hr
      have R43 := qH hr
      clear hr hb
      refine sx_actB (i := 9) (o := ⟨some 48, _, _, _, _, _⟩) rfl (by kernel_rfl) rfl hX (fun K hK => ?_)
      go_wp2_with fail
      refine (refCloseN_any S a z [.slice A S.length cap, .int .i64 a, .int .i64 z] [a] _ x3 (N6.out.below hX) R47.out).mono ?_
      rintro e x4 ⟨v48, rfl, hr, hb⟩
      go_wp2_with fail
      refine hK _ _ (hb.mono hX.size) ?_
      clear hK K
      (try simp only [Act.put, qA, qB, qC])
      replace hX := hX.trans (hb.mono hX.size)
      try (replace R42 := qH (R42.out.below hb))
      try (replace R47 := qH (R47.out.below hb))
      try (replace R43 := qH (R43.out.below hb))
      try (replace R48 := qH (R48.out.below hb))
      rw [HCY.out] at hr
      have R48 := qH hr
      clear hr hb
      refine sx_take (i := 10) (oi := ⟨some 9, _, _, _, _, _⟩) (v := ?_) rfl (by kernel_rfl) (by kernel_rfl) (by kernel_rfl) (fun _ _ _ h => h) rfl hX ?_ ?_; rotate_left; (intro W hW; go_simp; try with_reducible rfl); simp only [Act.put, qA, qB, qC]
      refine sx_take (i := 11) (oi := ⟨some 10, _, _, _, _, _⟩) (v := ?_) rfl (by kernel_rfl) (by kernel_rfl) (by kernel_rfl) (fun _ _ _ h => h) rfl hX ?_ ?_; rotate_left; (intro W hW; go_simp; try with_reducible rfl); simp only [Act.put, qA, qB, qC]
      refine wpAnyH_done (by kernel_rfl) ?_ _
      exact FIN.out v42 v43 v47 v48 x4 ⟨R43.out, R48.out, hX⟩
    ·refine wp_bldI 43 3 (.tmp 46) rfl i1 Tryd.underlying43 hi1 0 hy0 hy1 a rfl ?_
     intro x1 hr hb
     refine hK _ _ (hb.mono hX.size) ?_
     clear hK K
     obtain ⟨v47, hv⟩ : ∃ v, v = Value.slice (some ⟨wd.heap.size, 0, none⟩) 1 1 := ⟨_, rfl⟩
     rw [← hv] at hr ⊢
     (try simp only [Act.put, qA, qB, qC])
     replace hX := hX.trans (hb.mono hX.size)
     try (replace R42 := qH (R42.out.below hb))
     try (replace R47 := qH (R47.out.below hb))
     try (replace R43 := qH (R43.out.below hb))
     try (replace R48 := qH (R48.out.below hb))
     have R47 := qH hr
     clear hr hb hv
     refine sx_actB (i := 3) (o := ⟨some 42, _, _, _, _, _⟩) rfl (by kernel_rfl) rfl hX (fun K hK => ?_)
     refine wp_bldI 43 3 (.tmp 41) rfl i1 Tryd.underlying43 hi1 0 hy0 hy1 a rfl ?_
     intro x2 hr hb
     refine hK _ _ (hb.mono hX.size) ?_
     clear hK K
     obtain ⟨v42, hv⟩ : ∃ v, v = Value.slice (some ⟨x1.heap.size, 0, none⟩) 1 1 := ⟨_, rfl⟩
     rw [← hv] at hr ⊢
     (try simp only [Act.put, qA, qB, qC])
     replace hX := hX.trans (hb.mono hX.size)
     try (replace R42 := qH (R42.out.below hb))
     try (replace R47 := qH (R47.out.below hb))
     try (replace R43 := qH (R43.out.below hb))
     try (replace R48 := qH (R48.out.below hb))
     have R42 := qH hr
     clear hr hb hv
     refine sx_actB (i := 4) (o := ⟨some 43, _, _, _, _, _⟩) rfl (by kernel_rfl) rfl hX (fun K hK => ?_)
     go_wp2_with fail
     refine (refCloseN_any S a z [.slice A S.length cap, .int .i64 a, .int .i64 z] [a] _ x2 (N6.out.below hX) R42.out).mono ?_
     rintro e x3 ⟨v43, rfl, hr, hb⟩
     go_wp2_with fail
     refine hK _ _ (hb.mono hX.size) ?_
     clear hK K
     (try simp only [Act.put, qA, qB, qC])
     replace hX := hX.trans (hb.mono hX.size)
     try (replace R42 := qH (R42.out.below hb))
     try (replace R47 := qH (R47.out.below hb))
     try (replace R43 := qH (R43.out.below hb))
     try (replace R48 := qH (R48.out.below hb))
     rw [HCY.out] at hr
     have R43 := qH hr
     clear hr hb
     refine sx_actB (i := 9) (o := ⟨some 48, _, _, _, _, _⟩) rfl (by kernel_rfl) rfl hX (fun K hK => ?_)
     go_wp2_with fail
     refine (refCloseN_any S a z [.slice A S.length cap, .int .i64 a, .int .i64 z] [a] _ x3 (N6.out.below hX) R47.out).mono ?_
     rintro e x4 ⟨v48, rfl, hr, hb⟩
     go_wp2_with fail
     refine hK _ _ (hb.mono hX.size) ?_
     clear hK K
     (try simp only [Act.put, qA, qB, qC])
     replace hX := hX.trans (hb.mono hX.size)
     try (replace R42 := qH (R42.out.below hb))
     try (replace R47 := qH (R47.out.below hb))
     try (replace R43 := qH (R43.out.below hb))
     try (replace R48 := qH (R48.out.below hb))
     rw [HCY.out] at hr
     have R48 := qH hr
     clear hr hb
     refine sx_take (i := 10) (oi := ⟨some 9, _, _, _, _, _⟩) (v := ?_) rfl (by kernel_rfl) (by kernel_rfl) (by kernel_rfl) (fun _ _ _ h => h) rfl hX ?_ ?_; rotate_left; (intro W hW; go_simp; try with_reducible rfl); simp only [Act.put, qA, qB, qC]
     refine sx_take (i := 11) (oi := ⟨some 10, _, _, _, _, _⟩) (v := ?_) rfl (by kernel_rfl) (by kernel_rfl) (by kernel_rfl) (fun _ _ _ h => h) rfl hX ?_ ?_; rotate_left; (intro W hW; go_simp; try with_reducible rfl); simp only [Act.put, qA, qB, qC]
     refine wpAnyH_done (by kernel_rfl) ?_ _
     exact FIN.out v42 v43 v47 v48 x4 ⟨R43.out, R48.out, hX⟩
   clear hX
   rintro v42 v43 v47 v48 w7 ⟨ha, hc, hb⟩
   have RA7 := qH ha
   have RC7 := qH hc
   have B67 := qH hb
   have B7 := qH (B6.out.trans (hb.mono B6.out.size))
   have K7 := qH (K6.out.below hb K6.out.lt)
   have L7 := qH (L6.out.below hb L6.out.lt)
   have V7 := qH (V6.out.below hb)
   have N7 := qH (N6.out.below hb)
   have W7 := qH (W6.out.below hb)
   have Y7 := qH (Y6.out.below hb)
   clear ha hc hb
   go_wp2_with fail
   go_loopw [9, 11] (fun v iv wl => ∃ j : Nat, j ≤ W.length ∧ iv = .int .i64 (j : Int) ∧ Row wl v (nums .i64 (behN S (clsN S [a]) (W.take j))) ∧ Below w7.heap.size w7 wl) (fun _ iv _ => W.length - (intOf iv).toNat)
   case atStart => exact ⟨0, Nat.zero_le _, by simp, RA7.out, Below.refl _ _⟩
   clear RA7
   obtain ⟨j, hj, rfl, ho, hb⟩ := hrel
   have HO := qH ho
   have BQ := qH hb
   have K9 := qH (K7.out.below hb K7.out.lt)
   have N9 := qH (N7.out.below hb)
   clear ho hb
   obtain ⟨wq, hwq⟩ : ∃ v : World, v = wr := ⟨_, rfl⟩
   subst hwq
   by_cases hjl : j < W.length
   ·have j1 : (j : Int) < (W.length : Int) := Int.ofNat_lt.2 hjl
    obtain ⟨b, hx⟩ : ∃ x, W[j]? = some x := ⟨_, List.getElem?_eq_getElem hjl⟩
    obtain ⟨bl, ol, rfl, hbl, hcell⟩ := (W7.out.below BQ.out).at_ (by rw [bvs_length]; exact Nat.lt_of_le_of_lt (Nat.zero_le _) hjl)
    have HCJ := qH (show wq.cell? ⟨bl, ol + j, none⟩ = some (.int .u8 (b.toNat : Int)) from hcell j _ (bvs_get W j b hx))
    have HBL := qH hbl
    have HJ := qH hjl
    have HMJ := qH (sub_next hjl)
    have e3 := wrap_len HJ.out HLW.out.1 HLW.out.2
    have e4 := wrap_len' HJ.out HLW.out.1 HLW.out.2
    have HBE := qH (behN_take (S := S) (l := clsN S [a]) hx)
    have HBN := qH (show b.toNat < 256 from b.toNat_lt)
    have HLE := qH (show (behN S (clsN S [a]) (W.take j)).length ≤ 1000000 by
     have h1 := behN_len S (W.take j) _ (clsN_len S [a])
     have h2 := HM.out.few
     clear e3 e4
     omega)
    obtain ⟨n, hn⟩ : ∃ n, n = b.toNat := ⟨_, rfl⟩
    rw [← hn] at HCJ HBE HBN
    clear hcell hbl hx hj hjl hn
    go_wp2_with fail
    refine sx_startB (B := wq.heap.size) (w0 := wq) (by kernel_rfl) (Below.refl _ _) (fun wd hwd hX => ?_)
    clear hwd
    refine sx_take (i := 0) (oi := ⟨some 55, _, _, _, _, _⟩) (v := .agg #[.slice A S.length cap, .int .i64 a, .int .i64 z]) rfl (by kernel_rfl) (by kernel_rfl) (by kernel_rfl) (fun _ _ _ h => h) rfl hX (ld_blk 24 _ rfl w.heap.size rfl 24 [.slice A S.length cap, .int .i64 a, .int .i64 z] _ K9.out K9.out.lt Tryd.underlying24 rfl (size_nfa rfl)) ?_; simp only [Act.put, qA, qB, qC]
    refine sx_take (i := 1) (oi := ⟨some 56, _, _, _, _, _⟩) (v := ?_) rfl (by kernel_rfl) (by kernel_rfl) (by kernel_rfl) (fun _ _ _ h => h) rfl hX ?_ ?_; rotate_left; (intro W hW; go_simp; try with_reducible rfl); simp only [Act.put, qA, qB, qC]
    refine sx_take (i := 2) (oi := ⟨some 57, _, _, _, _, _⟩) (v := ?_) rfl (by kernel_rfl) (by kernel_rfl) (by kernel_rfl) (fun _ _ _ h => h) rfl hX ?_ ?_; rotate_left; (intro W hW; go_simp; try with_reducible rfl); simp only [Act.put, qA, qB, qC]
    refine sx_take (i := 3) (oi := ⟨some 58, _, _, _, _, _⟩) (v := ?_) rfl (by kernel_rfl) (by kernel_rfl) (by kernel_rfl) (fun _ _ _ h => h) rfl hX ?_ ?_; rotate_left; (intro W hW; go_simp; try with_reducible rfl); simp only [Act.put, qA, qB, qC]
    refine sx_take (i := 4) (oi := ⟨some 59, _, _, _, _, _⟩) (v := ?_) rfl (by kernel_rfl) (by kernel_rfl) (by kernel_rfl) (fun _ _ _ h => h) rfl hX ?_ ?_; rotate_left; (intro W hW; go_simp; try with_reducible rfl); simp only [Act.put, qA, qB, qC]
    refine sx_take (i := 5) (oi := ⟨some 60, _, _, _, _, _⟩) (v := .int .u8 (n : Int)) rfl (by kernel_rfl) (by kernel_rfl) (by kernel_rfl) (fun _ _ _ h => h) rfl hX (fun V hV => ld_u9 (.tmp 59) rfl rfl ((hV.cell (p := ⟨bl, ol + j, none⟩) HBL.out).trans HCJ.out)) ?_; simp only [Act.put, qA, qB, qC]
    refine sx_actB (i := 6) (o := ⟨some 61, _, _, _, _, _⟩) rfl (by kernel_rfl) rfl hX (fun K hK => ?_)
    go_wp2_with fail
    refine (refStepN_any S a z [.slice A S.length cap, .int .i64 a, .int .i64 z] _ _ n wd (N9.out.below hX) (HO.out.below hX) HLE.out HBN.out).mono ?_
    rintro e w8 ⟨v8, rfl, hr8, hb8⟩
    rw [HSY.out] at hr8
    go_wp2_with fail
    refine hK _ _ (hb8.mono hX.size) ?_
    clear hK K
    (try simp only [Act.put, qA, qB, qC])
    replace hX := hX.trans (hb8.mono hX.size)
    have R8 := qH (show Row w8 v8 (nums .i64 (behN S (clsN S [a]) (W.take (j + 1)))) by rw [HBE.out]; exact hr8)
    have B8 := qH (BQ.out.trans (hX.mono BQ.out.size))
    clear hr8 hb8
    refine sx_take (i := 7) (oi := ⟨some 9, _, _, _, _, _⟩) (v := ?_) rfl (by kernel_rfl) (by kernel_rfl) (by kernel_rfl) (fun _ _ _ h => h) rfl hX ?_ ?_; rotate_left; (intro W hW; go_simp; try with_reducible rfl); simp only [Act.put, qA, qB, qC]
    refine wpAnyH_done (by kernel_rfl) ?_ _
    clear hX
    go_wp2_with fail
    exact ⟨⟨j + 1, HJ.out, by congr 1, R8.out, B8.out⟩, by simpa [intOf] using HMJ.out⟩
   obtain rfl : j = W.length := Nat.le_antisymm hj (Nat.not_lt.1 hjl)
   have j1 : ¬ ((W.length : Int) < (W.length : Int)) := Int.lt_irrefl _
   obtain ⟨M, hM⟩ : ∃ M, M = behN S (clsN S [a]) W := ⟨_, rfl⟩
   rw [List.take_length, ← hM] at HO
   rw [← hM] at HTS
   have HML := qH (show M.length ≤ 2000 by
    have h1 := behN_len S W _ (clsN_len S [a])
    have h2 := HM.out.few
    rw [hM]; omega)
   have RC9 := qH (RC7.out.below BQ.out)
   clear hj hjl hM RC7
   go_wp2_with fail
   clear j1
   go_loopw [10, 12] (fun v iv wl => ∃ j : Nat, j ≤ Y.length ∧ iv = .int .i64 (j : Int) ∧ Row wl v (nums .i64 (behN S (clsN S [a]) (Y.take j))) ∧ Below wq.heap.size wq wl) (fun _ iv _ => Y.length - (intOf iv).toNat)
   case atStart => exact ⟨0, Nat.zero_le _, by simp, RC9.out, Below.refl _ _⟩
   clear RC9
   obtain ⟨j, hj, rfl, ho, hb⟩ := hrel
   have HP := qH ho
   have BP := qH hb
   have KA := qH (K9.out.below hb K9.out.lt)
   have NA := qH (N9.out.below hb)
   clear ho hb
   obtain ⟨wp, hwp⟩ : ∃ v : World, v = wr := ⟨_, rfl⟩
   subst hwp
   by_cases hjl : j < Y.length
   ·have j1 : (j : Int) < (Y.length : Int) := Int.ofNat_lt.2 hjl
    obtain ⟨b, hx⟩ : ∃ x, Y[j]? = some x := ⟨_, List.getElem?_eq_getElem hjl⟩
    obtain ⟨bl, ol, rfl, hbl, hcell⟩ := ((Y7.out.below BQ.out).below BP.out).at_ (by rw [bvs_length]; exact Nat.lt_of_le_of_lt (Nat.zero_le _) hjl)
    have HCJ := qH (show wp.cell? ⟨bl, ol + j, none⟩ = some (.int .u8 (b.toNat : Int)) from hcell j _ (bvs_get Y j b hx))
    have HBL := qH hbl
    have HJ := qH hjl
    have HMJ := qH (sub_next hjl)
    have e3 := wrap_len HJ.out HLY.out.1 HLY.out.2
    have e4 := wrap_len' HJ.out HLY.out.1 HLY.out.2
    have HBE := qH (behN_take (S := S) (l := clsN S [a]) hx)
    have HBN := qH (show b.toNat < 256 from b.toNat_lt)
    have HLE := qH (show (behN S (clsN S [a]) (Y.take j)).length ≤ 1000000 by
     have h1 := behN_len S (Y.take j) _ (clsN_len S [a])
     have h2 := HM.out.few
     clear e3 e4
     omega)
    obtain ⟨n, hn⟩ : ∃ n, n = b.toNat := ⟨_, rfl⟩
    rw [← hn] at HCJ HBE HBN
    clear hcell hbl hx hj hjl hn
    go_wp2_with fail
    refine sx_startB (B := wp.heap.size) (w0 := wp) (by kernel_rfl) (Below.refl _ _) (fun wd hwd hX => ?_)
    clear hwd
    refine sx_take (i := 0) (oi := ⟨some 68, _, _, _, _, _⟩) (v := .agg #[.slice A S.length cap, .int .i64 a, .int .i64 z]) rfl (by kernel_rfl) (by kernel_rfl) (by kernel_rfl) (fun _ _ _ h => h) rfl hX (ld_blk 24 _ rfl w.heap.size rfl 24 [.slice A S.length cap, .int .i64 a, .int .i64 z] _ KA.out KA.out.lt Tryd.underlying24 rfl (size_nfa rfl)) ?_; simp only [Act.put, qA, qB, qC]
    refine sx_take (i := 1) (oi := ⟨some 69, _, _, _, _, _⟩) (v := ?_) rfl (by kernel_rfl) (by kernel_rfl) (by kernel_rfl) (fun _ _ _ h => h) rfl hX ?_ ?_; rotate_left; (intro W hW; go_simp; try with_reducible rfl); simp only [Act.put, qA, qB, qC]
    refine sx_take (i := 2) (oi := ⟨some 70, _, _, _, _, _⟩) (v := ?_) rfl (by kernel_rfl) (by kernel_rfl) (by kernel_rfl) (fun _ _ _ h => h) rfl hX ?_ ?_; rotate_left; (intro W hW; go_simp; try with_reducible rfl); simp only [Act.put, qA, qB, qC]
    refine sx_take (i := 3) (oi := ⟨some 71, _, _, _, _, _⟩) (v := ?_) rfl (by kernel_rfl) (by kernel_rfl) (by kernel_rfl) (fun _ _ _ h => h) rfl hX ?_ ?_; rotate_left; (intro W hW; go_simp; try with_reducible rfl); simp only [Act.put, qA, qB, qC]
    refine sx_take (i := 4) (oi := ⟨some 72, _, _, _, _, _⟩) (v := ?_) rfl (by kernel_rfl) (by kernel_rfl) (by kernel_rfl) (fun _ _ _ h => h) rfl hX ?_ ?_; rotate_left; (intro W hW; go_simp; try with_reducible rfl); simp only [Act.put, qA, qB, qC]
    refine sx_take (i := 5) (oi := ⟨some 73, _, _, _, _, _⟩) (v := .int .u8 (n : Int)) rfl (by kernel_rfl) (by kernel_rfl) (by kernel_rfl) (fun _ _ _ h => h) rfl hX (fun V hV => ld_u9 (.tmp 72) rfl rfl ((hV.cell (p := ⟨bl, ol + j, none⟩) HBL.out).trans HCJ.out)) ?_; simp only [Act.put, qA, qB, qC]
    refine sx_actB (i := 6) (o := ⟨some 74, _, _, _, _, _⟩) rfl (by kernel_rfl) rfl hX (fun K hK => ?_)
    go_wp2_with fail
    refine (refStepN_any S a z [.slice A S.length cap, .int .i64 a, .int .i64 z] _ _ n wd (NA.out.below hX) (HP.out.below hX) HLE.out HBN.out).mono ?_
    rintro e w8 ⟨v8, rfl, hr8, hb8⟩
    rw [HSY.out] at hr8
    go_wp2_with fail
    refine hK _ _ (hb8.mono hX.size) ?_
    clear hK K
    (try simp only [Act.put, qA, qB, qC])
    replace hX := hX.trans (hb8.mono hX.size)
    have R8 := qH (show Row w8 v8 (nums .i64 (behN S (clsN S [a]) (Y.take (j + 1)))) by rw [HBE.out]; exact hr8)
    have B8 := qH (BP.out.trans (hX.mono BP.out.size))
    clear hr8 hb8
    refine sx_take (i := 7) (oi := ⟨some 10, _, _, _, _, _⟩) (v := ?_) rfl (by kernel_rfl) (by kernel_rfl) (by kernel_rfl) (fun _ _ _ h => h) rfl hX ?_ ?_; rotate_left; (intro W hW; go_simp; try with_reducible rfl); simp only [Act.put, qA, qB, qC]
    refine wpAnyH_done (by kernel_rfl) ?_ _
    clear hX
    go_wp2_with fail
    exact ⟨⟨j + 1, HJ.out, by congr 1, R8.out, B8.out⟩, by simpa [intOf] using HMJ.out⟩
   obtain rfl : j = Y.length := Nat.le_antisymm hj (Nat.not_lt.1 hjl)
   have j1 : ¬ ((Y.length : Int) < (Y.length : Int)) := Int.lt_irrefl _
   obtain ⟨O, hO⟩ : ∃ O, O = behN S (clsN S [a]) Y := ⟨_, rfl⟩
   rw [List.take_length, ← hO] at HP
   rw [← hO] at HTS
   have HOL := qH (show O.length ≤ 2000 by
    have h1 := behN_len S Y _ (clsN_len S [a])
    have h2 := HM.out.few
    rw [hO]; omega)
   have HOP := qH (HO.out.below BP.out)
   have HAZ := qH (alk_zero M O)
   have BW := qH (B7.out.trans ((BQ.out.trans (BP.out.mono BQ.out.size)).mono B7.out.size))
   clear hj hjl hO HO
   obtain ⟨Am, cm, rfl, _⟩ := HOP.out
   obtain ⟨Ao, co, rfl, _⟩ := HP.out
   rw [nums_length] at HOP HP ⊢
   rw [nums_length]
   go_wp2_with fail
   clear j1
   go_loopw [13, 14] (fun v iv wl => ∃ j : Nat, j ≤ M.length ∧ iv = .int .i64 (j : Int) ∧ v = .bool (alk M O j) ∧ Below wp.heap.size wp wl) (fun _ iv _ => M.length - (intOf iv).toNat)
   case atStart => exact ⟨0, Nat.zero_le _, by simp, by rw [HAZ.out]; rfl, Below.refl _ _⟩
   obtain ⟨j, hj, rfl, rfl, hb⟩ := hrel
   have BR := qH hb
   clear hb
   obtain ⟨wo, hwo⟩ : ∃ v : World, v = wr := ⟨_, rfl⟩
   subst hwo
   obtain ⟨al, hal⟩ : ∃ b, b = alk M O j := ⟨_, rfl⟩
   rw [← hal]
   have hend : (¬ (j : Int) < (M.length : Int) ∨ al = false) → decide (M = O) = al := by
    intro h
    cases hal2 : al with
    | false => exact alk_no (by rw [← hal, hal2])
    | true =>
     rcases h with h | h
     ·have : j = M.length := by omega
      subst this
      exact alk_yes (by rw [← hal, hal2])
     ·rw [hal2] at h; cases h
   have HEND := qH hend
   clear hend
   by_cases hgo : j < M.length ∧ al = true
   ·obtain ⟨hjm, rfl⟩ := hgo
    have j1 : (j : Int) < (M.length : Int) := Int.ofNat_lt.2 hjm
    have HJ := qH hjm
    have HMJ := qH (sub_next hjm)
    have e3 := wrap_one j (lt_bigN HJ.out HML.out)
    have e4 := wrap_one' j (lt_bigN HJ.out HML.out)
    have hlm := alk_len hal.symm
    have hjo : j < O.length := by rw [← hlm]; exact hjm
    have j2 : (j : Int) < (O.length : Int) := Int.ofNat_lt.2 hjo
    obtain ⟨x, hx⟩ : ∃ x, M[j]? = some x := ⟨_, List.getElem?_eq_getElem hjm⟩
    obtain ⟨y, hy⟩ : ∃ y, O[j]? = some y := ⟨_, List.getElem?_eq_getElem hjo⟩
    have HNX := qH (alk_next hal.symm hx hy)
    obtain ⟨bm, om, rfl, hbm, hcm⟩ := (HOP.out.below BR.out).at_ (by rw [nums_length]; exact Nat.lt_of_le_of_lt (Nat.zero_le _) hjm)
    obtain ⟨bo, oo, rfl, hbo, hco⟩ := (HP.out.below BR.out).at_ (by rw [nums_length]; exact Nat.lt_of_le_of_lt (Nat.zero_le _) hjo)
    have HCM := qH (show wo.cell? ⟨bm, om + j, none⟩ = some (.int .i64 x) from hcm j _ (by simp [nums, hx]))
    have HCO := qH (show wo.cell? ⟨bo, oo + j, none⟩ = some (.int .i64 y) from hco j _ (by simp [nums, hy]))
    have HBM := qH hbm
    have HBO := qH hbo
    clear hj hjm hlm hjo hx hy hbm hcm hbo hco hal
    go_wp2_with fail
    refine sx_startB (B := wo.heap.size) (w0 := wo) (by kernel_rfl) (Below.refl _ _) (fun wd hwd hX => ?_)
    clear hwd
    refine sx_take (i := 0) (oi := ⟨some 89, _, _, _, _, _⟩) (v := ?_) rfl (by kernel_rfl) (by kernel_rfl) (by kernel_rfl) (fun _ _ _ h => h) rfl hX ?_ ?_; rotate_left; (intro W hW; go_simp; try with_reducible rfl); simp only [Act.put, qA, qB, qC]
    refine sx_take (i := 1) (oi := ⟨some 90, _, _, _, _, _⟩) (v := ?_) rfl (by kernel_rfl) (by kernel_rfl) (by kernel_rfl) (fun _ _ _ h => h) rfl hX ?_ ?_; rotate_left; (intro W hW; go_simp; try with_reducible rfl); simp only [Act.put, qA, qB, qC]
    refine sx_take (i := 2) (oi := ⟨some 91, _, _, _, _, _⟩) (v := ?_) rfl (by kernel_rfl) (by kernel_rfl) (by kernel_rfl) (fun _ _ _ h => h) rfl hX ?_ ?_; rotate_left; (intro W hW; go_simp; try with_reducible rfl); simp only [Act.put, qA, qB, qC]
    refine sx_take (i := 3) (oi := ⟨some 92, _, _, _, _, _⟩) (v := .int .i64 x) rfl (by kernel_rfl) (by kernel_rfl) (by kernel_rfl) (fun _ _ _ h => h) rfl hX (fun V hV => ld_int9 (.tmp 91) rfl rfl ((hV.cell (p := ⟨bm, om + j, none⟩) HBM.out).trans HCM.out)) ?_; simp only [Act.put, qA, qB, qC]
    refine sx_take (i := 4) (oi := ⟨some 93, _, _, _, _, _⟩) (v := ?_) rfl (by kernel_rfl) (by kernel_rfl) (by kernel_rfl) (fun _ _ _ h => h) rfl hX ?_ ?_; rotate_left; (intro W hW; go_simp; try with_reducible rfl); simp only [Act.put, qA, qB, qC]
    refine sx_take (i := 5) (oi := ⟨some 94, _, _, _, _, _⟩) (v := ?_) rfl (by kernel_rfl) (by kernel_rfl) (by kernel_rfl) (fun _ _ _ h => h) rfl hX ?_ ?_; rotate_left; (intro W hW; go_simp; try with_reducible rfl); simp only [Act.put, qA, qB, qC]
    refine sx_take (i := 6) (oi := ⟨some 95, _, _, _, _, _⟩) (v := ?_) rfl (by kernel_rfl) (by kernel_rfl) (by kernel_rfl) (fun _ _ _ h => h) rfl hX ?_ ?_; rotate_left; (intro W hW; go_simp; try with_reducible rfl); simp only [Act.put, qA, qB, qC]
    refine sx_take (i := 7) (oi := ⟨some 96, _, _, _, _, _⟩) (v := .int .i64 y) rfl (by kernel_rfl) (by kernel_rfl) (by kernel_rfl) (fun _ _ _ h => h) rfl hX (fun V hV => ld_int9 (.tmp 95) rfl rfl ((hV.cell (p := ⟨bo, oo + j, none⟩) HBO.out).trans HCO.out)) ?_; simp only [Act.put, qA, qB, qC]
    refine sx_take (i := 8) (oi := ⟨some 97, _, _, _, _, _⟩) (v := .bool (alk M O (j + 1))) rfl (by kernel_rfl) (by kernel_rfl) (by kernel_rfl) (fun _ _ _ h => h) rfl hX (fun V _ => ex_eqk (.tmp 92) (.tmp 96) rfl rfl rfl HNX.out V) ?_; simp only [Act.put, qA, qB, qC]
    refine sx_take (i := 9) (oi := ⟨some 13, _, _, _, _, _⟩) (v := ?_) rfl (by kernel_rfl) (by kernel_rfl) (by kernel_rfl) (fun _ _ _ h => h) rfl hX ?_ ?_; rotate_left; (intro W hW; go_simp; try with_reducible rfl); simp only [Act.put, qA, qB, qC]
    refine wpAnyH_done (by kernel_rfl) ?_ _
    have BE := qH (BR.out.trans (hX.mono BR.out.size))
    clear hX
    go_wp2_with fail
    exact ⟨⟨j + 1, HJ.out, by congr 1, rfl, BE.out⟩, by simpa [intOf] using HMJ.out⟩
   have hst : ¬ (j : Int) < (M.length : Int) ∨ al = false := by
    by_cases h : (j : Int) < (M.length : Int)
    ·right
     cases hal2 : al with
     | false => rfl
     | true => exact absurd ⟨by omega, hal2⟩ hgo
    ·exact .inl h
   have HAL := qH (HEND.out hst)
   rw [HAL.out] at HTS
   have BZ := qH (BW.out.trans (BR.out.mono BW.out.size))
   have HB6 := qH (B67.out.trans ((BQ.out.trans ((BP.out.trans (BR.out.mono BP.out.size)).mono BQ.out.size)).mono B67.out.size))
   have LZ := qH (L6.out.below HB6.out L6.out.lt)
   have KZ := qH (K6.out.below HB6.out K6.out.lt)
   have VZ := qH (V6.out.below HB6.out)
   have NZ := qH (N6.out.below HB6.out)
   have WZ := qH (W6.out.below HB6.out)
   have YZ := qH (Y6.out.below HB6.out)
   have HSTOP := qH (show ¬ (j : Int) < (M.length : Int) ∨ ((j : Int) < (M.length : Int) ∧ al = false) by
    by_cases h : (j : Int) < (M.length : Int)
    ·rcases hst with h2 | h2
     ·exact absurd h h2
     ·exact .inr ⟨h, h2⟩
    ·exact .inl h)
   have HNP := qH (show 0 < D.next.length by have := HMD.out.pos; omega)
   have HRG := qH (runD_get HMD.out HCL.out W)
   obtain ⟨An, Ae, cn, ce, vf, _, hcs, _, _, he⟩ := VZ.out.form
   have HCS := qH hcs
   have HE := qH he
   obtain ⟨p, hp⟩ : ∃ p, p = toD D 0 W := ⟨_, rfl⟩
   obtain ⟨q, hq⟩ : ∃ q, q = toD D 0 Y := ⟨_, rfl⟩
   obtain ⟨k, hk⟩ : ∃ k, k = D.ends.length := ⟨_, rfl⟩
   obtain ⟨rb, hrb⟩ : ∃ rb, rb = runB S a z W := ⟨_, rfl⟩
   rw [HRD.out, ← hp, ← hrb] at HRG
   rw [← hp, ← hq] at HTS
   rw [← hk] at HCS HE
   have HPE := qH (show toD D 0 W = p from hp.symm)
   have HQE := qH (show toD D 0 Y = q from hq.symm)
   have HRE := qH (show runB S a z W = rb from hrb.symm)
   have HPK := qH (show p < k by rw [hk]; exact (List.getElem?_eq_some_iff.1 HRG.out).1)
   obtain ⟨be, oe, rfl, hbe, hce⟩ := HE.out.at_ (by rw [bools_length, ← hk]; exact Nat.lt_of_le_of_lt (Nat.zero_le _) HPK.out)
   have HCP := qH (show wo.cell? ⟨be, oe + p, none⟩ = some (.bool rb) from hce p _ (by simp [bools, HRG.out]))
   have HBE := qH hbe
   have HC7 := qH (show wo.cell? ⟨w4.heap.size, 257, none⟩ = some (.slice (some ⟨be, oe, none⟩) k ce) by rw [LZ.out.cell 257, HCS.out]; exact dcl_e HCL.out)
   have HLL := qH LZ.out.lt
   have p0 : decide ((p : Int) < 0) = false := decide_eq_false (by omega)
   have q0 : decide ((q : Int) < 0) = false := decide_eq_false (by omega)
   have p1 : (p : Int) < (k : Int) := Int.ofNat_lt.2 HPK.out
   clear hal hgo hst HEND hj hcs he hp hq hk hrb hbe hce
   rcases HSTOP.out with j1 | ⟨j1, rfl⟩
   cases al
   all_goals
    go_wp2_with fail
    refine sx_startB (B := wo.heap.size) (w0 := wo) (by kernel_rfl) (Below.refl _ _) (fun wd hwd hX => ?_)
    clear hwd
    refine sx_take (i := 0) (oi := ⟨some 98, _, _, _, _, _⟩) (v := .agg c4.toArray) rfl (by kernel_rfl) (by kernel_rfl) (by kernel_rfl) (fun _ _ _ h => h) rfl hX (ld_blk 32 (.tmp 7) rfl w4.heap.size rfl 32 c4 _ LZ.out LZ.out.lt Tryd.underlying32 rfl HSZ.out) ?_; simp only [Act.put, qA, qB, qC]
    refine sx_take (i := 1) (oi := ⟨some 99, _, _, _, _, _⟩) (v := ?_) rfl (by kernel_rfl) (by kernel_rfl) (by kernel_rfl) (fun _ _ _ h => h) rfl hX ?_ ?_; rotate_left; (intro W hW; go_simp; try with_reducible rfl); simp only [Act.put, qA, qB, qC]
    refine sx_take (i := 3) (oi := ⟨some 101, _, _, _, _, _⟩) (v := .agg c4.toArray) rfl (by kernel_rfl) (by kernel_rfl) (by kernel_rfl) (fun _ _ _ h => h) rfl hX (ld_blk 32 (.tmp 7) rfl w4.heap.size rfl 32 c4 _ LZ.out LZ.out.lt Tryd.underlying32 rfl HSZ.out) ?_; simp only [Act.put, qA, qB, qC]
    refine sx_take (i := 4) (oi := ⟨some 102, _, _, _, _, _⟩) (v := ?_) rfl (by kernel_rfl) (by kernel_rfl) (by kernel_rfl) (fun _ _ _ h => h) rfl hX ?_ ?_; rotate_left; (intro W hW; go_simp; try with_reducible rfl); simp only [Act.put, qA, qB, qC]
    refine sx_actB (i := 2) (o := ⟨some 100, _, _, _, _, _⟩) rfl (by kernel_rfl) rfl hX (fun K hK => ?_)
    go_wp2_with fail
    refine (refTo11_any D 0 W c4 _ wd (VZ.out.below hX) HMD.out HNP.out (WZ.out.below hX)).mono ?_
    rintro e wa ⟨rfl, hb⟩
    go_wp2_with fail
    refine hK _ _ (hb.mono hX.size) ?_
    clear hK K
    (try simp only [Act.put, qA, qB, qC])
    replace hX := hX.trans (hb.mono hX.size)
    clear hb
    refine sx_actB (i := 5) (o := ⟨some 103, _, _, _, _, _⟩) rfl (by kernel_rfl) rfl hX (fun K hK => ?_)
    go_wp2_with fail
    refine (refTo11_any D 0 Y c4 _ wa (VZ.out.below hX) HMD.out HNP.out (YZ.out.below hX)).mono ?_
    rintro e wb ⟨rfl, hb⟩
    go_wp2_with fail
    refine hK _ _ (hb.mono hX.size) ?_
    clear hK K
    (try simp only [Act.put, qA, qB, qC])
    replace hX := hX.trans (hb.mono hX.size)
    clear hb
    rw [HPE.out, HQE.out]
    refine sx_take (i := 6) (oi := ⟨some 15, _, _, _, _, _⟩) (v := ?_) rfl (by kernel_rfl) (by kernel_rfl) (by kernel_rfl) (fun _ _ _ h => h) rfl hX ?_ ?_; rotate_left; (intro W hW; go_simp; try with_reducible rfl); simp only [Act.put, qA, qB, qC]
    refine sx_take (i := 7) (oi := ⟨some 16, _, _, _, _, _⟩) (v := ?_) rfl (by kernel_rfl) (by kernel_rfl) (by kernel_rfl) (fun _ _ _ h => h) rfl hX ?_ ?_; rotate_left; (intro W hW; go_simp; try with_reducible rfl); simp only [Act.put, qA, qB, qC]
    refine wpAnyH_done (by kernel_rfl) ?_ _
    have XB := qH hX
    clear hX
    go_wp2_with fail
    refine sx_startB (B := wo.heap.size) (w0 := wo) (by kernel_rfl) XB.out (fun wd hwd hX => ?_)
    clear hwd
    refine sx_take (i := 0) (oi := ⟨some 110, _, _, _, _, _⟩) (v := ?_) rfl (by kernel_rfl) (by kernel_rfl) (by kernel_rfl) (fun _ _ _ h => h) rfl hX ?_ ?_; rotate_left; (intro W hW; go_simp; try with_reducible rfl); simp only [Act.put, qA, qB, qC]
    refine sx_take (i := 1) (oi := ⟨some 111, _, _, _, _, _⟩) (v := ?_) rfl (by kernel_rfl) (by kernel_rfl) (by kernel_rfl) (fun _ _ _ h => h) rfl hX ?_ ?_; rotate_left; (intro W hW; go_simp; try with_reducible rfl); simp only [Act.put, qA, qB, qC]
    refine sx_take (i := 2) (oi := ⟨some 112, _, _, _, _, _⟩) (v := .bool _) rfl (by kernel_rfl) (by kernel_rfl) (by kernel_rfl) (fun _ _ _ h => h) rfl hX (fun V _ => ex_eqk (.tmp 110) (.tmp 111) rfl rfl rfl HTS.out V) ?_; simp only [Act.put, qA, qB, qC]
    refine sx_take (i := 3) (oi := ⟨some 113, _, _, _, _, _⟩) (v := ?_) rfl (by kernel_rfl) (by kernel_rfl) (by kernel_rfl) (fun _ _ _ h => h) rfl hX ?_ ?_; rotate_left; (intro W hW; go_simp; try with_reducible rfl); simp only [Act.put, qA, qB, qC]
    refine sx_take (i := 4) (oi := ⟨some 114, _, _, _, _, _⟩) (v := .bool true) rfl (by kernel_rfl) (by kernel_rfl) (by kernel_rfl) (fun _ _ _ h => h) rfl hX (fun V _ => ex_eqB9 (.tmp 112) (.tmp 113) rfl rfl rfl V) ?_; simp only [Act.put, qA, qB, qC]
    refine sx_take (i := 5) (oi := ⟨some 115, _, _, _, _, _⟩) (v := ?_) rfl (by kernel_rfl) (by kernel_rfl) (by kernel_rfl) (fun _ _ _ h => h) rfl hX ?_ ?_; rotate_left; (intro W hW; go_simp; try with_reducible rfl); simp only [Act.put, qA, qB, qC]
    refine sx_take (i := 6) (oi := ⟨some 116, _, _, _, _, _⟩) (v := ?_) rfl (by kernel_rfl) (by kernel_rfl) (by kernel_rfl) (fun _ _ _ h => h) rfl hX ?_ ?_; rotate_left; (intro W hW; go_simp; try with_reducible rfl); simp only [Act.put, qA, qB, qC]
    refine sx_take (i := 7) (oi := ⟨some 117, _, _, _, _, _⟩) (v := .slice (some ⟨be, oe, none⟩) k ce) rfl (by kernel_rfl) (by kernel_rfl) (by kernel_rfl) (fun _ _ _ h => h) rfl hX (fun V hV => ld_bls (.tmp 116) rfl rfl ((hV.cell (p := ⟨w4.heap.size, 257, none⟩) HLL.out).trans HC7.out)) ?_; simp only [Act.put, qA, qB, qC]
    refine sx_take (i := 8) (oi := ⟨some 118, _, _, _, _, _⟩) (v := ?_) rfl (by kernel_rfl) (by kernel_rfl) (by kernel_rfl) (fun _ _ _ h => h) rfl hX ?_ ?_; rotate_left; (intro W hW; go_simp; try with_reducible rfl); simp only [Act.put, qA, qB, qC]
    refine sx_take (i := 9) (oi := ⟨some 119, _, _, _, _, _⟩) (v := ?_) rfl (by kernel_rfl) (by kernel_rfl) (by kernel_rfl) (fun _ _ _ h => h) rfl hX ?_ ?_; rotate_left; (intro W hW; go_simp; try with_reducible rfl); simp only [Act.put, qA, qB, qC]
    refine sx_take (i := 10) (oi := ⟨some 120, _, _, _, _, _⟩) (v := .bool rb) rfl (by kernel_rfl) (by kernel_rfl) (by kernel_rfl) (fun _ _ _ h => h) rfl hX (fun V hV => ld_boolQ (.tmp 119) rfl rfl ((hV.cell (p := ⟨be, oe + p, none⟩) HBE.out).trans HCP.out)) ?_; simp only [Act.put, qA, qB, qC]
    refine sx_take (i := 11) (oi := ⟨some 121, _, _, _, _, _⟩) (v := .agg #[.slice A S.length cap, .int .i64 a, .int .i64 z]) rfl (by kernel_rfl) (by kernel_rfl) (by kernel_rfl) (fun _ _ _ h => h) rfl hX (ld_blk 24 _ rfl w.heap.size rfl 24 [.slice A S.length cap, .int .i64 a, .int .i64 z] _ KZ.out KZ.out.lt Tryd.underlying24 rfl (size_nfa rfl)) ?_; simp only [Act.put, qA, qB, qC]
    refine sx_take (i := 12) (oi := ⟨some 122, _, _, _, _, _⟩) (v := ?_) rfl (by kernel_rfl) (by kernel_rfl) (by kernel_rfl) (fun _ _ _ h => h) rfl hX ?_ ?_; rotate_left; (intro W hW; go_simp; try with_reducible rfl); simp only [Act.put, qA, qB, qC]
    refine sx_actB (i := 13) (o := ⟨some 123, _, _, _, _, _⟩) rfl (by kernel_rfl) rfl hX (fun K hK => ?_)
    go_wp2_with fail
    refine (refRunN_any S a z [.slice A S.length cap, .int .i64 a, .int .i64 z] W _ wd (NZ.out.below hX) (WZ.out.below hX)).mono ?_
    rintro e wc ⟨rfl, hb⟩
    go_wp2_with fail
    refine hK _ _ (hb.mono hX.size) ?_
    clear hK K
    (try simp only [Act.put, qA, qB, qC])
    replace hX := hX.trans (hb.mono hX.size)
    clear hb
    rw [HRE.out]
    refine sx_take (i := 14) (oi := ⟨some 124, _, _, _, _, _⟩) (v := .bool true) rfl (by kernel_rfl) (by kernel_rfl) (by kernel_rfl) (fun _ _ _ h => h) rfl hX (fun V _ => ex_eqB9 (.tmp 120) (.tmp 123) rfl rfl rfl V) ?_; simp only [Act.put, qA, qB, qC]
    refine sx_take (i := 15) (oi := ⟨some 125, _, _, _, _, _⟩) (v := ?_) rfl (by kernel_rfl) (by kernel_rfl) (by kernel_rfl) (fun _ _ _ h => h) rfl hX ?_ ?_; rotate_left; (intro W hW; go_simp; try with_reducible rfl); simp only [Act.put, qA, qB, qC]
    refine sx_take (i := 16) (oi := ⟨some 6, _, _, _, _, _⟩) (v := ?_) rfl (by kernel_rfl) (by kernel_rfl) (by kernel_rfl) (fun _ _ _ h => h) rfl hX ?_ ?_; rotate_left; (intro W hW; go_simp; try with_reducible rfl); simp only [Act.put, qA, qB, qC]
    refine wpAnyH_done (by kernel_rfl) ?_ _
    have BD := qH (BZ.out.trans (hX.mono BZ.out.size))
    clear hX
    go_wp2_with fail
    go_ret
    exact ⟨rfl, BD.out⟩
  ·have hne : decide (er = 0) = false := decide_eq_false he0
   go_wp2_with (first
    | ((with_reducible refine atDst 7 ?_); refine wpList_new rfl 32 rfl id _ d0 hid HDZ.out rfl (Below.refl w4.heap.size w4) (Nat.le_refl _) ?_; intro w5 hk hb hs ho; have L5 := qH hk; have B5 := qH hb; clear hk hb hs ho; (try simp only [Act.put, qA, qB, qC]))
    | ((with_reducible refine atStore 32 7 35 ?_); refine wpList_stBlk rfl 32 _ _ rfl w4.heap.size c4 rfl rfl 32 _ L5.out V4.out.size (by rw [HDL.out, V4.out.length]) V4.out.one B5.out (Nat.le_refl _) ?_; intro w6 hk hb hs ho; have B6 := qH (B4.out.trans (hb.mono B4.out.size)); clear hk hb hs ho; (try simp only [Act.put, qA, qB, qC])))
   go_ret
   exact ⟨rfl, B6.out⟩
end Go.Proofs.YteadghoojeehlaaDoor
