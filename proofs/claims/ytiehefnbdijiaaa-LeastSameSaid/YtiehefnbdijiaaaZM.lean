/-
  Texts of this proof, put together: EqA, McF, LkJ. No statement is proved here.
-/
import Derived.Test.YtiehefnbdijiaaaZF
import Derived.Test.YtiehefnbdijiaaaZD
import Derived.Test.YtiehefnbdijiaaaZE
import Derived.Test.YtiehefnbdijiaaaZL
namespace Go.Proofs.Ytiehefnbdijiaaa
open Go.RowKit
set_option linter.unusedSimpArgs false
set_option linter.unusedVariables false
theorem ex_neE1 {P : Program} {ev : Operand → Value} {o : Oper} (x y : Operand) {t r : TypeId} (ht : P.underlying t = some (.int .i64)) (ho : o.op = .binOp .neq t x y r) {p q : Int} (hx : ev x = .int .i64 p) (hy : ev y = .int .i64 q) {c : Bool} (hc : decide (p = q) = c) (W : World) : (execOp ev o).run P W = .ok (.value (.bool (!c))) W := by
 have h2 : (p != q) = !c := by rw [← hc, bne]; congr 1
 simp only [execOp, ho, hx, hy]
 rw [← h2]
 go_simp
theorem ex_neE2 {P : Program} {ev : Operand → Value} {o : Oper} (x y : Operand) {t r : TypeId} (ht : P.underlying t = some .bool) (ho : o.op = .binOp .neq t x y r) {p q : Bool} (hx : ev x = .bool p) (hy : ev y = .bool q) {c : Bool} (hc : decide (p = q) = c) (W : World) : (execOp ev o).run P W = .ok (.value (.bool (!c))) W := by
 cases p <;> cases q <;> (subst hc; simp only [execOp, ho, hx, hy]; go_simp)
theorem ex_nI {ev : Operand → Value} {o : Oper} (x y : Operand) {r : TypeId} (ho : o.op = .binOp .neq 3 x y r) {p q : Int} (hx : ev x = .int .i64 p) (hy : ev y = .int .i64 q) {c : Bool} (hc : decide (p = q) = c) (W : World) : (execOp ev o).run Try.prog W = .ok (.value (.bool (!c))) W := ex_neE1 x y Try.underlying3 ho hx hy hc W
theorem ex_nB {ev : Operand → Value} {o : Oper} (x y : Operand) {r : TypeId} (ho : o.op = .binOp .neq 4 x y r) {p q : Bool} (hx : ev x = .bool p) (hy : ev y = .bool q) {c : Bool} (hc : decide (p = q) = c) (W : World) : (execOp ev o).run Try.prog W = .ok (.value (.bool (!c))) W := ex_neE2 x y Try.underlying4 ho hx hy hc W
theorem ld_eI {ev : Operand → Value} {o : Oper} (x : Operand) (ho : o.op = .load 3 x) {p : Addr} (hx : ev x = .pointer (some p)) {k : Int} {W : World} (hc : W.cell? p = some (.int .i64 k)) : (execOp ev o).run Try.prog W = .ok (.value (.int .i64 k)) W := by
 simp only [execOp, ho, hx]
 go_simp
theorem ld_eB {ev : Operand → Value} {o : Oper} (x : Operand) (ho : o.op = .load 4 x) {p : Addr} (hx : ev x = .pointer (some p)) {k : Bool} {W : World} (hc : W.cell? p = some (.bool k)) : (execOp ev o).run Try.prog W = .ok (.value (.bool k)) W := by
 simp only [execOp, ho, hx]
 go_simp
theorem ix_eI {ev : Operand → Value} {o : Oper} (x i : Operand) (ho : o.op = .indexAddr 38 x i) {b off n c q : Nat} (hx : ev x = .slice (some ⟨b, off, none⟩) n c) (hi : ev i = .int .i64 (q : Int)) (hq : q < n) (W : World) : (execOp ev o).run Try.prog W = .ok (.value (.pointer (some ⟨b, off + q, none⟩))) W := by
 have h1 : (q : Int) < (n : Int) := Int.ofNat_lt.2 hq
 simp only [execOp, ho, hx, hi]
 go_simp
theorem ix_eB {ev : Operand → Value} {o : Oper} (x i : Operand) (ho : o.op = .indexAddr 26 x i) {b off n c q : Nat} (hx : ev x = .slice (some ⟨b, off, none⟩) n c) (hi : ev i = .int .i64 (q : Int)) (hq : q < n) (W : World) : (execOp ev o).run Try.prog W = .ok (.value (.pointer (some ⟨b, off + q, none⟩))) W := by
 have h1 : (q : Int) < (n : Int) := Int.ofNat_lt.2 hq
 simp only [execOp, ho, hx, hi]
 go_simp
theorem isW_below {w V : World} (h : IsW w.drew V) : Below w.heap.size w V := by
 have e : V = w.drew := h
 rw [e]
 exact (Below.refl _ _).drew
theorem isW_cell {w V : World} (h : IsW w.drew V) {p : Addr} {v : Value} (hc : w.cell? p = some v) : V.cell? p = some v := by
 have e : V = w.drew := h
 rw [e]
 exact hc
abbrev vI (x : Int) : Value := .int .i64 x
abbrev vB (x : Bool) : Value := .bool x
set_option maxHeartbeats 4000000 in
set_option maxRecDepth 1000000 in
theorem eqInts_any (xs ys : List Int) (u v : Value) (w : World) (hu : Row w u (nums .i64 xs)) (hv : Row w v (nums .i64 ys)) (hn : xs.length ≤ 1048576) :
  Calls Try.prog 27 #[u, v] w fun e w' => e = .returned (.bool (decide (xs = ys))) ∧ Below w.heap.size w w' := by
 have HU := qH hu
 have HV := qH hv
 have HNM := qH hn
 obtain ⟨A, c, rfl, _⟩ := hu
 obtain ⟨B, d, rfl, _⟩ := hv
 obtain ⟨n, hnn⟩ : ∃ n, n = xs.length := ⟨_, rfl⟩
 obtain ⟨m, hm⟩ : ∃ m, m = ys.length := ⟨_, rfl⟩
 have HN := qH hnn
 have HM := qH hm
 have el : (nums .i64 xs).length = n := by rw [hnn]; simp [nums]
 have em : (nums .i64 ys).length = m := by rw [hm]; simp [nums]
 rw [el] at HU ⊢
 rw [em] at HV ⊢
 clear hn hnn hm el em
 by_cases hnm : n = m
 ·subst hnm
  go_enter Try.func27, Try.ntmps27
  go_wp2_with fail
  go_loopw [13] (fun iv wl => ∃ i : Nat, iv = .int .i64 (i : Int) ∧ i ≤ n ∧ (∀ j, j < i → xs[j]? = ys[j]?) ∧ Below w.heap.size w wl) (fun iv _ => n - (intOf iv).toNat)
  case atStart => exact ⟨0, rfl, Nat.zero_le _, fun j h => absurd h (Nat.not_lt_zero _), Below.refl _ _⟩
  obtain ⟨i, rfl, hi, heq, hb⟩ := hrel
  have HEQ := qH heq
  have BR := qH hb
  have HI := qH hi
  clear heq hb hi
  by_cases hin : i < n
  ·have x1 : (i : Int) < (n : Int) := Int.ofNat_lt.2 hin
   have HIN := qH hin
   have HMI := qH (sub_next hin)
   have e3 := wrap_one i (Nat.le_trans (Nat.le_of_lt hin) (by rw [HN.out]; exact Nat.le_trans HNM.out (by decide)))
   have e4 := wrap_one' i (Nat.le_trans (Nat.le_of_lt hin) (by rw [HN.out]; exact Nat.le_trans HNM.out (by decide)))
   obtain ⟨x, hx⟩ : ∃ x, xs[i]? = some x := ⟨_, List.getElem?_eq_getElem (by rw [← HN.out]; exact hin)⟩
   obtain ⟨y, hy⟩ : ∃ y, ys[i]? = some y := ⟨_, List.getElem?_eq_getElem (by rw [← HM.out]; exact hin)⟩
   have HX := qH hx
   have HY := qH hy
   obtain ⟨b1, o1, rfl, _, hc1⟩ := (HU.out.below BR.out).at_ (by simp [nums]; rw [← HN.out]; exact Nat.lt_of_le_of_lt (Nat.zero_le _) hin)
   obtain ⟨b2, o2, rfl, _, hc2⟩ := (HV.out.below BR.out).at_ (by simp [nums]; rw [← HM.out]; exact Nat.lt_of_le_of_lt (Nat.zero_le _) hin)
   have HC1 := qH (show wr.cell? ⟨b1, o1 + i, none⟩ = some (vI x) from hc1 i _ (by simp [nums, hx]))
   have HC2 := qH (show wr.cell? ⟨b2, o2 + i, none⟩ = some (vI y) from hc2 i _ (by simp [nums, hy]))
   obtain ⟨q, hq⟩ : ∃ q, q = decide (x = y) := ⟨_, rfl⟩
   have HQ := qH hq.symm
   have HQE := qH hq
   clear hin hx hy hc1 hc2 hq
   go_wp2_with fail
   refine sg_start (S := IsW wr.drew) (by kernel_rfl) rfl (fun wd hwd => ?_)
   have hX : IsW wr.drew wd := hwd
   clear hwd
   refine sg_take (i := 0) (oi := ⟨some 16, _, _, _, _, _⟩) (v := ?_) rfl (by kernel_rfl) (by kernel_rfl) (by kernel_rfl) (fun _ _ _ h => h) rfl hX ?_ ?_; rotate_left; (intro W hW; go_simp; try with_reducible rfl); simp only [Act.put, qA, qB, qC]
   refine sg_take (i := 1) (oi := ⟨some 17, _, _, _, _, _⟩) (v := ?_) rfl (by kernel_rfl) (by kernel_rfl) (by kernel_rfl) (fun _ _ _ h => h) rfl hX ?_ ?_; rotate_left; (intro W hW; go_simp; try with_reducible rfl); simp only [Act.put, qA, qB, qC]
   refine sg_take (i := 2) (oi := ⟨some 18, _, _, _, _, _⟩) (v := .pointer (some ⟨b1, o1 + i, none⟩)) rfl (by kernel_rfl) (by kernel_rfl) (by kernel_rfl) (fun _ _ _ h => h) rfl hX (fun V _ => ix_eI (.tmp 16) (.tmp 17) rfl rfl rfl HIN.out V) ?_; simp only [Act.put, qA, qB, qC]
   refine sg_take (i := 3) (oi := ⟨some 19, _, _, _, _, _⟩) (v := (vI x)) rfl (by kernel_rfl) (by kernel_rfl) (by kernel_rfl) (fun _ _ _ h => h) rfl hX (fun V hV => ld_eI (.tmp 18) rfl rfl (isW_cell hV HC1.out)) ?_; simp only [Act.put, qA, qB, qC]
   refine sg_take (i := 4) (oi := ⟨some 20, _, _, _, _, _⟩) (v := ?_) rfl (by kernel_rfl) (by kernel_rfl) (by kernel_rfl) (fun _ _ _ h => h) rfl hX ?_ ?_; rotate_left; (intro W hW; go_simp; try with_reducible rfl); simp only [Act.put, qA, qB, qC]
   refine sg_take (i := 5) (oi := ⟨some 21, _, _, _, _, _⟩) (v := ?_) rfl (by kernel_rfl) (by kernel_rfl) (by kernel_rfl) (fun _ _ _ h => h) rfl hX ?_ ?_; rotate_left; (intro W hW; go_simp; try with_reducible rfl); simp only [Act.put, qA, qB, qC]
   refine sg_take (i := 6) (oi := ⟨some 22, _, _, _, _, _⟩) (v := .pointer (some ⟨b2, o2 + i, none⟩)) rfl (by kernel_rfl) (by kernel_rfl) (by kernel_rfl) (fun _ _ _ h => h) rfl hX (fun V _ => ix_eI (.tmp 20) (.tmp 21) rfl rfl rfl HIN.out V) ?_; simp only [Act.put, qA, qB, qC]
   refine sg_take (i := 7) (oi := ⟨some 23, _, _, _, _, _⟩) (v := (vI y)) rfl (by kernel_rfl) (by kernel_rfl) (by kernel_rfl) (fun _ _ _ h => h) rfl hX (fun V hV => ld_eI (.tmp 22) rfl rfl (isW_cell hV HC2.out)) ?_; simp only [Act.put, qA, qB, qC]
   refine sg_take (i := 8) (oi := ⟨some 24, _, _, _, _, _⟩) (v := .bool (!q)) rfl (by kernel_rfl) (by kernel_rfl) (by kernel_rfl) (fun _ _ _ h => h) rfl hX (fun V _ => ex_nI (.tmp 19) (.tmp 23) rfl rfl rfl HQ.out V) ?_; simp only [Act.put, qA, qB, qC]
   refine wpAnyH_done (by kernel_rfl) ?_ _
   have BD := qH (BR.out.trans ((isW_below hX).mono BR.out.size))
   clear hX
   cases q with
   | true =>
    have HXY := qH (show x = y from of_decide_eq_true HQE.out.symm)
    have HEN := qH (show ∀ j, j < i + 1 → xs[j]? = ys[j]? from fun j hj => by
     rcases Nat.lt_succ_iff_lt_or_eq.1 hj with h | h
     ·exact HEQ.out j h
     ·rw [h, HX.out, HY.out, HXY.out])
    clear HQ HQE
    go_wp2_with fail
    exact ⟨⟨i + 1, by congr 1, HIN.out, HEN.out, BD.out⟩, by simpa [intOf] using HMI.out⟩
   | false =>
    have HNE := qH (show decide (xs = ys) = false from decide_eq_false fun h => of_decide_eq_false HQE.out.symm (by
     have h1 := HX.out
     rw [h, HY.out] at h1
     exact (Option.some.inj h1).symm))
    clear HQ HQE
    go_wp2_with fail
    go_ret
    rw [HNE.out]
    exact ⟨rfl, BD.out⟩
  ·obtain rfl : i = n := Nat.le_antisymm HI.out (Nat.le_of_not_lt hin)
   have x1 : ¬ ((i : Int) < (i : Int)) := Int.lt_irrefl _
   have HYE := qH (show decide (xs = ys) = true from decide_eq_true (List.ext_getElem? fun j => by
    by_cases hj : j < i
    ·exact HEQ.out j hj
    ·rw [List.getElem?_eq_none (by rw [← HN.out]; omega), List.getElem?_eq_none (by rw [← HM.out]; omega)]))
   clear hin
   go_wp2_with fail
   go_ret
   rw [HYE.out]
   exact ⟨rfl, BR.out⟩
 ·have x1 : ¬ ((n : Int) = (m : Int)) := fun h => hnm (Int.ofNat.inj h)
  have HNE := qH (show decide (xs = ys) = false from decide_eq_false fun h => hnm (by rw [HN.out, HM.out, h]))
  go_enter Try.func27, Try.ntmps27
  go_wp2_with fail
  go_ret
  rw [HNE.out]
  exact ⟨rfl, Below.refl _ _⟩
set_option maxHeartbeats 4000000 in
set_option maxRecDepth 1000000 in
theorem eqBools_any (xs ys : List Bool) (u v : Value) (w : World) (hu : Row w u (bools xs)) (hv : Row w v (bools ys)) (hn : xs.length ≤ 1048576) :
  Calls Try.prog 37 #[u, v] w fun e w' => e = .returned (.bool (decide (xs = ys))) ∧ Below w.heap.size w w' := by
 have HU := qH hu
 have HV := qH hv
 have HNM := qH hn
 obtain ⟨A, c, rfl, _⟩ := hu
 obtain ⟨B, d, rfl, _⟩ := hv
 obtain ⟨n, hnn⟩ : ∃ n, n = xs.length := ⟨_, rfl⟩
 obtain ⟨m, hm⟩ : ∃ m, m = ys.length := ⟨_, rfl⟩
 have HN := qH hnn
 have HM := qH hm
 have el : (bools xs).length = n := by rw [hnn]; simp [bools]
 have em : (bools ys).length = m := by rw [hm]; simp [bools]
 rw [el] at HU ⊢
 rw [em] at HV ⊢
 clear hn hnn hm el em
 by_cases hnm : n = m
 ·subst hnm
  go_enter Try.func37, Try.ntmps37
  go_wp2_with fail
  go_loopw [13] (fun iv wl => ∃ i : Nat, iv = .int .i64 (i : Int) ∧ i ≤ n ∧ (∀ j, j < i → xs[j]? = ys[j]?) ∧ Below w.heap.size w wl) (fun iv _ => n - (intOf iv).toNat)
  case atStart => exact ⟨0, rfl, Nat.zero_le _, fun j h => absurd h (Nat.not_lt_zero _), Below.refl _ _⟩
  obtain ⟨i, rfl, hi, heq, hb⟩ := hrel
  have HEQ := qH heq
  have BR := qH hb
  have HI := qH hi
  clear heq hb hi
  by_cases hin : i < n
  ·have x1 : (i : Int) < (n : Int) := Int.ofNat_lt.2 hin
   have HIN := qH hin
   have HMI := qH (sub_next hin)
   have e3 := wrap_one i (Nat.le_trans (Nat.le_of_lt hin) (by rw [HN.out]; exact Nat.le_trans HNM.out (by decide)))
   have e4 := wrap_one' i (Nat.le_trans (Nat.le_of_lt hin) (by rw [HN.out]; exact Nat.le_trans HNM.out (by decide)))
   obtain ⟨x, hx⟩ : ∃ x, xs[i]? = some x := ⟨_, List.getElem?_eq_getElem (by rw [← HN.out]; exact hin)⟩
   obtain ⟨y, hy⟩ : ∃ y, ys[i]? = some y := ⟨_, List.getElem?_eq_getElem (by rw [← HM.out]; exact hin)⟩
   have HX := qH hx
   have HY := qH hy
   obtain ⟨b1, o1, rfl, _, hc1⟩ := (HU.out.below BR.out).at_ (by simp [bools]; rw [← HN.out]; exact Nat.lt_of_le_of_lt (Nat.zero_le _) hin)
   obtain ⟨b2, o2, rfl, _, hc2⟩ := (HV.out.below BR.out).at_ (by simp [bools]; rw [← HM.out]; exact Nat.lt_of_le_of_lt (Nat.zero_le _) hin)
   have HC1 := qH (show wr.cell? ⟨b1, o1 + i, none⟩ = some (vB x) from hc1 i _ (by simp [bools, hx]))
   have HC2 := qH (show wr.cell? ⟨b2, o2 + i, none⟩ = some (vB y) from hc2 i _ (by simp [bools, hy]))
   obtain ⟨q, hq⟩ : ∃ q, q = decide (x = y) := ⟨_, rfl⟩
   have HQ := qH hq.symm
   have HQE := qH hq
   clear hin hx hy hc1 hc2 hq
   go_wp2_with fail
   refine sg_start (S := IsW wr.drew) (by kernel_rfl) rfl (fun wd hwd => ?_)
   have hX : IsW wr.drew wd := hwd
   clear hwd
   refine sg_take (i := 0) (oi := ⟨some 16, _, _, _, _, _⟩) (v := ?_) rfl (by kernel_rfl) (by kernel_rfl) (by kernel_rfl) (fun _ _ _ h => h) rfl hX ?_ ?_; rotate_left; (intro W hW; go_simp; try with_reducible rfl); simp only [Act.put, qA, qB, qC]
   refine sg_take (i := 1) (oi := ⟨some 17, _, _, _, _, _⟩) (v := ?_) rfl (by kernel_rfl) (by kernel_rfl) (by kernel_rfl) (fun _ _ _ h => h) rfl hX ?_ ?_; rotate_left; (intro W hW; go_simp; try with_reducible rfl); simp only [Act.put, qA, qB, qC]
   refine sg_take (i := 2) (oi := ⟨some 18, _, _, _, _, _⟩) (v := .pointer (some ⟨b1, o1 + i, none⟩)) rfl (by kernel_rfl) (by kernel_rfl) (by kernel_rfl) (fun _ _ _ h => h) rfl hX (fun V _ => ix_eB (.tmp 16) (.tmp 17) rfl rfl rfl HIN.out V) ?_; simp only [Act.put, qA, qB, qC]
   refine sg_take (i := 3) (oi := ⟨some 19, _, _, _, _, _⟩) (v := (vB x)) rfl (by kernel_rfl) (by kernel_rfl) (by kernel_rfl) (fun _ _ _ h => h) rfl hX (fun V hV => ld_eB (.tmp 18) rfl rfl (isW_cell hV HC1.out)) ?_; simp only [Act.put, qA, qB, qC]
   refine sg_take (i := 4) (oi := ⟨some 20, _, _, _, _, _⟩) (v := ?_) rfl (by kernel_rfl) (by kernel_rfl) (by kernel_rfl) (fun _ _ _ h => h) rfl hX ?_ ?_; rotate_left; (intro W hW; go_simp; try with_reducible rfl); simp only [Act.put, qA, qB, qC]
   refine sg_take (i := 5) (oi := ⟨some 21, _, _, _, _, _⟩) (v := ?_) rfl (by kernel_rfl) (by kernel_rfl) (by kernel_rfl) (fun _ _ _ h => h) rfl hX ?_ ?_; rotate_left; (intro W hW; go_simp; try with_reducible rfl); simp only [Act.put, qA, qB, qC]
   refine sg_take (i := 6) (oi := ⟨some 22, _, _, _, _, _⟩) (v := .pointer (some ⟨b2, o2 + i, none⟩)) rfl (by kernel_rfl) (by kernel_rfl) (by kernel_rfl) (fun _ _ _ h => h) rfl hX (fun V _ => ix_eB (.tmp 20) (.tmp 21) rfl rfl rfl HIN.out V) ?_; simp only [Act.put, qA, qB, qC]
   refine sg_take (i := 7) (oi := ⟨some 23, _, _, _, _, _⟩) (v := (vB y)) rfl (by kernel_rfl) (by kernel_rfl) (by kernel_rfl) (fun _ _ _ h => h) rfl hX (fun V hV => ld_eB (.tmp 22) rfl rfl (isW_cell hV HC2.out)) ?_; simp only [Act.put, qA, qB, qC]
   refine sg_take (i := 8) (oi := ⟨some 24, _, _, _, _, _⟩) (v := .bool (!q)) rfl (by kernel_rfl) (by kernel_rfl) (by kernel_rfl) (fun _ _ _ h => h) rfl hX (fun V _ => ex_nB (.tmp 19) (.tmp 23) rfl rfl rfl HQ.out V) ?_; simp only [Act.put, qA, qB, qC]
   refine wpAnyH_done (by kernel_rfl) ?_ _
   have BD := qH (BR.out.trans ((isW_below hX).mono BR.out.size))
   clear hX
   cases q with
   | true =>
    have HXY := qH (show x = y from of_decide_eq_true HQE.out.symm)
    have HEN := qH (show ∀ j, j < i + 1 → xs[j]? = ys[j]? from fun j hj => by
     rcases Nat.lt_succ_iff_lt_or_eq.1 hj with h | h
     ·exact HEQ.out j h
     ·rw [h, HX.out, HY.out, HXY.out])
    clear HQ HQE
    go_wp2_with fail
    exact ⟨⟨i + 1, by congr 1, HIN.out, HEN.out, BD.out⟩, by simpa [intOf] using HMI.out⟩
   | false =>
    have HNE := qH (show decide (xs = ys) = false from decide_eq_false fun h => of_decide_eq_false HQE.out.symm (by
     have h1 := HX.out
     rw [h, HY.out] at h1
     exact (Option.some.inj h1).symm))
    clear HQ HQE
    go_wp2_with fail
    go_ret
    rw [HNE.out]
    exact ⟨rfl, BD.out⟩
  ·obtain rfl : i = n := Nat.le_antisymm HI.out (Nat.le_of_not_lt hin)
   have x1 : ¬ ((i : Int) < (i : Int)) := Int.lt_irrefl _
   have HYE := qH (show decide (xs = ys) = true from decide_eq_true (List.ext_getElem? fun j => by
    by_cases hj : j < i
    ·exact HEQ.out j hj
    ·rw [List.getElem?_eq_none (by rw [← HN.out]; omega), List.getElem?_eq_none (by rw [← HM.out]; omega)]))
   clear hin
   go_wp2_with fail
   go_ret
   rw [HYE.out]
   exact ⟨rfl, BR.out⟩
 ·have x1 : ¬ ((n : Int) = (m : Int)) := fun h => hnm (Int.ofNat.inj h)
  have HNE := qH (show decide (xs = ys) = false from decide_eq_false fun h => hnm (by rw [HN.out, HM.out, h]))
  go_enter Try.func37, Try.ntmps37
  go_wp2_with fail
  go_ret
  rw [HNE.out]
  exact ⟨rfl, Below.refl _ _⟩
abbrev eqIV : Value := .func (.func 27) #[] #[]
set_option maxHeartbeats 8000000 in
set_option maxRecDepth 1000000 in
theorem eqRows_any (X Y : List (List Int)) (uf vf : Nat → Value) (u v : Value) (w : World) (hu : Row w u ((List.range X.length).map uf)) (hv : Row w v ((List.range Y.length).map vf))
  (hur : ∀ i r, X[i]? = some r → Row w (uf i) (nums .i64 r)) (hvr : ∀ i r, Y[i]? = some r → Row w (vf i) (nums .i64 r)) (hn : X.length ≤ 1048576) (hrl : ∀ r ∈ X, r.length ≤ 1048576) :
  Calls Try.prog 36 #[u, v, eqIV] w fun e w' => e = .returned (.bool (decide (X = Y))) ∧ Below w.heap.size w w' := by
 have HU := qH hu
 have HV := qH hv
 have HUR := qH hur
 have HVR := qH hvr
 have HNM := qH hn
 have HRL := qH hrl
 obtain ⟨A, c, rfl, _⟩ := hu
 obtain ⟨B, d, rfl, _⟩ := hv
 obtain ⟨n, hnn⟩ : ∃ n, n = X.length := ⟨_, rfl⟩
 obtain ⟨m, hm⟩ : ∃ m, m = Y.length := ⟨_, rfl⟩
 have HN := qH hnn
 have HM := qH hm
 rw [List.length_map, List.length_range, ← hnn] at HU ⊢
 rw [List.length_map, List.length_range, ← hm] at HV ⊢
 clear hn hnn hm hur hvr hrl
 by_cases hnm : n = m
 ·subst hnm
  go_enter Try.func36, Try.ntmps36
  go_wp2_with fail
  go_loopw [17] (fun iv wl => ∃ i : Nat, iv = .int .i64 (i : Int) ∧ i ≤ n ∧ (∀ j, j < i → X[j]? = Y[j]?) ∧ Below w.heap.size w wl) (fun iv _ => n - (intOf iv).toNat)
  case atStart => exact ⟨0, rfl, Nat.zero_le _, fun j h => absurd h (Nat.not_lt_zero _), Below.refl _ _⟩
  obtain ⟨i, rfl, hi, heq, hb⟩ := hrel
  have HEQ := qH heq
  have BR := qH hb
  have HI := qH hi
  clear heq hb hi
  by_cases hin : i < n
  ·have x1 : (i : Int) < (n : Int) := Int.ofNat_lt.2 hin
   have HIN := qH hin
   have HMI := qH (sub_next hin)
   have e3 := wrap_one i (Nat.le_trans (Nat.le_of_lt hin) (by rw [HN.out]; exact Nat.le_trans HNM.out (by decide)))
   have e4 := wrap_one' i (Nat.le_trans (Nat.le_of_lt hin) (by rw [HN.out]; exact Nat.le_trans HNM.out (by decide)))
   obtain ⟨x, hx⟩ : ∃ x, X[i]? = some x := ⟨_, List.getElem?_eq_getElem (by rw [← HN.out]; exact hin)⟩
   obtain ⟨y, hy⟩ : ∃ y, Y[i]? = some y := ⟨_, List.getElem?_eq_getElem (by rw [← HM.out]; exact hin)⟩
   have HX := qH hx
   have HY := qH hy
   have rx := (HUR.out i x hx).below BR.out
   have ry := (HVR.out i y hy).below BR.out
   have RX := qH rx
   have RY := qH ry
   obtain ⟨A1, c1, hv1, _⟩ := rx
   obtain ⟨A2, c2, hv2, _⟩ := ry
   rw [hv1] at RX
   rw [hv2] at RY
   rw [nums_length] at hv1 hv2 RX RY
   obtain ⟨l1, hl1⟩ : ∃ l, l = x.length := ⟨_, rfl⟩
   obtain ⟨l2, hl2⟩ : ∃ l, l = y.length := ⟨_, rfl⟩
   rw [← hl1] at hv1 RX
   rw [← hl2] at hv2 RY
   have HLX := qH (HRL.out x (List.mem_of_getElem? hx))
   obtain ⟨b1, o1, rfl, _, hc1⟩ := (HU.out.below BR.out).at_ (by simp; exact Nat.lt_of_le_of_lt (Nat.zero_le _) hin)
   obtain ⟨b2, o2, rfl, _, hc2⟩ := (HV.out.below BR.out).at_ (by simp; exact Nat.lt_of_le_of_lt (Nat.zero_le _) hin)
   have hd1 : wr.cell? ⟨b1, o1 + i, none⟩ = some (.slice A1 l1 c1) := hc1 i _ (by simp [hin, hv1])
   have hd2 : wr.cell? ⟨b2, o2 + i, none⟩ = some (.slice A2 l2 c2) := hc2 i _ (by simp [hin, hv2])
   obtain ⟨q, hq⟩ : ∃ q, q = decide (x = y) := ⟨_, rfl⟩
   have HQE := qH hq
   clear hin hx hy hc1 hc2 hq hl1 hl2 hv1 hv2
   go_wp2_with fail
   refine (eqInts_any x y _ _ wr RX.out RY.out HLX.out).mono ?_
   rintro e w2 ⟨rfl, hb⟩
   rw [← HQE.out]
   have BD := qH (BR.out.trans (hb.mono BR.out.size))
   clear hb hd1 hd2
   cases q with
   | true =>
    have HXY := qH (show x = y from of_decide_eq_true HQE.out.symm)
    have HEN := qH (show ∀ j, j < i + 1 → X[j]? = Y[j]? from fun j hj => by
     rcases Nat.lt_succ_iff_lt_or_eq.1 hj with h | h
     ·exact HEQ.out j h
     ·rw [h, HX.out, HY.out, HXY.out])
    clear HQE
    go_wp2_with fail
    exact ⟨⟨i + 1, by congr 1, HIN.out, HEN.out, BD.out⟩, by simpa [intOf] using HMI.out⟩
   | false =>
    have HNE := qH (show decide (X = Y) = false from decide_eq_false fun h => of_decide_eq_false HQE.out.symm (by
     have h1 := HX.out
     rw [h, HY.out] at h1
     exact (Option.some.inj h1).symm))
    clear HQE
    go_wp2_with fail
    go_ret
    rw [HNE.out]
    exact ⟨rfl, BD.out⟩
  ·obtain rfl : i = n := Nat.le_antisymm HI.out (Nat.le_of_not_lt hin)
   have x1 : ¬ ((i : Int) < (i : Int)) := Int.lt_irrefl _
   have HYE := qH (show decide (X = Y) = true from decide_eq_true (List.ext_getElem? fun j => by
    by_cases hj : j < i
    ·exact HEQ.out j hj
    ·rw [List.getElem?_eq_none (by rw [← HN.out]; omega), List.getElem?_eq_none (by rw [← HM.out]; omega)]))
   clear hin
   go_wp2_with fail
   go_ret
   rw [HYE.out]
   exact ⟨rfl, BR.out⟩
 ·have x1 : ¬ ((n : Int) = (m : Int)) := fun h => hnm (Int.ofNat.inj h)
  have HNE := qH (show decide (X = Y) = false from decide_eq_false fun h => hnm (by rw [HN.out, HM.out, h]))
  go_enter Try.func36, Try.ntmps36
  go_wp2_with fail
  go_ret
  rw [HNE.out]
  exact ⟨rfl, Below.refl _ _⟩
set_option maxHeartbeats 8000000 in
set_option maxRecDepth 1000000 in
theorem mSame_any (D E : Dm) (cs es : List Value) (w : World) (hv : DfaV w cs D) (he : DfaV w es E) (hN : D.next.length ≤ 2000) (hE : D.ends.length ≤ 2000) (hR : ∀ r ∈ D.next, r.length ≤ 2000) :
  Calls Try.prog 21 #[.agg cs.toArray, .agg es.toArray] w fun e w' => e = .returned (.bool (decide (D = E))) ∧ Below w.heap.size w w' := by
 have V0 := qH hv
 have U0 := qH he
 have HDS := qH hv.size
 have HES := qH he.size
 obtain ⟨An, Ae, cn, ce, vf, hl, hcs, hn, hr, hne⟩ := hv.form
 obtain ⟨Bn, Be, dn, de, uf, hl2, hes, hn2, hr2, hne2⟩ := he.form
 have HL := qH hl
 have HL2 := qH hl2
 have HCS := qH hcs
 have HCS2 := qH hes
 have HN1 := qH hn
 have HN2 := qH hn2
 have HR1 := qH hr
 have HR2 := qH hr2
 have HE1 := qH hne
 have HE2 := qH hne2
 have HNF := qH hN
 have HEF := qH hE
 have HRF := qH hR
 obtain ⟨cl, hcl⟩ : ∃ cl, cl = D.cl := ⟨_, rfl⟩
 obtain ⟨cm, hcm⟩ : ∃ cl, cl = E.cl := ⟨_, rfl⟩
 have HCL := qH hcl
 have HCM := qH hcm
 rw [← hcl] at HL HCS
 rw [← hcm] at HL2 HCS2
 obtain ⟨q1, hq1⟩ : ∃ q, q = decide (cl = cm) := ⟨_, rfl⟩
 obtain ⟨q2, hq2⟩ : ∃ q, q = decide (D.next = E.next) := ⟨_, rfl⟩
 obtain ⟨q3, hq3⟩ : ∃ q, q = decide (D.ends = E.ends) := ⟨_, rfl⟩
 have HQ1 := qH hq1
 have HQ2 := qH hq2
 have HQ3 := qH hq3
 have HSC := qH (show (Try.prog.info? 24).map (·.size) = some (bvs cl).length from size_ctab HL.out)
 have HSC2 := qH (show (Try.prog.info? 24).map (·.size) = some (bvs cm).length from size_ctab HL2.out)
 have HFIN := qH (show decide (D = E) = (q1 && (q2 && q3)) by
  rw [hq1, hq2, hq3, hcl, hcm, Bool.eq_iff_iff]
  simp only [Bool.and_eq_true, decide_eq_true_iff]
  constructor
  ·intro h; rw [h]; exact ⟨rfl, rfl, rfl⟩
  ·rintro ⟨h1, h2, h3⟩
   obtain ⟨c1, n1, e1⟩ := D
   obtain ⟨c2, n2, e2⟩ := E
   simp only at h1 h2 h3
   rw [h1, h2, h3])
 rw [HFIN.out]
 clear hv he hl hl2 hcs hes hn hr hne hn2 hr2 hne2 hN hE hR hcl hcm hq1 hq2 hq3
 go_enter Try.func21, Try.ntmps21
 cases q1 with
 | false =>
  go_wp2_with (first
   | ((with_reducible refine atDst 2 ?_); refine wpList_box rfl 28 _ rfl cs rfl (Below.refl w.heap.size w) (Nat.le_refl _) ?_; intro w1 hk1 hb1 hs1 _; have K1 := qH hk1; have B1 := qH hb1; clear hk1 hb1 hs1; (try simp only [Act.put, qA, qB, qC]))
   | ((with_reducible refine atDst 3 ?_); refine wpList_box rfl 28 _ rfl es rfl (Below.refl w1.heap.size w1) (Nat.le_refl _) ?_; intro w2 hk hb hs _; have L2 := qH hk; have K2 := qH (K1.out.below hb K1.out.lt); have B2 := qH (B1.out.trans (hb.mono B1.out.size)); (skip); have r1 := qH (show w2.rangeAt w.heap.size 0 (bvs cl) from fun i v hv => by { rw [Nat.zero_add, K2.out.cell i, HCS.out, dcl_cl HL.out (by have := (List.getElem?_eq_some_iff.1 hv).1; rw [bvs_length, HL.out] at this; exact this)]; exact hv }); have r2 := qH (show w2.rangeAt w1.heap.size 0 (bvs cm) from fun i v hv => by { rw [Nat.zero_add, L2.out.cell i, HCS2.out, dcl_cl HL2.out (by have := (List.getElem?_eq_some_iff.1 hv).1; rw [bvs_length, HL2.out] at this; exact this)]; exact hv }); clear hk hb hs; (try simp only [Act.put, qA, qB, qC]))
   | ((with_reducible refine atDst 6 ?_); refine wpList_load_mid rfl 24 _ rfl w.heap.size 0 rfl (bvs cl) _ r1.out Try.underlying24 rfl HSC.out ?_; (try simp only [Act.put, qA, qB, qC]))
   | ((with_reducible refine atDst 8 ?_); refine wpList_load_mid rfl 24 _ rfl w1.heap.size 0 rfl (bvs cm) _ r2.out Try.underlying24 rfl HSC2.out ?_; (try simp only [Act.put, qA, qB, qC]))
   | ((with_reducible refine atDst 9 ?_); refine wpList_eqArr rfl 24 5 256 (.tmp 6) (.tmp 8) 24 rfl guard_cls Try.underlying24 Try.underlying5 size_byte cl cm HL.out HL2.out rfl rfl ?_; rw [← HQ1.out]; (try simp only [Act.put, qA, qB, qC])))
  go_ret
  exact ⟨rfl, B2.out⟩
 | true =>
  go_wp2_with (first
   | ((with_reducible refine atDst 2 ?_); refine wpList_box rfl 28 _ rfl cs rfl (Below.refl w.heap.size w) (Nat.le_refl _) ?_; intro w1 hk1 hb1 hs1 _; have K1 := qH hk1; have B1 := qH hb1; clear hk1 hb1 hs1; (try simp only [Act.put, qA, qB, qC]))
   | ((with_reducible refine atDst 3 ?_); refine wpList_box rfl 28 _ rfl es rfl (Below.refl w1.heap.size w1) (Nat.le_refl _) ?_; intro w2 hk hb hs _; have L2 := qH hk; have K2 := qH (K1.out.below hb K1.out.lt); have B2 := qH (B1.out.trans (hb.mono B1.out.size)); (have c256 : w2.cell? ⟨w.heap.size, 256, none⟩ = some (.slice An D.next.length cn) := (by rw [K2.out.cell 256, HCS.out]; exact dcl_n HL.out); have d256 : w2.cell? ⟨w1.heap.size, 256, none⟩ = some (.slice Bn E.next.length dn) := (by rw [L2.out.cell 256, HCS2.out]; exact dcl_n HL2.out)); have r1 := qH (show w2.rangeAt w.heap.size 0 (bvs cl) from fun i v hv => by { rw [Nat.zero_add, K2.out.cell i, HCS.out, dcl_cl HL.out (by have := (List.getElem?_eq_some_iff.1 hv).1; rw [bvs_length, HL.out] at this; exact this)]; exact hv }); have r2 := qH (show w2.rangeAt w1.heap.size 0 (bvs cm) from fun i v hv => by { rw [Nat.zero_add, L2.out.cell i, HCS2.out, dcl_cl HL2.out (by have := (List.getElem?_eq_some_iff.1 hv).1; rw [bvs_length, HL2.out] at this; exact this)]; exact hv }); clear hk hb hs; (try simp only [Act.put, qA, qB, qC]))
   | ((with_reducible refine atDst 6 ?_); refine wpList_load_mid rfl 24 _ rfl w.heap.size 0 rfl (bvs cl) _ r1.out Try.underlying24 rfl HSC.out ?_; (try simp only [Act.put, qA, qB, qC]))
   | ((with_reducible refine atDst 8 ?_); refine wpList_load_mid rfl 24 _ rfl w1.heap.size 0 rfl (bvs cm) _ r2.out Try.underlying24 rfl HSC2.out ?_; (try simp only [Act.put, qA, qB, qC]))
   | ((with_reducible refine atDst 9 ?_); refine wpList_eqArr rfl 24 5 256 (.tmp 6) (.tmp 8) 24 rfl guard_cls Try.underlying24 Try.underlying5 size_byte cl cm HL.out HL2.out rfl rfl ?_; rw [← HQ1.out]; (try simp only [Act.put, qA, qB, qC])))
  refine (eqRows_any D.next E.next vf uf _ _ w2 (HN1.out.below B2.out) (HN2.out.below B2.out) (fun i r h => (HR1.out i r h).below B2.out) (fun i r h => (HR2.out i r h).below B2.out) (Nat.le_trans HNF.out (by decide)) (fun r h => Nat.le_trans (HRF.out r h) (by decide))).mono ?_
  rintro e w3 ⟨rfl, hb⟩
  rw [← HQ2.out]
  have B3 := qH (B2.out.trans (hb.mono B2.out.size))
  have K3 := qH (K2.out.below hb K2.out.lt)
  have L3 := qH (L2.out.below hb L2.out.lt)
  clear hb c256 d256
  cases q2 with
  | false =>
   go_wp2_with fail
   go_ret
   exact ⟨rfl, B3.out⟩
  | true =>
   have c257 : w3.cell? ⟨w.heap.size, 257, none⟩ = some (.slice Ae D.ends.length ce) := by rw [K3.out.cell 257, HCS.out]; exact dcl_e HL.out
   have d257 : w3.cell? ⟨w1.heap.size, 257, none⟩ = some (.slice Be E.ends.length de) := by rw [L3.out.cell 257, HCS2.out]; exact dcl_e HL2.out
   go_wp2_with fail
   refine (eqBools_any D.ends E.ends _ _ w3 (HE1.out.below B3.out) (HE2.out.below B3.out) (Nat.le_trans HEF.out (by decide))).mono ?_
   rintro e w4 ⟨rfl, hb⟩
   rw [← HQ3.out]
   have B4 := qH (B3.out.trans (hb.mono B3.out.size))
   clear hb c257 d257
   go_wp2_with fail
   go_ret
   exact ⟨rfl, B4.out⟩
def ixU (l : List UInt8) (x : UInt8) : Int := if x ∈ l then (ixOf l x : Int) else -1
theorem ixU_in {l : List UInt8} {x : UInt8} (h : x ∈ l) : ixU l x = (ixOf l x : Int) := if_pos h
theorem ixU_no {l : List UInt8} {x : UInt8} (h : x ∉ l) : ixU l x = -1 := if_neg h
theorem ixOf_first {l : List UInt8} {x : UInt8} {i : Nat} (h : l[i]? = some x) (hn : ∀ j, j < i → l[j]? ≠ some x) : ixU l x = (i : Int) := by
 have hm := List.mem_of_getElem? h
 rw [ixU_in hm]
 have h1 := idx_get hm
 rcases Nat.lt_trichotomy (ixOf l x) i with k | k | k
 ·exact absurd h1 (hn _ k)
 ·rw [k]
 ·exfalso
  have h2 : i < List.idxOf x l := k
  have h3 := List.not_of_lt_findIdx (xs := l) (p := fun y => y == x) (i := i) h2
  obtain ⟨hi, he⟩ := List.getElem?_eq_some_iff.1 h
  simp [he] at h3
theorem ixOf_none {l : List UInt8} {x : UInt8} (hn : ∀ j, j < l.length → l[j]? ≠ some x) : ixU l x = -1 := ixU_no fun hm => by
 obtain ⟨j, hj, e⟩ := List.getElem_of_mem hm
 exact hn j hj (by rw [List.getElem?_eq_getElem hj, e])
set_option maxHeartbeats 8000000 in
set_option maxRecDepth 1000000 in
theorem ixU_any (l : List UInt8) (x : UInt8) (v : Value) (w : World) (hv : Row w v (bvs l)) (hn : l.length ≤ 256) :
  Calls Try.prog 29 #[v, .int .u8 (x.toNat : Int)] w fun e w' => e = .returned (.int .i64 (ixU l x)) ∧ Below w.heap.size w w' := by
 have HV := qH hv
 obtain ⟨A, c, rfl, _⟩ := hv
 obtain ⟨n, hnn⟩ : ∃ n, n = l.length := ⟨_, rfl⟩
 rw [bvs_length, ← hnn] at HV ⊢
 have HN := qH hnn
 have HNF := qH (show n ≤ 256 by rw [hnn]; exact hn)
 clear hn hnn
 go_enter Try.func29, Try.ntmps29
 go_wp2_with fail
 go_loopw [8] (fun iv wl => ∃ i : Nat, i ≤ n ∧ iv = .int .i64 (i : Int) ∧ (∀ j, j < i → l[j]? ≠ some x) ∧ Below w.heap.size w wl) (fun iv _ => n - (intOf iv).toNat)
 case atStart => exact ⟨0, Nat.zero_le _, rfl, fun j hj => absurd hj (Nat.not_lt_zero j), Below.refl _ _⟩
 obtain ⟨i, hi, rfl, hne, hb⟩ := hrel
 have HI := qH hi
 have HNE := qH hne
 have HB := qH hb
 clear hi hne hb
 by_cases hin : i < n
 ·have x1 : (i : Int) < (n : Int) := Int.ofNat_lt.2 hin
  have HIN := qH hin
  have HMI := qH (sub_next hin)
  have e3 := wrap_one i (Nat.le_trans HI.out (Nat.le_trans HNF.out (by decide)))
  have e4 := wrap_one' i (Nat.le_trans HI.out (Nat.le_trans HNF.out (by decide)))
  obtain ⟨y, hy⟩ : ∃ y, l[i]? = some y := ⟨_, List.getElem?_eq_getElem (by rw [← HN.out]; exact hin)⟩
  obtain ⟨b, o, rfl, _, hc⟩ := (HV.out.below HB.out).at_ (by rw [bvs_length, ← HN.out]; exact Nat.lt_of_le_of_lt (Nat.zero_le _) hin)
  have c15 : wr.cell? ⟨b, o + i, none⟩ = some (.int .u8 (y.toNat : Int)) := hc i _ (bvs_get _ _ _ hy)
  have HY := qH hy
  clear hin hy hc
  by_cases hxy : x = y
  ·have HR := qH (ixOf_first (x := x) (by rw [hxy]; exact HY.out) HNE.out)
   have hq : ((x.toNat : Int) == (y.toNat : Int)) = true := by rw [hxy]; simp
   have hq2 : ((x.toNat : Int) = (y.toNat : Int)) := by rw [hxy]
   clear hxy
   go_wp2_with fail
   go_ret
   rw [HR.out]
   exact ⟨rfl, HB.out⟩
  ·have hq2 : ¬ ((x.toNat : Int) = (y.toNat : Int)) := fun e => hxy (UInt8.toNat_inj.1 (Int.ofNat.inj e))
   have hq : ((x.toNat : Int) == (y.toNat : Int)) = false := beq_eq_false_iff_ne.2 hq2
   have HX := qH (show ∀ j, j < i + 1 → l[j]? ≠ some x from fun j hj e => by
    rcases Nat.lt_succ_iff_lt_or_eq.1 hj with h | h
    ·exact HNE.out j h e
    ·rw [h, HY.out] at e
     exact hxy (Option.some.inj e).symm)
   clear hxy
   go_wp2_with fail
   exact ⟨⟨i + 1, HIN.out, rfl, HX.out, HB.out⟩, by simpa [intOf] using HMI.out⟩
 ·obtain rfl : i = n := Nat.le_antisymm HI.out (Nat.le_of_not_lt hin)
  have x1 : ¬ ((i : Int) < (i : Int)) := Int.lt_irrefl _
  have HR := qH (ixOf_none (l := l) (x := x) (by rw [← HN.out]; exact HNE.out))
  clear hin
  go_wp2_with fail
  go_ret
  rw [HR.out]
  exact ⟨rfl, HB.out⟩
set_option maxHeartbeats 8000000 in
set_option maxRecDepth 1000000 in
theorem hasU_any (l : List UInt8) (x : UInt8) (v : Value) (w : World) (hv : Row w v (bvs l)) (hn : l.length ≤ 256) :
  Calls Try.prog 39 #[v, .int .u8 (x.toNat : Int)] w fun e w' => e = .returned (.bool (decide (x ∈ l))) ∧ Below w.heap.size w w' := by
 have HV := qH hv
 obtain ⟨A, c, rfl, _⟩ := hv
 have HN := qH hn
 clear hn
 go_enter Try.func39, Try.ntmps39
 go_wp2_with fail
 refine (ixU_any l x _ w HV.out HN.out).mono ?_
 rintro e w1 ⟨rfl, hb⟩
 have HB := qH hb
 clear hb
 by_cases hm : x ∈ l
 ·rw [ixU_in hm]
  have k0 : (0 : Int) ≤ (ixOf l x : Int) := Int.natCast_nonneg _
  have HD := qH (decide_eq_true hm)
  clear hm
  go_wp2_with fail
  go_ret
  rw [HD.out]
  exact ⟨rfl, HB.out⟩
 ·rw [ixU_no hm]
  have HD := qH (decide_eq_false hm)
  clear hm
  go_wp2_with fail
  go_ret
  rw [HD.out]
  exact ⟨rfl, HB.out⟩
theorem ix_arr (cs : List Value) (j : Nat) (x : Int) (hj : j < 256) (hx : cs[j]? = some (.int .u8 x)) (w : World) : (Instr.index 24 (.agg cs.toArray) (.int .i64 (j : Int))).run Try.prog w = .ok (.int .u8 x) w := by
 have h1 : (j : Int) < 256 := by omega
 have h0 : (0 : Int) ≤ (j : Int) := by omega
 have hs := size_byte w
 have hj2 : j < cs.length := (List.getElem?_eq_some_iff.1 hx).1
 have he := (List.getElem?_eq_some_iff.1 hx).2
 unfold Instr.index
 simp only [Sem.run_bind, asIntOf]
 go_simp
def usU (cl : List UInt8) (j : Nat) : List UInt8 := extL [] (cl.take j)
theorem usU_next {cl : List UInt8} {j : Nat} {x : UInt8} (h : cl[j]? = some x) : usU cl (j + 1) = extL (usU cl j) [x] := extL_take h
theorem usU_len (cl : List UInt8) (j : Nat) : (usU cl j).length ≤ j := by
 have h := extL_len (cl.take j) ([] : List UInt8)
 rw [List.length_take] at h
 unfold usU
 simp only [List.length_nil] at h
 omega
theorem usU_mem {cl : List UInt8} {j : Nat} {x : UInt8} : x ∈ usU cl j ↔ x ∈ cl.take j := by
 unfold usU
 rw [extL_mem]
 simp
theorem inf_u8c : (Try.prog.info? 5).map (fun i => (i.zero, i.size, i.bytes)) = some (some (.int .u8 0), 1, 1) := by kernel_rfl
set_option maxHeartbeats 8000000 in
set_option maxRecDepth 1000000 in
theorem lUsed_any (D : Dm) (cs : List Value) (w : World) (hv : DfaV w cs D) :
  Calls Try.prog 28 #[.agg cs.toArray] w fun e w' => ∃ v, e = .returned v ∧ w'.ownsRow w.heap.size 5 1 v (usU D.cl 256).length (bvs (usU D.cl 256)) ∧ Below w.heap.size w w' := by
 have HDS := qH hv.size
 obtain ⟨An, Ae, cn, ce, vf, hl, hcs, _⟩ := hv.form
 obtain ⟨cl, hcl⟩ : ∃ cl, cl = D.cl := ⟨_, rfl⟩
 rw [← hcl] at hl hcs ⊢
 have HL := qH hl
 have HCS := qH hcs
 have HSC := qH (show (Try.prog.info? 24).map (·.size) = some (bvs cl).length from size_ctab HL.out)
 obtain ⟨i8, hi8, hz8, hs8, hb8⟩ := infoC inf_u8c
 obtain ⟨cb, hcb⟩ : ∃ cb, cb = bvs cl := ⟨_, rfl⟩
 have HCB := qH hcb
 rw [← hcb] at HSC
 clear hv hl hcs hcl hcb
 go_enter Try.func28, Try.ntmps28
 go_wp2_with (first
  | ((with_reducible refine atDst 1 ?_); refine wpList_box rfl 28 _ rfl cs rfl (Below.refl w.heap.size w) (Nat.le_refl _) ?_; intro w1 hk1 hb1 hs1 _; have K1 := qH hk1; have B1 := qH hb1; have r1 := qH (show w1.rangeAt w.heap.size 0 cb from fun i v hv => by { rw [HCB.out] at hv; rw [Nat.zero_add, K1.out.cell i, HCS.out, dcl_cl HL.out (by have := (List.getElem?_eq_some_iff.1 hv).1; rw [bvs_length, HL.out] at this; exact this)]; exact hv }); clear hk1 hb1 hs1; (try simp only [Act.put, qA, qB, qC]))
  | ((with_reducible refine atDst 6 ?_); refine wpList_load_mid rfl 24 _ rfl w.heap.size 0 rfl cb _ r1.out Try.underlying24 rfl HSC.out ?_; (try simp only [Act.put, qA, qB, qC])))
 go_loopw [2, 7] (fun v jv wl => ∃ j : Nat, j ≤ 256 ∧ jv = .int .i64 (j : Int) ∧ wl.ownsRow w1.heap.size 5 1 v (usU cl j).length (bvs (usU cl j)) ∧ Below w1.heap.size w1 wl) (fun _ jv _ => 256 - (intOf jv).toNat)
 case atStart => exact ⟨0, Nat.zero_le _, rfl, ownC_nil _ _ _, Below.refl _ _⟩
 obtain ⟨j, hj, rfl, ho, hb⟩ := hrel
 obtain ⟨wl, hwl⟩ : ∃ v : World, v = wr := ⟨_, rfl⟩
 subst hwl
 obtain ⟨k, hk⟩ : ∃ k, k = (usU cl j).length := ⟨_, rfl⟩
 have HK := qH hk
 rw [← hk] at ho
 obtain ⟨A, c, rfl⟩ := ownC_slice ho
 have HO := qH ho
 have HB := qH hb
 have HJ := qH hj
 have HKJ := qH (show k ≤ 256 by rw [hk]; exact Nat.le_trans (usU_len cl j) hj)
 clear ho hb hj hk
 by_cases hjn : j < 256
 ·have x1 : (j : Int) < 256 := Int.ofNat_lt.2 hjn
  have HJN := qH hjn
  have HMJ := qH (sub_next hjn)
  have e3 := wrap_one j (lt_256 hjn)
  have e4 := wrap_one' j (lt_256 hjn)
  obtain ⟨x, hx⟩ : ∃ x, cl[j]? = some x := ⟨_, List.getElem?_eq_getElem (by rw [HL.out]; exact hjn)⟩
  have HX := qH hx
  have hix : ∀ w, (Instr.index 24 (.agg cb.toArray) (.int .i64 (j : Int))).run Try.prog w = .ok (.int .u8 (x.toNat : Int)) w := fun w => ix_arr cb j _ hjn (by rw [HCB.out]; exact bvs_get _ _ _ hx) w
  have HN := qH (usU_next hx)
  clear hjn hx
  go_wp2_with fail
  refine (hasU_any (usU cl j) x _ wl (by have h1 := Row.of_own HO.out; exact h1) (by rw [← HK.out]; exact HKJ.out)).mono ?_
  rintro e w2 ⟨rfl, hb⟩
  have B2 := qH hb
  have O2 := qH (own6_stay HO.out fun q hq => hb.block q (own6_lt HO.out q hq).1)
  have BT := qH (HB.out.trans (hb.mono HB.out.size))
  clear hb
  by_cases hm : x ∈ usU cl j
  ·have HE := qH (show usU cl (j + 1) = usU cl j by rw [HN.out]; exact extL_in hm)
   rw [decide_eq_true hm]
   clear hm
   go_wp2_with fail
   exact ⟨⟨j + 1, HJN.out, rfl, by rw [HE.out, ← HK.out]; exact O2.out, BT.out⟩, by simpa [intOf] using HMJ.out⟩
  ·have HE := qH (show usU cl (j + 1) = usU cl j ++ [x] by rw [HN.out]; exact extL_new hm)
   rw [decide_eq_false hm]
   have HLM := qH (show k + [Value.int .u8 (x.toNat : Int)].length ≤ 2097152 by rw [List.length_singleton]; have := HKJ.out; omega)
   clear hm
   go_wp2_with (first
    | ((with_reducible refine atDst 16 ?_); refine wpList_plain rfl fun K hK => wp_bldVk 22 5 (.tmp 15) rfl i8 (.int .u8 0) Try.underlying22 hi8 hz8 hs8 rfl (.int .u8 (x.toNat : Int)) rfl rfl ?_; intro w3 hk3 hb3; have K3 := qH hk3; have O3 := qH (own6_stay O2.out fun q hq => hb3.block q (own6_lt O2.out q hq).1); have B3 := qH (BT.out.trans (hb3.mono BT.out.size)); clear hk3 hb3; refine hK _ _ ?_; clear hK K; (try simp only [Act.put, qA, qB, qC]))
    | ((with_reducible refine atDst 17 ?_); refine wpList_appW (base := w1.heap.size) rfl (.tmp 14) (.tmp 16) 22 rfl 5 i8 (.int .u8 0) 1 Try.underlying22 hi8 hz8 hs8 hb8 rfl _ _ _ rfl O3.out _ [Value.int .u8 (x.toNat : Int)] rfl (rowB K3.out rfl (by decide)) (fun u hu => by obtain rfl := List.mem_singleton.1 hu; rfl) HLM.out (by decide) B3.out.size ?_; intro v4 w4 ho hgr hwr; have HO4 := qH (show w4.ownsRow w1.heap.size 5 1 v4 (usU cl (j + 1)).length (bvs (usU cl (j + 1))) by (rw [HE.out, List.length_append, ← HK.out, show bvs (usU cl j ++ [x]) = bvs (usU cl j) ++ [Value.int .u8 (x.toNat : Int)] by simp [bvs, bv]]; exact ho)); have HG4 := qH hgr; clear ho hgr hwr; (try simp only [Act.put, qA, qB, qC])))
   exact ⟨⟨j + 1, HJN.out, rfl, HO4.out, below_own B3.out B3.out.size HG4.out fun q hq => (own6_lt O3.out q hq).2⟩, by simpa [intOf] using HMJ.out⟩
 ·obtain rfl : 256 = j := Nat.le_antisymm (Nat.le_of_not_lt hjn) HJ.out
  have x1 : ¬ ((256 : Int) < 256) := Int.lt_irrefl _
  clear hjn
  go_wp2_with fail
  go_ret
  refine ⟨_, rfl, ?_, B1.out.trans (HB.out.mono B1.out.size)⟩
  rw [← HK.out]
  exact own_mono HO.out B1.out.size
end Go.Proofs.Ytiehefnbdijiaaa
