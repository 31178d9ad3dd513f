/-
  Texts of this proof, put together: (ShF) Texts compared; what show is asked for, as a contract; the law's begun under it. No statement is proved here. (ShZ) What package show's Show answers, of any expression: the contract that the statements of the seventh stage take as a premise. No statement is proved here. (ShG) The walk of the statement ShowAll: the Go text returns true and turns nothing that was there, on the contract of the package's Show. Conditions: at most 1048576 expressions. (ShH) The walk of the statement ShowMade: the Go text returns true and turns nothing that was there, on the contract of the package's Show. Conditions: what is made of at most 100 numbers is shown. (ShI) Plain facts: how long the text is of an expression that is made of few numbers, and that it is none that is empty. No statement is proved here. (ShJ) Plain facts: the text of what is made of at most 100 numbers is no longer than 4,000 bytes, and not empty. No statement is proved here. (ShK) Plain facts: what is made of at most 100 numbers is shown. No statement is proved here. (ShL) The walk of the statement ShowRuns: the Go text returns true and turns nothing that was there, on the contract of the package's Show. Conditions: the bytes fit their kind. (ShM) The walk of the statement ShowParts: the Go text returns true and turns nothing that was there, on the contract of the package's Show. No conditions beyond the contract.
-/
import Derived.Test.YtmlojjgddmnbmaaDoorME
import Derived.Lib.SlBytesConst
import Derived.Test.YtmlojjgddmnbmaaDoorMA
import Derived.Test.YtmlojjgddmnbmaaDoorMF
import Derived.Test.YtmlojjgddmnbmaaDoorMD
namespace Go.Proofs.YtmlojjgddmnbmaaDoor
open Go.RowKit
set_option linter.unusedSimpArgs false
set_option linter.unusedVariables false

section
variable {P : Program}
theorem ex_eqS {ev : Operand → Value} {o : Oper} (t : TypeId) (x y : Operand) (oT : TypeId) (ht : P.underlying t = some .string) (ho : o.op = .binOp .eql t x y oT) {X Y : ByteArray} (hx : ev x = .string X) (hy : ev y = .string Y) {D E : List UInt8}
    (hX : X = ⟨D.toArray⟩) (hY : Y = ⟨E.toArray⟩) {b : Bool} (hb : (D == E) = b) (W : World) : (execOp ev o).run P W = .ok (.value (.bool b)) W := by
  subst hX hY
  simp only [execOp, ho, hx, hy]
  go_simp
theorem ex_neS {ev : Operand → Value} {o : Oper} (t : TypeId) (x y : Operand) (oT : TypeId) (ht : P.underlying t = some .string) (ho : o.op = .binOp .neq t x y oT) {X Y : ByteArray} (hx : ev x = .string X) (hy : ev y = .string Y) {D E : List UInt8}
    (hX : X = ⟨D.toArray⟩) (hY : Y = ⟨E.toArray⟩) {b : Bool} (hb : (D == E) = !b) (W : World) : (execOp ev o).run P W = .ok (.value (.bool b)) W := by
  have hb2 : (!(D == E)) = b := by rw [hb]; simp
  subst hX hY
  simp only [execOp, ho, hx, hy]
  go_simp
variable {w : World} {ops : Array Oper} {rest : List Oper} {o : Oper} {a : Act} {Q : Exit → Act → World → Prop}
theorem wpList_eqS (hgd : Region.wanted o (yielded ops a.tmps) = true) (t : TypeId) (x y : Operand) (oT : TypeId) (ht : P.underlying t = some .string) (ho : o.op = .binOp .eql t x y oT) {X Y : ByteArray} (hx : a.eval x = .string X) (hy : a.eval y = .string Y) {D E : List UInt8}
    (hX : X = ⟨D.toArray⟩) (hY : Y = ⟨E.toArray⟩) {b : Bool} (hb : (D == E) = b) (h : wpList P ops Q rest (a.put o.dst (.bool b)) w) : wpList P ops Q (o :: rest) a w := by
  refine BigFrame.wpList_want hgd fun K hK => ?_
  unfold Oper.wp
  rw [ex_eqS t x y oT ht ho hx hy hX hY hb w]
  exact hK _ _ h
theorem wpList_neS (hgd : Region.wanted o (yielded ops a.tmps) = true) (t : TypeId) (x y : Operand) (oT : TypeId) (ht : P.underlying t = some .string) (ho : o.op = .binOp .neq t x y oT) {X Y : ByteArray} (hx : a.eval x = .string X) (hy : a.eval y = .string Y) {D E : List UInt8}
    (hX : X = ⟨D.toArray⟩) (hY : Y = ⟨E.toArray⟩) {b : Bool} (hb : (D == E) = !b) (h : wpList P ops Q rest (a.put o.dst (.bool b)) w) : wpList P ops Q (o :: rest) a w := by
  refine BigFrame.wpList_want hgd fun K hK => ?_
  unfold Oper.wp
  rw [ex_neS t x y oT ht ho hx hy hX hY hb w]
  exact hK _ _ h
end
theorem row_markedX (w : World) (t : TypeId) (cs : List Value) (m : Nat × Nat) (hl : cs.length ≤ 1048576) : Row (w.alloc (.cells cs.toArray t m)) (.slice (some ⟨w.heap.size, 0, none⟩) cs.length cs.length) cs := by
  refine ⟨_, _, rfl, Nat.le_refl _, by unfold maxLen; omega, (fun h => by cases h), fun _ => ⟨w.heap.size, 0, rfl, by simp, fun i u hu => ?_⟩⟩
  rw [Nat.zero_add, cell_of_row _ _ i cs.toArray t m (heap_alloc_new w _)]
  simpa using hu
/-- What the package's Show answers: the text of a plain expression, none of another. -/
def ShowC : Prop := ∀ (t : T) (cs : List Value) (w : World) (Z : ByteArray), t.nodes ≤ 1048576 → canT t → RxV w.heap.size w cs t → Tb w → Z = ⟨(showT t).toArray⟩ →
    Calls Tryd.prog 12 #[.agg cs.toArray] w fun e w' => e = .returned (.string Z) ∧ Below w.heap.size w w'
def abcS : Nat → Bool := listS [97, 98, 99]
theorem show_abc : showT (starT (bytesT abcS)) = [91, 97, 45, 99, 93, 42] := by decide +kernel
theorem show_empty : showT emptyT = [40, 41] := by decide +kernel
theorem abc_good : good (bytesT abcS) := good_bytes (can_list (by intro x hx; simp at hx; omega))
theorem abc_nodes : (bytesT abcS).nodes = 1 := by decide +kernel
set_option maxHeartbeats 4000000 in
set_option maxRecDepth 1000000 in
theorem begun_any (C : ShowC) (w : World) (hT : Tb w) : Calls Tryd.prog 9 #[] w fun e w' => e = .returned (.bool true) ∧ Below w.heap.size w w' := by
  have HC := Lib.hid C
  have HTB := Lib.hid hT
  obtain ⟨i0, hi0, hz0, hz1, hz2⟩ := inf_rx'
  obtain ⟨z, hz⟩ : ∃ z, z = rxc 0 zeroS (.slice none 0 0) := ⟨_, rfl⟩
  have HZL := Lib.hid (show z.length = 6 by rw [hz]; rfl)
  have HZ0 := Lib.hid (show i0.zero = some (.agg z.toArray) by rw [hz]; exact hz0)
  obtain ⟨q, hq⟩ : ∃ q, q = abcS := ⟨_, rfl⟩
  have HQ := Lib.hid (show q = listS [97, 98, 99] from hq)
  have HG := Lib.hid (show good (bytesT q) by rw [hq]; exact abc_good)
  have HN := Lib.hid (show (bytesT q).nodes = 1 by rw [hq]; exact abc_nodes)
  obtain ⟨tx, htx⟩ : ∃ t, t = bytesT q := ⟨_, rfl⟩
  rw [← htx] at HG HN
  obtain ⟨S1, hS1⟩ : ∃ Z : ByteArray, Z = ⟨(showT (starT tx)).toArray⟩ := ⟨_, rfl⟩
  obtain ⟨S2, hS2⟩ : ∃ Z : ByteArray, Z = ⟨(showT emptyT).toArray⟩ := ⟨_, rfl⟩
  have HS1 := Lib.hid hS1
  have HS2 := Lib.hid hS2
  have HE1 := Lib.hid (show (showT (starT tx) == [91, 97, 45, 99, 93, 42]) = true by rw [htx, hq, show_abc]; rfl)
  have HE2 := Lib.hid (show (showT emptyT == [40, 41]) = true by rw [show_empty]; rfl)
  have HTX := Lib.hid htx
  clear hz hz0 hq htx hS1 hS2 C hT
  go_enter Tryd.func9, Tryd.ntmps9
  have kc := fun (w : World) (C : Array Value) (n c : Nat) => Lib.run_convert_bytes_const (P := Tryd.prog) w 34 5 C n c Tryd.underlying34 Tryd.underlying5
  go_wp2_with fail
  clear kc
  obtain ⟨w1, hw1⟩ : ∃ w1, w1 = w.alloc (.cells #[.int .u8 97, .int .u8 98, .int .u8 99] 5 (3, 4)) := ⟨_, rfl⟩
  have R1 := Lib.hid (show Row w1 (.slice (some ⟨w.heap.size, 0, none⟩) 3 3) (bvs [UInt8.ofNat 97, UInt8.ofNat 98, UInt8.ofNat 99]) from by rw [hw1]; exact row_markedX w 5 (bvs [97, 98, 99]) (3, 4) (by decide))
  have B1 := Lib.hid (show Below w.heap.size w w1 by rw [hw1]; exact (Below.refl _ _).alloc (Nat.le_refl _) _)
  rw [← hw1]
  clear hw1
  refine (refOf3 97 98 99 (by omega) (by omega) (by omega) _ w1 R1.out q HQ.out).mono ?_
  rintro e w2 ⟨rfl, hb⟩
  have B2 := Lib.hid (B1.out.trans (hb.mono B1.out.size))
  clear hb
  go_wp2_with fail
  refine (refBytes_any q w2).mono ?_
  rintro e w3 ⟨cs, rfl, hcs, hb⟩
  have B3 := Lib.hid (B2.out.trans (hb.mono B2.out.size))
  rw [← HTX.out] at hcs
  have D3 := Lib.hid (hcs fun _ => False)
  have C6 := Lib.hid (hcs fun _ => False).length
  have C1 := Lib.hid (show cs.all (·.oneCell') = true from List.all_eq_true.2 (RxD.one (hcs fun _ => False)))
  clear hcs hb
  go_wp2_with (first
    | ((with_reducible refine atDst 1 ?_); refine wpList_new rfl 27 rfl i0 _ z hi0 HZ0.out rfl (Below.refl w3.heap.size w3) (Nat.le_refl _) ?_; intro w4 hk hb hs ho; have L4 := Lib.hid hk; have B4 := Lib.hid hb; clear hk hb hs ho; (try simp only [Act.put, List.setIfInBounds_toArray, List.set_cons_zero, List.set_cons_succ]))
    | ((with_reducible refine atStore 27 1 5 ?_); refine wpList_stBlk rfl 27 _ _ rfl w3.heap.size cs rfl rfl 27 _ L4.out (size_rx C6.out) (by rw [HZL.out, C6.out]) C1.out B4.out (Nat.le_refl _) ?_; intro w5 hk hb hs ho; have L5 := Lib.hid hk; have B5 := Lib.hid (B3.out.trans (hb.mono B3.out.size)); clear hk hb hs ho; (try simp only [Act.put, List.setIfInBounds_toArray, List.set_cons_zero, List.set_cons_succ]))
    | ((with_reducible refine atDst 6 ?_); refine wpList_ldArr rfl 27 _ rfl w3.heap.size rfl 27 _ _ L5.out Tryd.underlying27 rfl (size_rx C6.out) ?_; (try simp only [Act.put, List.setIfInBounds_toArray, List.set_cons_zero, List.set_cons_succ])))
  refine (refStar_any tx cs w5 (D := fun _ => False) (fun k hk => absurd hk id) (D3.out.stay fun k hk => absurd hk id) (by have := HN.out; omega) HG.out).mono ?_
  rintro e w6 ⟨es, rfl, hes, hb⟩
  have B6 := Lib.hid (B5.out.trans (hb.mono B5.out.size))
  have V6 := Lib.hid (show RxV w6.heap.size w6 es (starT tx) from RxD.mono hes fun k hk => hk.2)
  clear hes hb
  go_wp2_with fail
  refine (HC.out (starT tx) es w6 S1 (by have h1 := star_nodes tx; have h2 := HN.out; omega) (good_star HG.out).1 V6.out (HTB.out.below B6.out (Nat.le_refl _)) HS1.out).mono ?_
  rintro e w7 ⟨rfl, hb⟩
  have B7 := Lib.hid (B6.out.trans (hb.mono B6.out.size))
  clear hb
  go_wp2_with ((with_reducible refine atDst 9 ?_); refine wpList_eqS rfl 9 (.tmp 8) _ _ Tryd.underlying9 rfl rfl rfl HS1.out rfl HE1.out ?_; (try simp only [Act.put, List.setIfInBounds_toArray, List.set_cons_zero, List.set_cons_succ]))
  refine (refEmpty_any w7).mono ?_
  rintro e w8 ⟨ds, rfl, hds, hb⟩
  have B8 := Lib.hid (B7.out.trans (hb.mono B7.out.size))
  have V8 := Lib.hid (show RxV w8.heap.size w8 ds emptyT from hds _)
  clear hds hb
  go_wp2_with fail
  refine (HC.out emptyT ds w8 S2 (by show 1 ≤ 1048576; omega) can_empty V8.out (HTB.out.below B8.out (Nat.le_refl _)) HS2.out).mono ?_
  rintro e w9 ⟨rfl, hb⟩
  have B9 := Lib.hid (B8.out.trans (hb.mono B8.out.size))
  clear hb
  go_wp2_with ((with_reducible refine atDst 13 ?_); refine wpList_eqS rfl 9 (.tmp 12) _ _ Tryd.underlying9 rfl rfl rfl HS2.out rfl HE2.out ?_; (try simp only [Act.put, List.setIfInBounds_toArray, List.set_cons_zero, List.set_cons_succ]))
  go_ret
  exact ⟨rfl, B9.out⟩
end Go.Proofs.YtmlojjgddmnbmaaDoor
namespace Go.Proofs.YtmlojjgddmnbmaaDoor
open Go.RowKit
set_option linter.unusedSimpArgs false
set_option linter.unusedVariables false

theorem inf_wr : (Tryd.prog.info? 50).map (fun i => (i.zero, i.size, i.bytes)) = some (some (.agg #[Value.slice none 0 0]), 1, 24) := by kernel_rfl
set_option maxHeartbeats 4000000 in
set_option maxRecDepth 1000000 in
theorem showC : ShowC := by
  intro t cs w Z hM hc hv hT hZ
  have V := Lib.hid hv
  have HC6 := Lib.hid hv.length
  have HT := Lib.hid hT
  have HM := Lib.hid hM
  obtain ⟨i0, hi0, hz0, hz1, hz2⟩ := infoP inf_wr
  have HZ0 := Lib.hid (show i0.zero = some (.agg [Value.slice none 0 0].toArray) from hz0)
  have HZ := Lib.hid hZ
  clear hv hT hM hc hZ hz0
  go_enter Tryd.func12, Tryd.ntmps12
  go_wp2_with (first
    | ((with_reducible refine atDst 1 ?_); refine wpList_box rfl 27 _ rfl cs rfl (Below.refl w.heap.size w) (Nat.le_refl _) ?_; intro w1 hk1 hb1 hs1 _; have K1 := Lib.hid hk1; have B1 := Lib.hid hb1; clear hk1 hb1 hs1; (try simp only [Act.put, List.setIfInBounds_toArray, List.set_cons_zero, List.set_cons_succ]))
    | ((with_reducible refine atDst 3 ?_); refine wpList_new rfl 50 rfl i0 _ [Value.slice none 0 0] hi0 HZ0.out rfl (Below.refl w1.heap.size w1) (Nat.le_refl _) ?_; intro w2 hk2 hb2 hs2 _; have K2 := Lib.hid hk2; have B2 := Lib.hid (B1.out.trans (hb2.mono B1.out.size)); have L2 := Lib.hid (K1.out.below hb2 K1.out.lt); clear hk2 hb2 hs2; (try simp only [Act.put, List.setIfInBounds_toArray, List.set_cons_zero, List.set_cons_succ]))
    | ((with_reducible refine atDst 4 ?_); refine wpList_ldArr rfl 27 _ rfl w.heap.size rfl 27 _ _ L2.out Tryd.underlying27 rfl (size_rx HC6.out) ?_; (try simp only [Act.put, List.setIfInBounds_toArray, List.set_cons_zero, List.set_cons_succ])))
  have T2 := Lib.hid (show Wt w2 w1.heap.size (.slice none 0 0) [] from ⟨K2.out, ownN w2 _ _, by simp⟩)
  have HLE := Lib.hid B1.out.size
  have HTG := Lib.hid (Nat.lt_of_lt_of_le HT.out.lt HLE.out)
  refine (expr_any t.nodes t (Nat.le_refl _) HM.out w1.heap.size _ [] cs w2 T2.out (HT.out.below B2.out (Nat.le_refl _)) HTG.out ((V.out.stay B2.out).mono HLE.out)).mono ?_
  rintro e w3 ⟨v3, d3, ⟨rfl, hp, h3⟩ | ⟨rfl, h3⟩⟩
  · have B3 := Lib.hid (B2.out.trans ((d3.below T2.out).mono HLE.out))
    rw [List.nil_append] at h3
    have HS := Lib.hid (show (⟨(textT t).toArray⟩ : ByteArray) = Z by rw [HZ.out]; unfold showT; rw [if_pos ⟨hp, h3.le⟩])
    obtain ⟨A, cap, hv3, _⟩ := Row.of_own h3.own
    rw [bvs_length] at hv3
    have R3 := Lib.hid (Row.of_own h3.own)
    have c3 : w3.cell? ⟨w1.heap.size, 0, none⟩ = some (.slice A (textT t).length cap) := by have := h3.blk.cell 0; rw [hv3] at this; exact this
    rw [hv3] at R3
    clear h3 d3 hp hv3
    go_wp2_with ((with_reducible refine atDst 9 ?_); refine wpList_toStr rfl (.tmp 8) rfl _ (textT t) rfl R3.out ?_; (try simp only [Act.put, List.setIfInBounds_toArray, List.set_cons_zero, List.set_cons_succ]))
    go_ret
    exact ⟨by rw [← HS.out]; rfl, B3.out⟩
  · have B3 := Lib.hid (B2.out.trans ((d3.below T2.out).mono HLE.out))
    have HS := Lib.hid (show Z = ⟨#[]⟩ by rw [HZ.out]; unfold showT; rw [if_neg (fun hh => h3 ⟨hh.1, by simpa using hh.2⟩)])
    clear h3 d3
    go_wp2_with fail
    go_ret
    exact ⟨by rw [HS.out]; rfl, B3.out⟩
end Go.Proofs.YtmlojjgddmnbmaaDoor
namespace Go.Proofs.YtmlojjgddmnbmaaDoor
open Go.RowKit
set_option linter.unusedSimpArgs false
set_option linter.unusedVariables false

set_option maxHeartbeats 4000000 in
set_option maxRecDepth 1000000 in
theorem light_any (t : T) (m : Nat) (hM : t.nodes ≤ 1099511627776) (cs : List Value) (w : World) (hv : RxV w.heap.size w cs t) (b : Bool) (hb : (decide (t.nodes ≤ m) && decide (t.depth ≤ 60)) = b) :
    Calls Tryd.prog 10 #[.agg cs.toArray, .int .i64 (m : Int)] w fun e w' => e = .returned (.bool b) ∧ Below w.heap.size w w' := by
  have V := Lib.hid hv
  have HC6 := Lib.hid hv.length
  have HM := Lib.hid hM
  obtain ⟨a, ha⟩ : ∃ a, a = t.nodes := ⟨_, rfl⟩
  obtain ⟨d, hd⟩ : ∃ d, d = t.depth := ⟨_, rfl⟩
  rw [← ha, ← hd] at hb
  have HA := Lib.hid ha
  have HD := Lib.hid hd
  have HB := Lib.hid hb
  clear hv hM ha hd hb
  by_cases h1 : a ≤ m
  · have d1 : (a : Int) ≤ (m : Int) := by omega
    by_cases h2 : d ≤ 60
    · have d2 : (d : Int) ≤ 60 := by omega
      have HR := Lib.hid (show b = true by rw [← HB.out, decide_eq_true h1, decide_eq_true h2]; rfl)
      clear h1 h2
      go_enter Tryd.func10, Tryd.ntmps10
      go_wp2_with (first
        | ((with_reducible refine atDst 2 ?_); refine wpList_box rfl 27 _ rfl cs rfl (Below.refl w.heap.size w) (Nat.le_refl _) ?_; intro w1 hk1 hb1 hs1 _; have K1 := Lib.hid hk1; have B1 := Lib.hid hb1; clear hk1 hb1 hs1; (try simp only [Act.put, List.setIfInBounds_toArray, List.set_cons_zero, List.set_cons_succ]))
        | ((with_reducible refine atDst 5 ?_); refine wpList_ldArr rfl 27 _ rfl w.heap.size rfl 27 _ _ K1.out Tryd.underlying27 rfl (size_rx HC6.out) ?_; (try simp only [Act.put, List.setIfInBounds_toArray, List.set_cons_zero, List.set_cons_succ])))
      refine (refNodes_any _ t (Nat.le_refl _) HM.out cs w1 ((V.out.stay B1.out).mono B1.out.size)).mono ?_
      rintro e w2 ⟨rfl, hb⟩
      rw [← HA.out]
      have B2 := Lib.hid (B1.out.trans (hb.mono B1.out.size))
      have K2 := Lib.hid (K1.out.below hb K1.out.lt)
      clear hb
      go_wp2_with ((with_reducible refine atDst 10 ?_); refine wpList_ldMidG rfl 27 _ rfl w.heap.size 0 rfl cs _ (fun i u hu => by have := K2.out.cell (0 + i); rw [this]; simpa using hu) Tryd.underlying27 rfl (size_rx HC6.out) ?_; (try simp only [Act.put, List.setIfInBounds_toArray, List.set_cons_zero, List.set_cons_succ]))
      refine (refDepth_any _ t (Nat.le_refl _) HM.out cs w2 ((V.out.stay B2.out).mono B2.out.size)).mono ?_
      rintro e w3 ⟨rfl, hb⟩
      rw [← HD.out]
      have B3 := Lib.hid (B2.out.trans (hb.mono B2.out.size))
      clear hb
      go_wp2_with fail
      go_ret
      rw [HR.out]
      exact ⟨rfl, B3.out⟩
    · have d2 : ¬ ((d : Int) ≤ 60) := by omega
      have HR := Lib.hid (show b = false by rw [← HB.out, decide_eq_false h2]; simp)
      have HD2 := Lib.hid d2
      clear h1 h2
      go_enter Tryd.func10, Tryd.ntmps10
      go_wp2_with (first
        | ((with_reducible refine atDst 2 ?_); refine wpList_box rfl 27 _ rfl cs rfl (Below.refl w.heap.size w) (Nat.le_refl _) ?_; intro w1 hk1 hb1 hs1 _; have K1 := Lib.hid hk1; have B1 := Lib.hid hb1; clear hk1 hb1 hs1; (try simp only [Act.put, List.setIfInBounds_toArray, List.set_cons_zero, List.set_cons_succ]))
        | ((with_reducible refine atDst 5 ?_); refine wpList_ldArr rfl 27 _ rfl w.heap.size rfl 27 _ _ K1.out Tryd.underlying27 rfl (size_rx HC6.out) ?_; (try simp only [Act.put, List.setIfInBounds_toArray, List.set_cons_zero, List.set_cons_succ])))
      refine (refNodes_any _ t (Nat.le_refl _) HM.out cs w1 ((V.out.stay B1.out).mono B1.out.size)).mono ?_
      rintro e w2 ⟨rfl, hb⟩
      rw [← HA.out]
      have B2 := Lib.hid (B1.out.trans (hb.mono B1.out.size))
      have K2 := Lib.hid (K1.out.below hb K1.out.lt)
      clear hb
      go_wp2_with ((with_reducible refine atDst 10 ?_); refine wpList_ldMidG rfl 27 _ rfl w.heap.size 0 rfl cs _ (fun i u hu => by have := K2.out.cell (0 + i); rw [this]; simpa using hu) Tryd.underlying27 rfl (size_rx HC6.out) ?_; (try simp only [Act.put, List.setIfInBounds_toArray, List.set_cons_zero, List.set_cons_succ]))
      refine (refDepth_any _ t (Nat.le_refl _) HM.out cs w2 ((V.out.stay B2.out).mono B2.out.size)).mono ?_
      rintro e w3 ⟨rfl, hb⟩
      rw [← HD.out]
      have B3 := Lib.hid (B2.out.trans (hb.mono B2.out.size))
      clear hb
      go_wp2_with fail
      go_ret
      rw [HR.out]
      refine ⟨?_, B3.out⟩
      show Ending.returned (Value.bool (decide ((d : Int) ≤ 60))) = _
      rw [decide_eq_false (show ¬ ((d : Int) ≤ 60) from by have := HD2.out; omega)]
  · have d1 : ¬ ((a : Int) ≤ (m : Int)) := by omega
    have HR := Lib.hid (show b = false by rw [← HB.out, decide_eq_false h1]; simp)
    clear h1
    go_enter Tryd.func10, Tryd.ntmps10
    go_wp2_with (first
      | ((with_reducible refine atDst 2 ?_); refine wpList_box rfl 27 _ rfl cs rfl (Below.refl w.heap.size w) (Nat.le_refl _) ?_; intro w1 hk1 hb1 hs1 _; have K1 := Lib.hid hk1; have B1 := Lib.hid hb1; clear hk1 hb1 hs1; (try simp only [Act.put, List.setIfInBounds_toArray, List.set_cons_zero, List.set_cons_succ]))
      | ((with_reducible refine atDst 5 ?_); refine wpList_ldArr rfl 27 _ rfl w.heap.size rfl 27 _ _ K1.out Tryd.underlying27 rfl (size_rx HC6.out) ?_; (try simp only [Act.put, List.setIfInBounds_toArray, List.set_cons_zero, List.set_cons_succ])))
    refine (refNodes_any _ t (Nat.le_refl _) HM.out cs w1 ((V.out.stay B1.out).mono B1.out.size)).mono ?_
    rintro e w2 ⟨rfl, hb⟩
    rw [← HA.out]
    have B2 := Lib.hid (B1.out.trans (hb.mono B1.out.size))
    have K2 := Lib.hid (K1.out.below hb K1.out.lt)
    clear hb
    go_wp2_with fail
    go_ret
    rw [HR.out]
    exact ⟨rfl, B2.out⟩
set_option maxHeartbeats 4000000 in
set_option maxRecDepth 1000000 in
theorem showAll_walk (C : ShowC) (t : T) (hM : t.nodes ≤ 1048576) (hc : canT t) (cs : List Value) (w : World) (hv : RxV w.heap.size w cs t) (hT : Tb w) :
    Calls Tryd.prog 3 #[.agg cs.toArray] w fun e w' => e = .returned (.bool true) ∧ Below w.heap.size w w' := by
  have HC := Lib.hid C
  have HTB := Lib.hid hT
  clear hT
  have V := Lib.hid hv
  have HC6 := Lib.hid hv.length
  have HM := Lib.hid hM
  have HCT := Lib.hid hc
  obtain ⟨b, hb⟩ : ∃ b, (decide (t.nodes ≤ 600) && decide (t.depth ≤ 60)) = b := ⟨_, rfl⟩
  have HBL := Lib.hid hb
  clear C hv hM hc hb
  cases b with
  | false =>
    go_enter Tryd.func3, Tryd.ntmps3
    go_wp2_with ((with_reducible refine atDst 1 ?_); refine wpList_box rfl 27 _ rfl cs rfl (Below.refl w.heap.size w) (Nat.le_refl _) ?_; intro w1 hk1 hb1 hs1 _; have K1 := Lib.hid hk1; have B1 := Lib.hid hb1; clear hk1 hb1 hs1; (try simp only [Act.put, List.setIfInBounds_toArray, List.set_cons_zero, List.set_cons_succ]))
    refine (begun_any HC.out w1 (HTB.out.below B1.out (Nat.le_refl _))).mono ?_
    rintro e w2 ⟨rfl, hb⟩
    have B2 := Lib.hid (B1.out.trans (hb.mono B1.out.size))
    have K2 := Lib.hid (K1.out.below hb K1.out.lt)
    clear hb
    go_wp2_with ((with_reducible refine atDst 6 ?_); refine wpList_ldArr rfl 27 _ rfl w.heap.size rfl 27 _ _ K2.out Tryd.underlying27 rfl (size_rx HC6.out) ?_; (try simp only [Act.put, List.setIfInBounds_toArray, List.set_cons_zero, List.set_cons_succ]))
    refine (light_any t 600 (by have := HM.out; omega) cs w2 ((V.out.stay B2.out).mono B2.out.size) _ HBL.out).mono ?_
    rintro e w3 ⟨rfl, hb⟩
    have B3 := Lib.hid (B2.out.trans (hb.mono B2.out.size))
    have K3 := Lib.hid (K2.out.below hb K2.out.lt)
    clear hb
    go_wp2_with fail
    go_ret
    exact ⟨rfl, B3.out⟩
  | true =>
    obtain ⟨i0, hi0, hz0, hz1, hz2⟩ := inf_rx'
    obtain ⟨z, hz⟩ : ∃ z, z = rxc 0 zeroS (.slice none 0 0) := ⟨_, rfl⟩
    have HZL := Lib.hid (show z.length = 6 by rw [hz]; rfl)
    have HZ0 := Lib.hid (show i0.zero = some (.agg z.toArray) by rw [hz]; exact hz0)
    obtain ⟨S1, hS1⟩ : ∃ Z : ByteArray, Z = ⟨(showT t).toArray⟩ := ⟨_, rfl⟩
    have HS1 := Lib.hid hS1
    have HSS := Lib.hid (sameT_self t)
    clear hz hz0 hS1
    go_enter Tryd.func3, Tryd.ntmps3
    go_wp2_with ((with_reducible refine atDst 1 ?_); refine wpList_box rfl 27 _ rfl cs rfl (Below.refl w.heap.size w) (Nat.le_refl _) ?_; intro w1 hk1 hb1 hs1 _; have K1 := Lib.hid hk1; have B1 := Lib.hid hb1; clear hk1 hb1 hs1; (try simp only [Act.put, List.setIfInBounds_toArray, List.set_cons_zero, List.set_cons_succ]))
    refine (begun_any HC.out w1 (HTB.out.below B1.out (Nat.le_refl _))).mono ?_
    rintro e w2 ⟨rfl, hb⟩
    have B2 := Lib.hid (B1.out.trans (hb.mono B1.out.size))
    have K2 := Lib.hid (K1.out.below hb K1.out.lt)
    clear hb
    go_wp2_with ((with_reducible refine atDst 6 ?_); refine wpList_ldArr rfl 27 _ rfl w.heap.size rfl 27 _ _ K2.out Tryd.underlying27 rfl (size_rx HC6.out) ?_; (try simp only [Act.put, List.setIfInBounds_toArray, List.set_cons_zero, List.set_cons_succ]))
    refine (light_any t 600 (by have := HM.out; omega) cs w2 ((V.out.stay B2.out).mono B2.out.size) _ HBL.out).mono ?_
    rintro e w3 ⟨rfl, hb⟩
    have B3 := Lib.hid (B2.out.trans (hb.mono B2.out.size))
    have K3 := Lib.hid (K2.out.below hb K2.out.lt)
    clear hb
    go_wp2_with ((with_reducible refine atDst 9 ?_); refine wpList_ldArr rfl 27 _ rfl w.heap.size rfl 27 _ _ K3.out Tryd.underlying27 rfl (size_rx HC6.out) ?_; (try simp only [Act.put, List.setIfInBounds_toArray, List.set_cons_zero, List.set_cons_succ]))
    refine (refCopy_any _ t (Nat.le_refl _) (by have := HM.out; omega) cs w3 ((V.out.stay B3.out).mono B3.out.size)).mono ?_
    rintro e w4 ⟨ds, rfl, hds, hb⟩
    have B4 := Lib.hid (B3.out.trans (hb.mono B3.out.size))
    have K4 := Lib.hid (K3.out.below hb K3.out.lt)
    have D4 := Lib.hid hds
    have D6 := Lib.hid hds.length
    have D1 := Lib.hid (show ds.all (·.oneCell') = true from List.all_eq_true.2 (RxD.one hds))
    clear hds hb
    go_wp2_with (first
      | ((with_reducible refine atDst 3 ?_); refine wpList_new rfl 27 rfl i0 _ z hi0 HZ0.out rfl (Below.refl w4.heap.size w4) (Nat.le_refl _) ?_; intro w5 hk hb hs ho; have L5 := Lib.hid hk; have B5 := Lib.hid hb; clear hk hb hs ho; (try simp only [Act.put, List.setIfInBounds_toArray, List.set_cons_zero, List.set_cons_succ]))
      | ((with_reducible refine atStore 27 3 10 ?_); refine wpList_stBlk rfl 27 _ _ rfl w4.heap.size ds rfl rfl 27 _ L5.out (size_rx D6.out) (by rw [HZL.out, D6.out]) D1.out B5.out (Nat.le_refl _) ?_; intro w6 hk hb hs ho; have L6 := Lib.hid hk; have B6 := Lib.hid (B4.out.trans (hb.mono B4.out.size)); have K6 := Lib.hid (K4.out.below hb K4.out.lt); have D6' := Lib.hid (RxD.mono (D4.out.stay (w' := w6) fun k hk => hb.block k hk.2) (D' := fun k => k < w6.heap.size) fun k hk => Nat.lt_of_lt_of_le hk.2 hb.size); clear hk hb hs ho; (try simp only [Act.put, List.setIfInBounds_toArray, List.set_cons_zero, List.set_cons_succ])))
    refine sx_startB (B := w6.heap.size) (w0 := w6) (by kernel_rfl) (Below.refl _ _) (fun wd hwd hX => ?_)
    clear hwd
    refine sx_take (i := 0) (oi := ⟨some 11, _, _, _, _, _⟩) (v := .agg cs.toArray) rfl (by kernel_rfl) (by kernel_rfl) (by kernel_rfl) (fun _ _ _ h => h) rfl hX (ld_blk 27 _ rfl w.heap.size rfl 27 _ _ K6.out K6.out.lt Tryd.underlying27 rfl (size_rx HC6.out)) ?_; simp only [Act.put, List.setIfInBounds_toArray, List.set_cons_zero, List.set_cons_succ]
    refine sx_take (i := 2) (oi := ⟨some 13, _, _, _, _, _⟩) (v := .agg ds.toArray) rfl (by kernel_rfl) (by kernel_rfl) (by kernel_rfl) (fun _ _ _ h => h) rfl hX (ld_blk 27 _ rfl w4.heap.size rfl 27 _ _ L6.out L6.out.lt Tryd.underlying27 rfl (size_rx D6.out)) ?_; simp only [Act.put, List.setIfInBounds_toArray, List.set_cons_zero, List.set_cons_succ]
    refine sx_actB (i := 1) (o := ⟨some 12, _, _, _, _, _⟩) rfl (by kernel_rfl) rfl hX (fun K hK => ?_)
    go_wp2_with fail
    refine (HC.out t cs wd S1 HM.out HCT.out ((V.out.stay (B6.out.trans (hX.mono B6.out.size))).mono (B6.out.trans (hX.mono B6.out.size)).size) (HTB.out.below (B6.out.trans (hX.mono B6.out.size)) (Nat.le_refl _)) HS1.out).mono ?_
    rintro e w7 ⟨rfl, hb⟩
    go_wp2_with fail
    refine hK _ _ (hb.mono hX.size) ?_
    clear hK K
    replace hX := hX.trans (hb.mono hX.size)
    clear hb
    refine sx_actB (i := 3) (o := ⟨some 14, _, _, _, _, _⟩) rfl (by kernel_rfl) rfl hX (fun K hK => ?_)
    go_wp2_with fail
    refine (refShow_any t HM.out HCT.out ds w7 ((RxV.stay D6'.out hX).mono hX.size) S1 HS1.out).mono ?_
    rintro e w8 ⟨rfl, hb⟩
    go_wp2_with fail
    refine hK _ _ (hb.mono hX.size) ?_
    clear hK K
    replace hX := hX.trans (hb.mono hX.size)
    clear hb
    refine sx_take (i := 4) (oi := ⟨some 15, _, _, _, _, _⟩) (v := .bool true) rfl (by kernel_rfl) (by kernel_rfl) (by kernel_rfl) (fun _ _ _ h => h) rfl hX (fun W _ => ex_eqS 9 (.tmp 12) (.tmp 14) _ Tryd.underlying9 rfl rfl rfl HS1.out HS1.out (by simp) W) ?_; simp only [Act.put, List.setIfInBounds_toArray, List.set_cons_zero, List.set_cons_succ]
    refine sx_take (i := 5) (oi := ⟨some 16, _, _, _, _, _⟩) (v := ?_) rfl (by kernel_rfl) (by kernel_rfl) (by kernel_rfl) (fun _ _ _ h => h) rfl hX ?_ ?_; rotate_left; (intro W hW; go_simp; try with_reducible rfl); simp only [Act.put, List.setIfInBounds_toArray, List.set_cons_zero, List.set_cons_succ]
    refine sx_take (i := 6) (oi := ⟨some 17, _, _, _, _, _⟩) (v := .agg cs.toArray) rfl (by kernel_rfl) (by kernel_rfl) (by kernel_rfl) (fun _ _ _ h => h) rfl hX (ld_blk 27 _ rfl w.heap.size rfl 27 _ _ K6.out K6.out.lt Tryd.underlying27 rfl (size_rx HC6.out)) ?_; simp only [Act.put, List.setIfInBounds_toArray, List.set_cons_zero, List.set_cons_succ]
    refine sx_take (i := 7) (oi := ⟨some 18, _, _, _, _, _⟩) (v := .agg ds.toArray) rfl (by kernel_rfl) (by kernel_rfl) (by kernel_rfl) (fun _ _ _ h => h) rfl hX (ld_blk 27 _ rfl w4.heap.size rfl 27 _ _ L6.out L6.out.lt Tryd.underlying27 rfl (size_rx D6.out)) ?_; simp only [Act.put, List.setIfInBounds_toArray, List.set_cons_zero, List.set_cons_succ]
    refine sx_actB (i := 8) (o := ⟨some 19, _, _, _, _, _⟩) rfl (by kernel_rfl) rfl hX (fun K hK => ?_)
    go_wp2_with fail
    refine (refSame_any _ t t (Nat.le_refl _) (by have := HM.out; omega) cs ds w8 ((V.out.stay (B6.out.trans (hX.mono B6.out.size))).mono (B6.out.trans (hX.mono B6.out.size)).size) ((RxV.stay D6'.out hX).mono hX.size)).mono ?_
    rintro e w9 ⟨rfl, hb⟩
    rw [HSS.out]
    go_wp2_with fail
    refine hK _ _ (hb.mono hX.size) ?_
    clear hK K
    replace hX := hX.trans (hb.mono hX.size)
    clear hb
    refine sx_take (i := 9) (oi := ⟨some 20, _, _, _, _, _⟩) (v := ?_) rfl (by kernel_rfl) (by kernel_rfl) (by kernel_rfl) (fun _ _ _ h => h) rfl hX ?_ ?_; rotate_left; (intro W hW; go_simp; try with_reducible rfl); simp only [Act.put, List.setIfInBounds_toArray, List.set_cons_zero, List.set_cons_succ]
    refine sx_take (i := 10) (oi := ⟨some 2, _, _, _, _, _⟩) (v := ?_) rfl (by kernel_rfl) (by kernel_rfl) (by kernel_rfl) (fun _ _ _ h => h) rfl hX ?_ ?_; rotate_left; (intro W hW; go_simp; try with_reducible rfl); simp only [Act.put, List.setIfInBounds_toArray, List.set_cons_zero, List.set_cons_succ]
    refine wpAnyH_done (by kernel_rfl) ?_ _
    have B9 := Lib.hid (B6.out.trans (hX.mono B6.out.size))
    go_wp2_with fail
    go_ret
    exact ⟨rfl, B9.out⟩
end Go.Proofs.YtmlojjgddmnbmaaDoor
namespace Go.Proofs.YtmlojjgddmnbmaaDoor
open Go.RowKit
set_option linter.unusedSimpArgs false
set_option linter.unusedVariables false

set_option maxHeartbeats 4000000 in
set_option maxRecDepth 1000000 in
theorem showMade_walk (C : ShowC) (hne : ∀ ps : List UInt8, ps.length ≤ 100 → showT (madeT ps) ≠ []) (V : Value) (ps : List UInt8) (w : World) (hr : Row w V (bvs ps)) (hT : Tb w) :
    Calls Tryd.prog 4 #[V] w fun e w' => e = .returned (.bool true) ∧ Below w.heap.size w w' := by
  have HC := Lib.hid C
  have HTB := Lib.hid hT
  clear hT
  have R := Lib.hid hr
  have HNE := Lib.hid (hne ps)
  obtain ⟨A, cap, rfl, _⟩ := hr
  have hbl : (bvs ps).length = ps.length := bvs_length ps
  rw [hbl] at R ⊢
  clear C hne hbl
  by_cases h100 : 100 < ps.length
  · have i1 : (100 : Int) < (ps.length : Int) := by omega
    clear h100
    go_enter Tryd.func4, Tryd.ntmps4
    go_wp2_with fail
    refine (begun_any HC.out w HTB.out).mono ?_
    rintro e w1 ⟨rfl, hb⟩
    have B1 := Lib.hid hb
    clear hb
    go_wp2_with fail
    go_ret
    exact ⟨rfl, B1.out⟩
  have i1 : ¬ ((100 : Int) < (ps.length : Int)) := by omega
  have HL := Lib.hid (show ps.length ≤ 100 by omega)
  obtain ⟨t, ht⟩ : ∃ t, t = madeT ps := ⟨_, rfl⟩
  have HT := Lib.hid ht
  have HG := Lib.hid (show good t by rw [ht]; exact madeT_good ps)
  have HM := Lib.hid (show t.nodes ≤ 1048576 by rw [ht]; have := madeT_nodes ps; omega)
  obtain ⟨S1, hS1⟩ : ∃ Z : ByteArray, Z = ⟨(showT t).toArray⟩ := ⟨_, rfl⟩
  have HS1 := Lib.hid hS1
  have HN1 := Lib.hid (show (showT t == []) = !true by
    have h := HNE.out HL.out
    rw [← ht] at h
    simpa using h)
  obtain ⟨i0, hi0, hz0, hz1, hz2⟩ := inf_rx'
  obtain ⟨z, hz⟩ : ∃ z, z = rxc 0 zeroS (.slice none 0 0) := ⟨_, rfl⟩
  have HZL := Lib.hid (show z.length = 6 by rw [hz]; rfl)
  have HZ0 := Lib.hid (show i0.zero = some (.agg z.toArray) by rw [hz]; exact hz0)
  clear hz hz0 hS1 ht h100
  go_enter Tryd.func4, Tryd.ntmps4
  go_wp2_with fail
  refine (begun_any HC.out w HTB.out).mono ?_
  rintro e w1 ⟨rfl, hb⟩
  have B1 := Lib.hid hb
  clear hb
  go_wp2_with fail
  refine (made_any _ ps w1 (R.out.below B1.out) (by have := HL.out; omega)).mono ?_
  rintro e w2 ⟨rfl, hb, hp⟩
  have P2 := Lib.hid hp
  have B2 := Lib.hid (B1.out.trans (hb.mono B1.out.size))
  have S1w := Lib.hid B1.out.size
  clear hb hp
  go_wp2_with fail
  refine (pickRx_any w1.heap.size _ ps w2 P2.out).mono ?_
  rintro e w3 ⟨cs, rfl, hcs, hg⟩
  have B3 := Lib.hid (B2.out.trans ((grown_belowG hg P2.out.blk.lt).mono S1w.out))
  rw [← HT.out] at hcs
  have C6 := Lib.hid hcs.length
  have C1 := Lib.hid (show cs.all (·.oneCell') = true from List.all_eq_true.2 (RxD.one hcs))
  have V3 := Lib.hid (show RxV w3.heap.size w3 cs t from RxD.mono hcs fun k hk => hk.2)
  clear hcs hg
  go_wp2_with (first
    | ((with_reducible refine atDst 3 ?_); refine wpList_new rfl 27 rfl i0 _ z hi0 HZ0.out rfl (Below.refl w3.heap.size w3) (Nat.le_refl _) ?_; intro w4 hk hb hs ho; have L4 := Lib.hid hk; have B4 := Lib.hid hb; clear hk hb hs ho; (try simp only [Act.put, List.setIfInBounds_toArray, List.set_cons_zero, List.set_cons_succ]))
    | ((with_reducible refine atStore 27 3 11 ?_); refine wpList_stBlk rfl 27 _ _ rfl w3.heap.size cs rfl rfl 27 _ L4.out (size_rx C6.out) (by rw [HZL.out, C6.out]) C1.out B4.out (Nat.le_refl _) ?_; intro w5 hk hb hs ho; have L5 := Lib.hid hk; have B5 := Lib.hid (B3.out.trans (hb.mono B3.out.size)); have V5 := Lib.hid (RxV.mono (V3.out.stay hb) hb.size); clear hk hb hs ho; (try simp only [Act.put, List.setIfInBounds_toArray, List.set_cons_zero, List.set_cons_succ])))
  refine sx_startB (B := w5.heap.size) (w0 := w5) (by kernel_rfl) (Below.refl _ _) (fun wd hwd hX => ?_)
  clear hwd
  refine sx_take (i := 0) (oi := ⟨some 12, _, _, _, _, _⟩) (v := .agg cs.toArray) rfl (by kernel_rfl) (by kernel_rfl) (by kernel_rfl) (fun _ _ _ h => h) rfl hX (ld_blk 27 _ rfl w3.heap.size rfl 27 _ _ L5.out L5.out.lt Tryd.underlying27 rfl (size_rx C6.out)) ?_; simp only [Act.put, List.setIfInBounds_toArray, List.set_cons_zero, List.set_cons_succ]
  refine sx_take (i := 2) (oi := ⟨some 14, _, _, _, _, _⟩) (v := .agg cs.toArray) rfl (by kernel_rfl) (by kernel_rfl) (by kernel_rfl) (fun _ _ _ h => h) rfl hX (ld_blk 27 _ rfl w3.heap.size rfl 27 _ _ L5.out L5.out.lt Tryd.underlying27 rfl (size_rx C6.out)) ?_; simp only [Act.put, List.setIfInBounds_toArray, List.set_cons_zero, List.set_cons_succ]
  refine sx_actB (i := 1) (o := ⟨some 13, _, _, _, _, _⟩) rfl (by kernel_rfl) rfl hX (fun K hK => ?_)
  go_wp2_with fail
  refine (HC.out t cs wd S1 HM.out HG.out.1 ((V5.out.stay hX).mono hX.size) (HTB.out.below (B5.out.trans (hX.mono B5.out.size)) (Nat.le_refl _)) HS1.out).mono ?_
  rintro e w7 ⟨rfl, hb⟩
  go_wp2_with fail
  refine hK _ _ (hb.mono hX.size) ?_
  clear hK K
  replace hX := hX.trans (hb.mono hX.size)
  clear hb
  refine sx_actB (i := 3) (o := ⟨some 15, _, _, _, _, _⟩) rfl (by kernel_rfl) rfl hX (fun K hK => ?_)
  go_wp2_with fail
  refine (refShow_any t HM.out HG.out.1 cs w7 ((V5.out.stay hX).mono hX.size) S1 HS1.out).mono ?_
  rintro e w8 ⟨rfl, hb⟩
  go_wp2_with fail
  refine hK _ _ (hb.mono hX.size) ?_
  clear hK K
  replace hX := hX.trans (hb.mono hX.size)
  clear hb
  refine sx_take (i := 4) (oi := ⟨some 16, _, _, _, _, _⟩) (v := .bool true) rfl (by kernel_rfl) (by kernel_rfl) (by kernel_rfl) (fun _ _ _ h => h) rfl hX (fun W _ => ex_eqS 9 (.tmp 13) (.tmp 15) _ Tryd.underlying9 rfl rfl rfl HS1.out HS1.out (by simp) W) ?_; simp only [Act.put, List.setIfInBounds_toArray, List.set_cons_zero, List.set_cons_succ]
  refine sx_take (i := 5) (oi := ⟨some 17, _, _, _, _, _⟩) (v := ?_) rfl (by kernel_rfl) (by kernel_rfl) (by kernel_rfl) (fun _ _ _ h => h) rfl hX ?_ ?_; rotate_left; (intro W hW; go_simp; try with_reducible rfl); simp only [Act.put, List.setIfInBounds_toArray, List.set_cons_zero, List.set_cons_succ]
  refine sx_take (i := 6) (oi := ⟨some 18, _, _, _, _, _⟩) (v := .agg cs.toArray) rfl (by kernel_rfl) (by kernel_rfl) (by kernel_rfl) (fun _ _ _ h => h) rfl hX (ld_blk 27 _ rfl w3.heap.size rfl 27 _ _ L5.out L5.out.lt Tryd.underlying27 rfl (size_rx C6.out)) ?_; simp only [Act.put, List.setIfInBounds_toArray, List.set_cons_zero, List.set_cons_succ]
  refine sx_actB (i := 7) (o := ⟨some 19, _, _, _, _, _⟩) rfl (by kernel_rfl) rfl hX (fun K hK => ?_)
  go_wp2_with fail
  refine (HC.out t cs w8 S1 HM.out HG.out.1 ((V5.out.stay hX).mono hX.size) (HTB.out.below (B5.out.trans (hX.mono B5.out.size)) (Nat.le_refl _)) HS1.out).mono ?_
  rintro e w9 ⟨rfl, hb⟩
  go_wp2_with fail
  refine hK _ _ (hb.mono hX.size) ?_
  clear hK K
  replace hX := hX.trans (hb.mono hX.size)
  clear hb
  refine sx_take (i := 8) (oi := ⟨some 20, _, _, _, _, _⟩) (v := .bool true) rfl (by kernel_rfl) (by kernel_rfl) (by kernel_rfl) (fun _ _ _ h => h) rfl hX (fun W _ => ex_neS 9 (.tmp 19) _ _ Tryd.underlying9 rfl rfl rfl HS1.out (E := []) rfl HN1.out W) ?_; simp only [Act.put, List.setIfInBounds_toArray, List.set_cons_zero, List.set_cons_succ]
  refine sx_take (i := 9) (oi := ⟨some 21, _, _, _, _, _⟩) (v := ?_) rfl (by kernel_rfl) (by kernel_rfl) (by kernel_rfl) (fun _ _ _ h => h) rfl hX ?_ ?_; rotate_left; (intro W hW; go_simp; try with_reducible rfl); simp only [Act.put, List.setIfInBounds_toArray, List.set_cons_zero, List.set_cons_succ]
  refine sx_take (i := 10) (oi := ⟨some 2, _, _, _, _, _⟩) (v := ?_) rfl (by kernel_rfl) (by kernel_rfl) (by kernel_rfl) (fun _ _ _ h => h) rfl hX ?_ ?_; rotate_left; (intro W hW; go_simp; try with_reducible rfl); simp only [Act.put, List.setIfInBounds_toArray, List.set_cons_zero, List.set_cons_succ]
  refine wpAnyH_done (by kernel_rfl) ?_ _
  have B9 := Lib.hid (B5.out.trans (hX.mono B5.out.size))
  go_wp2_with fail
  go_ret
  exact ⟨rfl, B9.out⟩
end Go.Proofs.YtmlojjgddmnbmaaDoor
namespace Go.Proofs.YtmlojjgddmnbmaaDoor
open Go.RowKit
set_option linter.unusedSimpArgs false
set_option linter.unusedVariables false

/-! ### counting -/
theorem filter_union {α : Type} {p q r : α → Bool} (h : ∀ b, p b = true → q b = true ∨ r b = true) : ∀ l : List α, (l.filter p).length ≤ (l.filter q).length + (l.filter r).length
  | [] => by simp
  | a :: l => by
    have ih := filter_union h l
    have ha := h a
    cases hp : p a with
    | false =>
      rw [List.filter_cons_of_neg (by simp [hp])]
      have h1 : (l.filter q).length ≤ ((a :: l).filter q).length := by
        cases hq : q a <;> simp [hq]
      have h2 : (l.filter r).length ≤ ((a :: l).filter r).length := by
        cases hr : r a <;> simp [hr]
      omega
    | true =>
      rw [List.filter_cons_of_pos (by simp [hp]), List.length_cons]
      rcases ha hp with hq | hr
      · rw [List.filter_cons_of_pos (p := q) hq, List.length_cons]
        have h2 : (l.filter r).length ≤ ((a :: l).filter r).length := by
          cases hr : r a <;> simp [hr]
        omega
      · rw [List.filter_cons_of_pos (p := r) hr, List.length_cons]
        have h1 : (l.filter q).length ≤ ((a :: l).filter q).length := by
          cases hq : q a <;> simp [hq]
        omega
theorem filter_one (c : Nat) : ∀ n, ((List.range n).filter fun b => decide (b = c)).length ≤ if c < n then 1 else 0
  | 0 => by simp
  | n + 1 => by
    have ih := filter_one c n
    rw [List.range_succ, List.filter_append, List.length_append]
    by_cases h : n = c
    · subst h
      rw [if_neg (by omega)] at ih
      rw [if_pos (by omega)]
      simp
      simp at ih
      exact ih
    · have : ([n].filter fun b => decide (b = c)).length = 0 := by simp [h]
      rw [this]
      by_cases h2 : c < n
      · rw [if_pos h2] at ih; rw [if_pos (by omega)]; omega
      · rw [if_neg h2] at ih; rw [if_neg (by omega)]; omega
theorem filter_few : ∀ (l : List Nat) (p : Nat → Bool), (∀ b, p b = true → b ∈ l) → ((List.range 256).filter p).length ≤ l.length
  | [], p, h => by
    have : (List.range 256).filter p = [] := List.filter_eq_nil_iff.2 fun b _ hb => by have := h b hb; cases this
    rw [this]
    simp
  | c :: l, p, h => by
    have h1 := filter_union (p := p) (q := fun b => decide (b = c)) (r := fun b => p b && decide (b ∈ l)) (fun b hb => by
      rcases List.mem_cons.1 (h b hb) with e | e
      · exact .inl (by simpa using e)
      · exact .inr (by simp [hb, e])) (List.range 256)
    have h2 := filter_one c 256
    have h3 := filter_few l (fun b => p b && decide (b ∈ l)) (fun b hb => by
      simp only [Bool.and_eq_true, decide_eq_true_eq] at hb
      exact hb.2)
    have h4 : (if c < 256 then 1 else 0) ≤ 1 := by split <;> omega
    rw [List.length_cons]
    omega
/-- Does a run begin there? -/
def begS (s : Nat → Bool) (b : Nat) : Bool := s b && !(decide (0 < b) && s (b - 1))
/-- How many runs a set has. -/
def rn (s : Nat → Bool) : Nat := ((List.range 256).filter (begS s)).length
theorem rn_or (s t : Nat → Bool) : rn (fun b => s b || t b) ≤ rn s + rn t :=
  filter_union (fun b hb => by
    have hb : ((s b || t b) && !(decide (0 < b) && (s (b - 1) || t (b - 1)))) = true := hb
    show (s b && !(decide (0 < b) && s (b - 1))) = true ∨ (t b && !(decide (0 < b) && t (b - 1))) = true
    revert hb
    cases s b <;> cases t b <;> cases decide (0 < b) <;> cases s (b - 1) <;> cases t (b - 1) <;> simp) _
theorem rn_few {s : Nat → Bool} (l : List Nat) (h : ∀ b, begS s b = true → b ∈ l) : rn s ≤ l.length := filter_few l _ h
theorem rn_list (l : List Nat) : rn (listS l) ≤ l.length := rn_few l fun b hb => by
  unfold begS listS at hb
  simp only [Bool.and_eq_true, decide_eq_true_eq] at hb
  exact hb.1
theorem rn_range (a b : Nat) : rn (rangeS a b) ≤ 1 := rn_few [a] fun x hx => by
  unfold begS rangeS at hx
  simp only [Bool.and_eq_true, decide_eq_true_eq, Bool.not_eq_true', Bool.and_eq_false_iff, decide_eq_false_iff_not] at hx
  simp only [List.mem_singleton]
  omega
theorem rn_not (c : Nat) : rn (notS (listS [c])) ≤ 2 := rn_few [0, c + 1] fun x hx => by
  unfold begS notS listS at hx
  simp only [Bool.and_eq_true, decide_eq_true_eq, Bool.not_eq_true', Bool.and_eq_false_iff, decide_eq_false_iff_not, List.mem_singleton, Bool.not_eq_false'] at hx
  simp only [List.mem_cons, List.not_mem_nil, or_false]
  omega
theorem rn_zero : rn zeroS = 0 := by
  unfold rn
  rw [List.length_eq_zero_iff, List.filter_eq_nil_iff]
  intro b _
  simp [begS, zeroS]

/-! ### the text of a set -/
def brk (b : Nat) : List Nat → Nat
  | [] => 0
  | c :: r => (if c = b + 1 then 0 else 1) + brk c r
theorem goR_brk : ∀ (r : List Nat) (a b : Nat), (goR a b r).length ≤ 9 * (1 + brk b r)
  | [], a, b => by have := runB_len a b; simp only [goR, brk]; omega
  | c :: r, a, b => by
    simp only [goR, brk]
    by_cases h : c = b + 1
    · rw [if_pos h, if_pos h]
      have := goR_brk r a c
      omega
    · rw [if_neg h, if_neg h, List.length_append]
      have h1 := goR_brk r c c
      have h2 := runB_len a b
      omega
theorem brk_beg (s : Nat → Bool) : ∀ (r : List Nat) (b : Nat) (pre : List Nat), memN s = pre ++ b :: r → brk b r ≤ (r.filter (begS s)).length
  | [], b, pre, h => by simp [brk]
  | c :: r, b, pre, h => by
    have hn : memN s = (pre ++ [b]) ++ c :: r := by rw [h]; simp
    have ih := brk_beg s r c (pre ++ [b]) hn
    simp only [brk]
    by_cases hc : c = b + 1
    · rw [if_pos hc]
      have : (r.filter (begS s)).length ≤ ((c :: r).filter (begS s)).length := by cases hq : begS s c <;> simp [hq]
      omega
    · rw [if_neg hc]
      have hasc := memN_asc s
      rw [h] at hasc
      have h1 := List.pairwise_append.1 hasc
      have h2 := List.pairwise_cons.1 h1.2.1
      have h3 := List.pairwise_cons.1 h2.2
      have hbc := h2.1 c (by simp)
      have hmc : c ∈ memN s := by rw [h]; simp
      have hbeg : begS s c = true := by
        unfold begS
        rw [(memN_mem.1 hmc).2]
        cases hp : decide (0 < c) && s (c - 1) with
        | false => rfl
        | true =>
          simp only [Bool.and_eq_true, decide_eq_true_eq] at hp
          have hlt := (memN_mem.1 hmc).1
          have hm : c - 1 ∈ memN s := memN_mem.2 ⟨by omega, hp.2⟩
          rw [h] at hm
          rcases List.mem_append.1 hm with e | e
          · have := h1.2.2 (c - 1) e b (by simp); omega
          · rcases List.mem_cons.1 e with e | e
            · omega
            · rcases List.mem_cons.1 e with e | e
              · omega
              · have := h3.1 (c - 1) e; omega
      rw [List.filter_cons_of_pos hbeg, List.length_cons]
      omega
theorem rn_mem (s : Nat → Bool) : ((memN s).filter (begS s)).length = rn s := by
  unfold memN rn
  rw [List.filter_filter]
  congr 1
  apply List.filter_congr
  intro b _
  unfold begS
  cases s b <;> simp
theorem runs_rn (s : Nat → Bool) : (runsB (memN s)).length ≤ 9 * rn s ∧ (memN s ≠ [] → 1 ≤ rn s) := by
  cases h : memN s with
  | nil => exact ⟨by simp [runsB], fun h => absurd rfl h⟩
  | cons c r =>
    have h1 := goR_brk r c c
    have h2 := brk_beg s r c [] (by rw [h]; rfl)
    have hmc : c ∈ memN s := by rw [h]; simp
    have hasc := memN_asc s
    rw [h] at hasc
    have h3 := List.pairwise_cons.1 hasc
    have hbeg : begS s c = true := by
      unfold begS
      rw [(memN_mem.1 hmc).2]
      cases hp : decide (0 < c) && s (c - 1) with
      | false => rfl
      | true =>
        simp only [Bool.and_eq_true, decide_eq_true_eq] at hp
        have hlt := (memN_mem.1 hmc).1
        have hm : c - 1 ∈ memN s := memN_mem.2 ⟨by omega, hp.2⟩
        rw [h] at hm
        rcases List.mem_cons.1 hm with e | e
        · omega
        · have := h3.1 (c - 1) e; omega
    have h4 := rn_mem s
    rw [h, List.filter_cons_of_pos hbeg, List.length_cons] at h4
    refine ⟨?_, fun _ => by omega⟩
    show (goR c c r).length ≤ _
    omega
theorem setB_rn (s : Nat → Bool) : (setB s).length ≤ 2 + 9 * rn s := by
  obtain ⟨h1, h2⟩ := runs_rn s
  unfold setB
  by_cases h256 : (memN s).length = 256
  · rw [if_pos h256]
    have := h2 (by intro he; rw [he] at h256; simp at h256)
    simp
    omega
  · rw [if_neg h256]
    by_cases hone : (memN s).length = 1
    · rw [if_pos hone]
      have := h2 (by intro he; rw [he] at hone; simp at hone)
      have := signB_len ((memN s).headD 0)
      omega
    · rw [if_neg hone, List.length_cons, List.length_append]
      simp only [List.length_cons, List.length_nil]
      omega
end Go.Proofs.YtmlojjgddmnbmaaDoor
namespace Go.Proofs.YtmlojjgddmnbmaaDoor
open Go.RowKit
set_option linter.unusedSimpArgs false
set_option linter.unusedVariables false

mutual
/-- A measure of an expression's text. -/
def T.bulk : T → Nat
  | .node k s l => 4 + (if k = 3 then 9 * rn s else 0) + bulkL l
def bulkL : List T → Nat
  | [] => 0
  | t :: r => t.bulk + bulkL r
end
theorem bulkL_append : ∀ a b : List T, bulkL (a ++ b) = bulkL a + bulkL b
  | [], b => by simp [bulkL]
  | t :: r, b => by
    have := bulkL_append r b
    simp only [List.cons_append, bulkL, this]
    omega
mutual
theorem text_bulk : ∀ t : T, (textT t).length + 2 ≤ t.bulk
  | .node k s l => by
    have h1 := setB_rn s
    have h2 := star_bulk l
    have h3 := cat_bulk l
    have h4 := alt_bulk true l
    simp only [textT, T.bulk]
    split
    · simp; omega
    · split
      · simp; omega
      · split
        · omega
        · split
          · omega
          · split <;> omega
theorem star_bulk : ∀ l : List T, (starL l).length ≤ bulkL l + 1
  | [] => by simp [starL, bulkL]
  | x :: r => by
    have h := text_bulk x
    simp only [starL, bulkL]
    split
    · rw [List.length_cons, List.length_append]
      simp only [List.length_cons, List.length_nil]
      omega
    · rw [List.length_append]
      simp only [List.length_cons, List.length_nil]
      omega
theorem cat_bulk : ∀ l : List T, (catL l).length ≤ bulkL l
  | [] => by simp [catL, bulkL]
  | x :: r => by
    have h := text_bulk x
    have h2 := cat_bulk r
    simp only [catL, bulkL]
    rw [List.length_append]
    split
    · rw [List.length_cons, List.length_append]
      simp only [List.length_cons, List.length_nil]
      omega
    · omega
theorem alt_bulk : ∀ (b : Bool) (l : List T), (altL b l).length ≤ bulkL l
  | _, [] => by simp [altL, bulkL]
  | b, x :: r => by
    have h := text_bulk x
    have h2 := alt_bulk false r
    simp only [altL, bulkL]
    rw [List.length_append, List.length_append]
    cases b <;> by_cases hk : x.kind = 2 <;> simp [hk] <;> omega
end
theorem bulk_without (k : Int) : ∀ l : List T, bulkL (withoutT k l) ≤ bulkL l
  | [] => Nat.le_refl _
  | t :: r => by
    have ih := bulk_without k r
    unfold withoutT at *
    by_cases hk : t.kind = k
    · rw [List.filter_cons_of_neg (by simp [hk])]
      simp only [bulkL]; omega
    · rw [List.filter_cons_of_pos (by simp [hk])]
      simp only [bulkL]; omega
theorem bulk_args (t : T) : bulkL t.args + 4 ≤ t.bulk := by
  cases t with
  | node k s l => simp only [T.args, T.bulk]; omega
theorem bulk_flat (k : Int) : ∀ l : List T, bulkL (flatT k l) ≤ bulkL l
  | [] => Nat.le_refl _
  | t :: r => by
    have ih := bulk_flat k r
    have e : flatT k (t :: r) = (if t.kind = k then t.args else [t]) ++ flatT k r := by simp [flatT]
    have h := bulk_args t
    rw [e, bulkL_append]
    split
    · simp only [bulkL]; omega
    · simp only [bulkL]; omega
theorem bulk_wrap (k : Int) (n : T) (hk : k ≠ 3) (hn : n.bulk = 4) (l : List T) : (wrapT k n l).bulk ≤ 4 + bulkL l := by
  match l with
  | [] => show n.bulk ≤ _; omega
  | [t] => show t.bulk ≤ _; simp only [bulkL]; omega
  | a :: b :: r =>
    show (T.node k zeroS (a :: b :: r)).bulk ≤ _
    simp only [T.bulk]
    rw [if_neg hk]
    omega
theorem bulk_cat (l : List T) : (catT l).bulk ≤ 4 + bulkL l := by
  have h1 := bulk_without 2 (flatT 4 l)
  have h2 := bulk_flat 4 l
  unfold catT
  split
  · show 4 + 0 + 0 ≤ _; omega
  · have := bulk_wrap 4 emptyT (by omega) rfl (withoutT 2 (flatT 4 l))
    omega
theorem bulk_or : ∀ E : List T, 9 * rn (orT E) + bulkL (withoutT 3 E) ≤ bulkL E
  | [] => by
    have : orT [] = zeroS := by funext b; simp [orT, zeroS]
    rw [this, rn_zero]
    simp [withoutT, bulkL]
  | t :: r => by
    have ih := bulk_or r
    by_cases hk : t.kind = 3
    · have e1 : orT (t :: r) = fun b => t.set b || orT r b := by funext b; simp [orT, hk]
      have e2 : withoutT 3 (t :: r) = withoutT 3 r := by unfold withoutT; rw [List.filter_cons_of_neg (by simp [hk])]
      have h1 := rn_or t.set (orT r)
      have h2 : 9 * rn t.set ≤ t.bulk := by
        cases t with
        | node k s l =>
          have hk' : k = 3 := hk
          simp only [T.set, T.bulk]
          rw [if_pos hk']
          omega
      rw [e1, e2]
      simp only [bulkL]
      omega
    · have e1 : orT (t :: r) = orT r := by funext b; simp [orT, hk]
      have e2 : withoutT 3 (t :: r) = t :: withoutT 3 r := by unfold withoutT; rw [List.filter_cons_of_pos (by simp [hk])]
      rw [e1, e2]
      simp only [bulkL]
      omega
theorem bulk_items (E : List T) : bulkL (itemsT E) ≤ bulkL E + 4 := by
  have h := bulk_or E
  unfold itemsT
  rw [bulkL_append]
  split
  · simp only [bulkL]; omega
  · simp only [bulkL, T.bulk, if_pos]
    omega
theorem bulk_ins (r : T) : ∀ l : List T, bulkL (insT r l) ≤ r.bulk + bulkL l
  | [] => by simp [insT, bulkL]
  | a :: l => by
    have ih := bulk_ins r l
    simp only [insT]
    by_cases h1 : cmpT a r < 0
    · rw [if_pos h1]; simp only [bulkL]; omega
    · rw [if_neg h1]
      by_cases h2 : cmpT a r = 0
      · rw [if_pos h2]; omega
      · rw [if_neg h2]; simp only [bulkL]; omega
theorem bulk_sort (l : List T) : bulkL (sortU l) ≤ bulkL l := by
  have : ∀ (m acc : List T), bulkL (m.foldl (fun acc t => insT t acc) acc) ≤ bulkL m + bulkL acc := by
    intro m
    induction m with
    | nil => intro acc; simp [bulkL]
    | cons t r ih =>
      intro acc
      have h1 := ih (insT t acc)
      have h2 := bulk_ins t acc
      rw [List.foldl_cons]
      simp only [bulkL]
      omega
  have := this l []
  simp only [bulkL] at this
  exact this
theorem bulk_alt (l : List T) : (altT l).bulk ≤ 8 + bulkL l := by
  unfold altT
  have h1 := bulk_wrap 5 noneT (by omega) rfl (sortU (itemsT (withoutT 1 (flatT 5 l))))
  have h2 := bulk_sort (itemsT (withoutT 1 (flatT 5 l)))
  have h3 := bulk_items (withoutT 1 (flatT 5 l))
  have h4 := bulk_without 1 (flatT 5 l)
  have h5 := bulk_flat 5 l
  omega
theorem bulk_four (t : T) : 4 ≤ t.bulk := by
  have := bulk_args t
  omega
theorem bulk_star1 (r : T) : (star1T r).bulk ≤ r.bulk + 4 := by
  have := bulk_four r
  unfold star1T
  split
  · omega
  · split
    · show 4 + 0 + 0 ≤ _; omega
    · simp only [T.bulk, bulkL]
      rw [if_neg (by omega)]
      omega
theorem bulk_star (r : T) : (starT r).bulk ≤ r.bulk + 8 := by
  unfold starT
  split
  · have h1 := bulk_star1 (altT (withoutT 2 r.args))
    have h2 := bulk_alt (withoutT 2 r.args)
    have h3 := bulk_without 2 r.args
    have h4 := bulk_args r
    omega
  · have := bulk_star1 r
    omega
theorem bulk_bytes (s : Nat → Bool) : (bytesT s).bulk ≤ 4 + 9 * rn s := by
  unfold bytesT
  split
  · show 4 + 0 + 0 ≤ _; omega
  · simp [T.bulk, bulkL]
theorem setP_rn (ps : List UInt8) (n : Nat) : rn (setP ps n).1 ≤ 3 ∧ n ≤ (setP ps n).2 ∧ (n ≤ ps.length → (setP ps n).2 ≤ ps.length) ∧ (ps.length ≤ n → rn (setP ps n).1 ≤ 1) := by
  have hge := fun k => numN_ge ps k
  have hle := fun (k : Nat) (h : k ≤ ps.length) => numN_le h
  have h8 : ps.length ≤ n → numV ps n 8 = 0 := fun h => by unfold numV; rw [if_pos h]
  unfold setP
  by_cases c0 : numV ps n 8 = 0
  · rw [if_pos c0]
    have := rn_range 97 100
    exact ⟨by show rn (rangeS 97 100) ≤ 3; omega, hge n, fun h => hle n h, fun _ => this⟩
  rw [if_neg c0]
  have hno : ps.length ≤ n → False := fun h => c0 (h8 h)
  by_cases c1 : numV ps n 8 = 1
  · rw [if_pos c1]
    have := rn_range (numV ps (numN ps n) 256) (numV ps (numN ps (numN ps n)) 256)
    exact ⟨by show rn (rangeS _ _) ≤ 3; omega, by show n ≤ numN ps (numN ps (numN ps n)); have a := hge n; have b := hge (numN ps n); have c := hge (numN ps (numN ps n)); omega, fun h => hle _ (hle _ (hle _ h)), fun h => (hno h).elim⟩
  rw [if_neg c1]
  by_cases c2 : numV ps n 8 = 2
  · rw [if_pos c2]
    have := rn_not (97 + numV ps (numN ps n) 4)
    exact ⟨by show rn (notS _) ≤ 3; omega, by show n ≤ numN ps (numN ps n); have a := hge n; have b := hge (numN ps n); omega, fun h => hle _ (hle _ h), fun h => (hno h).elim⟩
  rw [if_neg c2]
  by_cases c3 : numV ps n 8 = 3
  · rw [if_pos c3]
    have := rn_list [97 + numV ps (numN ps n) 4, 97 + numV ps (numN ps (numN ps n)) 4, numV ps (numN ps (numN ps (numN ps n))) 256]
    exact ⟨this, by show n ≤ numN ps (numN ps (numN ps (numN ps n))); have a := hge n; have b := hge (numN ps n); have c := hge (numN ps (numN ps n)); have d := hge (numN ps (numN ps (numN ps n))); omega, fun h => hle _ (hle _ (hle _ (hle _ h))), fun h => (hno h).elim⟩
  rw [if_neg c3]
  by_cases c4 : numV ps n 8 = 4
  · rw [if_pos c4]
    have := rn_range 0 255
    exact ⟨by show rn (rangeS 0 255) ≤ 3; omega, hge n, fun h => hle n h, fun h => (hno h).elim⟩
  rw [if_neg c4]
  have := rn_list [97 + numV ps (numN ps n) 4]
  exact ⟨by show rn (listS _) ≤ 3; simp at this; omega, by show n ≤ numN ps (numN ps n); have a := hge n; have b := hge (numN ps n); omega, fun h => hle _ (hle _ h), fun h => (hno h).elim⟩
end Go.Proofs.YtmlojjgddmnbmaaDoor
namespace Go.Proofs.YtmlojjgddmnbmaaDoor
open Go.RowKit
set_option linter.unusedSimpArgs false
set_option linter.unusedVariables false

theorem rxP_bulk (ps : List UInt8) : ∀ N deep n, n ≤ ps.length → (rxP ps N deep n).1.bulk + 21 * n ≤ 21 * (rxP ps N deep n).2 + 13 ∧ n ≤ (rxP ps N deep n).2 ∧ (rxP ps N deep n).2 ≤ ps.length
  | 0, _, n, h => ⟨by show 4 + 0 + 0 + 21 * n ≤ 21 * n + 13; omega, Nat.le_refl _, h⟩
  | N + 1, deep, n, h => by
    have hn1 := numN_le h
    have hge := numN_ge ps n
    obtain ⟨n1, e1⟩ : ∃ x, x = numN ps n := ⟨_, rfl⟩
    have hstep : ps.length ≤ n1 ∨ n1 = n + 1 := by
      rw [e1]
      unfold numN
      by_cases hx : ps.length ≤ n
      · rw [if_pos hx]; exact .inl hx
      · rw [if_neg hx]; exact .inr rfl
    have hstep2 : n1 = n → ps.length ≤ n1 := by
      intro he
      rcases hstep with hs | hs
      · exact hs
      · omega
    rw [← e1] at hn1 hge
    have ih1 := rxP_bulk ps N (deep + 1) n1 hn1
    obtain ⟨tx, ex⟩ : ∃ x, x = (rxP ps N (deep + 1) n1).1 := ⟨_, rfl⟩
    obtain ⟨n2, e2⟩ : ∃ x, x = (rxP ps N (deep + 1) n1).2 := ⟨_, rfl⟩
    rw [← ex, ← e2] at ih1
    have ih2 := rxP_bulk ps N (deep + 1) n2 ih1.2.2
    obtain ⟨ty, ey⟩ : ∃ x, x = (rxP ps N (deep + 1) n2).1 := ⟨_, rfl⟩
    obtain ⟨n3, e3⟩ : ∃ x, x = (rxP ps N (deep + 1) n2).2 := ⟨_, rfl⟩
    rw [← ey, ← e3] at ih2
    have hs := setP_rn ps n1
    have hb := bulk_bytes (setP ps n1).1
    have hc := bulk_cat [tx, ty]
    have ha := bulk_alt [tx, ty]
    have hst := bulk_star tx
    have hm1 := numN_ge ps n1
    have hm2 := numN_le hn1
    simp only [bulkL] at hc ha
    simp only [rxP]
    rw [← e1, ← ex, ← e2, ← ey, ← e3]
    by_cases hl : ps.length ≤ n1 ∨ 8 < deep ∨ numV ps n 9 < 3
    · rw [if_pos hl]
      by_cases hl2 : ps.length ≤ n1 ∨ 0 < numV ps n 9
      · rw [if_pos hl2]
        refine ⟨?_, by show n ≤ (setP ps n1).2; omega, hs.2.2.1 hn1⟩
        show (bytesT (setP ps n1).1).bulk + 21 * n ≤ 21 * (setP ps n1).2 + 13
        by_cases ho : ps.length ≤ n1
        · have := hs.2.2.2 ho
          omega
        · have : n + 1 ≤ n1 := by
            rcases hstep with hq | hq
            · exact absurd hq ho
            · omega
          omega
      · rw [if_neg hl2]
        split
        · exact ⟨by show 4 + 0 + 0 + 21 * n ≤ 21 * numN ps n1 + 13; omega, by show n ≤ numN ps n1; omega, hm2⟩
        · exact ⟨by show 4 + 0 + 0 + 21 * n ≤ 21 * numN ps n1 + 13; omega, by show n ≤ numN ps n1; omega, hm2⟩
    · rw [if_neg hl]
      have hno : ¬ ps.length ≤ n1 := fun hq => hl (.inl hq)
      have hn : n1 = n + 1 := hstep.resolve_left hno
      split
      · exact ⟨by show (catT [tx, ty]).bulk + 21 * n ≤ 21 * n3 + 13; omega, by show n ≤ n3; omega, ih2.2.2⟩
      · split
        · exact ⟨by show (altT [tx, ty]).bulk + 21 * n ≤ 21 * n3 + 13; omega, by show n ≤ n3; omega, ih2.2.2⟩
        · exact ⟨by show (starT tx).bulk + 21 * n ≤ 21 * n2 + 13; omega, by show n ≤ n2; omega, ih1.2.2⟩
theorem madeT_len (ps : List UInt8) : (textT (madeT ps)).length ≤ 21 * ps.length + 11 := by
  have h1 := rxP_bulk ps 10 0 0 (Nat.zero_le _)
  have h2 := text_bulk (madeT ps)
  have h3 : (madeT ps).bulk = (rxP ps 10 0 0).1.bulk := rfl
  omega
mutual
theorem text_ne : ∀ t : T, plainT t = true → textT t ≠ []
  | .node k s l, h => by
    have hc := cat_ne l
    simp only [plainT, Bool.and_eq_true, Bool.or_eq_true, decide_eq_true_eq] at h
    obtain ⟨⟨⟨p1, p2⟩, p3⟩, p4⟩ := h
    simp only [textT]
    by_cases k1 : k = 1
    · rw [if_pos k1]; simp
    rw [if_neg k1]
    by_cases k2 : k = 2
    · rw [if_pos k2]; simp
    rw [if_neg k2]
    by_cases k3 : k = 3
    · rw [if_pos k3]
      intro he
      unfold setB at he
      by_cases c1 : (memN s).length = 256
      · rw [if_pos c1] at he; cases he
      · rw [if_neg c1] at he
        by_cases c2 : (memN s).length = 1
        · rw [if_pos c2] at he
          have h2 := signB_len ((memN s).headD 0)
          rw [he] at h2
          simp at h2
        · rw [if_neg c2] at he; cases he
    rw [if_neg k3]
    by_cases k6 : k = 6
    · rw [if_pos k6]
      have hl : l.length = 1 := by
        unfold countT at p2
        rw [if_neg k3, if_neg (by omega), if_neg (by omega)] at p2
        simp only [Bool.and_eq_true, decide_eq_true_eq] at p2
        exact p2.2
      match l, hl with
      | [x], _ =>
        simp only [starL]
        split <;> simp
    rw [if_neg k6]
    have h2 : 2 ≤ l.length := by
      unfold countT at p2
      rw [if_neg k3, if_neg (by omega)] at p2
      by_cases h45 : k = 4 ∨ k = 5
      · rw [if_pos h45] at p2
        simpa using p2
      · rw [if_neg h45] at p2
        simp [k6] at p2
    by_cases k4 : k = 4
    · rw [if_pos k4]
      exact hc (fun t ht => (plainL_iff.1 p3 t ht).2) (by intro he; rw [he] at h2; simp at h2)
    · rw [if_neg k4]
      match l, h2 with
      | a :: b :: r, _ =>
        simp [altL]
theorem cat_ne : ∀ l : List T, (∀ t ∈ l, plainT t = true) → l ≠ [] → catL l ≠ []
  | [], _, h => absurd rfl h
  | x :: r, h, _ => by
    have hx := text_ne x (h x (by simp))
    simp only [catL]
    split
    · simp
    · intro he
      exact hx (List.append_eq_nil_iff.1 he).1
end
theorem madeT_shown (ps : List UInt8) (h : ps.length ≤ 100) : showT (madeT ps) = textT (madeT ps) ∧ showT (madeT ps) ≠ [] := by
  have hp := (madeT_good ps).2
  have hl := madeT_len ps
  have e : showT (madeT ps) = textT (madeT ps) := by
    unfold showT
    rw [if_pos ⟨hp, by omega⟩]
  exact ⟨e, by rw [e]; exact text_ne _ hp⟩
end Go.Proofs.YtmlojjgddmnbmaaDoor
namespace Go.Proofs.YtmlojjgddmnbmaaDoor
open Go.RowKit
set_option linter.unusedSimpArgs false
set_option linter.unusedVariables false

section
variable {P : Program} {w : World} {ops : Array Oper} {rest : List Oper} {o : Oper} {a : Act} {Q : Exit → Act → World → Prop} {K : Act → World → Prop}
theorem run_bldB5 (t e : TypeId) (i : TypeInfo) (ht : P.underlying t = some (.slice e)) (hi : P.info? e = some i) (hz : i.zero = some (.int .u8 0)) (hs : i.size = 1) (c d f g h : UInt8) :
    (Instr.buildSlice t 5 #[(0, bv c), (1, bv d), (2, bv f), (3, bv g), (4, bv h)]).run P w = .ok (.slice (some ⟨w.heap.size, 0, none⟩) 5 5) (w.alloc (.cells (bvs [c, d, f, g, h]).toArray e)) := by
  have hzv : (zeroValue e).run P w = .ok (.int .u8 0) w := by simp [zeroValue, typeInfo, hi, hz]
  simp [Instr.buildSlice, run_underlying ht, sizeOf, typeInfo, hi, hs, hzv, Value.cells, Instr.fill, Array.range_succ, Array.range_zero', newRow, bvs]
theorem wpList_bldB5 (hg : o.guard = none) (t e : TypeId) (x y u v z : Operand) (ho : o.op = .buildSlice t 5 #[(0, x), (1, y), (2, u), (3, v), (4, z)]) (i : TypeInfo) (ht : P.underlying t = some (.slice e)) (hi : P.info? e = some i) (hz : i.zero = some (.int .u8 0)) (hs : i.size = 1) (c d f g k : UInt8) (hx : a.eval x = bv c) (hy : a.eval y = bv d) (hu : a.eval u = bv f) (hv : a.eval v = bv g) (hk : a.eval z = bv k)
    (h : ∀ w', Blk w' w.heap.size e (bvs [c, d, f, g, k]) → Row w' (.slice (some ⟨w.heap.size, 0, none⟩) 5 5) (bvs [c, d, f, g, k]) → Below w.heap.size w w' → w'.heap.size = w.heap.size + 1 → wpList P ops Q rest (a.put o.dst (.slice (some ⟨w.heap.size, 0, none⟩) 5 5)) w') : wpList P ops Q (o :: rest) a w :=
  wpList_plain hg fun _ hK => wp_bldBs t e 5 _ ho [c, d, f, g, k] (by simp only [List.map_toArray, List.map_cons, List.map_nil, hx, hy, hu, hv, hk]; exact run_bldB5 t e i ht hi hz hs c d f g k) rfl (by omega) (by omega) fun w' h1 h2 h3 h4 => hK _ _ (h w' h1 h2 h3 h4)
end
def runText (f t : Nat) : List UInt8 := if t = f then [UInt8.ofNat f] else if t = f + 1 then [91, UInt8.ofNat f, UInt8.ofNat t, 93] else [91, UInt8.ofNat f, 45, UInt8.ofNat t, 93]
set_option maxRecDepth 1000000 in
theorem run_all : ∀ f : Fin 26, ∀ t : Fin 26, f ≤ t → showT (bytesT (rangeS (97 + f.val) (97 + t.val))) = runText (97 + f.val) (97 + t.val) := by decide +kernel
theorem run_shown {f t : Nat} (h1 : 97 ≤ f) (h2 : f ≤ t) (h3 : t ≤ 122) : showT (bytesT (rangeS f t)) = runText f t := by
  have h := run_all ⟨f - 97, by omega⟩ ⟨t - 97, by omega⟩ (by show f - 97 ≤ t - 97; omega)
  have e1 : 97 + (f - 97) = f := by omega
  have e2 : 97 + (t - 97) = t := by omega
  simp only [e1, e2] at h
  exact h
set_option maxHeartbeats 4000000 in
set_option maxRecDepth 1000000 in
theorem showRuns_walk (C : ShowC) (f t : Nat) (hf : f < 256) (ht : t < 256) (w : World) (hT : Tb w) :
    Calls Tryd.prog 7 #[.int .u8 (f : Int), .int .u8 (t : Int)] w fun e w' => e = .returned (.bool true) ∧ Below w.heap.size w w' := by
  have HC := Lib.hid C
  have HTB := Lib.hid hT
  clear C hT
  by_cases c1 : f < 97
  · have d1 : (f : Int) < 97 := by omega
    clear c1
    go_enter Tryd.func7, Tryd.ntmps7
    go_wp2_with fail
    refine (begun_any HC.out w HTB.out).mono ?_
    rintro e w1 ⟨rfl, hb⟩
    have B1 := Lib.hid hb
    clear hb
    go_wp2_with fail
    go_ret
    exact ⟨rfl, B1.out⟩
  have d1 : ¬ ((f : Int) < 97) := by omega
  by_cases c2 : 122 < f
  · have d2 : (122 : Int) < (f : Int) := by omega
    clear c1 c2
    go_enter Tryd.func7, Tryd.ntmps7
    go_wp2_with fail
    refine (begun_any HC.out w HTB.out).mono ?_
    rintro e w1 ⟨rfl, hb⟩
    have B1 := Lib.hid hb
    clear hb
    go_wp2_with fail
    go_ret
    exact ⟨rfl, B1.out⟩
  have d2 : ¬ ((122 : Int) < (f : Int)) := by omega
  by_cases c3 : t < 97
  · have d3 : (t : Int) < 97 := by omega
    clear c1 c2 c3
    go_enter Tryd.func7, Tryd.ntmps7
    go_wp2_with fail
    refine (begun_any HC.out w HTB.out).mono ?_
    rintro e w1 ⟨rfl, hb⟩
    have B1 := Lib.hid hb
    clear hb
    go_wp2_with fail
    go_ret
    exact ⟨rfl, B1.out⟩
  have d3 : ¬ ((t : Int) < 97) := by omega
  by_cases c4 : 122 < t
  · have d4 : (122 : Int) < (t : Int) := by omega
    clear c1 c2 c3 c4
    go_enter Tryd.func7, Tryd.ntmps7
    go_wp2_with fail
    refine (begun_any HC.out w HTB.out).mono ?_
    rintro e w1 ⟨rfl, hb⟩
    have B1 := Lib.hid hb
    clear hb
    go_wp2_with fail
    go_ret
    exact ⟨rfl, B1.out⟩
  have d4 : ¬ ((122 : Int) < (t : Int)) := by omega
  by_cases c5 : t < f
  · have d5 : (t : Int) < (f : Int) := by omega
    clear c1 c2 c3 c4 c5
    go_enter Tryd.func7, Tryd.ntmps7
    go_wp2_with fail
    refine (begun_any HC.out w HTB.out).mono ?_
    rintro e w1 ⟨rfl, hb⟩
    have B1 := Lib.hid hb
    clear hb
    go_wp2_with fail
    go_ret
    exact ⟨rfl, B1.out⟩
  have d5 : ¬ ((t : Int) < (f : Int)) := by omega
  obtain ⟨i1, hi1, hy0, hs1⟩ := info_u8
  have HY0 := Lib.hid hy0
  obtain ⟨q, hq⟩ : ∃ q, q = rangeS f t := ⟨_, rfl⟩
  have HQ := Lib.hid hq
  have HST := Lib.hid (show showT (bytesT q) = runText f t by rw [hq]; exact run_shown (by omega) (by omega) (by omega))
  have HCQ := Lib.hid (show canT (bytesT q) by rw [hq]; exact (good_bytes (can_range (by omega))).1)
  have HNQ := Lib.hid (show (bytesT q).nodes ≤ 1048576 by
    unfold bytesT
    split
    · show 1 ≤ _; omega
    · show 1 + 0 ≤ _; omega)
  obtain ⟨S1, hS1⟩ : ∃ Z : ByteArray, Z = ⟨(showT (bytesT q)).toArray⟩ := ⟨_, rfl⟩
  have HS1 := Lib.hid hS1
  obtain ⟨R, hR⟩ : ∃ R, R = runText f t := ⟨_, rfl⟩
  have HS2 := Lib.hid (show S1 = ⟨R.toArray⟩ by rw [hS1, HST.out, hR])
  have HBF := Lib.hid (bv_ofNat hf)
  have HBT := Lib.hid (bv_ofNat ht)
  have HRR := Lib.hid (show (R == R) = true by simp)
  unfold runText at hR
  obtain ⟨d, hd⟩ : ∃ d, d = t - f := ⟨_, rfl⟩
  have e1 : IntKind.u8.wrap ((t : Int) - (f : Int)) = (d : Int) := by
    rw [show (t : Int) - (f : Int) = (d : Int) by omega]
    exact wrap_u8 (by omega)
  by_cases g0 : d = 0
  · have k0 : ((d : Int) == 0) = true := by rw [g0]; rfl
    rw [if_pos (by omega)] at hR
    have HR := Lib.hid hR
    clear c1 c2 c3 c4 c5 hq hS1 hy0 hd g0 hR
    go_enter Tryd.func7, Tryd.ntmps7
    go_wp2_with fail
    refine (begun_any HC.out w HTB.out).mono ?_
    rintro e w1 ⟨rfl, hb⟩
    have B1 := Lib.hid hb
    clear hb
    go_wp2_with fail
    refine (refRangeQ f t hf ht w1 q HQ.out).mono ?_
    rintro e w2 ⟨rfl, hb⟩
    have B2 := Lib.hid (B1.out.trans (hb.mono B1.out.size))
    clear hb
    go_wp2_with fail
    refine (refBytes_any q w2).mono ?_
    rintro e w3 ⟨cs, rfl, hcs, hb⟩
    have B3 := Lib.hid (B2.out.trans (hb.mono B2.out.size))
    have V3 := Lib.hid (show RxV w3.heap.size w3 cs (bytesT q) from hcs _)
    clear hcs hb
    go_wp2_with fail
    refine (HC.out (bytesT q) cs w3 S1 HNQ.out HCQ.out V3.out (HTB.out.below B3.out (Nat.le_refl _)) HS1.out).mono ?_
    rintro e w4 ⟨rfl, hb⟩
    have B4 := Lib.hid (B3.out.trans (hb.mono B3.out.size))
    clear hb
    go_wp2_with (first
      | ((with_reducible refine atDst 39 ?_); refine wpList_bldB1 rfl 34 5 _ rfl i1 Tryd.underlying34 hi1 HY0.out hs1 (UInt8.ofNat f) HBF.out.symm ?_; intro w5 _ hr hb _; rw [← HR.out] at hr; have R5 := Lib.hid hr; have B5 := Lib.hid (B4.out.trans (hb.mono B4.out.size)); clear hr hb; (try simp only [Act.put, List.setIfInBounds_toArray, List.set_cons_zero, List.set_cons_succ]))
      | ((with_reducible refine atDst 40 ?_); refine wpList_toStr rfl (.tmp 39) rfl _ R rfl R5.out ?_; (try simp only [Act.put, List.setIfInBounds_toArray, List.set_cons_zero, List.set_cons_succ]))
      | ((with_reducible refine atDst 41 ?_); refine wpList_eqS rfl 9 (.tmp 37) (.tmp 40) _ Tryd.underlying9 rfl rfl rfl HS2.out rfl HRR.out ?_; (try simp only [Act.put, List.setIfInBounds_toArray, List.set_cons_zero, List.set_cons_succ])))
    go_ret
    exact ⟨rfl, B5.out⟩
  have k0 : ((d : Int) == 0) = false := by rw [beq_eq_false_iff_ne]; omega
  rw [if_neg (by omega)] at hR
  by_cases g1 : d = 1
  · have k1 : ((d : Int) == 1) = true := by rw [g1]; rfl
    rw [if_pos (by omega)] at hR
    have HR := Lib.hid hR
    clear c1 c2 c3 c4 c5 hq hS1 hy0 hd g0 g1 hR
    go_enter Tryd.func7, Tryd.ntmps7
    go_wp2_with fail
    refine (begun_any HC.out w HTB.out).mono ?_
    rintro e w1 ⟨rfl, hb⟩
    have B1 := Lib.hid hb
    clear hb
    go_wp2_with fail
    refine (refRangeQ f t hf ht w1 q HQ.out).mono ?_
    rintro e w2 ⟨rfl, hb⟩
    have B2 := Lib.hid (B1.out.trans (hb.mono B1.out.size))
    clear hb
    go_wp2_with fail
    refine (refBytes_any q w2).mono ?_
    rintro e w3 ⟨cs, rfl, hcs, hb⟩
    have B3 := Lib.hid (B2.out.trans (hb.mono B2.out.size))
    have V3 := Lib.hid (show RxV w3.heap.size w3 cs (bytesT q) from hcs _)
    clear hcs hb
    go_wp2_with fail
    refine (HC.out (bytesT q) cs w3 S1 HNQ.out HCQ.out V3.out (HTB.out.below B3.out (Nat.le_refl _)) HS1.out).mono ?_
    rintro e w4 ⟨rfl, hb⟩
    have B4 := Lib.hid (B3.out.trans (hb.mono B3.out.size))
    clear hb
    go_wp2_with (first
      | ((with_reducible refine atDst 47 ?_); refine wpList_bldB4 rfl 34 5 _ _ _ _ rfl i1 Tryd.underlying34 hi1 HY0.out hs1 91 (UInt8.ofNat f) (UInt8.ofNat t) 93 rfl HBF.out.symm HBT.out.symm rfl ?_; intro w5 _ hr hb _; rw [← HR.out] at hr; have R5 := Lib.hid hr; have B5 := Lib.hid (B4.out.trans (hb.mono B4.out.size)); clear hr hb; (try simp only [Act.put, List.setIfInBounds_toArray, List.set_cons_zero, List.set_cons_succ]))
      | ((with_reducible refine atDst 48 ?_); refine wpList_toStr rfl (.tmp 47) rfl _ R rfl R5.out ?_; (try simp only [Act.put, List.setIfInBounds_toArray, List.set_cons_zero, List.set_cons_succ]))
      | ((with_reducible refine atDst 49 ?_); refine wpList_eqS rfl 9 (.tmp 44) (.tmp 48) _ Tryd.underlying9 rfl rfl rfl HS2.out rfl HRR.out ?_; (try simp only [Act.put, List.setIfInBounds_toArray, List.set_cons_zero, List.set_cons_succ])))
    go_ret
    exact ⟨rfl, B5.out⟩
  · have k1 : ((d : Int) == 1) = false := by rw [beq_eq_false_iff_ne]; omega
    rw [if_neg (by omega)] at hR
    have HR := Lib.hid hR
    clear c1 c2 c3 c4 c5 hq hS1 hy0 hd g0 g1 hR
    go_enter Tryd.func7, Tryd.ntmps7
    go_wp2_with fail
    refine (begun_any HC.out w HTB.out).mono ?_
    rintro e w1 ⟨rfl, hb⟩
    have B1 := Lib.hid hb
    clear hb
    go_wp2_with fail
    refine (refRangeQ f t hf ht w1 q HQ.out).mono ?_
    rintro e w2 ⟨rfl, hb⟩
    have B2 := Lib.hid (B1.out.trans (hb.mono B1.out.size))
    clear hb
    go_wp2_with fail
    refine (refBytes_any q w2).mono ?_
    rintro e w3 ⟨cs, rfl, hcs, hb⟩
    have B3 := Lib.hid (B2.out.trans (hb.mono B2.out.size))
    have V3 := Lib.hid (show RxV w3.heap.size w3 cs (bytesT q) from hcs _)
    clear hcs hb
    go_wp2_with fail
    refine (HC.out (bytesT q) cs w3 S1 HNQ.out HCQ.out V3.out (HTB.out.below B3.out (Nat.le_refl _)) HS1.out).mono ?_
    rintro e w4 ⟨rfl, hb⟩
    have B4 := Lib.hid (B3.out.trans (hb.mono B3.out.size))
    clear hb
    go_wp2_with (first
      | ((with_reducible refine atDst 53 ?_); refine wpList_bldB5 rfl 34 5 _ _ _ _ _ rfl i1 Tryd.underlying34 hi1 HY0.out hs1 91 (UInt8.ofNat f) 45 (UInt8.ofNat t) 93 rfl HBF.out.symm rfl HBT.out.symm rfl ?_; intro w5 _ hr hb _; rw [← HR.out] at hr; have R5 := Lib.hid hr; have B5 := Lib.hid (B4.out.trans (hb.mono B4.out.size)); clear hr hb; (try simp only [Act.put, List.setIfInBounds_toArray, List.set_cons_zero, List.set_cons_succ]))
      | ((with_reducible refine atDst 54 ?_); refine wpList_toStr rfl (.tmp 53) rfl _ R rfl R5.out ?_; (try simp only [Act.put, List.setIfInBounds_toArray, List.set_cons_zero, List.set_cons_succ]))
      | ((with_reducible refine atDst 55 ?_); refine wpList_eqS rfl 9 (.tmp 50) (.tmp 54) _ Tryd.underlying9 rfl rfl rfl HS2.out rfl HRR.out ?_; (try simp only [Act.put, List.setIfInBounds_toArray, List.set_cons_zero, List.set_cons_succ])))
    go_ret
    exact ⟨rfl, B5.out⟩
end Go.Proofs.YtmlojjgddmnbmaaDoor
namespace Go.Proofs.YtmlojjgddmnbmaaDoor
open Go.RowKit
set_option linter.unusedSimpArgs false
set_option linter.unusedVariables false

theorem bulk_mem : ∀ {l : List T} {t : T}, t ∈ l → t.bulk ≤ bulkL l
  | a :: r, t, h => by
    rcases List.mem_cons.1 h with rfl | h
    · simp only [bulkL]; omega
    · have := bulk_mem h
      simp only [bulkL]; omega
theorem part_shown {k : Int} {s : Nat → Bool} {l : List T} (h : (T.node k s l).bulk ≤ 4000) (hg : good (.node k s l)) : ∀ x ∈ l, showT x = textT x := fun x hx => by
  have h1 := bulk_mem hx
  have h2 := text_bulk x
  simp only [T.bulk] at h
  unfold showT
  rw [if_pos ⟨((good_node.1 hg).2.1 x hx).2, by omega⟩]
theorem whole_shown {t : T} (h : t.bulk ≤ 4000) (hg : good t) : showT t = textT t := by
  have h2 := text_bulk t
  unfold showT
  rw [if_pos ⟨hg.2, by omega⟩]
theorem madeT_bulk (ps : List UInt8) : (madeT ps).bulk ≤ 21 * ps.length + 13 := by
  have h1 := rxP_bulk ps 10 0 0 (Nat.zero_le _)
  have h3 : (madeT ps).bulk = (rxP ps 10 0 0).1.bulk := rfl
  omega
set_option maxHeartbeats 8000000 in
set_option maxRecDepth 1000000 in
theorem showParts_walk (C : ShowC) (V : Value) (ps : List UInt8) (w : World) (hr : Row w V (bvs ps)) (hT : Tb w) :
    Calls Tryd.prog 8 #[V] w fun e w' => e = .returned (.bool true) ∧ Below w.heap.size w w' := by
  have HC := Lib.hid C
  have HTB := Lib.hid hT
  clear hT
  have R := Lib.hid hr
  obtain ⟨A, cap, rfl, _⟩ := hr
  have hbl : (bvs ps).length = ps.length := bvs_length ps
  rw [hbl] at R ⊢
  clear C hbl
  by_cases h60 : 60 < ps.length
  · have i1 : (60 : Int) < (ps.length : Int) := by omega
    clear h60
    go_enter Tryd.func8, Tryd.ntmps8
    go_wp2_with fail
    refine (begun_any HC.out w HTB.out).mono ?_
    rintro e w1 ⟨rfl, hb⟩
    have B1 := Lib.hid hb
    clear hb
    go_wp2_with fail
    go_ret
    exact ⟨rfl, B1.out⟩
  have i1 : ¬ ((60 : Int) < (ps.length : Int)) := by omega
  have HL := Lib.hid (show ps.length ≤ 60 by omega)
  obtain ⟨t, ht⟩ : ∃ t, t = madeT ps := ⟨_, rfl⟩
  have HT := Lib.hid ht
  have HG := Lib.hid (show good t by rw [ht]; exact madeT_good ps)
  have HM := Lib.hid (show t.nodes ≤ 1048576 by rw [ht]; have := madeT_nodes ps; omega)
  have HBK := Lib.hid (show t.bulk ≤ 4000 by rw [ht]; have := madeT_bulk ps; omega)
  obtain ⟨S1, hS1⟩ : ∃ Z : ByteArray, Z = ⟨(showT t).toArray⟩ := ⟨_, rfl⟩
  have HS1 := Lib.hid hS1
  have HWS := Lib.hid (whole_shown HBK.out HG.out)
  obtain ⟨i0, hi0, hz0, hz1, hz2⟩ := inf_rx'
  obtain ⟨z, hz⟩ : ∃ z, z = rxc 0 zeroS (.slice none 0 0) := ⟨_, rfl⟩
  have HZL := Lib.hid (show z.length = 6 by rw [hz]; rfl)
  have HZ0 := Lib.hid (show i0.zero = some (.agg z.toArray) by rw [hz]; exact hz0)
  clear hz hz0 hS1 ht h60
  obtain ⟨k, s, l⟩ := t
  have HPS := Lib.hid (part_shown HBK.out HG.out)
  have HNN := Lib.hid (show nodesL l ≤ 1048575 by have := HM.out; simp only [T.nodes] at this; omega)
  have HTT := Lib.hid (show textT (.node k s l) = if k = 1 then [91, 93] else if k = 2 then [40, 41] else if k = 3 then setB s else if k = 6 then starL l else if k = 4 then catL l else altL true l by simp only [textT])
  have HTN := Lib.hid (text_ne _ HG.out.2)
  by_cases k4 : k = 4
  · have z4 : (k == 4) = true := by simpa using k4
    have HTX := Lib.hid (show textT (.node k s l) = catL l by rw [HTT.out, k4]; rfl)
    clear k4
    go_enter Tryd.func8, Tryd.ntmps8
    go_wp2_with fail
    refine (begun_any HC.out w HTB.out).mono ?_
    rintro e w1 ⟨rfl, hb⟩
    have B1 := Lib.hid hb
    clear hb
    go_wp2_with fail
    refine (made_any _ ps w1 (R.out.below B1.out) (by have := HL.out; omega)).mono ?_
    rintro e w2 ⟨rfl, hb, hp⟩
    have P2 := Lib.hid hp
    have B2 := Lib.hid (B1.out.trans (hb.mono B1.out.size))
    have S1w := Lib.hid B1.out.size
    clear hb hp
    go_wp2_with fail
    refine (pickRx_any w1.heap.size _ ps w2 P2.out).mono ?_
    rintro e w3 ⟨cs, rfl, hcs, hg⟩
    have B3 := Lib.hid (B2.out.trans ((grown_belowG hg P2.out.blk.lt).mono S1w.out))
    rw [← HT.out] at hcs
    have V3 := Lib.hid (show RxV w3.heap.size w3 cs (.node k s l) from RxD.mono hcs fun k hk => hk.2)
    obtain ⟨A0, cap0, f, hcse, q1, q2, q0, q3, q4⟩ := V3.out.opened
    have H3 := Lib.hid q3
    have H4 := Lib.hid q4
    have C6 := Lib.hid hcs.length
    have C1 := Lib.hid (show cs.all (·.oneCell') = true from List.all_eq_true.2 (RxD.one hcs))
    have HC0 := Lib.hid (show cs[0]? = some (.int .i64 k) by rw [hcse]; rfl)
    have HC5 := Lib.hid (show cs[5]? = some (.slice A0 l.length cap0) by rw [hcse]; rfl)
    clear hcs hg hcse q1 q2 q0 q3 q4
    go_wp2_with (first
      | ((with_reducible refine atDst 3 ?_); refine wpList_new rfl 27 rfl i0 _ z hi0 HZ0.out rfl (Below.refl w3.heap.size w3) (Nat.le_refl _) ?_; intro w4 hk hb hs ho; have L4 := Lib.hid hk; have B4 := Lib.hid hb; clear hk hb hs ho; (try simp only [Act.put, List.setIfInBounds_toArray, List.set_cons_zero, List.set_cons_succ]))
      | ((with_reducible refine atStore 27 3 15 ?_); refine wpList_stBlk rfl 27 _ _ rfl w3.heap.size cs rfl rfl 27 _ L4.out (size_rx C6.out) (by rw [HZL.out, C6.out]) C1.out B4.out (Nat.le_refl _) ?_; intro w5 hk hb hs ho; have L5 := Lib.hid hk; have B35 := Lib.hid hb; have B5 := Lib.hid (B3.out.trans (hb.mono B3.out.size)); have c0 := hk.cell 0; rw [HC0.out] at c0; have c5 := hk.cell 5; rw [HC5.out] at c5; clear hk hb hs ho; (try simp only [Act.put, List.setIfInBounds_toArray, List.set_cons_zero, List.set_cons_succ]))
      | ((with_reducible refine atDst 18 ?_); refine wpList_ldArr rfl 27 _ rfl w3.heap.size rfl 27 _ _ L5.out Tryd.underlying27 rfl (size_rx C6.out) ?_; (try simp only [Act.put, List.setIfInBounds_toArray, List.set_cons_zero, List.set_cons_succ])))
    go_loopw [4, 5] (fun o i wl => ∃ (j : Nat) (D : List UInt8) (O : ByteArray), j ≤ l.length ∧ i = .int .i64 (j : Int) ∧ o = .string O ∧ Hid (O = ⟨D.toArray⟩) ∧ Hid (D = catL (l.take j)) ∧ Below w5.heap.size w5 wl) (fun _ i _ => l.length - (intOf i).toNat)
    case atStart => exact ⟨0, [], ⟨#[]⟩, by omega, by simp, rfl, Lib.hid rfl, Lib.hid (by simp [catL]), Below.refl _ _⟩
    case round =>
      obtain ⟨j, D, O, hj, rfl, rfl, HO, HD, hb⟩ := hrel
      have HB := Lib.hid (B35.out.trans (hb.mono B35.out.size))
      have HBT := Lib.hid (B5.out.trans (hb.mono B5.out.size))
      have KR := Lib.hid (L5.out.below hb L5.out.lt)
      have d0 := KR.out.cell 0
      rw [HC0.out] at d0
      have d5 := KR.out.cell 5
      rw [HC5.out] at d5
      have HBw := Lib.hid hb
      clear hb
      have HOL := Lib.hid (show D.length ≤ 2516582400 by have h1 := catL_take l j; have h2 := HNN.out; rw [← HD.out] at h1; omega)
      by_cases hjl : j < l.length
      · have j1 : (j : Int) < (l.length : Int) := Int.ofNat_lt.2 hjl
        obtain ⟨b, off, rfl, hb, hrng⟩ := H3.out (by rintro rfl; simp at hjl)
        obtain ⟨x, hx⟩ : ∃ x, l[j]? = some x := ⟨_, List.getElem?_eq_getElem hjl⟩
        have HRG := Lib.hid (range_below (hrng j hjl) HB.out hb)
        have HVX := Lib.hid (((H4.out j x hx).stay HB.out).mono HB.out.size)
        obtain ⟨Ax, cx, hsp, hrx⟩ := RxD.split HVX.out
        have HV6 := Lib.hid HVX.out.length
        have HX0 := Lib.hid (show (f j)[0]? = some (.int .i64 x.kind) by rw [hsp]; rfl)
        have x0 := range_cell0 HRG.out HX0.out
        have HBB := Lib.hid (Nat.lt_of_lt_of_le hb HB.out.size)
        have hmem := List.mem_of_getElem? hx
        have HXM := Lib.hid (show x.nodes ≤ 1048576 by have h1 := nodes_mem hmem; have h2 := HNN.out; omega)
        have HXC := Lib.hid ((good_node.1 HG.out).2.1 x hmem).1
        have HXS := Lib.hid (HPS.out x hmem)
        have hj62 : j ≤ 4611686018427387904 := by have h1 := len_nodes l; have h2 := HNN.out; omega
        have e3 := wrap_one j hj62
        have e4 := wrap_one' j hj62
        obtain ⟨ZX, hZX⟩ : ∃ ZX : ByteArray, ZX = ⟨(showT x).toArray⟩ := ⟨_, rfl⟩
        have HZS := Lib.hid hZX
        have HZX := Lib.hid (show ZX = ⟨(textT x).toArray⟩ by rw [hZX, HXS.out])
        have HXL := Lib.hid (show (textT x).length ≤ 2516582400 by have h1 := textT_len x; have h2 := HXM.out; omega)
        have HNX := Lib.hid (catL_next l j x hx)
        have HJ1 := Lib.hid (sub_nextN hjl)
        have HJ2 := Lib.hid (show j + 1 ≤ l.length from hjl)
        clear hrng hx hj62 hb hsp hrx hmem hZX
        by_cases x5 : x.kind = 5
        · have r5 : (x.kind == 5) = true := by simpa using x5
          have HFX := Lib.hid (show D ++ ([40] ++ textT x ++ [41]) = catL (l.take (j + 1)) by rw [HNX.out, if_pos x5, HD.out]; simp)
          clear x5
          go_wp2_with ((with_reducible refine atDst 34 ?_); refine wpList_load_mid rfl 27 _ rfl b (off + j * 6) rfl (f j) _ HRG.out Tryd.underlying27 rfl (size_rx HV6.out) ?_; (try simp only [Act.put, List.setIfInBounds_toArray, List.set_cons_zero, List.set_cons_succ]))
          refine (HC.out x (f j) wr ZX HXM.out HXC.out HVX.out (HTB.out.below HBT.out (Nat.le_refl _)) HZS.out).mono ?_
          rintro e w6 ⟨rfl, hb⟩
          have B6 := Lib.hid (HBw.out.trans (hb.mono HBw.out.size))
          have x0' := range_cell0 (range_below HRG.out hb HBB.out) HX0.out
          have d5' := (KR.out.below hb KR.out.lt).cell 5
          rw [HC5.out] at d5'
          have d0' := (KR.out.below hb KR.out.lt).cell 0
          rw [HC0.out] at d0'
          clear hb
          go_wp2_with (first
            | ((with_reducible refine atDst 44 ?_); refine wpList_addS rfl 9 _ (.tmp 43) Tryd.underlying9 rfl rfl rfl (D := [40]) rfl HZX.out (by (try simp only [List.length_append, List.length_cons, List.length_nil]); have h1 := HOL.out; have h2 := HXL.out; omega) ?_; intro Y1 hY1; have HY1 := Lib.hid hY1; clear hY1; (try simp only [Act.put, List.setIfInBounds_toArray, List.set_cons_zero, List.set_cons_succ]))
            | ((with_reducible refine atDst 45 ?_); refine wpList_addS rfl 9 (.tmp 44) _ Tryd.underlying9 rfl rfl rfl HY1.out (E := [41]) rfl (by (try simp only [List.length_append, List.length_cons, List.length_nil]); have h1 := HOL.out; have h2 := HXL.out; omega) ?_; intro Y2 hY2; have HY2 := Lib.hid hY2; clear hY2; (try simp only [Act.put, List.setIfInBounds_toArray, List.set_cons_zero, List.set_cons_succ]))
            | ((with_reducible refine atDst 48 ?_); refine wpList_addS rfl 9 (.tmp 46) (.tmp 47) Tryd.underlying9 rfl rfl rfl HO.out HY2.out (by (try simp only [List.length_append, List.length_cons, List.length_nil]); have h1 := HOL.out; have h2 := HXL.out; omega) ?_; intro Y3 hY3; have HY3 := Lib.hid hY3; clear hY3; (try simp only [Act.put, List.setIfInBounds_toArray, List.set_cons_zero, List.set_cons_succ])))
          exact ⟨⟨j + 1, _, Y3, HJ2.out, by congr 1, rfl, HY3, HFX, B6.out⟩, by simpa [intOf] using HJ1.out⟩
        · have r5 : (x.kind == 5) = false := by simpa using x5
          have HFX := Lib.hid (show D ++ textT x = catL (l.take (j + 1)) by rw [HNX.out, if_neg x5, HD.out])
          clear x5
          go_wp2_with ((with_reducible refine atDst 34 ?_); refine wpList_load_mid rfl 27 _ rfl b (off + j * 6) rfl (f j) _ HRG.out Tryd.underlying27 rfl (size_rx HV6.out) ?_; (try simp only [Act.put, List.setIfInBounds_toArray, List.set_cons_zero, List.set_cons_succ]))
          refine (HC.out x (f j) wr ZX HXM.out HXC.out HVX.out (HTB.out.below HBT.out (Nat.le_refl _)) HZS.out).mono ?_
          rintro e w6 ⟨rfl, hb⟩
          have B6 := Lib.hid (HBw.out.trans (hb.mono HBw.out.size))
          have x0' := range_cell0 (range_below HRG.out hb HBB.out) HX0.out
          have d5' := (KR.out.below hb KR.out.lt).cell 5
          rw [HC5.out] at d5'
          have d0' := (KR.out.below hb KR.out.lt).cell 0
          rw [HC0.out] at d0'
          clear hb
          go_wp2_with ((with_reducible refine atDst 48 ?_); refine wpList_addS rfl 9 (.tmp 46) (.tmp 47) Tryd.underlying9 rfl rfl rfl HO.out HZX.out (by (try simp only [List.length_append, List.length_cons, List.length_nil]); have h1 := HOL.out; have h2 := HXL.out; omega) ?_; intro Y3 hY3; have HY3 := Lib.hid hY3; clear hY3; (try simp only [Act.put, List.setIfInBounds_toArray, List.set_cons_zero, List.set_cons_succ]))
          exact ⟨⟨j + 1, _, Y3, HJ2.out, by congr 1, rfl, HY3, HFX, B6.out⟩, by simpa [intOf] using HJ1.out⟩
      · obtain rfl : j = l.length := by omega
        have j1 : ¬ ((l.length : Int) < (l.length : Int)) := by omega
        have hd := HD.out
        rw [List.take_length] at hd
        have HD9 := Lib.hid hd
        clear hd
        go_wp2_with ((with_reducible refine atDst 103 ?_); refine wpList_ldArr rfl 27 _ rfl w3.heap.size rfl 27 _ _ KR.out Tryd.underlying27 rfl (size_rx C6.out) ?_; (try simp only [Act.put, List.setIfInBounds_toArray, List.set_cons_zero, List.set_cons_succ]))
        refine (HC.out (.node k s l) cs wr S1 HM.out HG.out.1 ((V3.out.stay HB.out).mono HB.out.size) (HTB.out.below HBT.out (Nat.le_refl _)) HS1.out).mono ?_
        rintro e w9 ⟨rfl, hb⟩
        have B9 := Lib.hid (HBT.out.trans (hb.mono HBT.out.size))
        clear hb
        go_wp2_with ((with_reducible refine atDst 106 ?_); refine wpList_eqS rfl 9 (.tmp 104) (.tmp 105) _ Tryd.underlying9 rfl rfl rfl HS1.out HO.out (b := true) (by rw [HWS.out]; rw [HTX.out, HD9.out]; simp) ?_; (try simp only [Act.put, List.setIfInBounds_toArray, List.set_cons_zero, List.set_cons_succ]))
        go_ret
        exact ⟨rfl, B9.out⟩
  have z4 : (k == 4) = false := by simpa using k4
  by_cases k5 : k = 5
  · have z5 : (k == 5) = true := by simpa using k5
    have HTX := Lib.hid (show textT (.node k s l) = altL true l by rw [HTT.out, k5]; rfl)
    clear k4 k5
    go_enter Tryd.func8, Tryd.ntmps8
    go_wp2_with fail
    refine (begun_any HC.out w HTB.out).mono ?_
    rintro e w1 ⟨rfl, hb⟩
    have B1 := Lib.hid hb
    clear hb
    go_wp2_with fail
    refine (made_any _ ps w1 (R.out.below B1.out) (by have := HL.out; omega)).mono ?_
    rintro e w2 ⟨rfl, hb, hp⟩
    have P2 := Lib.hid hp
    have B2 := Lib.hid (B1.out.trans (hb.mono B1.out.size))
    have S1w := Lib.hid B1.out.size
    clear hb hp
    go_wp2_with fail
    refine (pickRx_any w1.heap.size _ ps w2 P2.out).mono ?_
    rintro e w3 ⟨cs, rfl, hcs, hg⟩
    have B3 := Lib.hid (B2.out.trans ((grown_belowG hg P2.out.blk.lt).mono S1w.out))
    rw [← HT.out] at hcs
    have V3 := Lib.hid (show RxV w3.heap.size w3 cs (.node k s l) from RxD.mono hcs fun k hk => hk.2)
    obtain ⟨A0, cap0, f, hcse, q1, q2, q0, q3, q4⟩ := V3.out.opened
    have H3 := Lib.hid q3
    have H4 := Lib.hid q4
    have C6 := Lib.hid hcs.length
    have C1 := Lib.hid (show cs.all (·.oneCell') = true from List.all_eq_true.2 (RxD.one hcs))
    have HC0 := Lib.hid (show cs[0]? = some (.int .i64 k) by rw [hcse]; rfl)
    have HC5 := Lib.hid (show cs[5]? = some (.slice A0 l.length cap0) by rw [hcse]; rfl)
    clear hcs hg hcse q1 q2 q0 q3 q4
    go_wp2_with (first
      | ((with_reducible refine atDst 3 ?_); refine wpList_new rfl 27 rfl i0 _ z hi0 HZ0.out rfl (Below.refl w3.heap.size w3) (Nat.le_refl _) ?_; intro w4 hk hb hs ho; have L4 := Lib.hid hk; have B4 := Lib.hid hb; clear hk hb hs ho; (try simp only [Act.put, List.setIfInBounds_toArray, List.set_cons_zero, List.set_cons_succ]))
      | ((with_reducible refine atStore 27 3 15 ?_); refine wpList_stBlk rfl 27 _ _ rfl w3.heap.size cs rfl rfl 27 _ L4.out (size_rx C6.out) (by rw [HZL.out, C6.out]) C1.out B4.out (Nat.le_refl _) ?_; intro w5 hk hb hs ho; have L5 := Lib.hid hk; have B35 := Lib.hid hb; have B5 := Lib.hid (B3.out.trans (hb.mono B3.out.size)); have c0 := hk.cell 0; rw [HC0.out] at c0; have c5 := hk.cell 5; rw [HC5.out] at c5; clear hk hb hs ho; (try simp only [Act.put, List.setIfInBounds_toArray, List.set_cons_zero, List.set_cons_succ]))
      | ((with_reducible refine atDst 18 ?_); refine wpList_ldArr rfl 27 _ rfl w3.heap.size rfl 27 _ _ L5.out Tryd.underlying27 rfl (size_rx C6.out) ?_; (try simp only [Act.put, List.setIfInBounds_toArray, List.set_cons_zero, List.set_cons_succ])))
    go_loopw [4, 7] (fun o i wl => ∃ (j : Nat) (D : List UInt8) (O : ByteArray), j ≤ l.length ∧ i = .int .i64 (j : Int) ∧ o = .string O ∧ Hid (O = ⟨D.toArray⟩) ∧ Hid (D = altL true (l.take j)) ∧ Below w5.heap.size w5 wl) (fun _ i _ => l.length - (intOf i).toNat)
    case atStart => exact ⟨0, [], ⟨#[]⟩, by omega, by simp, rfl, Lib.hid rfl, Lib.hid (by simp [altL]), Below.refl _ _⟩
    case round =>
      obtain ⟨j, D, O, hj, rfl, rfl, HO, HD, hb⟩ := hrel
      have HB := Lib.hid (B35.out.trans (hb.mono B35.out.size))
      have HBT := Lib.hid (B5.out.trans (hb.mono B5.out.size))
      have KR := Lib.hid (L5.out.below hb L5.out.lt)
      have d0 := KR.out.cell 0
      rw [HC0.out] at d0
      have d5 := KR.out.cell 5
      rw [HC5.out] at d5
      have HBw := Lib.hid hb
      clear hb
      have HOL := Lib.hid (show D.length ≤ 2516582400 by have h1 := altL_take l j; have h2 := HNN.out; rw [← HD.out] at h1; omega)
      by_cases hjl : j < l.length
      · have j1 : (j : Int) < (l.length : Int) := Int.ofNat_lt.2 hjl
        obtain ⟨b, off, rfl, hb, hrng⟩ := H3.out (by rintro rfl; simp at hjl)
        obtain ⟨x, hx⟩ : ∃ x, l[j]? = some x := ⟨_, List.getElem?_eq_getElem hjl⟩
        have HRG := Lib.hid (range_below (hrng j hjl) HB.out hb)
        have HVX := Lib.hid (((H4.out j x hx).stay HB.out).mono HB.out.size)
        obtain ⟨Ax, cx, hsp, hrx⟩ := RxD.split HVX.out
        have HV6 := Lib.hid HVX.out.length
        have HX0 := Lib.hid (show (f j)[0]? = some (.int .i64 x.kind) by rw [hsp]; rfl)
        have x0 := range_cell0 HRG.out HX0.out
        have HBB := Lib.hid (Nat.lt_of_lt_of_le hb HB.out.size)
        have hmem := List.mem_of_getElem? hx
        have HXM := Lib.hid (show x.nodes ≤ 1048576 by have h1 := nodes_mem hmem; have h2 := HNN.out; omega)
        have HXC := Lib.hid ((good_node.1 HG.out).2.1 x hmem).1
        have HXS := Lib.hid (HPS.out x hmem)
        have hj62 : j ≤ 4611686018427387904 := by have h1 := len_nodes l; have h2 := HNN.out; omega
        have e3 := wrap_one j hj62
        have e4 := wrap_one' j hj62
        obtain ⟨ZX, hZX⟩ : ∃ ZX : ByteArray, ZX = ⟨(showT x).toArray⟩ := ⟨_, rfl⟩
        have HZS := Lib.hid hZX
        have HZX := Lib.hid (show ZX = ⟨(textT x).toArray⟩ by rw [hZX, HXS.out])
        have HXL := Lib.hid (show (textT x).length ≤ 2516582400 by have h1 := textT_len x; have h2 := HXM.out; omega)
        have HNX := Lib.hid (altL_next l j x hx)
        have HJ1 := Lib.hid (sub_nextN hjl)
        have HJ2 := Lib.hid (show j + 1 ≤ l.length from hjl)
        clear hrng hx hj62 hb hsp hrx hmem hZX
        by_cases j0 : j = 0
        · have g0 : ¬ ((0 : Int) < (j : Int)) := by omega
          by_cases x2 : x.kind = 2
          · have r2 : (x.kind != 2) = false := by simpa using x2
            have HFX := Lib.hid (show D = altL true (l.take (j + 1)) by rw [HNX.out, if_pos x2, if_pos j0, HD.out]; simp)
            clear x2 j0
            go_wp2_with fail
            exact ⟨⟨j + 1, _, O, HJ2.out, by congr 1, rfl, HO, HFX, HBw.out⟩, by simpa [intOf] using HJ1.out⟩
          · have r2 : (x.kind != 2) = true := by simpa using x2
            have HFX := Lib.hid (show D ++ textT x = altL true (l.take (j + 1)) by rw [HNX.out, if_neg x2, if_pos j0, HD.out]; simp)
            clear x2 j0
            go_wp2_with (first
              | ((with_reducible refine atDst 74 ?_); refine wpList_load_mid rfl 27 _ rfl b (off + j * 6) rfl (f j) _ HRG.out Tryd.underlying27 rfl (size_rx HV6.out) ?_; (try simp only [Act.put, List.setIfInBounds_toArray, List.set_cons_zero, List.set_cons_succ])))
            refine (HC.out x (f j) wr ZX HXM.out HXC.out HVX.out (HTB.out.below HBT.out (Nat.le_refl _)) HZS.out).mono ?_
            rintro e w6 ⟨rfl, hb⟩
            have B6 := Lib.hid (HBw.out.trans (hb.mono HBw.out.size))
            have x0' := range_cell0 (range_below HRG.out hb HBB.out) HX0.out
            have d5' := (KR.out.below hb KR.out.lt).cell 5
            rw [HC5.out] at d5'
            have d0' := (KR.out.below hb KR.out.lt).cell 0
            rw [HC0.out] at d0'
            clear hb
            go_wp2_with ((with_reducible refine atDst 76 ?_); refine wpList_addS rfl 9 (.tmp 69) (.tmp 75) Tryd.underlying9 rfl rfl rfl HO.out HZX.out (by (try simp only [List.length_append, List.length_cons, List.length_nil]); have h1 := HOL.out; have h2 := HXL.out; omega) ?_; intro Y3 hY3; have HY3 := Lib.hid hY3; clear hY3; (try simp only [Act.put, List.setIfInBounds_toArray, List.set_cons_zero, List.set_cons_succ]))
            exact ⟨⟨j + 1, _, Y3, HJ2.out, by congr 1, rfl, HY3, HFX, B6.out⟩, by simpa [intOf] using HJ1.out⟩
        · have g0 : (0 : Int) < (j : Int) := by omega
          by_cases x2 : x.kind = 2
          · have r2 : (x.kind != 2) = false := by simpa using x2
            have HFX := Lib.hid (show D ++ [124] = altL true (l.take (j + 1)) by rw [HNX.out, if_pos x2, if_neg j0, HD.out]; simp)
            clear x2 j0
            go_wp2_with (first
              | ((with_reducible refine atDst 61 ?_); refine wpList_addS rfl 9 (.tmp 60) _ Tryd.underlying9 rfl rfl rfl HO.out (E := [124]) rfl (by (try simp only [List.length_append, List.length_cons, List.length_nil]); have h1 := HOL.out; have h2 := HXL.out; omega) ?_; intro Y1 hY1; have HY1 := Lib.hid hY1; clear hY1; (try simp only [Act.put, List.setIfInBounds_toArray, List.set_cons_zero, List.set_cons_succ])))
            exact ⟨⟨j + 1, _, Y1, HJ2.out, by congr 1, rfl, HY1, HFX, HBw.out⟩, by simpa [intOf] using HJ1.out⟩
          · have r2 : (x.kind != 2) = true := by simpa using x2
            have HFX := Lib.hid (show D ++ [124] ++ textT x = altL true (l.take (j + 1)) by rw [HNX.out, if_neg x2, if_neg j0, HD.out]; simp)
            clear x2 j0
            go_wp2_with (first
              | ((with_reducible refine atDst 61 ?_); refine wpList_addS rfl 9 (.tmp 60) _ Tryd.underlying9 rfl rfl rfl HO.out (E := [124]) rfl (by (try simp only [List.length_append, List.length_cons, List.length_nil]); have h1 := HOL.out; have h2 := HXL.out; omega) ?_; intro Y1 hY1; have HY1 := Lib.hid hY1; clear hY1; (try simp only [Act.put, List.setIfInBounds_toArray, List.set_cons_zero, List.set_cons_succ]))
              | ((with_reducible refine atDst 74 ?_); refine wpList_load_mid rfl 27 _ rfl b (off + j * 6) rfl (f j) _ HRG.out Tryd.underlying27 rfl (size_rx HV6.out) ?_; (try simp only [Act.put, List.setIfInBounds_toArray, List.set_cons_zero, List.set_cons_succ])))
            refine (HC.out x (f j) wr ZX HXM.out HXC.out HVX.out (HTB.out.below HBT.out (Nat.le_refl _)) HZS.out).mono ?_
            rintro e w6 ⟨rfl, hb⟩
            have B6 := Lib.hid (HBw.out.trans (hb.mono HBw.out.size))
            have x0' := range_cell0 (range_below HRG.out hb HBB.out) HX0.out
            have d5' := (KR.out.below hb KR.out.lt).cell 5
            rw [HC5.out] at d5'
            have d0' := (KR.out.below hb KR.out.lt).cell 0
            rw [HC0.out] at d0'
            clear hb
            go_wp2_with ((with_reducible refine atDst 76 ?_); refine wpList_addS rfl 9 (.tmp 69) (.tmp 75) Tryd.underlying9 rfl rfl rfl HY1.out HZX.out (by (try simp only [List.length_append, List.length_cons, List.length_nil]); have h1 := HOL.out; have h2 := HXL.out; omega) ?_; intro Y3 hY3; have HY3 := Lib.hid hY3; clear hY3; (try simp only [Act.put, List.setIfInBounds_toArray, List.set_cons_zero, List.set_cons_succ]))
            exact ⟨⟨j + 1, _, Y3, HJ2.out, by congr 1, rfl, HY3, HFX, B6.out⟩, by simpa [intOf] using HJ1.out⟩
      · obtain rfl : j = l.length := by omega
        have j1 : ¬ ((l.length : Int) < (l.length : Int)) := by omega
        have hd := HD.out
        rw [List.take_length] at hd
        have HD9 := Lib.hid hd
        clear hd
        go_wp2_with ((with_reducible refine atDst 103 ?_); refine wpList_ldArr rfl 27 _ rfl w3.heap.size rfl 27 _ _ KR.out Tryd.underlying27 rfl (size_rx C6.out) ?_; (try simp only [Act.put, List.setIfInBounds_toArray, List.set_cons_zero, List.set_cons_succ]))
        refine (HC.out (.node k s l) cs wr S1 HM.out HG.out.1 ((V3.out.stay HB.out).mono HB.out.size) (HTB.out.below HBT.out (Nat.le_refl _)) HS1.out).mono ?_
        rintro e w9 ⟨rfl, hb⟩
        have B9 := Lib.hid (HBT.out.trans (hb.mono HBT.out.size))
        clear hb
        go_wp2_with ((with_reducible refine atDst 106 ?_); refine wpList_eqS rfl 9 (.tmp 104) (.tmp 105) _ Tryd.underlying9 rfl rfl rfl HS1.out HO.out (b := true) (by rw [HWS.out]; rw [HTX.out, HD9.out]; simp) ?_; (try simp only [Act.put, List.setIfInBounds_toArray, List.set_cons_zero, List.set_cons_succ]))
        go_ret
        exact ⟨rfl, B9.out⟩
  have z5 : (k == 5) = false := by simpa using k5
  by_cases k6 : k = 6
  · have z6 : (k == 6) = true := by simpa using k6
    have hl1 : l.length = 1 := by
      have h2 := (good_node.1 HG.out).2.2.2.1
      rw [k6, count6] at h2
      simpa using h2
    obtain ⟨x, hlx⟩ : ∃ x, l = [x] := by
      match l, hl1 with
      | [x], _ => exact ⟨x, rfl⟩
    have HTS := Lib.hid (show textT (.node k s l) = if x.kind = 4 ∨ x.kind = 5 then 40 :: (textT x ++ [41, 42]) else textT x ++ [42] by rw [HTT.out, k6, hlx]; rfl)
    have HL1 := Lib.hid hl1
    have HLX := Lib.hid hlx
    clear k4 k5 k6 hl1 hlx
    by_cases x4 : x.kind = 4
    · have r4 : (x.kind == 4) = true := by simpa using x4
      have HTX := Lib.hid (show textT (.node k s l) = [40] ++ textT x ++ [41] ++ [42] by rw [HTS.out, if_pos (.inl x4)]; simp)
      clear x4
      go_enter Tryd.func8, Tryd.ntmps8
      go_wp2_with fail
      refine (begun_any HC.out w HTB.out).mono ?_
      rintro e w1 ⟨rfl, hb⟩
      have B1 := Lib.hid hb
      clear hb
      go_wp2_with fail
      refine (made_any _ ps w1 (R.out.below B1.out) (by have := HL.out; omega)).mono ?_
      rintro e w2 ⟨rfl, hb, hp⟩
      have P2 := Lib.hid hp
      have B2 := Lib.hid (B1.out.trans (hb.mono B1.out.size))
      have S1w := Lib.hid B1.out.size
      clear hb hp
      go_wp2_with fail
      refine (pickRx_any w1.heap.size _ ps w2 P2.out).mono ?_
      rintro e w3 ⟨cs, rfl, hcs, hg⟩
      have B3 := Lib.hid (B2.out.trans ((grown_belowG hg P2.out.blk.lt).mono S1w.out))
      rw [← HT.out] at hcs
      have V3 := Lib.hid (show RxV w3.heap.size w3 cs (.node k s l) from RxD.mono hcs fun k hk => hk.2)
      obtain ⟨A0, cap0, f, hcse, q1, q2, q0, q3, q4⟩ := V3.out.opened
      have H3 := Lib.hid q3
      have H4 := Lib.hid q4
      have C6 := Lib.hid hcs.length
      have C1 := Lib.hid (show cs.all (·.oneCell') = true from List.all_eq_true.2 (RxD.one hcs))
      have HC0 := Lib.hid (show cs[0]? = some (.int .i64 k) by rw [hcse]; rfl)
      have HC5 := Lib.hid (show cs[5]? = some (.slice A0 l.length cap0) by rw [hcse]; rfl)
      clear hcs hg hcse q1 q2 q0 q3 q4
      have i2 : (0 : Int) < (l.length : Int) := by have := HL1.out; omega
      obtain ⟨b, off, rfl, hb, hrng⟩ := H3.out (by rw [HLX.out]; simp)
      have hx : l[0]? = some x := by rw [HLX.out]; rfl
      have hmem := List.mem_of_getElem? hx
      have HRG3 := Lib.hid (show w3.rangeAt b off (f 0) from by have := hrng 0 (by have := HL1.out; omega); simpa using this)
      have HB3 := Lib.hid hb
      have HVX3 := Lib.hid (H4.out 0 x hx)
      obtain ⟨Ax, cx, hsp, hrx⟩ := RxD.split HVX3.out
      have HV6 := Lib.hid HVX3.out.length
      have HX0 := Lib.hid (show (f 0)[0]? = some (.int .i64 x.kind) by rw [hsp]; rfl)
      have HXM := Lib.hid (show x.nodes ≤ 1048576 by have h1 := nodes_mem hmem; have h2 := HNN.out; omega)
      have HXC := Lib.hid ((good_node.1 HG.out).2.1 x hmem).1
      have HXS := Lib.hid (HPS.out x hmem)
      obtain ⟨ZX, hZX⟩ : ∃ ZX : ByteArray, ZX = ⟨(showT x).toArray⟩ := ⟨_, rfl⟩
      have HZS := Lib.hid hZX
      have HZX := Lib.hid (show ZX = ⟨(textT x).toArray⟩ by rw [hZX, HXS.out])
      have HXL := Lib.hid (show (textT x).length ≤ 2516582400 by have h1 := textT_len x; have h2 := HXM.out; omega)
      clear hrng hx hb hsp hrx hmem hZX
      go_wp2_with (first
        | ((with_reducible refine atDst 3 ?_); refine wpList_new rfl 27 rfl i0 _ z hi0 HZ0.out rfl (Below.refl w3.heap.size w3) (Nat.le_refl _) ?_; intro w4 hk hb hs ho; have L4 := Lib.hid hk; have B4 := Lib.hid hb; clear hk hb hs ho; (try simp only [Act.put, List.setIfInBounds_toArray, List.set_cons_zero, List.set_cons_succ]))
        | ((with_reducible refine atStore 27 3 15 ?_); refine wpList_stBlk rfl 27 _ _ rfl w3.heap.size cs rfl rfl 27 _ L4.out (size_rx C6.out) (by rw [HZL.out, C6.out]) C1.out B4.out (Nat.le_refl _) ?_; intro w5 hk hb hs ho; have L5 := Lib.hid hk; have B35 := Lib.hid hb; have B5 := Lib.hid (B3.out.trans (hb.mono B3.out.size)); have c0 := hk.cell 0; rw [HC0.out] at c0; have c5 := hk.cell 5; rw [HC5.out] at c5; clear hk hb hs ho; (try simp only [Act.put, List.setIfInBounds_toArray, List.set_cons_zero, List.set_cons_succ]))
        | ((with_reducible refine atDst 82 ?_); refine wpList_load_mid rfl 27 _ rfl b off rfl (f 0) _ (range_below HRG3.out B35.out HB3.out) Tryd.underlying27 rfl (size_rx HV6.out) ?_; (try simp only [Act.put, List.setIfInBounds_toArray, List.set_cons_zero, List.set_cons_succ]))
        | ((with_reducible refine atDst 18 ?_); refine wpList_ldArr rfl 27 _ rfl w3.heap.size rfl 27 _ _ L5.out Tryd.underlying27 rfl (size_rx C6.out) ?_; (try simp only [Act.put, List.setIfInBounds_toArray, List.set_cons_zero, List.set_cons_succ])))
      refine (HC.out x (f 0) w5 ZX HXM.out HXC.out ((HVX3.out.stay B35.out).mono B35.out.size) (HTB.out.below B5.out (Nat.le_refl _)) HZS.out).mono ?_
      rintro e w6 ⟨rfl, hb⟩
      have K6 := Lib.hid (L5.out.below hb L5.out.lt)
      have B36 := Lib.hid (B35.out.trans (hb.mono B35.out.size))
      have B6 := Lib.hid (B5.out.trans (hb.mono B5.out.size))
      have x0' := range_cell0 (range_below HRG3.out B36.out HB3.out) HX0.out
      have d5' := K6.out.cell 5
      rw [HC5.out] at d5'
      clear hb
      go_wp2_with (first
        | ((with_reducible refine atDst 99 ?_); refine wpList_addS rfl 9 _ (.tmp 98) Tryd.underlying9 rfl rfl rfl (D := [40]) rfl HZX.out (by (try simp only [List.length_append, List.length_cons, List.length_nil]); have h2 := HXL.out; omega) ?_; intro Y1 hY1; have HY1 := Lib.hid hY1; clear hY1; (try simp only [Act.put, List.setIfInBounds_toArray, List.set_cons_zero, List.set_cons_succ]))
        | ((with_reducible refine atDst 100 ?_); refine wpList_addS rfl 9 (.tmp 99) _ Tryd.underlying9 rfl rfl rfl HY1.out (E := [41]) rfl (by (try simp only [List.length_append, List.length_cons, List.length_nil]); have h2 := HXL.out; omega) ?_; intro Y2 hY2; have HY2 := Lib.hid hY2; clear hY2; (try simp only [Act.put, List.setIfInBounds_toArray, List.set_cons_zero, List.set_cons_succ]))
        | ((with_reducible refine atDst 102 ?_); refine wpList_addS rfl 9 (.tmp 101) _ Tryd.underlying9 rfl rfl rfl HY2.out (E := [42]) rfl (by (try simp only [List.length_append, List.length_cons, List.length_nil]); have h2 := HXL.out; omega) ?_; intro Y3 hY3; have HY3 := Lib.hid hY3; clear hY3; (try simp only [Act.put, List.setIfInBounds_toArray, List.set_cons_zero, List.set_cons_succ]))
        | ((with_reducible refine atDst 103 ?_); refine wpList_ldArr rfl 27 _ rfl w3.heap.size rfl 27 _ _ K6.out Tryd.underlying27 rfl (size_rx C6.out) ?_; (try simp only [Act.put, List.setIfInBounds_toArray, List.set_cons_zero, List.set_cons_succ])))
      refine (HC.out (.node k s l) cs w6 S1 HM.out HG.out.1 ((V3.out.stay B36.out).mono B36.out.size) (HTB.out.below B6.out (Nat.le_refl _)) HS1.out).mono ?_
      rintro e w9 ⟨rfl, hb⟩
      have B9 := Lib.hid (B6.out.trans (hb.mono B6.out.size))
      clear hb
      go_wp2_with ((with_reducible refine atDst 106 ?_); refine wpList_eqS rfl 9 (.tmp 104) (.tmp 105) _ Tryd.underlying9 rfl rfl rfl HS1.out HY3.out (b := true) (by rw [HWS.out, HTX.out]; simp) ?_; (try simp only [Act.put, List.setIfInBounds_toArray, List.set_cons_zero, List.set_cons_succ]))
      go_ret
      exact ⟨rfl, B9.out⟩
    · have r4 : (x.kind == 4) = false := by simpa using x4
      by_cases x5 : x.kind = 5
      · have r5 : (x.kind == 5) = true := by simpa using x5
        have HTX := Lib.hid (show textT (.node k s l) = [40] ++ textT x ++ [41] ++ [42] by rw [HTS.out, if_pos (.inr x5)]; simp)
        clear x4 x5
        go_enter Tryd.func8, Tryd.ntmps8
        go_wp2_with fail
        refine (begun_any HC.out w HTB.out).mono ?_
        rintro e w1 ⟨rfl, hb⟩
        have B1 := Lib.hid hb
        clear hb
        go_wp2_with fail
        refine (made_any _ ps w1 (R.out.below B1.out) (by have := HL.out; omega)).mono ?_
        rintro e w2 ⟨rfl, hb, hp⟩
        have P2 := Lib.hid hp
        have B2 := Lib.hid (B1.out.trans (hb.mono B1.out.size))
        have S1w := Lib.hid B1.out.size
        clear hb hp
        go_wp2_with fail
        refine (pickRx_any w1.heap.size _ ps w2 P2.out).mono ?_
        rintro e w3 ⟨cs, rfl, hcs, hg⟩
        have B3 := Lib.hid (B2.out.trans ((grown_belowG hg P2.out.blk.lt).mono S1w.out))
        rw [← HT.out] at hcs
        have V3 := Lib.hid (show RxV w3.heap.size w3 cs (.node k s l) from RxD.mono hcs fun k hk => hk.2)
        obtain ⟨A0, cap0, f, hcse, q1, q2, q0, q3, q4⟩ := V3.out.opened
        have H3 := Lib.hid q3
        have H4 := Lib.hid q4
        have C6 := Lib.hid hcs.length
        have C1 := Lib.hid (show cs.all (·.oneCell') = true from List.all_eq_true.2 (RxD.one hcs))
        have HC0 := Lib.hid (show cs[0]? = some (.int .i64 k) by rw [hcse]; rfl)
        have HC5 := Lib.hid (show cs[5]? = some (.slice A0 l.length cap0) by rw [hcse]; rfl)
        clear hcs hg hcse q1 q2 q0 q3 q4
        have i2 : (0 : Int) < (l.length : Int) := by have := HL1.out; omega
        obtain ⟨b, off, rfl, hb, hrng⟩ := H3.out (by rw [HLX.out]; simp)
        have hx : l[0]? = some x := by rw [HLX.out]; rfl
        have hmem := List.mem_of_getElem? hx
        have HRG3 := Lib.hid (show w3.rangeAt b off (f 0) from by have := hrng 0 (by have := HL1.out; omega); simpa using this)
        have HB3 := Lib.hid hb
        have HVX3 := Lib.hid (H4.out 0 x hx)
        obtain ⟨Ax, cx, hsp, hrx⟩ := RxD.split HVX3.out
        have HV6 := Lib.hid HVX3.out.length
        have HX0 := Lib.hid (show (f 0)[0]? = some (.int .i64 x.kind) by rw [hsp]; rfl)
        have HXM := Lib.hid (show x.nodes ≤ 1048576 by have h1 := nodes_mem hmem; have h2 := HNN.out; omega)
        have HXC := Lib.hid ((good_node.1 HG.out).2.1 x hmem).1
        have HXS := Lib.hid (HPS.out x hmem)
        obtain ⟨ZX, hZX⟩ : ∃ ZX : ByteArray, ZX = ⟨(showT x).toArray⟩ := ⟨_, rfl⟩
        have HZS := Lib.hid hZX
        have HZX := Lib.hid (show ZX = ⟨(textT x).toArray⟩ by rw [hZX, HXS.out])
        have HXL := Lib.hid (show (textT x).length ≤ 2516582400 by have h1 := textT_len x; have h2 := HXM.out; omega)
        clear hrng hx hb hsp hrx hmem hZX
        go_wp2_with (first
          | ((with_reducible refine atDst 3 ?_); refine wpList_new rfl 27 rfl i0 _ z hi0 HZ0.out rfl (Below.refl w3.heap.size w3) (Nat.le_refl _) ?_; intro w4 hk hb hs ho; have L4 := Lib.hid hk; have B4 := Lib.hid hb; clear hk hb hs ho; (try simp only [Act.put, List.setIfInBounds_toArray, List.set_cons_zero, List.set_cons_succ]))
          | ((with_reducible refine atStore 27 3 15 ?_); refine wpList_stBlk rfl 27 _ _ rfl w3.heap.size cs rfl rfl 27 _ L4.out (size_rx C6.out) (by rw [HZL.out, C6.out]) C1.out B4.out (Nat.le_refl _) ?_; intro w5 hk hb hs ho; have L5 := Lib.hid hk; have B35 := Lib.hid hb; have B5 := Lib.hid (B3.out.trans (hb.mono B3.out.size)); have c0 := hk.cell 0; rw [HC0.out] at c0; have c5 := hk.cell 5; rw [HC5.out] at c5; clear hk hb hs ho; (try simp only [Act.put, List.setIfInBounds_toArray, List.set_cons_zero, List.set_cons_succ]))
          | ((with_reducible refine atDst 82 ?_); refine wpList_load_mid rfl 27 _ rfl b off rfl (f 0) _ (range_below HRG3.out B35.out HB3.out) Tryd.underlying27 rfl (size_rx HV6.out) ?_; (try simp only [Act.put, List.setIfInBounds_toArray, List.set_cons_zero, List.set_cons_succ]))
          | ((with_reducible refine atDst 18 ?_); refine wpList_ldArr rfl 27 _ rfl w3.heap.size rfl 27 _ _ L5.out Tryd.underlying27 rfl (size_rx C6.out) ?_; (try simp only [Act.put, List.setIfInBounds_toArray, List.set_cons_zero, List.set_cons_succ])))
        refine (HC.out x (f 0) w5 ZX HXM.out HXC.out ((HVX3.out.stay B35.out).mono B35.out.size) (HTB.out.below B5.out (Nat.le_refl _)) HZS.out).mono ?_
        rintro e w6 ⟨rfl, hb⟩
        have K6 := Lib.hid (L5.out.below hb L5.out.lt)
        have B36 := Lib.hid (B35.out.trans (hb.mono B35.out.size))
        have B6 := Lib.hid (B5.out.trans (hb.mono B5.out.size))
        have x0' := range_cell0 (range_below HRG3.out B36.out HB3.out) HX0.out
        have d5' := K6.out.cell 5
        rw [HC5.out] at d5'
        clear hb
        go_wp2_with (first
          | ((with_reducible refine atDst 99 ?_); refine wpList_addS rfl 9 _ (.tmp 98) Tryd.underlying9 rfl rfl rfl (D := [40]) rfl HZX.out (by (try simp only [List.length_append, List.length_cons, List.length_nil]); have h2 := HXL.out; omega) ?_; intro Y1 hY1; have HY1 := Lib.hid hY1; clear hY1; (try simp only [Act.put, List.setIfInBounds_toArray, List.set_cons_zero, List.set_cons_succ]))
          | ((with_reducible refine atDst 100 ?_); refine wpList_addS rfl 9 (.tmp 99) _ Tryd.underlying9 rfl rfl rfl HY1.out (E := [41]) rfl (by (try simp only [List.length_append, List.length_cons, List.length_nil]); have h2 := HXL.out; omega) ?_; intro Y2 hY2; have HY2 := Lib.hid hY2; clear hY2; (try simp only [Act.put, List.setIfInBounds_toArray, List.set_cons_zero, List.set_cons_succ]))
          | ((with_reducible refine atDst 102 ?_); refine wpList_addS rfl 9 (.tmp 101) _ Tryd.underlying9 rfl rfl rfl HY2.out (E := [42]) rfl (by (try simp only [List.length_append, List.length_cons, List.length_nil]); have h2 := HXL.out; omega) ?_; intro Y3 hY3; have HY3 := Lib.hid hY3; clear hY3; (try simp only [Act.put, List.setIfInBounds_toArray, List.set_cons_zero, List.set_cons_succ]))
          | ((with_reducible refine atDst 103 ?_); refine wpList_ldArr rfl 27 _ rfl w3.heap.size rfl 27 _ _ K6.out Tryd.underlying27 rfl (size_rx C6.out) ?_; (try simp only [Act.put, List.setIfInBounds_toArray, List.set_cons_zero, List.set_cons_succ])))
        refine (HC.out (.node k s l) cs w6 S1 HM.out HG.out.1 ((V3.out.stay B36.out).mono B36.out.size) (HTB.out.below B6.out (Nat.le_refl _)) HS1.out).mono ?_
        rintro e w9 ⟨rfl, hb⟩
        have B9 := Lib.hid (B6.out.trans (hb.mono B6.out.size))
        clear hb
        go_wp2_with ((with_reducible refine atDst 106 ?_); refine wpList_eqS rfl 9 (.tmp 104) (.tmp 105) _ Tryd.underlying9 rfl rfl rfl HS1.out HY3.out (b := true) (by rw [HWS.out, HTX.out]; simp) ?_; (try simp only [Act.put, List.setIfInBounds_toArray, List.set_cons_zero, List.set_cons_succ]))
        go_ret
        exact ⟨rfl, B9.out⟩
      · have r5 : (x.kind == 5) = false := by simpa using x5
        have HTX := Lib.hid (show textT (.node k s l) = textT x ++ [42] by rw [HTS.out, if_neg (fun h => h.elim x4 x5)])
        clear x4 x5
        go_enter Tryd.func8, Tryd.ntmps8
        go_wp2_with fail
        refine (begun_any HC.out w HTB.out).mono ?_
        rintro e w1 ⟨rfl, hb⟩
        have B1 := Lib.hid hb
        clear hb
        go_wp2_with fail
        refine (made_any _ ps w1 (R.out.below B1.out) (by have := HL.out; omega)).mono ?_
        rintro e w2 ⟨rfl, hb, hp⟩
        have P2 := Lib.hid hp
        have B2 := Lib.hid (B1.out.trans (hb.mono B1.out.size))
        have S1w := Lib.hid B1.out.size
        clear hb hp
        go_wp2_with fail
        refine (pickRx_any w1.heap.size _ ps w2 P2.out).mono ?_
        rintro e w3 ⟨cs, rfl, hcs, hg⟩
        have B3 := Lib.hid (B2.out.trans ((grown_belowG hg P2.out.blk.lt).mono S1w.out))
        rw [← HT.out] at hcs
        have V3 := Lib.hid (show RxV w3.heap.size w3 cs (.node k s l) from RxD.mono hcs fun k hk => hk.2)
        obtain ⟨A0, cap0, f, hcse, q1, q2, q0, q3, q4⟩ := V3.out.opened
        have H3 := Lib.hid q3
        have H4 := Lib.hid q4
        have C6 := Lib.hid hcs.length
        have C1 := Lib.hid (show cs.all (·.oneCell') = true from List.all_eq_true.2 (RxD.one hcs))
        have HC0 := Lib.hid (show cs[0]? = some (.int .i64 k) by rw [hcse]; rfl)
        have HC5 := Lib.hid (show cs[5]? = some (.slice A0 l.length cap0) by rw [hcse]; rfl)
        clear hcs hg hcse q1 q2 q0 q3 q4
        have i2 : (0 : Int) < (l.length : Int) := by have := HL1.out; omega
        obtain ⟨b, off, rfl, hb, hrng⟩ := H3.out (by rw [HLX.out]; simp)
        have hx : l[0]? = some x := by rw [HLX.out]; rfl
        have hmem := List.mem_of_getElem? hx
        have HRG3 := Lib.hid (show w3.rangeAt b off (f 0) from by have := hrng 0 (by have := HL1.out; omega); simpa using this)
        have HB3 := Lib.hid hb
        have HVX3 := Lib.hid (H4.out 0 x hx)
        obtain ⟨Ax, cx, hsp, hrx⟩ := RxD.split HVX3.out
        have HV6 := Lib.hid HVX3.out.length
        have HX0 := Lib.hid (show (f 0)[0]? = some (.int .i64 x.kind) by rw [hsp]; rfl)
        have HXM := Lib.hid (show x.nodes ≤ 1048576 by have h1 := nodes_mem hmem; have h2 := HNN.out; omega)
        have HXC := Lib.hid ((good_node.1 HG.out).2.1 x hmem).1
        have HXS := Lib.hid (HPS.out x hmem)
        obtain ⟨ZX, hZX⟩ : ∃ ZX : ByteArray, ZX = ⟨(showT x).toArray⟩ := ⟨_, rfl⟩
        have HZS := Lib.hid hZX
        have HZX := Lib.hid (show ZX = ⟨(textT x).toArray⟩ by rw [hZX, HXS.out])
        have HXL := Lib.hid (show (textT x).length ≤ 2516582400 by have h1 := textT_len x; have h2 := HXM.out; omega)
        clear hrng hx hb hsp hrx hmem hZX
        go_wp2_with (first
          | ((with_reducible refine atDst 3 ?_); refine wpList_new rfl 27 rfl i0 _ z hi0 HZ0.out rfl (Below.refl w3.heap.size w3) (Nat.le_refl _) ?_; intro w4 hk hb hs ho; have L4 := Lib.hid hk; have B4 := Lib.hid hb; clear hk hb hs ho; (try simp only [Act.put, List.setIfInBounds_toArray, List.set_cons_zero, List.set_cons_succ]))
          | ((with_reducible refine atStore 27 3 15 ?_); refine wpList_stBlk rfl 27 _ _ rfl w3.heap.size cs rfl rfl 27 _ L4.out (size_rx C6.out) (by rw [HZL.out, C6.out]) C1.out B4.out (Nat.le_refl _) ?_; intro w5 hk hb hs ho; have L5 := Lib.hid hk; have B35 := Lib.hid hb; have B5 := Lib.hid (B3.out.trans (hb.mono B3.out.size)); have c0 := hk.cell 0; rw [HC0.out] at c0; have c5 := hk.cell 5; rw [HC5.out] at c5; clear hk hb hs ho; (try simp only [Act.put, List.setIfInBounds_toArray, List.set_cons_zero, List.set_cons_succ]))
          | ((with_reducible refine atDst 82 ?_); refine wpList_load_mid rfl 27 _ rfl b off rfl (f 0) _ (range_below HRG3.out B35.out HB3.out) Tryd.underlying27 rfl (size_rx HV6.out) ?_; (try simp only [Act.put, List.setIfInBounds_toArray, List.set_cons_zero, List.set_cons_succ]))
          | ((with_reducible refine atDst 18 ?_); refine wpList_ldArr rfl 27 _ rfl w3.heap.size rfl 27 _ _ L5.out Tryd.underlying27 rfl (size_rx C6.out) ?_; (try simp only [Act.put, List.setIfInBounds_toArray, List.set_cons_zero, List.set_cons_succ])))
        refine (HC.out x (f 0) w5 ZX HXM.out HXC.out ((HVX3.out.stay B35.out).mono B35.out.size) (HTB.out.below B5.out (Nat.le_refl _)) HZS.out).mono ?_
        rintro e w6 ⟨rfl, hb⟩
        have K6 := Lib.hid (L5.out.below hb L5.out.lt)
        have B36 := Lib.hid (B35.out.trans (hb.mono B35.out.size))
        have B6 := Lib.hid (B5.out.trans (hb.mono B5.out.size))
        have x0' := range_cell0 (range_below HRG3.out B36.out HB3.out) HX0.out
        have d5' := K6.out.cell 5
        rw [HC5.out] at d5'
        clear hb
        go_wp2_with (first
          | ((with_reducible refine atDst 102 ?_); refine wpList_addS rfl 9 (.tmp 101) _ Tryd.underlying9 rfl rfl rfl HZX.out (E := [42]) rfl (by (try simp only [List.length_append, List.length_cons, List.length_nil]); have h2 := HXL.out; omega) ?_; intro Y3 hY3; have HY3 := Lib.hid hY3; clear hY3; (try simp only [Act.put, List.setIfInBounds_toArray, List.set_cons_zero, List.set_cons_succ]))
          | ((with_reducible refine atDst 103 ?_); refine wpList_ldArr rfl 27 _ rfl w3.heap.size rfl 27 _ _ K6.out Tryd.underlying27 rfl (size_rx C6.out) ?_; (try simp only [Act.put, List.setIfInBounds_toArray, List.set_cons_zero, List.set_cons_succ])))
        refine (HC.out (.node k s l) cs w6 S1 HM.out HG.out.1 ((V3.out.stay B36.out).mono B36.out.size) (HTB.out.below B6.out (Nat.le_refl _)) HS1.out).mono ?_
        rintro e w9 ⟨rfl, hb⟩
        have B9 := Lib.hid (B6.out.trans (hb.mono B6.out.size))
        clear hb
        go_wp2_with ((with_reducible refine atDst 106 ?_); refine wpList_eqS rfl 9 (.tmp 104) (.tmp 105) _ Tryd.underlying9 rfl rfl rfl HS1.out HY3.out (b := true) (by rw [HWS.out, HTX.out]; simp) ?_; (try simp only [Act.put, List.setIfInBounds_toArray, List.set_cons_zero, List.set_cons_succ]))
        go_ret
        exact ⟨rfl, B9.out⟩
  have z6 : (k == 6) = false := by simpa using k6
  clear k4 k5 k6
  go_enter Tryd.func8, Tryd.ntmps8
  go_wp2_with fail
  refine (begun_any HC.out w HTB.out).mono ?_
  rintro e w1 ⟨rfl, hb⟩
  have B1 := Lib.hid hb
  clear hb
  go_wp2_with fail
  refine (made_any _ ps w1 (R.out.below B1.out) (by have := HL.out; omega)).mono ?_
  rintro e w2 ⟨rfl, hb, hp⟩
  have P2 := Lib.hid hp
  have B2 := Lib.hid (B1.out.trans (hb.mono B1.out.size))
  have S1w := Lib.hid B1.out.size
  clear hb hp
  go_wp2_with fail
  refine (pickRx_any w1.heap.size _ ps w2 P2.out).mono ?_
  rintro e w3 ⟨cs, rfl, hcs, hg⟩
  have B3 := Lib.hid (B2.out.trans ((grown_belowG hg P2.out.blk.lt).mono S1w.out))
  rw [← HT.out] at hcs
  have V3 := Lib.hid (show RxV w3.heap.size w3 cs (.node k s l) from RxD.mono hcs fun k hk => hk.2)
  obtain ⟨A0, cap0, f, hcse, q1, q2, q0, q3, q4⟩ := V3.out.opened
  have H3 := Lib.hid q3
  have H4 := Lib.hid q4
  have C6 := Lib.hid hcs.length
  have C1 := Lib.hid (show cs.all (·.oneCell') = true from List.all_eq_true.2 (RxD.one hcs))
  have HC0 := Lib.hid (show cs[0]? = some (.int .i64 k) by rw [hcse]; rfl)
  have HC5 := Lib.hid (show cs[5]? = some (.slice A0 l.length cap0) by rw [hcse]; rfl)
  clear hcs hg hcse q1 q2 q0 q3 q4
  go_wp2_with (first
    | ((with_reducible refine atDst 3 ?_); refine wpList_new rfl 27 rfl i0 _ z hi0 HZ0.out rfl (Below.refl w3.heap.size w3) (Nat.le_refl _) ?_; intro w4 hk hb hs ho; have L4 := Lib.hid hk; have B4 := Lib.hid hb; clear hk hb hs ho; (try simp only [Act.put, List.setIfInBounds_toArray, List.set_cons_zero, List.set_cons_succ]))
    | ((with_reducible refine atStore 27 3 15 ?_); refine wpList_stBlk rfl 27 _ _ rfl w3.heap.size cs rfl rfl 27 _ L4.out (size_rx C6.out) (by rw [HZL.out, C6.out]) C1.out B4.out (Nat.le_refl _) ?_; intro w5 hk hb hs ho; have L5 := Lib.hid hk; have B35 := Lib.hid hb; have B5 := Lib.hid (B3.out.trans (hb.mono B3.out.size)); have c0 := hk.cell 0; rw [HC0.out] at c0; have c5 := hk.cell 5; rw [HC5.out] at c5; clear hk hb hs ho; (try simp only [Act.put, List.setIfInBounds_toArray, List.set_cons_zero, List.set_cons_succ]))
    | ((with_reducible refine atDst 18 ?_); refine wpList_ldArr rfl 27 _ rfl w3.heap.size rfl 27 _ _ L5.out Tryd.underlying27 rfl (size_rx C6.out) ?_; (try simp only [Act.put, List.setIfInBounds_toArray, List.set_cons_zero, List.set_cons_succ])))
  refine (HC.out (.node k s l) cs w5 S1 HM.out HG.out.1 ((V3.out.stay B35.out).mono B35.out.size) (HTB.out.below B5.out (Nat.le_refl _)) HS1.out).mono ?_
  rintro e w9 ⟨rfl, hb⟩
  have B9 := Lib.hid (B5.out.trans (hb.mono B5.out.size))
  clear hb
  go_wp2_with ((with_reducible refine atDst 20 ?_); refine wpList_neS rfl 9 (.tmp 19) _ _ Tryd.underlying9 rfl rfl rfl HS1.out (E := []) rfl (b := true) (by rw [HWS.out]; simpa using HTN.out) ?_; (try simp only [Act.put, List.setIfInBounds_toArray, List.set_cons_zero, List.set_cons_succ]))
  go_ret
  exact ⟨rfl, B9.out⟩
end Go.Proofs.YtmlojjgddmnbmaaDoor
