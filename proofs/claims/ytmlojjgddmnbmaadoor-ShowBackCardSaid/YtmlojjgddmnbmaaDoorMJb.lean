/-
  Texts of this proof, put together: (ShF) Texts compared; what show is asked for, as a contract; the law's begun under it. No statement is proved here. (ShZ) What package show's Show answers, of any expression: the contract that the statements of the seventh stage take as a premise. No statement is proved here.
-/
import Derived.Test.YtmlojjgddmnbmaaDoorMEb
import Derived.Lib.SlBytesConst
import Derived.Test.YtmlojjgddmnbmaaDoorMA
import Derived.Test.YtmlojjgddmnbmaaDoorMFb
namespace Go.Proofs.YtmlojjgddmnbmaaDoor
open Go.RowKit
set_option linter.unusedSimpArgs false
set_option linter.unusedVariables false

section
variable {P : Program}
theorem ex_eqS {ev : Operand → Value} {o : Oper} (t : TypeId) (x y : Operand) (oT : TypeId) (ht : P.underlying t = some .string) (ho : o.op = .binOp .eql t x y oT) {X Y : ByteArray} (hx : ev x = .string X) (hy : ev y = .string Y) {D E : List UInt8}
    (hX : X = ⟨D.toArray⟩) (hY : Y = ⟨E.toArray⟩) {b : Bool} (hb : (D == E) = b) (W : World) : (execOp ev o).run P W = .ok (.value (.bool b)) W := by
  subst hX hY
  simp only [execOp, ho, hx, hy]
  go_simp
theorem ex_neS {ev : Operand → Value} {o : Oper} (t : TypeId) (x y : Operand) (oT : TypeId) (ht : P.underlying t = some .string) (ho : o.op = .binOp .neq t x y oT) {X Y : ByteArray} (hx : ev x = .string X) (hy : ev y = .string Y) {D E : List UInt8}
    (hX : X = ⟨D.toArray⟩) (hY : Y = ⟨E.toArray⟩) {b : Bool} (hb : (D == E) = !b) (W : World) : (execOp ev o).run P W = .ok (.value (.bool b)) W := by
  have hb2 : (!(D == E)) = b := by rw [hb]; simp
  subst hX hY
  simp only [execOp, ho, hx, hy]
  go_simp
variable {w : World} {ops : Array Oper} {rest : List Oper} {o : Oper} {a : Act} {Q : Exit → Act → World → Prop}
theorem wpList_eqS (hgd : Region.wanted o (yielded ops a.tmps) = true) (t : TypeId) (x y : Operand) (oT : TypeId) (ht : P.underlying t = some .string) (ho : o.op = .binOp .eql t x y oT) {X Y : ByteArray} (hx : a.eval x = .string X) (hy : a.eval y = .string Y) {D E : List UInt8}
    (hX : X = ⟨D.toArray⟩) (hY : Y = ⟨E.toArray⟩) {b : Bool} (hb : (D == E) = b) (h : wpList P ops Q rest (a.put o.dst (.bool b)) w) : wpList P ops Q (o :: rest) a w := by
  refine BigFrame.wpList_want hgd fun K hK => ?_
  unfold Oper.wp
  rw [ex_eqS t x y oT ht ho hx hy hX hY hb w]
  exact hK _ _ h
theorem wpList_neS (hgd : Region.wanted o (yielded ops a.tmps) = true) (t : TypeId) (x y : Operand) (oT : TypeId) (ht : P.underlying t = some .string) (ho : o.op = .binOp .neq t x y oT) {X Y : ByteArray} (hx : a.eval x = .string X) (hy : a.eval y = .string Y) {D E : List UInt8}
    (hX : X = ⟨D.toArray⟩) (hY : Y = ⟨E.toArray⟩) {b : Bool} (hb : (D == E) = !b) (h : wpList P ops Q rest (a.put o.dst (.bool b)) w) : wpList P ops Q (o :: rest) a w := by
  refine BigFrame.wpList_want hgd fun K hK => ?_
  unfold Oper.wp
  rw [ex_neS t x y oT ht ho hx hy hX hY hb w]
  exact hK _ _ h
end
theorem row_markedX (w : World) (t : TypeId) (cs : List Value) (m : Nat × Nat) (hl : cs.length ≤ 1048576) : Row (w.alloc (.cells cs.toArray t m)) (.slice (some ⟨w.heap.size, 0, none⟩) cs.length cs.length) cs := by
  refine ⟨_, _, rfl, Nat.le_refl _, by unfold maxLen; omega, (fun h => by cases h), fun _ => ⟨w.heap.size, 0, rfl, by simp, fun i u hu => ?_⟩⟩
  rw [Nat.zero_add, cell_of_row _ _ i cs.toArray t m (heap_alloc_new w _)]
  simpa using hu
/-- What the package's Show answers: the text of a plain expression, none of another. -/
def ShowC : Prop := ∀ (t : T) (cs : List Value) (w : World) (Z : ByteArray), t.nodes ≤ 1048576 → canT t → RxV w.heap.size w cs t → Tb w → Z = ⟨(showT t).toArray⟩ →
    Calls Tryd.prog 12 #[.agg cs.toArray] w fun e w' => e = .returned (.string Z) ∧ Below w.heap.size w w'
def abcS : Nat → Bool := listS [97, 98, 99]
theorem show_abc : showT (starT (bytesT abcS)) = [91, 97, 45, 99, 93, 42] := by decide +kernel
theorem show_empty : showT emptyT = [40, 41] := by decide +kernel
theorem abc_good : good (bytesT abcS) := good_bytes (can_list (by intro x hx; simp at hx; omega))
theorem abc_nodes : (bytesT abcS).nodes = 1 := by decide +kernel
set_option maxHeartbeats 4000000 in
set_option maxRecDepth 1000000 in
theorem begun_any (C : ShowC) (w : World) (hT : Tb w) : Calls Tryd.prog 9 #[] w fun e w' => e = .returned (.bool true) ∧ Below w.heap.size w w' := by
  have HC := Lib.hid C
  have HTB := Lib.hid hT
  obtain ⟨i0, hi0, hz0, hz1, hz2⟩ := inf_rx'
  obtain ⟨z, hz⟩ : ∃ z, z = rxc 0 zeroS (.slice none 0 0) := ⟨_, rfl⟩
  have HZL := Lib.hid (show z.length = 6 by rw [hz]; rfl)
  have HZ0 := Lib.hid (show i0.zero = some (.agg z.toArray) by rw [hz]; exact hz0)
  obtain ⟨q, hq⟩ : ∃ q, q = abcS := ⟨_, rfl⟩
  have HQ := Lib.hid (show q = listS [97, 98, 99] from hq)
  have HG := Lib.hid (show good (bytesT q) by rw [hq]; exact abc_good)
  have HN := Lib.hid (show (bytesT q).nodes = 1 by rw [hq]; exact abc_nodes)
  obtain ⟨tx, htx⟩ : ∃ t, t = bytesT q := ⟨_, rfl⟩
  rw [← htx] at HG HN
  obtain ⟨S1, hS1⟩ : ∃ Z : ByteArray, Z = ⟨(showT (starT tx)).toArray⟩ := ⟨_, rfl⟩
  obtain ⟨S2, hS2⟩ : ∃ Z : ByteArray, Z = ⟨(showT emptyT).toArray⟩ := ⟨_, rfl⟩
  have HS1 := Lib.hid hS1
  have HS2 := Lib.hid hS2
  have HE1 := Lib.hid (show (showT (starT tx) == [91, 97, 45, 99, 93, 42]) = true by rw [htx, hq, show_abc]; rfl)
  have HE2 := Lib.hid (show (showT emptyT == [40, 41]) = true by rw [show_empty]; rfl)
  have HTX := Lib.hid htx
  clear hz hz0 hq htx hS1 hS2 C hT
  go_enter Tryd.func9, Tryd.ntmps9
  have kc := fun (w : World) (C : Array Value) (n c : Nat) => Lib.run_convert_bytes_const (P := Tryd.prog) w 34 5 C n c Tryd.underlying34 Tryd.underlying5
  go_wp2_with fail
  clear kc
  obtain ⟨w1, hw1⟩ : ∃ w1, w1 = w.alloc (.cells #[.int .u8 97, .int .u8 98, .int .u8 99] 5 (3, 4)) := ⟨_, rfl⟩
  have R1 := Lib.hid (show Row w1 (.slice (some ⟨w.heap.size, 0, none⟩) 3 3) (bvs [UInt8.ofNat 97, UInt8.ofNat 98, UInt8.ofNat 99]) from by rw [hw1]; exact row_markedX w 5 (bvs [97, 98, 99]) (3, 4) (by decide))
  have B1 := Lib.hid (show Below w.heap.size w w1 by rw [hw1]; exact (Below.refl _ _).alloc (Nat.le_refl _) _)
  rw [← hw1]
  clear hw1
  refine (refOf3 97 98 99 (by omega) (by omega) (by omega) _ w1 R1.out q HQ.out).mono ?_
  rintro e w2 ⟨rfl, hb⟩
  have B2 := Lib.hid (B1.out.trans (hb.mono B1.out.size))
  clear hb
  go_wp2_with fail
  refine (refBytes_any q w2).mono ?_
  rintro e w3 ⟨cs, rfl, hcs, hb⟩
  have B3 := Lib.hid (B2.out.trans (hb.mono B2.out.size))
  rw [← HTX.out] at hcs
  have D3 := Lib.hid (hcs fun _ => False)
  have C6 := Lib.hid (hcs fun _ => False).length
  have C1 := Lib.hid (show cs.all (·.oneCell') = true from List.all_eq_true.2 (RxD.one (hcs fun _ => False)))
  clear hcs hb
  go_wp2_with (first
    | ((with_reducible refine atDst 1 ?_); refine wpList_new rfl 27 rfl i0 _ z hi0 HZ0.out rfl (Below.refl w3.heap.size w3) (Nat.le_refl _) ?_; intro w4 hk hb hs ho; have L4 := Lib.hid hk; have B4 := Lib.hid hb; clear hk hb hs ho; (try simp only [Act.put, List.setIfInBounds_toArray, List.set_cons_zero, List.set_cons_succ]))
    | ((with_reducible refine atStore 27 1 5 ?_); refine wpList_stBlk rfl 27 _ _ rfl w3.heap.size cs rfl rfl 27 _ L4.out (size_rx C6.out) (by rw [HZL.out, C6.out]) C1.out B4.out (Nat.le_refl _) ?_; intro w5 hk hb hs ho; have L5 := Lib.hid hk; have B5 := Lib.hid (B3.out.trans (hb.mono B3.out.size)); clear hk hb hs ho; (try simp only [Act.put, List.setIfInBounds_toArray, List.set_cons_zero, List.set_cons_succ]))
    | ((with_reducible refine atDst 6 ?_); refine wpList_ldArr rfl 27 _ rfl w3.heap.size rfl 27 _ _ L5.out Tryd.underlying27 rfl (size_rx C6.out) ?_; (try simp only [Act.put, List.setIfInBounds_toArray, List.set_cons_zero, List.set_cons_succ])))
  refine (refStar_any tx cs w5 (D := fun _ => False) (fun k hk => absurd hk id) (D3.out.stay fun k hk => absurd hk id) (by have := HN.out; omega) HG.out).mono ?_
  rintro e w6 ⟨es, rfl, hes, hb⟩
  have B6 := Lib.hid (B5.out.trans (hb.mono B5.out.size))
  have V6 := Lib.hid (show RxV w6.heap.size w6 es (starT tx) from RxD.mono hes fun k hk => hk.2)
  clear hes hb
  go_wp2_with fail
  refine (HC.out (starT tx) es w6 S1 (by have h1 := star_nodes tx; have h2 := HN.out; omega) (good_star HG.out).1 V6.out (HTB.out.below B6.out (Nat.le_refl _)) HS1.out).mono ?_
  rintro e w7 ⟨rfl, hb⟩
  have B7 := Lib.hid (B6.out.trans (hb.mono B6.out.size))
  clear hb
  go_wp2_with ((with_reducible refine atDst 9 ?_); refine wpList_eqS rfl 9 (.tmp 8) _ _ Tryd.underlying9 rfl rfl rfl HS1.out rfl HE1.out ?_; (try simp only [Act.put, List.setIfInBounds_toArray, List.set_cons_zero, List.set_cons_succ]))
  refine (refEmpty_any w7).mono ?_
  rintro e w8 ⟨ds, rfl, hds, hb⟩
  have B8 := Lib.hid (B7.out.trans (hb.mono B7.out.size))
  have V8 := Lib.hid (show RxV w8.heap.size w8 ds emptyT from hds _)
  clear hds hb
  go_wp2_with fail
  refine (HC.out emptyT ds w8 S2 (by show 1 ≤ 1048576; omega) can_empty V8.out (HTB.out.below B8.out (Nat.le_refl _)) HS2.out).mono ?_
  rintro e w9 ⟨rfl, hb⟩
  have B9 := Lib.hid (B8.out.trans (hb.mono B8.out.size))
  clear hb
  go_wp2_with ((with_reducible refine atDst 13 ?_); refine wpList_eqS rfl 9 (.tmp 12) _ _ Tryd.underlying9 rfl rfl rfl HS2.out rfl HE2.out ?_; (try simp only [Act.put, List.setIfInBounds_toArray, List.set_cons_zero, List.set_cons_succ]))
  go_ret
  exact ⟨rfl, B9.out⟩
end Go.Proofs.YtmlojjgddmnbmaaDoor
namespace Go.Proofs.YtmlojjgddmnbmaaDoor
open Go.RowKit
set_option linter.unusedSimpArgs false
set_option linter.unusedVariables false

theorem inf_wr : (Tryd.prog.info? 50).map (fun i => (i.zero, i.size, i.bytes)) = some (some (.agg #[Value.slice none 0 0]), 1, 24) := by kernel_rfl
set_option maxHeartbeats 4000000 in
set_option maxRecDepth 1000000 in
theorem showC : ShowC := by
  intro t cs w Z hM hc hv hT hZ
  have V := Lib.hid hv
  have HC6 := Lib.hid hv.length
  have HT := Lib.hid hT
  have HM := Lib.hid hM
  obtain ⟨i0, hi0, hz0, hz1, hz2⟩ := infoP inf_wr
  have HZ0 := Lib.hid (show i0.zero = some (.agg [Value.slice none 0 0].toArray) from hz0)
  have HZ := Lib.hid hZ
  clear hv hT hM hc hZ hz0
  go_enter Tryd.func12, Tryd.ntmps12
  go_wp2_with (first
    | ((with_reducible refine atDst 1 ?_); refine wpList_box rfl 27 _ rfl cs rfl (Below.refl w.heap.size w) (Nat.le_refl _) ?_; intro w1 hk1 hb1 hs1 _; have K1 := Lib.hid hk1; have B1 := Lib.hid hb1; clear hk1 hb1 hs1; (try simp only [Act.put, List.setIfInBounds_toArray, List.set_cons_zero, List.set_cons_succ]))
    | ((with_reducible refine atDst 3 ?_); refine wpList_new rfl 50 rfl i0 _ [Value.slice none 0 0] hi0 HZ0.out rfl (Below.refl w1.heap.size w1) (Nat.le_refl _) ?_; intro w2 hk2 hb2 hs2 _; have K2 := Lib.hid hk2; have B2 := Lib.hid (B1.out.trans (hb2.mono B1.out.size)); have L2 := Lib.hid (K1.out.below hb2 K1.out.lt); clear hk2 hb2 hs2; (try simp only [Act.put, List.setIfInBounds_toArray, List.set_cons_zero, List.set_cons_succ]))
    | ((with_reducible refine atDst 4 ?_); refine wpList_ldArr rfl 27 _ rfl w.heap.size rfl 27 _ _ L2.out Tryd.underlying27 rfl (size_rx HC6.out) ?_; (try simp only [Act.put, List.setIfInBounds_toArray, List.set_cons_zero, List.set_cons_succ])))
  have T2 := Lib.hid (show Wt w2 w1.heap.size (.slice none 0 0) [] from ⟨K2.out, ownN w2 _ _, by simp⟩)
  have HLE := Lib.hid B1.out.size
  have HTG := Lib.hid (Nat.lt_of_lt_of_le HT.out.lt HLE.out)
  refine (expr_any t.nodes t (Nat.le_refl _) HM.out w1.heap.size _ [] cs w2 T2.out (HT.out.below B2.out (Nat.le_refl _)) HTG.out ((V.out.stay B2.out).mono HLE.out)).mono ?_
  rintro e w3 ⟨v3, d3, ⟨rfl, hp, h3⟩ | ⟨rfl, h3⟩⟩
  · have B3 := Lib.hid (B2.out.trans ((d3.below T2.out).mono HLE.out))
    rw [List.nil_append] at h3
    have HS := Lib.hid (show (⟨(textT t).toArray⟩ : ByteArray) = Z by rw [HZ.out]; unfold showT; rw [if_pos ⟨hp, h3.le⟩])
    obtain ⟨A, cap, hv3, _⟩ := Row.of_own h3.own
    rw [bvs_length] at hv3
    have R3 := Lib.hid (Row.of_own h3.own)
    have c3 : w3.cell? ⟨w1.heap.size, 0, none⟩ = some (.slice A (textT t).length cap) := by have := h3.blk.cell 0; rw [hv3] at this; exact this
    rw [hv3] at R3
    clear h3 d3 hp hv3
    go_wp2_with ((with_reducible refine atDst 9 ?_); refine wpList_toStr rfl (.tmp 8) rfl _ (textT t) rfl R3.out ?_; (try simp only [Act.put, List.setIfInBounds_toArray, List.set_cons_zero, List.set_cons_succ]))
    go_ret
    exact ⟨by rw [← HS.out]; rfl, B3.out⟩
  · have B3 := Lib.hid (B2.out.trans ((d3.below T2.out).mono HLE.out))
    have HS := Lib.hid (show Z = ⟨#[]⟩ by rw [HZ.out]; unfold showT; rw [if_neg (fun hh => h3 ⟨hh.1, by simpa using hh.2⟩)])
    clear h3 d3
    go_wp2_with fail
    go_ret
    exact ⟨by rw [HS.out]; rfl, B3.out⟩
end Go.Proofs.YtmlojjgddmnbmaaDoor
